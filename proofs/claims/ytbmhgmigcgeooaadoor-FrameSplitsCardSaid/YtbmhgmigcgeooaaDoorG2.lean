/- The frames of the valid beginning, one after the other: the function that valid gives. -/
import Derived.Test.YtbmhgmigcgeooaaDoorG1
namespace Go.Proofs.YtbmhgmigcgeooaaDoor
open Go.RowKit
attribute [local go_sem] Oper.semAt_some
/-- Where a slice from k on begins. -/
theorem from_at {w : World} {b off k cap : Nat} {l : List UInt8} (hA : At w (some ⟨b, off, none⟩) l) (hk : k ≤ l.length) (hc : l.length ≤ cap) : At w (if cap = k then some ⟨b, off, none⟩ else some ⟨b, off + k, none⟩) (l.drop k) := by
  split
  · rw [List.drop_of_length_le (by omega)]
    exact at_nil _ _
  · exact drop_at k hA
/-- A frame that was read: it, the block of its body, the place behind it. -/
structure Fx where
  f : Fr
  g : Nat
  e : Nat
def frs (L : List Fx) : List Fr := L.map Fx.f
def encF (x : Fx) : Array Value := #[.agg #[.int .i64 (x.f.k : Int), .slice (bodyA x.g x.f.l.length) x.f.l.length x.f.l.length], .int .i64 (x.e : Int)]
/-- The body lies in a block of its own, behind three bytes. -/
structure Body (n0 : Nat) (x : Fx) (w : World) : Prop where
  ge : n0 ≤ x.g
  lt : x.g < w.heap.size
  cell : ∀ i, i < x.f.l.length → w.cell? ⟨x.g, 3 + i, none⟩ = some (bv (x.f.l.getD i 0))
  free : ∀ i, w.frozen? ⟨x.g, i, none⟩ = false
  typ : ∃ c fr, w.heap[x.g]? = some (.cells c 5 fr)
theorem Body.grown {n0 : Nat} {x : Fx} {w w' : World} (h : Body n0 x w) (hg : w.grownBy w' none) : Body n0 x w' := by
  have hb : Below w.heap.size w w' := ⟨hg.os, hg.tape, hg.output, hg.size, fun k hk => hg.block k hk (by simp)⟩
  exact ⟨h.ge, Nat.lt_of_lt_of_le h.lt hb.size, fun i hi => (hb.cell (p := ⟨x.g, 3 + i, none⟩) h.lt).trans (h.cell i hi), fun i => (hb.frozen (p := ⟨x.g, i, none⟩) h.lt).trans (h.free i), by obtain ⟨c, fr, e⟩ := h.typ; exact ⟨c, fr, (hb.block x.g h.lt).trans e⟩⟩
theorem room_wide' (k : Nat) : Fence.wide.depth.isSome = true → 1 ≤ k := fun h => by cases h
theorem grown_of {w w' : World} (h : Below w.heap.size w w') : w.grownBy w' none := ⟨h.os, h.tape, h.output, h.size, fun k hk _ => h.block k hk⟩
theorem Body.below {n0 : Nat} {x : Fx} {w w' : World} (h : Body n0 x w) (hb : Below w.heap.size w w') : Body n0 x w' := h.grown (grown_of hb)
theorem Body.at_ {n0 : Nat} {x : Fx} {w : World} (h : Body n0 x w) : At w (bodyA x.g x.f.l.length) x.f.l := by
  intro h0
  refine ⟨x.g, 3, by rw [bodyA, if_neg (by omega)], h.lt, fun i hi => h.cell i hi⟩
/-- The places behind. -/
def EndsF : Nat → List Fx → Prop
  | _, [] => True
  | n, x :: L => x.e = n + x.f.size ∧ EndsF (n + x.f.size) L
theorem EndsF.snoc {L : List Fx} {x : Fx} : ∀ {n : Nat}, EndsF n L → x.e = n + sizeL (frs L) + x.f.size → EndsF n (L ++ [x]) := by
  induction L with
  | nil => intro n _ h; exact ⟨by simpa [frs, sizeL] using h, trivial⟩
  | cons y L ih =>
    intro n h hx
    exact ⟨h.1, ih h.2 (by rw [hx, frs, List.map_cons, sizeL_cons]; show _ = _ + sizeL (L.map Fx.f) + _; omega)⟩
theorem sizeL_ge (L : List Fr) : 7 * L.length ≤ sizeL L := by
  induction L with
  | nil => simp
  | cons f L ih => rw [sizeL_cons, List.length_cons, Fr.size]; omega
theorem frs_snoc (L : List Fx) (x : Fx) : frs (L ++ [x]) = frs L ++ [x.f] := by simp [frs]
/-- What has been read: these, in order, in blocks one behind the other. -/
structure ReadF (b : List UInt8) (pre : List Fx) (R : List Fr) : Prop where
  all : framesL b = frs pre ++ R
  ends : EndsF 0 pre
  apart : pre.Pairwise fun x y => x.g < y.g
/-- What a round keeps: what lay below, and the block bx. -/
structure KpF (n0 bx : Nat) (w w' : World) : Prop where
  below : Below n0 w w'
  box : w'.heap[bx]? = w.heap[bx]?
theorem KpF.trans {n0 bx : Nat} {a b c : World} (h : KpF n0 bx a b) (k : KpF n0 bx b c) : KpF n0 bx a c := ⟨h.below.trans k.below, k.box.trans h.box⟩
theorem nextB_refE {b : List UInt8} (h : nextB b = true) : refE (kindB b : Int) (lenB b) = 0 := by
  have h2 := of_decide_eq_true h
  rw [refE, if_pos (by omega), if_neg (by omega)]
theorem kindB_le {b : List UInt8} : kindB b ≤ 255 := by have := (b.getD 0 0).toNat_lt; unfold kindB; omega
set_option maxRecDepth 100000 in
set_option maxHeartbeats 4000000 in
theorem valid1_some (n0 m0 bb off cap bx l : Nat) (b : List UInt8) (J Jx : List Fx → World → Prop) (W0 : World) (hJ : ∀ s A B, J s A → A.grownBy B none → J s B)
    (hY : RoundsF Tryd.prog l b.length encF (Body m0) (KpF n0 bx) J Jx) (hn : n0 ≤ W0.heap.size) (hn2 : m0 ≤ W0.heap.size)
    (hK : ∀ W, Below n0 W0 W → Env W ∧ At W (some ⟨bb, off, none⟩) b) (hbx : W0.cell? ⟨bx, 0, none⟩ = some (.slice (some ⟨bb, off, none⟩) b.length cap)) (hbl : bx < W0.heap.size) (hc : b.length ≤ cap) (hm : b.length ≤ 140737488355328) (h0 : J [] W0) :
    Calls Tryd.prog 32 #[.func (.yield l) #[] #[], .pointer (some ⟨bx, 0, none⟩)] W0 fun e W' => (∃ v, e = .returned v) ∧ ((∃ ys, ReadF b ys [] ∧ J ys W') ∨ (∃ pre, (∃ R, ReadF b pre R) ∧ Jx pre W')) := by
  have HY := Lib.hid hY
  have HJ := Lib.hid hJ
  have HK := Lib.hid hK
  have HB := Lib.hid hbx
  clear hY hJ hK hbx
  go_enter Tryd.func32, Tryd.ntmps32
  go_wp2
  go_loopw [3] (fun i wr => ∃ (pre : List Fx) (k : Nat), i = .int .i64 k ∧ k = sizeL (frs pre) ∧ k ≤ b.length ∧ ReadF b pre (framesL (b.drop k)) ∧ (∀ y ∈ pre, y.g < wr.heap.size) ∧ J pre wr ∧ KpF n0 bx W0 wr ∧ W0.heap.size ≤ wr.heap.size) (fun i _ => b.length - (intOf i).toNat)
  case atStart => exact ⟨[], 0, rfl, rfl, Nat.zero_le _, ⟨rfl, trivial, List.Pairwise.nil⟩, (fun y hy => by cases hy), h0, ⟨Below.refl _ _, rfl⟩, Nat.le_refl _⟩
  case round =>
    obtain ⟨pre, k, rfl, hks, hkl, hR, hlt, hj, hkp, hsz⟩ := hrel
    have hcell : wr.cell? ⟨bx, 0, none⟩ = some (.slice (some ⟨bb, off, none⟩) b.length cap) := by
      rw [← HB.out]
      simp only [World.cell?, hkp.box]
    obtain ⟨D, hD⟩ : ∃ D : Option Addr, (if cap = k then some ⟨bb, off, none⟩ else some ⟨bb, off + k, none⟩) = D := ⟨_, rfl⟩
    have C := Lib.hid (first_any D (b.drop k) (b.length - k) (cap - k) wr (HK.out _ hkp.below).1 (hD ▸ from_at (HK.out _ hkp.below).2 hkl hc) (by rw [List.length_drop]; omega) (by rw [List.length_drop]; omega) List.length_drop)
    have i0 : (0 : Int) ≤ (k : Int) := by omega
    have i1 : (k : Int) ≤ (b.length : Int) := by omega
    have i2 : (k : Int) ≤ (cap : Int) := by omega
    have i3 : (b.length : Int) ≤ (cap : Int) := by omega
    have HR := Lib.hid hR
    have HL := Lib.hid hlt
    have HJ1 := Lib.hid hj
    have HP := Lib.hid hkp
    have HS := Lib.hid hks
    clear hR hlt hj hkp hks
    go_upto_region 2 with (first
      | (go_at_call 33; ((with_reducible refine (C.out).mono ?_); rintro e w5 (⟨hy, g, rfl, hM, hb5⟩ | ⟨hy, rfl, hb5⟩); all_goals (try unfold noFr); all_goals (try unfold bodyV); all_goals (have HYY := Lib.hid hy; have B5 := Lib.hid hb5; clear hy hb5 hcell hD)))
      | fail)
    · have HX : Hid (∀ w6, Below w5.heap.size w5 w6 → Body m0 ⟨frB (b.drop k), g, k + (lenB (b.drop k) + 7)⟩ w6) := Lib.hid fun w6 hb => by
        have hlen := nextB_len HYY.out
        have hl2 := frB_len HYY.out
        refine Body.below ⟨Nat.le_trans hn2 (Nat.le_trans hsz hM.ge), hM.lt, fun i hi => ?_, hM.free, hM.typ⟩ hb
        have hi' : i < lenB (b.drop k) := by rw [← hl2]; exact hi
        have hT : ((b.drop k).take (3 + lenB (b.drop k))).length = 3 + lenB (b.drop k) := by rw [List.length_take]; omega
        refine (hM.cell (3 + i) (by rw [hT]; omega)).trans ?_
        congr 2
        simp only [frB, List.getD]
        rw [List.getElem?_drop]
      have HG := Lib.hid hM.ge
      have HGl := Lib.hid hM.lt
      have HE := Lib.hid (show encF ⟨frB (b.drop k), g, k + (lenB (b.drop k) + 7)⟩ = #[.agg #[.int .i64 (kindB (b.drop k) : Int), .slice (bodyA g (lenB (b.drop k))) (lenB (b.drop k)) (lenB (b.drop k))], .int .i64 ((k : Int) + ((lenB (b.drop k) : Int) + 7))] by
        unfold encF
        rw [frB_len HYY.out, show ((k : Int) + ((lenB (b.drop k) : Int) + 7)) = ((k + (lenB (b.drop k) + 7) : Nat) : Int) by omega]
        rfl)
      have HSz := Lib.hid (frB_size HYY.out)
      have HFs := Lib.hid (framesL_yes HYY.out)
      have hNl := nextB_len HYY.out
      rw [List.length_drop] at hNl
      have hrf := nextB_refE HYY.out
      clear hM HYY
      generalize frB (b.drop k) = F at *
      obtain ⟨fk, fl⟩ := F
      generalize hK : kindB (b.drop k) = K at *
      generalize hN : lenB (b.drop k) = N at *
      have HKN := Lib.hid (And.intro hK hN)
      clear hK hN
      generalize hAA : bodyA g N = A at *
      have HAA := Lib.hid hAA
      clear hAA
      obtain ⟨V, hV⟩ : ∃ V, w5.alloc (.cells #[.int .i64 (K : Int), .slice A N N] 27) = V := ⟨_, rfl⟩
      have f0 : FBox V w5.heap.size (K : Int) A N N := by rw [← hV]; exact FBox.new w5 _ A N N
      have bV : Below w5.heap.size w5 V := by rw [← hV]; exact (Below.refl _ _).alloc (Nat.le_refl _) _
      have CS := Lib.hid (Size_any (K : Int) A N N V (by omega))
      rw [sizeV, if_pos hrf] at CS
      clear hrf
      have F0 := Lib.hid f0
      have d0 := f0.c0
      have d1 := f0.c1
      have BV := Lib.hid bV
      clear f0 bV
      rw [hV]
      clear hV
      go_upto_region 4 with (first
        | (go_at_call 12; ((with_reducible refine (CS.out).mono ?_); rintro e6 w6 ⟨rfl, hb6⟩; have B6 := Lib.hid hb6; clear hb6 d0 d1))
        | fail)
      have F6 := Lib.hid (F0.out.below B6.out)
      have d0 := F6.out.c0
      have d1 := F6.out.c1
      have l5 := Lib.hid (B5.out.trans (((BV.out).trans (B6.out.mono BV.out.size)).mono B5.out.size))
      have hy0 := HY.out 4 pre ⟨⟨fk, fl⟩, g, k + (N + 7)⟩ w6 (HJ.out _ _ _ HJ1.out (grown_of l5.out)) (HX.out _ (BV.out.trans (B6.out.mono BV.out.size))) (by have := sizeL_ge (frs pre); rw [← HS.out, frs, List.length_map] at this; omega)
      rw [HE.out] at hy0
      have KW : Hid (KpF n0 bx W0 w6) := Lib.hid (HP.out.trans ⟨l5.out.mono (Nat.le_trans hn hsz), l5.out.block bx (Nat.lt_of_lt_of_le hbl hsz)⟩)
      have HG6 : Hid (∀ y ∈ pre, y.g < g) := Lib.hid fun y hy => Nat.lt_of_lt_of_le (HL.out y hy) HG.out
      have HG7 : Hid (g < w6.heap.size) := Lib.hid (Nat.lt_of_lt_of_le HGl.out (Nat.le_trans BV.out.size B6.out.size))
      have S6 := Lib.hid (Nat.le_trans hsz l5.out.size)
      clear HX HG HGl
      obtain ⟨fn, tmps, assign, body, hy, hR⟩ := hy0
      refine (wpIn_wide (n := 5)).1 ?_
      gi_wp2_with (first
        | ((try refine ⟨room_wide' _, ?_⟩); refine hR.mono ?_; clear hR; rintro e2 w7 (⟨rfl, hj7, hk7⟩ | ⟨rfl, hjx⟩))
        | fail)
      · go_wp2
        go_roundw
        case rel =>
          have hsx : (⟨fk, fl⟩ : Fr).size = 7 + N := HSz.out
          refine ⟨pre ++ [⟨⟨fk, fl⟩, g, k + (N + 7)⟩], k + (N + 7), by go_num, ?_, by omega, ⟨?_, ?_, ?_⟩, ?_, hj7, KW.out.trans hk7, Nat.le_trans S6.out hk7.below.size⟩
          · rw [frs_snoc, sizeL_snoc, ← HS.out, hsx]; omega
          · rw [frs_snoc, List.append_assoc, HR.out.all, HFs.out, List.drop_drop, show k + (7 + N) = k + (N + 7) by omega]; rfl
          · exact HR.out.ends.snoc (by show k + (N + 7) = 0 + sizeL (frs pre) + (⟨fk, fl⟩ : Fr).size; rw [← HS.out, hsx]; omega)
          · rw [List.pairwise_append]
            exact ⟨HR.out.apart, List.pairwise_singleton _ _, fun x hx y hy => by rw [List.mem_singleton] at hy; subst hy; exact HG6.out x hx⟩
          · intro y hy
            have := hk7.below.size
            rw [List.mem_append, List.mem_singleton] at hy
            rcases hy with hy | rfl
            · have := HG6.out y hy; have := HG7.out; omega
            · have := HG7.out; show g < _; omega
        case measure => simp [intOf]; omega
      · go_wp2
        refine bodyPost_ret (results_none rfl _ _ _) rfl ?_
        refine ⟨⟨_, rfl⟩, .inr ⟨_, ⟨framesL (b.drop (k + (N + 7))), ?_, ?_, ?_⟩, hjx⟩⟩
        · rw [frs_snoc, List.append_assoc, HR.out.all, HFs.out, List.drop_drop, show k + (7 + N) = k + (N + 7) by omega]; rfl
        · have hsx : (⟨fk, fl⟩ : Fr).size = 7 + N := HSz.out
          exact HR.out.ends.snoc (by show k + (N + 7) = 0 + sizeL (frs pre) + (⟨fk, fl⟩ : Fr).size; rw [← HS.out, hsx]; omega)
        · rw [List.pairwise_append]
          exact ⟨HR.out.apart, List.pairwise_singleton _ _, fun x hx y hy => by rw [List.mem_singleton] at hy; subst hy; exact HG6.out x hx⟩
    · have hE : framesL (b.drop k) = [] := framesL_no HYY.out
      have HF := Lib.hid (And.intro (hE ▸ HR.out : ReadF b pre []) (HJ.out pre wr (w5.alloc (.cells #[.int .i64 0, .slice none 0 0] 27)) HJ1.out (grown_of (B5.out.alloc B5.out.size _))))
      clear hE
      go_wp2
      refine bodyPost_ret (results_none rfl _ _ _) rfl ?_
      exact ⟨⟨_, rfl⟩, .inl ⟨pre, HF.out⟩⟩
set_option maxRecDepth 100000 in
set_option maxHeartbeats 4000000 in
theorem valid1_nil (bx l : Nat) (J Jx : List Fx → World → Prop) (W0 : World) (hJ : ∀ s A B, J s A → A.grownBy B none → J s B)
    (hE : Env W0) (hbx : W0.cell? ⟨bx, 0, none⟩ = some (.slice none 0 0)) (h0 : J [] W0) :
    Calls Tryd.prog 32 #[.func (.yield l) #[] #[], .pointer (some ⟨bx, 0, none⟩)] W0 fun e W' => (∃ v, e = .returned v) ∧ ((∃ ys, ReadF [] ys [] ∧ J ys W') ∨ (∃ pre, (∃ R, ReadF [] pre R) ∧ Jx pre W')) := by
  have C := Lib.hid (first_any none [] 0 0 W0 hE (at_nil _ _) (Nat.le_refl _) (by decide) rfl)
  have HJ := Lib.hid hJ
  have H0 := Lib.hid h0
  have HR : Hid (ReadF [] [] []) := Lib.hid ⟨framesL_no (by decide), trivial, List.Pairwise.nil⟩
  clear hJ hE h0
  go_enter Tryd.func32, Tryd.ntmps32
  go_wp2
  go_loopw [3] (fun i wr => i = .int .i64 0 ∧ wr = W0) (fun _ _ => 0)
  case atStart => exact ⟨rfl, rfl⟩
  case round =>
    obtain ⟨rfl, rfl⟩ := hrel
    go_upto_region 2 with (first
      | (go_at_call 33; ((with_reducible refine (C.out).mono ?_); rintro e w5 (⟨hy, _⟩ | ⟨hy, rfl, hb5⟩); all_goals (try unfold noFr); all_goals (first | (exact absurd hy (by decide)) | (have B5 := Lib.hid hb5; clear hb5 hy))))
      | fail)
    have HF := Lib.hid (HJ.out [] _ (w5.alloc (.cells #[.int .i64 0, .slice none 0 0] 27)) H0.out (grown_of (B5.out.alloc B5.out.size _)))
    go_wp2
    refine bodyPost_ret (results_none rfl _ _ _) rfl ?_
    exact ⟨⟨_, rfl⟩, .inl ⟨[], HR.out, HF.out⟩⟩
theorem valid_iter (n0 m0 : Nat) (A : Option Addr) (cap bx : Nat) (b : List UInt8) (w : World) (hn : n0 ≤ w.heap.size) (hn2 : m0 ≤ w.heap.size) (hK : ∀ W, Below n0 w W → Env W ∧ At W A b) (hz : A = none → cap = 0) (hs : ∀ ad, A = some ad → ∃ bb off, ad = ⟨bb, off, none⟩)
    (hbx : w.cell? ⟨bx, 0, none⟩ = some (.slice A b.length cap)) (hc : b.length ≤ cap) (hm : b.length ≤ 140737488355328) :
    IterF Tryd.prog 32 #[.pointer (some ⟨bx, 0, none⟩)] encF (Body m0) (KpF n0 bx) (fun ys => ReadF b ys []) (fun pre => ∃ R, ReadF b pre R) b.length w := by
  intro l J Jx W hW hJ hY h0
  obtain ⟨c, hc1, _⟩ := cells_of_cell hbx
  have hlt : bx < w.heap.size := (Array.getElem?_eq_some_iff.1 hc1).1
  have hbx' : W.cell? ⟨bx, 0, none⟩ = some (.slice A b.length cap) := (hW.cell (p := ⟨bx, 0, none⟩) hlt).trans hbx
  have hK' : ∀ V, Below n0 W V → Env V ∧ At V A b := fun V hV => hK V ((hW.mono hn).trans hV)
  cases A with
  | none =>
    obtain rfl := (hK' W (Below.refl _ _)).2.none_nil
    obtain rfl := hz rfl
    exact valid1_nil bx l J Jx W hJ (hK' W (Below.refl _ _)).1 hbx' h0
  | some ad =>
    obtain ⟨bb, off, rfl⟩ := hs ad rfl
    exact valid1_some n0 m0 bb off cap bx l b J Jx W hJ hY (Nat.le_trans hn hW.size) (Nat.le_trans hn2 hW.size) hK' hbx' (Nat.lt_of_lt_of_le hlt hW.size) hc hm h0
end Go.Proofs.YtbmhgmigcgeooaaDoor
