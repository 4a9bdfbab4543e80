/- The line of puts, one behind the other; their ends are no less than nothing. -/
/- What a line means at an instant: the library's search of the first that is so, and At. -/
/- PieceMeans in plain words: what is put in from behind, where nothing later is. -/
/- Slices that PieceMeans makes: words, and periods, behind which other slices stand as they were. -/
import Derived.Test.YtmolpogehgeebaaGreatbH3
import Derived.Test.YtmolpogehgeebaaGreatbB9
import Derived.Test.YtmolpogehgeebaaGreatbL1
import Derived.Laws.AppendOwnNone
import Derived.Deep.RegionLaw
namespace Go.Proofs.YtmolpogehgeebaaGreat
open Go.RowKit
section
set_option maxRecDepth 100000
set_option maxHeartbeats 8000000
end
end Go.Proofs.YtmolpogehgeebaaGreat


namespace Go.Proofs.YtmolpogehgeebaaGreat
open Go.RowKit
/-- The first place that is so, or none. -/
def FirstAt (l : List Pie) (t : Int) (w : World) (e : Ending) (w' : World) : Prop :=
  ((e = .returned (.int .i64 (-1)) ∧ ∀ x ∈ l, Se.hasB x.a x.b t = false) ∨ ∃ (k : Nat) (hk : k < l.length), e = .returned (.int .i64 k) ∧ Se.hasB l[k].a l[k].b t = true) ∧ Below w.heap.size w w'
open Classical in
/-- What At answers. -/
noncomputable def meansAt (l : List Pie) (t : Int) : VP := if Pl.Line okV l then Pl.means VP.none l t else VP.none
theorem hasB_iff (a b t : Int) : Se.hasB a b t = true ↔ (a < b ∧ b ≤ 1099511627776) ∧ a ≤ t ∧ t < b := by
  unfold Se.hasB Se.mayB
  simp [and_assoc]
theorem meansAt_no {l : List Pie} {t : Int} (h : ∀ x ∈ l, Se.hasB x.a x.b t = false) : meansAt l t = VP.none := by
  unfold meansAt
  split
  · rename_i hL
    refine Pl.means_none _ _ _ fun x hx hh => ?_
    have := h x hx
    rw [(hasB_iff _ _ _).2 ⟨⟨(hL.good x hx).1, (hL.good x hx).2.1⟩, hh⟩] at this
    cases this
  · rfl
theorem meansAt_bad {l : List Pie} (t : Int) (h : ¬ Pl.Line okV l) : meansAt l t = VP.none := by
  unfold meansAt
  rw [if_neg h]
theorem meansAt_yes {l : List Pie} {t : Int} {k : Nat} (hL : Pl.Line okV l) (hk : k < l.length) (h : Se.hasB l[k].a l[k].b t = true) : meansAt l t = l[k].v := by
  unfold meansAt
  rw [if_pos hL]
  have := (hasB_iff _ _ _).1 h
  exact Pl.means_at _ hL.par (List.getElem_mem hk) this.2.1 this.2.2
section
set_option maxRecDepth 100000
set_option maxHeartbeats 8000000
theorem At1_any (x : Pie) (t : Int) (q : Nat) (w : World) (h : Bx w q #[.int .u64 t]) : Calls Tryz.prog 170 #[Pie.val x, .pointer (some ⟨q, 0, none⟩)] w fun e w' => e = .returned (.bool (Se.hasB x.a x.b t)) ∧ Below w.heap.size w w' := by
  have C := Lib.hid (fun W => Se.Has_any x.a x.b t W)
  obtain ⟨a, b, ⟨k, vb, n, f, s⟩⟩ := x
  simp only at C
  generalize Se.hasB a b t = r at *
  have hsf := store_float
  have X0 := Lib.hid (h.below ((Below.refl w.heap.size w).alloc (Nat.le_refl _) (.cells (Pie.cells ⟨a, b, ⟨k, vb, n, f, s⟩⟩) 148)))
  have x0 := X0.out.c 0
  have hq := h.lt
  clear h
  go_enter Tryz.func170, Tryz.ntmps170
  go_wp2_with (go_at_call 28; (with_reducible refine (C.out _).mono ?_); rintro e w1 ⟨rfl, hb⟩)
  go_ret
  exact ⟨rfl, ((Below.refl w.heap.size w).alloc (Nat.le_refl _) _).trans (hb.mono (by simp))⟩
theorem Index_any (v : Value) (l : List Pie) (t : Int) (q : Nat) (w : World) (h : SL w v l) (hq : Bx w q #[.int .u64 t]) (hl : l.length ≤ 1000000000000) :
    Calls Tryz.prog 169 #[v, .func (.func 170) #[] #[.pointer (some ⟨q, 0, none⟩)]] w (FirstAt l t w) := by
  obtain ⟨A, c, rfl, hA, hm⟩ := h
  have HA := Lib.hid hA
  have HQ := Lib.hid hq
  clear hA hq
  have hsf := store_float
  go_enter Tryz.func169, Tryz.ntmps169
  go_wp2
  go_loopw [8] (fun i wr => ∃ k : Nat, k ≤ l.length ∧ i = .int .i64 k ∧ (∀ j (hj : j < l.length), j < k → Se.hasB l[j].a l[j].b t = false) ∧ Below w.heap.size w wr) (fun i _ => l.length - (intOf i).toNat)
  case atStart => exact ⟨0, Nat.zero_le _, rfl, by omega, Below.refl _ _⟩
  case round =>
    obtain ⟨k, hk, rfl, hp, hb⟩ := hrel
    have HP := Lib.hid hp
    have HB := Lib.hid hb
    clear hp hb
    by_cases hlt : k < l.length
    · obtain ⟨g, off, rfl, lg, cg⟩ := (HA.out.below HB.out) (by omega)
      have r := cg k hlt
      have i0 : (k : Int) < (l.length : Int) := by omega
      have i1 : (0 : Int) ≤ (k : Int) := by omega
      clear cg
      obtain ⟨x, hx⟩ : ∃ x, l[k] = x := ⟨_, rfl⟩
      rw [hx] at r
      have HX := Lib.hid hx
      clear hx
      have CA := Lib.hid (fun W (hb : Below wr.heap.size wr W) => At1_any x t q W ((HQ.out.below HB.out).below hb))
      obtain ⟨a, b, ⟨kk, vb, n, f, s⟩⟩ := x
      simp only at CA
      generalize hc : Se.hasB a b t = cc at CA
      have HC := Lib.hid hc
      clear hc
      cases cc
      · go_wp2_with (first
          | (refine wpList_load_mid rfl 148 (.tmp 14) rfl g (off + k * 7) rfl _ _ r Tryz.underlying148 rfl rowL ?_)
          | (go_at_call 170; (with_reducible refine (CA.out _ (Below.refl _ _)).mono ?_); rintro e w1 ⟨rfl, hb⟩; have HB1 := Lib.hid (HB.out.trans (hb.mono HB.out.size)); clear hb)
          | fail)
        exact ⟨⟨k + 1, hlt, by go_num, fun j hj hjk => by
          by_cases hjk' : j < k
          · exact HP.out j hj hjk'
          · obtain rfl : j = k := by omega
            rw [HX.out]; exact HC.out, HB1.out⟩, by simp [intOf]; omega⟩
      · go_wp2_with (first
          | (refine wpList_load_mid rfl 148 (.tmp 14) rfl g (off + k * 7) rfl _ _ r Tryz.underlying148 rfl rowL ?_)
          | (go_at_call 170; (with_reducible refine (CA.out _ (Below.refl _ _)).mono ?_); rintro e w1 ⟨rfl, hb⟩; have HB1 := Lib.hid (HB.out.trans (hb.mono HB.out.size)); clear hb)
          | fail)
        go_ret
        exact ⟨.inr ⟨k, hlt, rfl, by rw [HX.out]; exact HC.out⟩, HB1.out⟩
    · obtain rfl : k = l.length := by omega
      go_wp2
      go_ret
      exact ⟨.inl ⟨rfl, fun x hx => by
        obtain ⟨j, hj, rfl⟩ := List.getElem_of_mem hx
        exact HP.out j hj hj⟩, HB.out⟩
theorem At_any (v : Value) (l : List Pie) (t : Int) (w : World) (h : SL w v l) (hw : ∀ x ∈ l, x.v.wide) (hl : l.length ≤ 1000000000000) :
    Calls Tryz.prog 106 #[v, .int .u64 t] w fun e w' => e = .returned (meansAt l t).val ∧ Below w.heap.size w w' := by
  have CI := Lib.hid (fun W q (hb : Below w.heap.size w W) (hx : Bx W q #[.int .u64 t]) => Index_any v l t q W (h.below hb) hx hl)
  have CY := Lib.hid (fun W (hb : Below w.heap.size w W) => Is_any v l W (h.below hb) hw)
  obtain ⟨A, c, rfl, hA, hm⟩ := h
  have HA := Lib.hid hA
  clear hA hw
  have hsf := store_float
  have Q0 := Lib.hid ((Bx.new w #[.int .u64 t] 22).below ((Below.refl _ _).alloc (Nat.le_refl _) (.cells #[.int .i64 0, .bool false, .int .i64 0, .float .f64 0, .string ⟨#[]⟩] 31)))
  have Y0 := Lib.hid (Bx.new (w.alloc (.cells #[.int .u64 t] 22)) #[.int .i64 0, .bool false, .int .i64 0, .float .f64 0, .string ⟨#[]⟩] 31)
  rw [show (w.alloc (.cells #[.int .u64 t] 22)).heap.size = w.heap.size + 1 by simp] at Y0
  have HB0 := Lib.hid (((Below.refl w.heap.size w).alloc (Nat.le_refl _) (.cells #[.int .u64 t] 22)).alloc (by simp) (.cells #[.int .i64 0, .bool false, .int .i64 0, .float .f64 0, .string ⟨#[]⟩] 31))
  go_enter Tryz.func106, Tryz.ntmps106
  go_upto_region 1 with fail
  obtain ⟨W0, hW0⟩ : ∃ W, (w.alloc (.cells #[.int .u64 t] 22)).alloc (.cells #[.int .i64 0, .bool false, .int .i64 0, .float .f64 0, .string ⟨#[]⟩] 31) = W := ⟨_, rfl⟩
  rw [hW0] at Q0 Y0 HB0
  try rw [hW0]
  clear hW0
  go_wp2_with fail
  refine (CI.out _ _ HB0.out Q0.out).mono ?_
  rintro e w1 ⟨hi, hb⟩
  have B1 := Lib.hid (HB0.out.trans (hb.mono HB0.out.size))
  have Y1 := Lib.hid (Y0.out.below hb)
  clear hb
  rcases hi with ⟨rfl, hno⟩ | ⟨k, hk, rfl, hyes⟩
  · have HN := Lib.hid (meansAt_no hno)
    have y0 := Y1.out.c
    have y1 := Y1.out.fr
    clear hno
    go_wp2_with fail
    obtain ⟨s0, s1, s2, s3, s4⟩ := set5 w1 (w.heap.size + 1) (.int .i64 0) (.bool false) (.int .i64 0) (.float .f64 0) (.string ⟨#[]⟩) _ rfl y0
    refine bodyPost_ret (v := vagg 0 false 0 0 ⟨#[]⟩) (by simp [results, Tryz.results106, go_sem, s0, s1, s2, s3, s4]) rfl ?_
    exact ⟨by rw [HN.out]; rfl, set5_below _ _ _ _ _ _ (by omega) B1.out⟩
  · have i0 : (k : Int) < (l.length : Int) := by omega
    have i1 : (0 : Int) ≤ (k : Int) := by omega
    have i2 : ¬ (k : Int) < 0 := by omega
    have HK := Lib.hid hk
    have HY := Lib.hid hyes
    clear hyes
    go_wp2_with fail
    refine (CY.out _ B1.out).mono ?_
    rintro e w2 ⟨cc, rfl, hc, hb⟩
    have B2 := Lib.hid (B1.out.trans (hb.mono B1.out.size))
    have Y2 := Lib.hid (Y1.out.below hb)
    clear hb
    have y0 := Y2.out.c
    have y1 := Y2.out.fr
    cases cc
    · have HN := Lib.hid (meansAt_bad (l := l) t fun h => by simpa using hc.2 h)
      clear hc
      go_wp2_with fail
      obtain ⟨s0, s1, s2, s3, s4⟩ := set5 w2 (w.heap.size + 1) (.int .i64 0) (.bool false) (.int .i64 0) (.float .f64 0) (.string ⟨#[]⟩) _ rfl y0
      refine bodyPost_ret (v := vagg 0 false 0 0 ⟨#[]⟩) (by simp [results, Tryz.results106, go_sem, s0, s1, s2, s3, s4]) rfl ?_
      exact ⟨by rw [HN.out]; rfl, set5_below _ _ _ _ _ _ (by omega) B2.out⟩
    · have HN := Lib.hid (meansAt_yes (hc.1 rfl) HK.out HY.out)
      have ok := Lib.hid (hc.1 rfl)
      obtain ⟨g, off, rfl, lg, cg⟩ := (HA.out.below B2.out) (by omega)
      have r := cg k HK.out
      have CL := Lib.hid (fun W => clone_any (l[k]'HK.out).v (may_size (ok.out.good _ (List.getElem_mem HK.out)).2.2.2.1) W)
      clear cg hc
      generalize l[k]'HK.out = x at r HN CL
      obtain ⟨a, b, ⟨kk, vb, n, f, s⟩⟩ := x
      have r2 : w2.cell? ⟨g, off + k * 7 + 2, none⟩ = some (.int .i64 kk) := r 2 _ rfl
      have r3 : w2.cell? ⟨g, off + k * 7 + 3, none⟩ = some (.bool vb) := r 3 _ rfl
      have r4 : w2.cell? ⟨g, off + k * 7 + 4, none⟩ = some (.int .i64 n) := r 4 _ rfl
      have r5 : w2.cell? ⟨g, off + k * 7 + 5, none⟩ = some (.float .f64 f) := r 5 _ rfl
      have r6 : w2.cell? ⟨g, off + k * 7 + 6, none⟩ = some (.string s) := r 6 _ rfl
      clear r
      go_wp2_with (go_at_call 171; (with_reducible refine (CL.out _).mono ?_); rintro e w3 ⟨rfl, hb⟩; have B3 := Lib.hid (B2.out.trans (hb.mono B2.out.size)); clear y0 y1; have y0 := (Y2.out.below hb).c; have y1 := (Y2.out.below hb).fr)
      obtain ⟨s0, s1, s2, s3, s4⟩ := set5 w3 (w.heap.size + 1) (.int .i64 kk) (.bool vb) (.int .i64 n) (.float .f64 f) (.string s) _ rfl y0
      refine bodyPost_ret (v := vagg kk vb n f s) (by simp [results, Tryz.results106, go_sem, s0, s1, s2, s3, s4]) rfl ?_
      exact ⟨by rw [HN.out], set5_below _ _ _ _ _ _ (by omega) B3.out⟩
end
end Go.Proofs.YtmolpogehgeebaaGreat


namespace Go.Proofs.YtmolpogehgeebaaGreat
open Go.RowKit
def cov (L : List Pie) (t : Int) : Prop := ∃ p ∈ L, p.a ≤ t ∧ t < p.b
theorem cov_cons (x : Pie) (L : List Pie) (t : Int) : cov (x :: L) t ↔ (x.a ≤ t ∧ t < x.b) ∨ cov L t := by
  unfold cov; simp
open Classical in
theorem fold_last (t : Int) : ∀ (L : List Pie) (acc : VP), L.foldl (fun acc p => if p.a ≤ t ∧ t < p.b then p.v else acc) acc = if cov L t then lastV L t else acc
  | [], acc => by simp [cov]
  | x :: L, acc => by
    have h1 : lastV (x :: L) t = if cov L t then lastV L t else (if x.a ≤ t ∧ t < x.b then x.v else VP.none) := by
      unfold lastV
      rw [List.foldl_cons, fold_last t L]
      rfl
    rw [List.foldl_cons, fold_last t L, h1]
    by_cases c : cov L t
    · rw [if_pos c, if_pos ((cov_cons x L t).2 (.inr c)), if_pos c]
    · rw [if_neg c]
      by_cases d : x.a ≤ t ∧ t < x.b
      · rw [if_pos d, if_pos ((cov_cons x L t).2 (.inl d)), if_neg c, if_pos d]
      · rw [if_neg d, if_neg (fun h => by rcases (cov_cons x L t).1 h with h | h; exact d h; exact c h)]
theorem lastV_cons_yes {x : Pie} {L : List Pie} {t : Int} (c : cov L t) : lastV (x :: L) t = lastV L t := by
  show (x :: L).foldl _ _ = _
  rw [List.foldl_cons, fold_last t L, if_pos c]
open Classical in
theorem lastV_cons_no {x : Pie} {L : List Pie} {t : Int} (c : ¬ cov L t) : lastV (x :: L) t = if x.a ≤ t ∧ t < x.b then x.v else VP.none := by
  show (x :: L).foldl _ _ = _
  rw [List.foldl_cons, fold_last t L, if_neg c]
theorem lastV_none {L : List Pie} {t : Int} (c : ¬ cov L t) : lastV L t = VP.none := by
  show L.foldl _ _ = _
  rw [fold_last t L, if_neg c]
/-- What has come of the puts L from behind: the line Y, and what is covered. -/
structure Back (L Y : List Pie) (C : List (Int × Int)) : Prop where
  line : Pl.Line okV Y
  means : ∀ t, Pl.means VP.none Y t = lastV L t
  has : ∀ t, Se.Iset.has C t = true ↔ cov L t
  lenC : C.length = L.length
  lenY : Y.length ≤ 200 * L.length
  wide : Se.Iset.Wide C
theorem Back.nil : Back [] [] [] := ⟨Pl.Line.nil _, fun _ => rfl, fun t => by simp [Se.Iset.has, cov], rfl, by simp, fun p hp => by simp at hp⟩
/-- One put from behind, as far as its free parts F are put in: Z means the put's value there. -/
structure Mid (x : Pie) (Y Z : List Pie) (F : List (Int × Int)) (m : Nat) : Prop where
  line : Pl.Line okV Z
  means : ∀ t, (Se.Iset.has (F.take m) t = true → Pl.means VP.none Z t = x.v) ∧ (¬ Se.Iset.has (F.take m) t = true → Pl.means VP.none Z t = Pl.means VP.none Y t)
  len : Z.length ≤ Y.length + 2 * m
theorem Mid.start {x : Pie} {Y : List Pie} {F : List (Int × Int)} (h : Pl.Line okV Y) : Mid x Y Y F 0 := ⟨h, fun t => ⟨fun h => by simp [Se.Iset.has] at h, fun _ => rfl⟩, by omega⟩
theorem Mid.next {x : Pie} {Y Z S : List Pie} {F : List (Int × Int)} {m : Nat} (h : Mid x Y Z F m) (hm : m < F.length) (hf : F[m].1 < F[m].2 ∧ F[m].2 ≤ 1099511627776) (hs : Pl.SetR okV VP.none Z F[m].1 F[m].2 x.v S) : Mid x Y S F (m + 1) := by
  have e : ∀ t, Se.Iset.has (F.take (m + 1)) t = true ↔ Se.Iset.has (F.take m) t = true ∨ (F[m].1 ≤ t ∧ t < F[m].2) := fun t => by
    rw [List.take_succ_eq_append_getElem hm, Se.Iset.has_append, Bool.or_eq_true, Se.Iset.has_cons, Se.Iset.has_nil, Bool.or_false, Se.Iset.hasP_iff]
    exact ⟨fun h => h.imp id fun h => h.2, fun h => h.imp id fun h => ⟨hf, h⟩⟩
  refine ⟨hs.line, fun t => ?_, by have := hs.len; have := h.len; omega⟩
  rw [e t]
  by_cases c : F[m].1 ≤ t ∧ t < F[m].2
  · exact ⟨fun _ => (hs.means t).1 c, fun g => absurd (.inr c) g⟩
  · refine ⟨fun g => ?_, fun g => ?_⟩
    · rw [(hs.means t).2 c]
      exact (h.means t).1 (g.resolve_right c)
    · rw [(hs.means t).2 c]
      exact (h.means t).2 fun k => g (.inl k)
theorem Mid.done {x : Pie} {L Y Z : List Pie} {C F : List (Int × Int)} (h : Mid x Y Z F F.length) (b : Back L Y C) (hx : goodP x) (hn : 0 ≤ x.a ∧ 0 ≤ x.b) (hL : L.length ≤ 30) (hr : Se.Iset.Res Se.kLess [(x.a, x.b)] C F) : Back (x :: L) Z (C ++ [(x.a, x.b)]) := by
  have hx1 : ∀ t, Se.Iset.has [(x.a, x.b)] t = true ↔ x.a ≤ t ∧ t < x.b := fun t => by
    rw [Se.Iset.has_cons, Se.Iset.has_nil, Bool.or_false, Se.Iset.hasP_iff]
    exact ⟨fun h => h.2, fun h => ⟨hx.1, h⟩⟩
  have hF : ∀ t, Se.Iset.has F t = true ↔ (x.a ≤ t ∧ t < x.b) ∧ ¬ cov L t := fun t => by
    rw [hr.has t, Bool.and_eq_true, hx1, Bool.not_eq_true', ← Bool.not_eq_true, b.has]
  refine ⟨h.line, fun t => ?_, fun t => ?_, by simp [b.lenC], ?_, fun p hp => ?_⟩
  · have hm := h.means t
    rw [List.take_length, hF] at hm
    by_cases c : cov L t
    · rw [lastV_cons_yes c, hm.2 fun g => g.2 c, b.means]
    · rw [lastV_cons_no c]
      by_cases d : x.a ≤ t ∧ t < x.b
      · rw [if_pos d, hm.1 ⟨d, c⟩]
      · rw [if_neg d, hm.2 fun g => d g.1, b.means, lastV_none c]
  · rw [Se.Iset.has_append, Bool.or_eq_true, hx1, b.has, cov_cons]
    exact Or.comm
  · have h1 := h.len
    have h2 := b.lenY
    have h3 := hr.len
    have h4 := b.lenC
    simp only [List.length_cons, List.length_nil] at h3 ⊢
    omega
  · rcases List.mem_append.1 hp with hp | hp
    · exact b.wide p hp
    · rw [List.mem_singleton.1 hp]; exact hn
end Go.Proofs.YtmolpogehgeebaaGreat


namespace Go.Proofs.YtmolpogehgeebaaGreat
open Go.RowKit
/-- A slice of words that came in. -/
def InU (w : World) (v : Value) (U : List Int) : Prop := (v = .slice none 0 0 ∧ U = []) ∨ ∃ (adr : Addr) (c : Nat), v = .slice (some adr) U.length c ∧ U.length ≤ c ∧ c ≤ maxLen ∧ (0 < U.length → adr.block < w.heap.size) ∧ ∀ i (h : i < U.length), w.cell? (adr.add i) = some (.int .u64 U[i])
theorem InU.below {w w' : World} {v : Value} {U : List Int} (h : InU w v U) (hb : Below w.heap.size w w') : InU w' v U := by
  rcases h with h | ⟨adr, c, e, h1, h2, h3, h4⟩
  · exact .inl h
  · exact .inr ⟨adr, c, e, h1, h2, fun h0 => Nat.lt_of_lt_of_le (h3 h0) hb.size, fun i hi => (hb.cell (p := adr.add i) (by unfold Addr.add; split <;> exact h3 (by omega))).trans (h4 i hi)⟩
/-- append of words that lie anywhere. -/
theorem wpList_appV {ops : Array Oper} {rest : List Oper} {o : Oper} {a : Act} {w : World} {Q : Exit → Act → World → Prop} (hgd : o.guard = none) (s x : Operand)
    (ho : o.op = .call { callee := .builtin .append, args := #[s, x], argTypes := #[57, 57] })
    (base : Nat) (v : Value) (L M : List Int) (hs : a.eval s = v) (hown : Se.OwnU base w v L) (n : Nat) (hn : n = M.length) (adr : Addr) (c : Nat) (hx : a.eval x = .slice (some adr) n c) (hnc : n ≤ c)
    (hcl : ∀ i (h : i < M.length), w.cell? (adr.add i) = some (.int .u64 M[i])) (hlen : L.length + M.length ≤ 4000000000000) (hbase : base ≤ w.heap.size)
    (h : ∀ v' w', Se.OwnU base w' v' (L ++ M) → w.grownBy w' v.ownBlock → Below base w w' → wpList Tryz.prog ops Q rest (a.put o.dst v') w') :
    wpList Tryz.prog ops Q (o :: rest) a w := by
  obtain ⟨i0, hi, hz0, hz1, hz2⟩ := info_parts Se.infoU
  subst hn
  refine wpList_append_own_at _ hgd s x 57 ho base 22 i0 _ 1 8 Tryz.underlying57 hi hz0 hz1 hz2 rfl (by omega) v _ _ hs hown adr M.length c (M.map (Value.int .u64)) hx (by simp) ?_ ?_ (by unfold maxLen; omega) (by omega) hbase ?_
  · intro j u hj
    rw [List.getElem?_map, Option.map_eq_some_iff] at hj
    obtain ⟨z, hz, rfl⟩ := hj
    obtain ⟨hl, rfl⟩ := List.getElem?_eq_some_iff.1 hz
    exact hcl j hl
  · intro u hu
    rw [List.mem_map] at hu
    obtain ⟨z, _, rfl⟩ := hu
    rfl
  · intro v' w' h1 h2 h3 _
    refine h v' w' ?_ h2 ((Below.refl _ _).grown h2 hbase fun k hk => (World.ownsRow.lt hown k hk).1)
    unfold Se.OwnU
    rw [List.map_append, List.length_append]
    exact h1
section
variable {ops : Array Oper} {o : Oper} {a : Act} {K : Act → World → Prop} {Q : Exit → Act → World → Prop} {E : Prop} {w : World}
end
end Go.Proofs.YtmolpogehgeebaaGreat


