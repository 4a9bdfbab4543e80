/- The document's Delete. -/
import Derived.Test.YtbifgmamjdniaaaR2
namespace Go.Proofs.Ytbifgmamjdniaaa
open Go.RowKit
open Itree (E T dep endT bs ord sz nodes lean rotL rotR bal ins del hasT first AVL Srt eachL over)
/-- What Delete finds. -/
structure FoundP (w w' : World) (p p' : Int) (G g b c : Nat) (L : List E) : Prop where
  below : Below w.heap.size w w'
  pb : Box w' G p p'
  g0 : w'.cell? ⟨g, 0, none⟩ = some (.slice (some ⟨b, 0, none⟩) L.length c)
  fr : ∀ o, w'.frozen? ⟨g, o, none⟩ = false
  at' : EAt w' (some ⟨b, 0, none⟩) L
theorem FoundP.on {w w' w'' : World} {p p' : Int} {G g b c : Nat} {L : List E} (h : FoundP w w' p p' G g b c L) (hg : g < w.heap.size) (hb : Below w'.heap.size w' w'') : FoundP w w'' p p' G g b c L :=
  have hl := Nat.lt_of_lt_of_le hg h.below.size
  ⟨h.below.trans (hb.mono h.below.size), h.pb.below hb, (hb.cell (p := ⟨g, 0, none⟩) hl).trans h.g0, fun o => (hb.frozen (p := ⟨g, o, none⟩) hl).trans (h.fr o), h.at'.below hb⟩
theorem FoundP.onN {w w' w'' : World} {p p' : Int} {G g b c n : Nat} {L : List E} (h : FoundP w w' p p' G g b c L) (hg : g < w.heap.size) (hb : b < w.heap.size) (hG : G < n) (hn : w.heap.size ≤ n) (hl : Below n w' w'') : FoundP w w'' p p' G g b c L := by
  have hgn := Nat.lt_of_lt_of_le hg hn
  have hbn := Nat.lt_of_lt_of_le hb hn
  refine ⟨h.below.trans (hl.mono hn), ⟨(hl.cell (p := ⟨G, 0, none⟩) hG).trans h.pb.c0, (hl.cell (p := ⟨G, 1, none⟩) hG).trans h.pb.c1, fun o => (hl.frozen (p := ⟨G, o, none⟩) hG).trans (h.pb.fr o), Nat.lt_of_lt_of_le h.pb.lt hl.size⟩, (hl.cell (p := ⟨g, 0, none⟩) hgn).trans h.g0, fun o => (hl.frozen (p := ⟨g, o, none⟩) hgn).trans (h.fr o), fun h0 => ?_⟩
  obtain ⟨b', off, e, hlt, hc⟩ := h.at' h0
  injection e with e
  injection e with e1 e2
  subst e1 e2
  exact ⟨b, 0, rfl, Nat.lt_of_lt_of_le hlt hl.size, fun i hi => ⟨(hl.cell (p := ⟨b, 0 + i * 3, none⟩) hbn).trans (hc i hi).1, (hl.cell (p := ⟨b, 0 + i * 3 + 1, none⟩) hbn).trans (hc i hi).2.1, (hl.cell (p := ⟨b, 0 + i * 3 + 2, none⟩) hbn).trans (hc i hi).2.2⟩⟩
theorem delL_len_eq (x : E) (L : List E) : (delL x L).length = L.length ↔ x ∉ L := by
  unfold delL
  rw [List.length_filter_eq_length_iff]
  simp only [decide_eq_true_eq]
  constructor
  · intro h hm
    exact h x hm rfl
  · rintro h a ha rfl
    exact h ha
theorem delL_not {x : E} {L : List E} (h : x ∉ L) : delL x L = L := by
  unfold delL
  rw [List.filter_eq_self]
  intro y hy
  simp only [decide_eq_true_eq]
  rintro rfl
  exact h hy
theorem delL_snoc (x y : E) (L : List E) : delL x (L ++ [y]) = if y = x then delL x L else delL x L ++ [y] := by
  unfold delL
  rw [List.filter_append]
  by_cases h : y = x <;> simp [h]
theorem take_succ' {L : List E} {i : Nat} (h : i < L.length) : L.take (i + 1) = L.take i ++ [L[i]] := by
  rw [List.take_add_one]
  simp [h]
/-- What has been gathered. -/
def Gath (base : Nat) (w : World) (v : Value) (M : List E) : Prop := OwnR base w v M ∧ (M = [] → v = .slice none 0 0)
theorem Gath.below {base : Nat} {w w' : World} {v : Value} {M : List E} (h : Gath base w v M) (hb : Below w.heap.size w w') : Gath base w' v M := by
  refine ⟨?_, h.2⟩
  obtain ⟨h1, h2⟩ := h.1
  refine ⟨h1, ?_⟩
  rcases h2 with h0 | ⟨g, cap, cur, e, hg, hc, h1, h2, h3, h4⟩
  · exact .inl h0
  · exact .inr ⟨g, cap, cur, e, hg, (hb.block g (Array.getElem?_eq_some_iff.1 hc).1).trans hc, h1, h2, h3, h4⟩
theorem Gath.len {base : Nat} {w : World} {v : Value} {M : List E} (h : Gath base w v M) : ∃ A c, v = .slice A M.length c := by
  rcases h.1.2 with ⟨rfl, h0⟩ | ⟨g, cap, cur, rfl, _⟩
  · exact ⟨none, 0, by rw [h0]⟩
  · exact ⟨_, cap, rfl⟩
theorem RT.gath {w : World} {g base : Nat} {v v0 : Value} {M : List E} (hc : w.cell? ⟨g, 0, none⟩ = some v0) (hf : ∀ o, w.frozen? ⟨g, o, none⟩ = false) (hg : g < base) (hb : base ≤ w.heap.size) (ho : Gath base w v M) : ∃ b, RT (w.setCell ⟨g, 0, none⟩ v) g b M ∧ base ≤ b ∧ But [g] w (w.setCell ⟨g, 0, none⟩ v) := by
  by_cases h0 : M = []
  · have hv := ho.2 h0
    subst hv h0
    have hB : But [g] w (w.setCell ⟨g, 0, none⟩ (.slice none 0 0)) := (But.refl _ _).set (by simp) _
    exact ⟨base, ⟨fun o => by rw [World.frozen?_setCell]; exact hf o, Nat.lt_of_lt_of_le (Nat.lt_of_lt_of_le hg hb) hB.size, .inl ⟨rfl, World.cell?_setCell_same _ _ _ hc⟩⟩, Nat.le_refl _, hB⟩
  · exact RT.stored hc hf hg hb ho.1 (List.length_pos_iff.2 h0) rfl
set_option maxRecDepth 100000 in
set_option maxHeartbeats 4000000 in
theorem refDel_some (x : E) (g b c : Nat) (L : List E) (w : World) (h0 : w.cell? ⟨g, 0, none⟩ = some (.slice (some ⟨b, 0, none⟩) L.length c)) (hfr : ∀ o, w.frozen? ⟨g, o, none⟩ = false) (hg : g < w.heap.size) (hA : EAt w (some ⟨b, 0, none⟩) L) (hpos : 0 < L.length) (hbl : b < w.heap.size) (hs : L.length ≤ 1000000) (hold : RT w g b L) :
    Calls Try.prog 12 #[.pointer (some ⟨g, 0, none⟩), .agg #[.int .u64 x.a, .int .u64 x.b], .int .u64 x.n] w fun e w' => e = .returned (.int .i64 (delR x L)) ∧ ∃ b', RT w' g b' (delL x L) ∧ But [g] w w' ∧ (b' = b ∨ w.heap.size ≤ b') := by
  have K0 : Below w.heap.size w (w.alloc (.cells #[.int .u64 x.a, .int .u64 x.b] 32)) := (Below.refl _ _).alloc (Nat.le_refl _) _
  have pb : Box (w.alloc (.cells #[.int .u64 x.a, .int .u64 x.b] 32)) w.heap.size x.a x.b := box_at w x.a x.b _ _ rfl
  obtain ⟨W, hW⟩ : ∃ W, w.alloc (.cells #[.int .u64 x.a, .int .u64 x.b] 32) = W := ⟨_, rfl⟩
  rw [hW] at K0 pb
  have FW := Lib.hid (show FoundP w W x.a x.b w.heap.size g b c L from ⟨K0, pb, (K0.cell (p := ⟨g, 0, none⟩) hg).trans h0, fun o => (K0.frozen (p := ⟨g, o, none⟩) hg).trans (hfr o), hA.below K0⟩)
  have HG := Lib.hid (And.intro hg (And.intro hbl (show w.heap.size < W.heap.size by rw [← hW]; simp)))
  have HO := Lib.hid hold
  clear K0 pb h0 hfr hA hold hg hbl
  go_enter Try.func12, Try.ntmps12
  go_upto_region 1 with fail
  try rw [hW]
  clear hW
  go_wp2_with fail
  go_loopw [7, 8] (fun v u wr => ∃ i : Nat, u = .int .i64 i ∧ i ≤ L.length ∧ FoundP w wr x.a x.b w.heap.size g b c L ∧ Gath W.heap.size wr v (delL x (L.take i)) ∧ Below W.heap.size W wr) (fun _ u _ => L.length - (intOf u).toNat)
  case atStart => exact ⟨0, rfl, Nat.zero_le _, FW.out, ⟨World.ownsRow_nil _ _ _ _, fun _ => rfl⟩, Below.refl _ _⟩
  case round =>
    obtain ⟨i, rfl, hi, hf, hga, hbl⟩ := hrel
    have F := Lib.hid hf
    have GA := Lib.hid hga
    have BL := Lib.hid hbl
    clear hf hga hbl
    by_cases hil : i < L.length
    · obtain ⟨g', off, e, hb', hcell⟩ := F.out.at' (by omega)
      injection e with e
      injection e with e1 e2
      subst e1 e2
      obtain ⟨z0, z1, z2⟩ := hcell i hil
      simp only [Nat.zero_add] at z0 z1 z2
      obtain ⟨y, hy⟩ : ∃ y, L[i] = y := ⟨_, rfl⟩
      rw [hy] at z0 z1 z2
      have TS := Lib.hid (show delL x (L.take (i + 1)) = if y = x then delL x (L.take i) else delL x (L.take i) ++ [y] by rw [take_succ' hil, hy]; exact delL_snoc x y _)
      have i0 : (i : Int) < (L.length : Int) := by omega
      have i1 : (0 : Int) ≤ (i : Int) := by omega
      have g0 := F.out.g0
      have p0 := F.out.pb.c0
      have p1 := F.out.pb.c1
      have HY := Lib.hid hy
      clear hcell hb' hy
      go_upto_region 5 with fail
      by_cases ha : y.a = x.a
      · have ga : (y.a == x.a) = true := by simpa using ha
        by_cases hb : y.b = x.b
        · have gb : (y.b == x.b) = true := by simpa using hb
          by_cases hn : y.n = x.n
          · have gn : (y.n == x.n) = true := by simpa using hn
            have gn2 : (y.n != x.n) = false := by simpa using hn
            have TS2 := Lib.hid (TS.out.trans (if_pos (Itree.E.ext' ha hb hn)))
            clear ha hb hn TS
            go_quiet (fail)
            obtain ⟨X, hX⟩ : ∃ X, wr.drewN nq = X := ⟨_, rfl⟩
            have bX : Below wr.heap.size wr X := by rw [← hX]; exact ⟨rfl, rfl, rfl, Nat.le_refl _, fun _ _ => rfl⟩
            have FX := Lib.hid (F.out.on HG.out.1 bX)
            have GX := Lib.hid (GA.out.below bX)
            have BX := Lib.hid (BL.out.trans (bX.mono BL.out.size))
            rw [hX]
            clear hX bX g0 p0 p1 z0 z1 z2 ga gb gn
            have q0 := FX.out.g0
            obtain ⟨_, _, e, _, hcell⟩ := FX.out.at' (by omega)
            injection e with e
            injection e with e1 e2
            subst e1 e2
            obtain ⟨z0, z1, z2⟩ := hcell i hil
            simp only [Nat.zero_add] at z0 z1 z2
            rw [HY.out] at z0 z1 z2
            clear hcell
            go_wp2
            exact ⟨⟨i + 1, by go_num, by omega, FX.out, by rw [TS2.out]; exact GX.out, BX.out⟩, by simp [intOf]; omega⟩
          · have hn' : (y.n == x.n) = false := by simpa using hn
            have hn2 : (y.n != x.n) = true := by simpa using hn
            have TS2 := Lib.hid (TS.out.trans (if_neg (fun e => hn (congrArg E.n e))))
            clear hn TS ha hb
            go_quiet (fail)
            obtain ⟨X, hX⟩ : ∃ X, wr.drewN nq = X := ⟨_, rfl⟩
            have bX : Below wr.heap.size wr X := by rw [← hX]; exact ⟨rfl, rfl, rfl, Nat.le_refl _, fun _ _ => rfl⟩
            have FX := Lib.hid (F.out.on HG.out.1 bX)
            have GX := Lib.hid (GA.out.below bX)
            have BX := Lib.hid (BL.out.trans (bX.mono BL.out.size))
            rw [hX]
            clear hX bX g0 p0 p1 z0 z1 z2 hn'
            have q0 := FX.out.g0
            obtain ⟨_, _, e, _, hcell⟩ := FX.out.at' (by omega)
            injection e with e
            injection e with e1 e2
            subst e1 e2
            obtain ⟨z0, z1, z2⟩ := hcell i hil
            simp only [Nat.zero_add] at z0 z1 z2
            rw [HY.out] at z0 z1 z2
            clear hcell
            go_wp2_with (first
              | (at_builtin; refine wpList_appRs _ rfl _ (.tmp 48) rfl W.heap.size u7 (delL x (L.take i)) rfl (GX.out.1.alloc _) (some ⟨X.heap.size, 0, none⟩) 1 1 [y] rfl (one_at _ _ _) (by intro h; cases h) rfl (by have := delL_len x (L.take i); rw [List.length_take] at this; simp; omega) (by simp; exact Nat.le_trans BX.out.size (Nat.le_succ _)) ?_; intro v1 y1 ho1 hb1; have O1 := Lib.hid ho1; have HB1 := Lib.hid (((Below.refl _ _).alloc BX.out.size _).trans hb1); clear ho1 hb1 q0 z0 z1 z2)
              | fail)
            exact ⟨⟨i + 1, by go_num, by omega, FX.out.onN HG.out.1 HG.out.2.1 HG.out.2.2 (Nat.le_of_lt HG.out.2.2) HB1.out, ⟨by rw [TS2.out]; exact O1.out, fun h => by rw [TS2.out] at h; simp at h⟩, BX.out.trans HB1.out⟩, by simp [intOf]; omega⟩
        · have hb' : (y.b == x.b) = false := by simpa using hb
          have TS2 := Lib.hid (TS.out.trans (if_neg (fun e => hb (congrArg E.b e))))
          clear hb TS ha
          go_quiet (fail)
          obtain ⟨X, hX⟩ : ∃ X, wr.drewN nq = X := ⟨_, rfl⟩
          have bX : Below wr.heap.size wr X := by rw [← hX]; exact ⟨rfl, rfl, rfl, Nat.le_refl _, fun _ _ => rfl⟩
          have FX := Lib.hid (F.out.on HG.out.1 bX)
          have GX := Lib.hid (GA.out.below bX)
          have BX := Lib.hid (BL.out.trans (bX.mono BL.out.size))
          rw [hX]
          clear hX bX g0 p0 p1 z0 z1 z2 hb'
          have q0 := FX.out.g0
          obtain ⟨_, _, e, _, hcell⟩ := FX.out.at' (by omega)
          injection e with e
          injection e with e1 e2
          subst e1 e2
          obtain ⟨z0, z1, z2⟩ := hcell i hil
          simp only [Nat.zero_add] at z0 z1 z2
          rw [HY.out] at z0 z1 z2
          clear hcell
          go_wp2_with (first
            | (at_builtin; refine wpList_appRs _ rfl _ (.tmp 48) rfl W.heap.size u7 (delL x (L.take i)) rfl (GX.out.1.alloc _) (some ⟨X.heap.size, 0, none⟩) 1 1 [y] rfl (one_at _ _ _) (by intro h; cases h) rfl (by have := delL_len x (L.take i); rw [List.length_take] at this; simp; omega) (by simp; exact Nat.le_trans BX.out.size (Nat.le_succ _)) ?_; intro v1 y1 ho1 hb1; have O1 := Lib.hid ho1; have HB1 := Lib.hid (((Below.refl _ _).alloc BX.out.size _).trans hb1); clear ho1 hb1 q0 z0 z1 z2)
            | fail)
          exact ⟨⟨i + 1, by go_num, by omega, FX.out.onN HG.out.1 HG.out.2.1 HG.out.2.2 (Nat.le_of_lt HG.out.2.2) HB1.out, ⟨by rw [TS2.out]; exact O1.out, fun h => by rw [TS2.out] at h; simp at h⟩, BX.out.trans HB1.out⟩, by simp [intOf]; omega⟩
      · have ha' : (y.a == x.a) = false := by simpa using ha
        have TS2 := Lib.hid (TS.out.trans (if_neg (fun e => ha (congrArg E.a e))))
        clear ha TS
        go_quiet (fail)
        obtain ⟨X, hX⟩ : ∃ X, wr.drewN nq = X := ⟨_, rfl⟩
        have bX : Below wr.heap.size wr X := by rw [← hX]; exact ⟨rfl, rfl, rfl, Nat.le_refl _, fun _ _ => rfl⟩
        have FX := Lib.hid (F.out.on HG.out.1 bX)
        have GX := Lib.hid (GA.out.below bX)
        have BX := Lib.hid (BL.out.trans (bX.mono BL.out.size))
        rw [hX]
        clear hX bX g0 p0 p1 z0 z1 z2 ha'
        have q0 := FX.out.g0
        obtain ⟨_, _, e, _, hcell⟩ := FX.out.at' (by omega)
        injection e with e
        injection e with e1 e2
        subst e1 e2
        obtain ⟨z0, z1, z2⟩ := hcell i hil
        simp only [Nat.zero_add] at z0 z1 z2
        rw [HY.out] at z0 z1 z2
        clear hcell
        go_wp2_with (first
          | (at_builtin; refine wpList_appRs _ rfl _ (.tmp 48) rfl W.heap.size u7 (delL x (L.take i)) rfl (GX.out.1.alloc _) (some ⟨X.heap.size, 0, none⟩) 1 1 [y] rfl (one_at _ _ _) (by intro h; cases h) rfl (by have := delL_len x (L.take i); rw [List.length_take] at this; simp; omega) (by simp; exact Nat.le_trans BX.out.size (Nat.le_succ _)) ?_; intro v1 y1 ho1 hb1; have O1 := Lib.hid ho1; have HB1 := Lib.hid (((Below.refl _ _).alloc BX.out.size _).trans hb1); clear ho1 hb1 q0 z0 z1 z2)
          | fail)
        exact ⟨⟨i + 1, by go_num, by omega, FX.out.onN HG.out.1 HG.out.2.1 HG.out.2.2 (Nat.le_of_lt HG.out.2.2) HB1.out, ⟨by rw [TS2.out]; exact O1.out, fun h => by rw [TS2.out] at h; simp at h⟩, BX.out.trans HB1.out⟩, by simp [intOf]; omega⟩
    · obtain rfl : i = L.length := by omega
      obtain ⟨A, cc, hv⟩ := GA.out.len
      rw [List.take_length] at hv GA
      subst hv
      have g0 := F.out.g0
      have gf := F.out.fr
      by_cases hx : x ∈ L
      · have hlen : ((delL x L).length == L.length) = false := by simp [delL_len_eq, hx]
        have hlen' : (((delL x L).length : Int) == (L.length : Int)) = false := by
          rw [beq_eq_false_iff_ne] at hlen ⊢
          omega
        have HD := Lib.hid (show delR x L = 0 from if_pos hx)
        clear hx hlen
        go_wp2
        go_ret
        obtain ⟨b', r1, r2, r3⟩ := RT.gath g0 gf (Nat.lt_trans HG.out.1 HG.out.2.2) BL.out.size GA.out
        exact ⟨by rw [HD.out]; rfl, b', r1, (But.of_below (S := [g]) F.out.below).trans r3 (by simp), .inr (Nat.le_trans (Nat.le_of_lt HG.out.2.2) r2)⟩
      · have hlen : (((delL x L).length : Int) == (L.length : Int)) = true := by rw [(delL_len_eq x L).2 hx]; simp
        have HD := Lib.hid (show delR x L = 6 from if_neg hx)
        have HE := Lib.hid (delL_not hx)
        clear hx
        go_wp2
        go_ret
        exact ⟨by rw [HD.out]; rfl, b, by rw [HE.out]; exact HO.out.below F.out.below, But.of_below F.out.below, .inl rfl⟩
set_option maxRecDepth 100000 in
set_option maxHeartbeats 1000000 in
theorem refDel_nil (x : E) (g : Nat) (w : World) (h0 : w.cell? ⟨g, 0, none⟩ = some (.slice none 0 0)) (hg : g < w.heap.size) :
    Calls Try.prog 12 #[.pointer (some ⟨g, 0, none⟩), .agg #[.int .u64 x.a, .int .u64 x.b], .int .u64 x.n] w fun e w' => e = .returned (.int .i64 6) ∧ Below w.heap.size w w' := by
  have K0 : Below w.heap.size w (w.alloc (.cells #[.int .u64 x.a, .int .u64 x.b] 32)) := (Below.refl _ _).alloc (Nat.le_refl _) _
  obtain ⟨W, hW⟩ : ∃ W, w.alloc (.cells #[.int .u64 x.a, .int .u64 x.b] 32) = W := ⟨_, rfl⟩
  rw [hW] at K0
  have g0 := (K0.cell (p := ⟨g, 0, none⟩) hg).trans h0
  have KB := Lib.hid K0
  clear K0 h0 hg
  go_enter Try.func12, Try.ntmps12
  go_upto_region 1 with fail
  try rw [hW]
  clear hW
  go_wp2_with fail
  refine wp_loop_rounds 1 ?_
  rw [rounds_succ]
  go_wp2
  go_ret
  exact ⟨rfl, KB.out⟩
/-- The document's Delete. -/
theorem refDelete_any (x : E) (g b : Nat) (L : List E) (w : World) (h : RT w g b L) (hs : L.length ≤ 1000000) :
    Calls Try.prog 12 #[.pointer (some ⟨g, 0, none⟩), .agg #[.int .u64 x.a, .int .u64 x.b], .int .u64 x.n] w fun e w' => e = .returned (.int .i64 (delR x L)) ∧ ∃ b', RT w' g b' (delL x L) ∧ But [g] w w' ∧ (b' = b ∨ w.heap.size ≤ b') := by
  have h' := h
  obtain ⟨h1, h2, ⟨rfl, a2⟩ | ⟨a1, a2, a3, c, a4, a5, a6⟩⟩ := h'
  · refine (refDel_nil x g w a2 h2).mono ?_
    rintro e w' ⟨rfl, hb⟩
    exact ⟨rfl, b, h.below hb, But.of_below hb, .inl rfl⟩
  · exact refDel_some x g b c L w a5 h1 h2 a6 a1 a3 hs h
end Go.Proofs.Ytbifgmamjdniaaa

