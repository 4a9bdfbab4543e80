/- The document's tree in memory; its Insert. -/
import Derived.Test.YtbifgmamjdniaaaR1
namespace Go.Proofs.Ytbifgmamjdniaaa
open Go.RowKit
open Itree (E T dep endT bs ord sz nodes lean rotL rotR bal ins del hasT first AVL Srt eachL over)
/-- The document's tree: block g holds its list, block b what the list holds. -/
def RT (w : World) (g b : Nat) (L : List E) : Prop := (∀ o, w.frozen? ⟨g, o, none⟩ = false) ∧ g < w.heap.size ∧
  ((L = [] ∧ w.cell? ⟨g, 0, none⟩ = some (.slice none 0 0)) ∨ (0 < L.length ∧ b ≠ g ∧ b < w.heap.size ∧ ∃ c, L.length ≤ c ∧ w.cell? ⟨g, 0, none⟩ = some (.slice (some ⟨b, 0, none⟩) L.length c) ∧ EAt w (some ⟨b, 0, none⟩) L))
theorem EAt.but {S : List Nat} {w w' : World} {b : Nat} {L : List E} (h : EAt w (some ⟨b, 0, none⟩) L) (hb : But S w w') (hn : b ∉ S) : EAt w' (some ⟨b, 0, none⟩) L := fun h0 => by
  obtain ⟨g, off, e, hl, hc⟩ := h h0
  injection e with e
  injection e with e1 e2
  subst e1 e2
  have hs := hb.size
  exact ⟨b, 0, rfl, by omega, fun i hi => ⟨(hb.cell b _ hl hn).trans (hc i hi).1, (hb.cell b _ hl hn).trans (hc i hi).2.1, (hb.cell b _ hl hn).trans (hc i hi).2.2⟩⟩
theorem RT.but {S : List Nat} {w w' : World} {g b : Nat} {L : List E} (h : RT w g b L) (hb : But S w w') (hg : g ∉ S) (hn : b ∉ S) : RT w' g b L := by
  obtain ⟨h1, h2, h3⟩ := h
  refine ⟨fun o => (hb.frozen g o h2 hg).trans (h1 o), Nat.lt_of_lt_of_le h2 hb.size, ?_⟩
  rcases h3 with ⟨a1, a2⟩ | ⟨a1, a2, a3, c, a4, a5, a6⟩
  · exact .inl ⟨a1, (hb.cell g 0 h2 hg).trans a2⟩
  · exact .inr ⟨a1, a2, Nat.lt_of_lt_of_le a3 hb.size, c, a4, (hb.cell g 0 h2 hg).trans a5, a6.but hb hn⟩
theorem RT.below {w w' : World} {g b : Nat} {L : List E} (h : RT w g b L) (hb : Below w.heap.size w w') : RT w' g b L := h.but (But.of_below (S := []) hb) (by simp) (by simp)
theorem OwnR.lies {base : Nat} {w : World} {v : Value} {L : List E} (h : OwnR base w v L) (h0 : 0 < L.length) : ∃ b c, v = .slice (some ⟨b, 0, none⟩) L.length c ∧ L.length ≤ c ∧ base ≤ b ∧ b < w.heap.size ∧ EAt w (some ⟨b, 0, none⟩) L := by
  rcases h.2 with ⟨_, h1⟩ | ⟨g, cap, cur, rfl, hb, hg, hn, hm, hs, ht⟩
  · omega
  · refine ⟨g, cap, rfl, hn, hb, (Array.getElem?_eq_some_iff.1 hg).1, fun _ => ⟨g, 0, rfl, (Array.getElem?_eq_some_iff.1 hg).1, fun i hi => ?_⟩⟩
    obtain ⟨c0, c1, c2⟩ := cellsE_get L i hi
    rw [← ht] at c0 c1 c2
    rw [List.getElem?_take_of_lt (by omega)] at c0 c1 c2
    simp only [Array.getElem?_toList] at c0 c1 c2
    simp only [World.cell?, hg, Nat.zero_add]
    exact ⟨c0, c1, c2⟩
/-- The list stored. -/
theorem RT.stored {w w' : World} {g base : Nat} {v : Value} {L : List E} {v0 : Value} (hc : w.cell? ⟨g, 0, none⟩ = some v0) (hf : ∀ o, w.frozen? ⟨g, o, none⟩ = false) (hg : g < base) (hb : base ≤ w.heap.size) (ho : OwnR base w v L) (h0 : 0 < L.length) (hw : w' = w.setCell ⟨g, 0, none⟩ v) : ∃ b, RT w' g b L ∧ base ≤ b ∧ But [g] w w' := by
  subst hw
  obtain ⟨b, c, rfl, h1, h2, h3, h4⟩ := ho.lies h0
  have hB : But [g] w (w.setCell ⟨g, 0, none⟩ (.slice (some ⟨b, 0, none⟩) L.length c)) := (But.refl _ _).set (by simp) _
  exact ⟨b, ⟨fun o => by rw [World.frozen?_setCell]; exact hf o, Nat.lt_of_lt_of_le (Nat.lt_of_lt_of_le hg hb) hB.size, .inr ⟨h0, by omega, Nat.lt_of_lt_of_le h3 hB.size, c, h1, World.cell?_setCell_same _ _ _ hc, h4.but hB (by simp; omega)⟩⟩, h2, hB⟩
theorem EAt.take {w : World} {b : Nat} {L : List E} (h : EAt w (some ⟨b, 0, none⟩) L) (i : Nat) : EAt w (some ⟨b, 0, none⟩) (L.take i) := fun h0 => by
  rw [List.length_take] at h0
  obtain ⟨g, off, e, hl, hc⟩ := h (by omega)
  refine ⟨g, off, e, hl, fun j hj => ?_⟩
  rw [List.length_take] at hj
  rw [List.getElem_take]
  exact hc j (by omega)
theorem EAt.drop {w : World} {b : Nat} {L : List E} (h : EAt w (some ⟨b, 0, none⟩) L) (i : Nat) : EAt w (some ⟨b, i * 3, none⟩) (L.drop i) := fun h0 => by
  rw [List.length_drop] at h0
  obtain ⟨g, off, e, hl, hc⟩ := h (by omega)
  injection e with e
  injection e with e1 e2
  subst e1 e2
  refine ⟨b, i * 3, rfl, hl, fun j hj => ?_⟩
  rw [List.length_drop] at hj
  rw [List.getElem_drop]
  have := hc (i + j) (by omega)
  rw [show i * 3 + j * 3 = 0 + (i + j) * 3 by omega]
  exact this
/-- How far the loop comes. -/
theorem tw_at {L : List E} {x : E} {i : Nat} (h : ∀ k (h : k < L.length), k < i → Itree.lt L[k] x) (hi : i = L.length ∨ ∃ h : i < L.length, ¬ Itree.lt L[i] x) : L.takeWhile (fun e => decide (Itree.lt e x)) = L.take i ∧ L.dropWhile (fun e => decide (Itree.lt e x)) = L.drop i := by
  induction L generalizing i with
  | nil => simp
  | cons y L ih =>
    cases i with
    | zero =>
      rcases hi with hi | ⟨h1, h2⟩
      · simp at hi
      · have : ¬ Itree.lt y x := h2
        simp [this]
    | succ i =>
      have hy : Itree.lt y x := h 0 (by simp) (by omega)
      obtain ⟨e1, e2⟩ := ih (i := i) (fun k hk hki => h (k + 1) (by simpa using hk) (by omega)) (by
        rcases hi with hi | ⟨h1, h2⟩
        · left; simpa using hi
        · right; exact ⟨by simpa using h1, by simpa using h2⟩)
      simp [hy, e1, e2]
theorem put_at {L : List E} {x : E} {i : Nat} (h : ∀ k (h : k < L.length), k < i → Itree.lt L[k] x) (hi : i = L.length ∨ ∃ h : i < L.length, ¬ Itree.lt L[i] x) : put x L = L.take i ++ [x] ++ L.drop i := by
  obtain ⟨e1, e2⟩ := tw_at h hi
  rw [put, e1, e2]
  simp
theorem not_in {L : List E} {x : E} {i : Nat} (hs : Srt L) (h : ∀ k (h : k < L.length), k < i → Itree.lt L[k] x) (hi : i = L.length ∨ ∃ h : i < L.length, ¬ Itree.lt L[i] x ∧ L[i] ≠ x) : x ∉ L := by
  intro hm
  obtain ⟨k, hk, rfl⟩ := List.getElem_of_mem hm
  rcases Nat.lt_trichotomy k i with h1 | rfl | h1
  · exact Itree.lt_irrefl _ (h k hk h1)
  · rcases hi with hi | ⟨_, _, h2⟩
    · omega
    · exact h2 rfl
  · rcases hi with hi | ⟨h2, h3, _⟩
    · omega
    · exact h3 (List.pairwise_iff_getElem.1 hs i k h2 hk h1)
theorem insL_arg {x : E} {L : List E} (hm : mayB x.a x.b = false) : insR x L = 1 ∧ insL x L = L := by
  simp [insR, insL, hm]
theorem insL_in {x : E} {L : List E} (hm : mayB x.a x.b = true) (h : x ∈ L) : insR x L = 9 ∧ insL x L = L := by
  simp [insR, insL, hm, h]
theorem insL_new {x : E} {L : List E} (hm : mayB x.a x.b = true) (h : x ∉ L) : insR x L = 0 ∧ insL x L = put x L := by
  simp [insR, insL, hm, h]
set_option maxRecDepth 100000 in
set_option maxHeartbeats 1000000 in
theorem refIns_arg (x : E) (g : Nat) (w : World) (hm : mayB x.a x.b = false) :
    Calls Try.prog 10 #[.pointer (some ⟨g, 0, none⟩), .agg #[.int .u64 x.a, .int .u64 x.b], .int .u64 x.n] w fun e w' => e = .returned (.int .i64 1) ∧ Below w.heap.size w w' := by
  have MY := refMay_any x.a x.b
  rw [hm] at MY
  replace MY := Lib.hid MY
  clear hm
  have K0 : Below w.heap.size w (w.alloc (.cells #[.int .u64 x.a, .int .u64 x.b] 32)) := (Below.refl _ _).alloc (Nat.le_refl _) _
  have pb : Box (w.alloc (.cells #[.int .u64 x.a, .int .u64 x.b] 32)) w.heap.size x.a x.b := box_at w x.a x.b _ _ rfl
  obtain ⟨W, hW⟩ : ∃ W, w.alloc (.cells #[.int .u64 x.a, .int .u64 x.b] 32) = W := ⟨_, rfl⟩
  rw [hW] at K0 pb
  have d0 := pb.c0
  have d1 := pb.c1
  have KB := Lib.hid K0
  clear K0 pb
  go_enter Try.func10, Try.ntmps10
  go_upto_region 1 with fail
  try rw [hW]
  clear hW
  go_wp2_with fail
  refine (MY.out _).mono ?_
  rintro e1 w1 ⟨rfl, b1⟩
  have HF := Lib.hid (KB.out.trans (b1.mono KB.out.size))
  clear b1
  go_wp2
  go_ret
  exact ⟨rfl, HF.out⟩
theorem one_at (w : World) (x : E) (t : TypeId) : EAt (w.alloc (.cells #[.int .u64 x.a, .int .u64 x.b, .int .u64 x.n] t)) (some ⟨w.heap.size, 0, none⟩) [x] := by
  refine fun _ => ⟨w.heap.size, 0, rfl, by simp, fun i hi => ?_⟩
  match i, hi with
  | 0, _ => refine ⟨?_, ?_, ?_⟩ <;> go_simp <;> rfl
/-- What Insert finds behind the loop. -/
structure Found (w w' : World) (x : E) (G g b c : Nat) (L : List E) (i : Nat) : Prop where
  below : Below w.heap.size w w'
  eb : EBox w' G x
  g0 : w'.cell? ⟨g, 0, none⟩ = some (.slice (some ⟨b, 0, none⟩) L.length c)
  fr : ∀ o, w'.frozen? ⟨g, o, none⟩ = false
  at' : EAt w' (some ⟨b, 0, none⟩) L
theorem Found.on {w w' w'' : World} {x : E} {G g b c : Nat} {L : List E} {i : Nat} (h : Found w w' x G g b c L i) (hg : g < w.heap.size) (hb : Below w'.heap.size w' w'') (j : Nat) : Found w w'' x G g b c L j :=
  have hl := Nat.lt_of_lt_of_le hg h.below.size
  ⟨h.below.trans (hb.mono h.below.size), h.eb.below hb, (hb.cell (p := ⟨g, 0, none⟩) hl).trans h.g0, fun o => (hb.frozen (p := ⟨g, o, none⟩) hl).trans (h.fr o), h.at'.below hb⟩
set_option maxRecDepth 100000 in
set_option maxHeartbeats 4000000 in
theorem refIns_some (x : E) (hm : mayB x.a x.b = true) (g b c : Nat) (L : List E) (w : World) (h0 : w.cell? ⟨g, 0, none⟩ = some (.slice (some ⟨b, 0, none⟩) L.length c)) (hfr : ∀ o, w.frozen? ⟨g, o, none⟩ = false) (hg : g < w.heap.size) (hc : L.length ≤ c) (hA : EAt w (some ⟨b, 0, none⟩) L) (hpos : 0 < L.length) (hs : L.length ≤ 1000000) (srt : Srt L) (hold : RT w g b L) :
    Calls Try.prog 10 #[.pointer (some ⟨g, 0, none⟩), .agg #[.int .u64 x.a, .int .u64 x.b], .int .u64 x.n] w fun e w' => e = .returned (.int .i64 (insR x L)) ∧ ∃ b', RT w' g b' (insL x L) ∧ But [g] w w' ∧ (b' = b ∨ w.heap.size ≤ b') := by
  have MY := refMay_any x.a x.b
  rw [hm] at MY
  replace MY := Lib.hid MY
  have K0 : Below w.heap.size w (w.alloc (.cells #[.int .u64 x.a, .int .u64 x.b] 32)) := (Below.refl _ _).alloc (Nat.le_refl _) _
  have pb : Box (w.alloc (.cells #[.int .u64 x.a, .int .u64 x.b] 32)) w.heap.size x.a x.b := box_at w x.a x.b _ _ rfl
  obtain ⟨W, hW⟩ : ∃ W, w.alloc (.cells #[.int .u64 x.a, .int .u64 x.b] 32) = W := ⟨_, rfl⟩
  rw [hW] at K0 pb
  have d0 := pb.c0
  have d1 := pb.c1
  have KB := Lib.hid K0
  have PB := Lib.hid pb
  have HP := Lib.hid (insL_in (x := x) (L := L) hm)
  have HN := Lib.hid (insL_new (x := x) (L := L) hm)
  have HI := Lib.hid (fun i => not_in (L := L) (x := x) (i := i) srt)
  have HO := Lib.hid hold
  have F0 := Lib.hid (show ∀ w', Below w.heap.size w w' → ∀ G, EBox w' G x → Found w w' x G g b c L 0 from fun w' hb G he => ⟨hb, he, (hb.cell (p := ⟨g, 0, none⟩) hg).trans h0, fun o => (hb.frozen (p := ⟨g, o, none⟩) hg).trans (hfr o), hA.below hb⟩)
  have HG := Lib.hid hg
  clear K0 pb hm srt h0 hfr hA hold hg
  go_enter Try.func10, Try.ntmps10
  go_upto_region 1 with fail
  try rw [hW]
  clear hW
  go_wp2_with fail
  refine (MY.out _).mono ?_
  rintro e1 w1 ⟨rfl, b1⟩
  clear d0 d1
  have d0 := (PB.out.below b1).c0
  have d1 := (PB.out.below b1).c1
  have B1 := Lib.hid (KB.out.trans (b1.mono KB.out.size))
  clear b1 KB PB
  obtain ⟨V, hV⟩ : ∃ V, w1.alloc (.cells #[.int .u64 x.a, .int .u64 x.b, .int .u64 x.n] 67) = V := ⟨_, rfl⟩
  have FV := Lib.hid (F0.out V (by rw [← hV]; exact B1.out.alloc B1.out.size _) w1.heap.size (by rw [← hV]; exact ebox_at _ x _ _ rfl))
  go_wp2_with fail
  try rw [hV]
  clear hV d0 d1
  obtain ⟨G, hG⟩ : ∃ G, w1.heap.size = G := ⟨_, rfl⟩
  rw [hG] at FV ⊢
  clear hG F0 MY
  go_loopw [8] (fun v wr => ∃ i : Nat, v = .int .i64 i ∧ i ≤ L.length ∧ (∀ k (h : k < L.length), k < i → Itree.lt L[k] x) ∧ Found w wr x G g b c L i) (fun v _ => L.length - (intOf v).toNat)
  case atStart => exact ⟨0, rfl, Nat.zero_le _, fun k _ h => absurd h (Nat.not_lt_zero k), FV.out⟩
  case round =>
    obtain ⟨i, rfl, hi, hlt, hf⟩ := hrel
    have F := Lib.hid hf
    have LT := Lib.hid hlt
    clear hf hlt FV
    by_cases hil : i < L.length
    · obtain ⟨g', off, e, hb', hcell⟩ := F.out.at' (by omega)
      injection e with e
      injection e with e1 e2
      subst e1 e2
      obtain ⟨z0, z1, z2⟩ := hcell i hil
      simp only [Nat.zero_add] at z0 z1 z2
      have K0 := Lib.hid (fun (w' : World) (h : Below wr.heap.size wr w') => (⟨h, (F.out.on HG.out h i).g0, (h.cell (p := ⟨b, i * 3, none⟩) hb').trans z0, (h.cell (p := ⟨b, i * 3 + 1, none⟩) hb').trans z1, (h.cell (p := ⟨b, i * 3 + 2, none⟩) hb').trans z2, (F.out.on HG.out h i).eb.c0, (F.out.on HG.out h i).eb.c1, (F.out.on HG.out h i).eb.c2⟩ : Below wr.heap.size wr w' ∧ w'.cell? ⟨g, 0, none⟩ = some (.slice (some ⟨b, 0, none⟩) L.length c) ∧ w'.cell? ⟨b, i * 3, none⟩ = some (.int .u64 (L[i].a)) ∧ w'.cell? ⟨b, i * 3 + 1, none⟩ = some (.int .u64 (L[i].b)) ∧ w'.cell? ⟨b, i * 3 + 2, none⟩ = some (.int .u64 (L[i].n)) ∧ w'.cell? ⟨G, 0, none⟩ = some (.int .u64 x.a) ∧ w'.cell? ⟨G, 1, none⟩ = some (.int .u64 x.b) ∧ w'.cell? ⟨G, 2, none⟩ = some (.int .u64 x.n)))
      obtain ⟨y, hy⟩ : ∃ y, L[i] = y := ⟨_, rfl⟩
      rw [hy] at K0
      have HY := Lib.hid hy
      have AH := Lib.hid (ahead_any y x)
      have i0 : (i : Int) < (L.length : Int) := by omega
      have i1 : (0 : Int) ≤ (i : Int) := by omega
      clear hcell z0 z1 z2 hb' hy
      go_upto_region 5 with fail
      go_region_held3 (fun w' => Below wr.heap.size wr w' ∧ w'.cell? ⟨g, 0, none⟩ = some (.slice (some ⟨b, 0, none⟩) L.length c) ∧ w'.cell? ⟨b, i * 3, none⟩ = some (.int .u64 (y.a)) ∧ w'.cell? ⟨b, i * 3 + 1, none⟩ = some (.int .u64 (y.b)) ∧ w'.cell? ⟨b, i * 3 + 2, none⟩ = some (.int .u64 (y.n)) ∧ w'.cell? ⟨G, 0, none⟩ = some (.int .u64 x.a) ∧ w'.cell? ⟨G, 1, none⟩ = some (.int .u64 x.b) ∧ w'.cell? ⟨G, 2, none⟩ = some (.int .u64 x.n)) (first | exact K0.out _ (Below.refl _ _).drew | (first | exact K0.out _ (by assumption) | (go_split_ands; exact K0.out _ (by assumption))) | fail) (first
        | (go_at_call 37; (go_split_ands; (with_reducible refine (AH.out _).mono ?_); rintro e2 w2 ⟨rfl, hb2⟩; have ch2 : Below wr.heap.size wr w2 := Below.trans (by assumption) (hb2.mono (Below.size (by assumption)))))
        | fail)
      all_goals (
        go_split_ands
        have FW := Lib.hid (fun j => F.out.on HG.out ch2 j)
        cases hb : ltB y x with
        | true =>
          have HB := Lib.hid hb
          clear hb
          go_wp2
          exact ⟨⟨i + 1, by go_num, by omega, fun k hk hki => by
            rcases Nat.lt_succ_iff_lt_or_eq.1 hki with h | rfl
            · exact LT.out k hk h
            · rw [HY.out]; exact of_decide_eq_true HB.out, FW.out _⟩, by simp [intOf]; omega⟩
        | false =>
          have HB := Lib.hid (show ¬ Itree.lt y x from fun h => by rw [ltB, decide_eq_true h] at hb; cases hb)
          clear hb
          obtain ⟨_, k0, k1, k2, k3, k4, k5, k6⟩ := K0.out _ ch2
          clear K0 AH
          go_upto_region 7 with fail
          by_cases ha : y.a = x.a
          · have ga : (y.a == x.a) = true := by simpa using ha
            by_cases hb : y.b = x.b
            · have gb : (y.b == x.b) = true := by simpa using hb
              by_cases hn : y.n = x.n
              · have gn : (y.n == x.n) = true := by simpa using hn
                have hx : x ∈ L := (Itree.E.ext' ha hb hn : y = x) ▸ HY.out ▸ List.getElem_mem hil
                have HX := Lib.hid (HP.out hx)
                clear ha hb hn hx
                go_quiet (fail)
                go_wp2
                go_ret
                have hbl := (FW.out 0).below.trans ((show Below w2.heap.size w2 (w2.drewN nq) from ⟨rfl, rfl, rfl, Nat.le_refl _, fun _ _ => rfl⟩).mono (FW.out 0).below.size)
                exact ⟨by rw [HX.out.1]; rfl, b, by rw [HX.out.2]; exact HO.out.below hbl, But.of_below hbl, .inl rfl⟩
              · have hn' : (y.n == x.n) = false := by simpa using hn
                have HX := Lib.hid (HN.out (HI.out i LT.out (.inr ⟨hil, by rw [HY.out]; exact HB.out, by rw [HY.out]; intro e; exact hn (congrArg E.n e)⟩)))
                have HQ := Lib.hid (put_at (L := L) (x := x) (i := i) LT.out (.inr ⟨hil, by rw [HY.out]; exact HB.out⟩))
                clear hn ha hb
                go_quiet (fail)
                clear k0 k1 k2 k3 k4 k5 k6 hn' ga gb
                obtain ⟨X, hX⟩ : ∃ X, w2.drewN nq = X := ⟨_, rfl⟩
                have FX := Lib.hid (show Found w X x G g b c L 0 by rw [← hX]; exact (FW.out 0).on HG.out (show Below w2.heap.size w2 (w2.drewN nq) from ⟨rfl, rfl, rfl, Nat.le_refl _, fun _ _ => rfl⟩) 0)
                rw [hX]
                clear hX
                have q0 := FX.out.g0
                go_wp2_with (first
                  | (at_builtin; refine wpList_appRs _ rfl _ (.tmp 60) rfl X.heap.size (.slice none 0 0) [] rfl (OwnR.nil _ _) (some ⟨b, 0, none⟩) i c (L.take i) rfl (FX.out.at'.take i) (by intro h; cases h) (by rw [List.length_take]; omega) (by rw [List.length_take]; simp; omega) (Nat.le_refl _) ?_; intro v1 y1 ho1 hb1; have O1 := Lib.hid ho1; have FY := Lib.hid (FX.out.on HG.out hb1 0); have GB := Lib.hid hb1; clear ho1 hb1 q0; have q0 := FY.out.g0; have q4 := FY.out.eb.c0; have q5 := FY.out.eb.c1; have q6 := FY.out.eb.c2)
                  | (at_builtin; refine wpList_appRs _ rfl _ (.tmp 64) rfl X.heap.size v1 ([] ++ L.take i) rfl (O1.out.alloc _) (some ⟨y1.heap.size, 0, none⟩) 1 1 [x] rfl (one_at _ _ _) (by intro h; cases h) rfl (by rw [List.nil_append, List.length_take]; simp; omega) (by simp; exact Nat.le_trans GB.out.size (Nat.le_succ _)) ?_; intro v2 y2 ho2 hb2; have O2 := Lib.hid ho2; have GB2 := Lib.hid ((GB.out.alloc GB.out.size _).trans hb2); clear ho2 hb2 q0 q4 q5 q6; have FZ := Lib.hid (FX.out.on HG.out GB2.out 0); have q0 := FZ.out.g0)
                  | (at_builtin; refine wpList_appRs _ rfl _ (.tmp 73) rfl X.heap.size v2 ([] ++ L.take i ++ [x]) rfl O2.out (some ⟨b, i * 3, none⟩) (L.length - i) (c - i) (L.drop i) rfl (FZ.out.at'.drop i) (by intro h; cases h) (by rw [List.length_drop]) (by rw [List.nil_append, List.length_append, List.length_take, List.length_drop]; simp; omega) GB2.out.size ?_; intro v3 y3 ho3 hb3; have GB3 := Lib.hid (GB2.out.trans (hb3.mono (Nat.le_refl _))); have ho4 : OwnR X.heap.size y3 v3 (put x L) := (by rw [HQ.out]; exact ho3); clear ho3; obtain ⟨b3, c3, rfl, _⟩ := ho4.lies (by rw [put_len]; omega); have O3 := Lib.hid ho4; clear ho4; clear hb3 q0; have FT := Lib.hid (FX.out.on HG.out GB3.out 0); have q0 := FT.out.g0; have qf := FT.out.fr)
                  | fail)
                go_ret
                obtain ⟨b', r1, r2, r3⟩ := RT.stored q0 qf (Nat.lt_of_lt_of_le HG.out FX.out.below.size) GB3.out.size O3.out (by rw [put_len]; omega) rfl
                exact ⟨by rw [HX.out.1]; rfl, b', by rw [HX.out.2]; exact r1, ((But.of_below (S := [g]) FX.out.below).on GB3.out).trans r3 (by simp), .inr (Nat.le_trans FX.out.below.size r2)⟩
            · have hb' : (y.b == x.b) = false := by simpa using hb
              have HX := Lib.hid (HN.out (HI.out i LT.out (.inr ⟨hil, by rw [HY.out]; exact HB.out, by rw [HY.out]; intro e; exact hb (congrArg E.b e)⟩)))
              have HQ := Lib.hid (put_at (L := L) (x := x) (i := i) LT.out (.inr ⟨hil, by rw [HY.out]; exact HB.out⟩))
              clear hb ha
              go_quiet (fail)
              clear k0 k1 k2 k3 k4 k5 k6 hb' ga
              obtain ⟨X, hX⟩ : ∃ X, w2.drewN nq = X := ⟨_, rfl⟩
              have FX := Lib.hid (show Found w X x G g b c L 0 by rw [← hX]; exact (FW.out 0).on HG.out (show Below w2.heap.size w2 (w2.drewN nq) from ⟨rfl, rfl, rfl, Nat.le_refl _, fun _ _ => rfl⟩) 0)
              rw [hX]
              clear hX
              have q0 := FX.out.g0
              go_wp2_with (first
                | (at_builtin; refine wpList_appRs _ rfl _ (.tmp 60) rfl X.heap.size (.slice none 0 0) [] rfl (OwnR.nil _ _) (some ⟨b, 0, none⟩) i c (L.take i) rfl (FX.out.at'.take i) (by intro h; cases h) (by rw [List.length_take]; omega) (by rw [List.length_take]; simp; omega) (Nat.le_refl _) ?_; intro v1 y1 ho1 hb1; have O1 := Lib.hid ho1; have FY := Lib.hid (FX.out.on HG.out hb1 0); have GB := Lib.hid hb1; clear ho1 hb1 q0; have q0 := FY.out.g0; have q4 := FY.out.eb.c0; have q5 := FY.out.eb.c1; have q6 := FY.out.eb.c2)
                | (at_builtin; refine wpList_appRs _ rfl _ (.tmp 64) rfl X.heap.size v1 ([] ++ L.take i) rfl (O1.out.alloc _) (some ⟨y1.heap.size, 0, none⟩) 1 1 [x] rfl (one_at _ _ _) (by intro h; cases h) rfl (by rw [List.nil_append, List.length_take]; simp; omega) (by simp; exact Nat.le_trans GB.out.size (Nat.le_succ _)) ?_; intro v2 y2 ho2 hb2; have O2 := Lib.hid ho2; have GB2 := Lib.hid ((GB.out.alloc GB.out.size _).trans hb2); clear ho2 hb2 q0 q4 q5 q6; have FZ := Lib.hid (FX.out.on HG.out GB2.out 0); have q0 := FZ.out.g0)
                | (at_builtin; refine wpList_appRs _ rfl _ (.tmp 73) rfl X.heap.size v2 ([] ++ L.take i ++ [x]) rfl O2.out (some ⟨b, i * 3, none⟩) (L.length - i) (c - i) (L.drop i) rfl (FZ.out.at'.drop i) (by intro h; cases h) (by rw [List.length_drop]) (by rw [List.nil_append, List.length_append, List.length_take, List.length_drop]; simp; omega) GB2.out.size ?_; intro v3 y3 ho3 hb3; have GB3 := Lib.hid (GB2.out.trans (hb3.mono (Nat.le_refl _))); have ho4 : OwnR X.heap.size y3 v3 (put x L) := (by rw [HQ.out]; exact ho3); clear ho3; obtain ⟨b3, c3, rfl, _⟩ := ho4.lies (by rw [put_len]; omega); have O3 := Lib.hid ho4; clear ho4; clear hb3 q0; have FT := Lib.hid (FX.out.on HG.out GB3.out 0); have q0 := FT.out.g0; have qf := FT.out.fr)
                | fail)
              go_ret
              obtain ⟨b', r1, r2, r3⟩ := RT.stored q0 qf (Nat.lt_of_lt_of_le HG.out FX.out.below.size) GB3.out.size O3.out (by rw [put_len]; omega) rfl
              exact ⟨by rw [HX.out.1]; rfl, b', by rw [HX.out.2]; exact r1, ((But.of_below (S := [g]) FX.out.below).on GB3.out).trans r3 (by simp), .inr (Nat.le_trans FX.out.below.size r2)⟩
          · have ha' : (y.a == x.a) = false := by simpa using ha
            have HX := Lib.hid (HN.out (HI.out i LT.out (.inr ⟨hil, by rw [HY.out]; exact HB.out, by rw [HY.out]; intro e; exact ha (congrArg E.a e)⟩)))
            have HQ := Lib.hid (put_at (L := L) (x := x) (i := i) LT.out (.inr ⟨hil, by rw [HY.out]; exact HB.out⟩))
            clear ha
            go_quiet (fail)
            clear k0 k1 k2 k3 k4 k5 k6 ha'
            obtain ⟨X, hX⟩ : ∃ X, w2.drewN nq = X := ⟨_, rfl⟩
            have FX := Lib.hid (show Found w X x G g b c L 0 by rw [← hX]; exact (FW.out 0).on HG.out (show Below w2.heap.size w2 (w2.drewN nq) from ⟨rfl, rfl, rfl, Nat.le_refl _, fun _ _ => rfl⟩) 0)
            rw [hX]
            clear hX
            have q0 := FX.out.g0
            go_wp2_with (first
              | (at_builtin; refine wpList_appRs _ rfl _ (.tmp 60) rfl X.heap.size (.slice none 0 0) [] rfl (OwnR.nil _ _) (some ⟨b, 0, none⟩) i c (L.take i) rfl (FX.out.at'.take i) (by intro h; cases h) (by rw [List.length_take]; omega) (by rw [List.length_take]; simp; omega) (Nat.le_refl _) ?_; intro v1 y1 ho1 hb1; have O1 := Lib.hid ho1; have FY := Lib.hid (FX.out.on HG.out hb1 0); have GB := Lib.hid hb1; clear ho1 hb1 q0; have q0 := FY.out.g0; have q4 := FY.out.eb.c0; have q5 := FY.out.eb.c1; have q6 := FY.out.eb.c2)
              | (at_builtin; refine wpList_appRs _ rfl _ (.tmp 64) rfl X.heap.size v1 ([] ++ L.take i) rfl (O1.out.alloc _) (some ⟨y1.heap.size, 0, none⟩) 1 1 [x] rfl (one_at _ _ _) (by intro h; cases h) rfl (by rw [List.nil_append, List.length_take]; simp; omega) (by simp; exact Nat.le_trans GB.out.size (Nat.le_succ _)) ?_; intro v2 y2 ho2 hb2; have O2 := Lib.hid ho2; have GB2 := Lib.hid ((GB.out.alloc GB.out.size _).trans hb2); clear ho2 hb2 q0 q4 q5 q6; have FZ := Lib.hid (FX.out.on HG.out GB2.out 0); have q0 := FZ.out.g0)
              | (at_builtin; refine wpList_appRs _ rfl _ (.tmp 73) rfl X.heap.size v2 ([] ++ L.take i ++ [x]) rfl O2.out (some ⟨b, i * 3, none⟩) (L.length - i) (c - i) (L.drop i) rfl (FZ.out.at'.drop i) (by intro h; cases h) (by rw [List.length_drop]) (by rw [List.nil_append, List.length_append, List.length_take, List.length_drop]; simp; omega) GB2.out.size ?_; intro v3 y3 ho3 hb3; have GB3 := Lib.hid (GB2.out.trans (hb3.mono (Nat.le_refl _))); have ho4 : OwnR X.heap.size y3 v3 (put x L) := (by rw [HQ.out]; exact ho3); clear ho3; obtain ⟨b3, c3, rfl, _⟩ := ho4.lies (by rw [put_len]; omega); have O3 := Lib.hid ho4; clear ho4; clear hb3 q0; have FT := Lib.hid (FX.out.on HG.out GB3.out 0); have q0 := FT.out.g0; have qf := FT.out.fr)
              | fail)
            go_ret
            obtain ⟨b', r1, r2, r3⟩ := RT.stored q0 qf (Nat.lt_of_lt_of_le HG.out FX.out.below.size) GB3.out.size O3.out (by rw [put_len]; omega) rfl
            exact ⟨by rw [HX.out.1]; rfl, b', by rw [HX.out.2]; exact r1, ((But.of_below (S := [g]) FX.out.below).on GB3.out).trans r3 (by simp), .inr (Nat.le_trans FX.out.below.size r2)⟩)
    · obtain rfl : i = L.length := by omega
      have HX := Lib.hid (HN.out (HI.out L.length LT.out (.inl rfl)))
      have HQ := Lib.hid (put_at (L := L) (x := x) (i := L.length) LT.out (.inl rfl))
      have g0 := F.out.g0
      go_upto_region 5 with fail
      go_quiet (fail)
      clear g0
      obtain ⟨Y, hY⟩ : ∃ Y, wr.drewN nq = Y := ⟨_, rfl⟩
      have F1 := Lib.hid (show Found w Y x G g b c L 0 by rw [← hY]; exact F.out.on HG.out (show Below wr.heap.size wr (wr.drewN nq) from ⟨rfl, rfl, rfl, Nat.le_refl _, fun _ _ => rfl⟩) 0)
      rw [hY]
      clear hY
      have g0 := F1.out.g0
      go_upto_region 7 with fail
      go_quiet (fail)
      clear g0
      obtain ⟨X, hX⟩ : ∃ X, Y.drewN nq = X := ⟨_, rfl⟩
      have FX := Lib.hid (show Found w X x G g b c L 0 by rw [← hX]; exact F1.out.on HG.out (show Below Y.heap.size Y (Y.drewN nq) from ⟨rfl, rfl, rfl, Nat.le_refl _, fun _ _ => rfl⟩) 0)
      rw [hX]
      clear hX F1
      have q0 := FX.out.g0
      go_wp2_with (first
        | (at_builtin; refine wpList_appRs _ rfl _ (.tmp 60) rfl X.heap.size (.slice none 0 0) [] rfl (OwnR.nil _ _) (some ⟨b, 0, none⟩) L.length c L rfl FX.out.at' (by intro h; cases h) rfl (by simp; omega) (Nat.le_refl _) ?_; intro v1 y1 ho1 hb1; have O1 := Lib.hid ho1; have FY := Lib.hid (FX.out.on HG.out hb1 0); have GB := Lib.hid hb1; clear ho1 hb1 q0; have q0 := FY.out.g0; have q4 := FY.out.eb.c0; have q5 := FY.out.eb.c1; have q6 := FY.out.eb.c2)
        | (at_builtin; refine wpList_appRs _ rfl _ (.tmp 64) rfl X.heap.size v1 ([] ++ L) rfl (O1.out.alloc _) (some ⟨y1.heap.size, 0, none⟩) 1 1 [x] rfl (one_at _ _ _) (by intro h; cases h) rfl (by simp; omega) (by simp; exact Nat.le_trans GB.out.size (Nat.le_succ _)) ?_; intro v2 y2 ho2 hb2; have O2 := Lib.hid ho2; have GB2 := Lib.hid ((GB.out.alloc GB.out.size _).trans hb2); clear ho2 hb2 q0 q4 q5 q6; have FZ := Lib.hid (FX.out.on HG.out GB2.out 0); have q0 := FZ.out.g0)
        | (at_builtin; refine wpList_appRs _ rfl _ (.tmp 73) rfl X.heap.size v2 ([] ++ L ++ [x]) rfl O2.out _ 0 _ [] rfl (fun h => absurd h (Nat.lt_irrefl 0)) (by intro h; first | cases h | (split at h <;> cases h)) rfl (by simp; omega) GB2.out.size ?_; intro v3 y3 ho3 hb3; have GB3 := Lib.hid (GB2.out.trans (hb3.mono (Nat.le_refl _))); have ho4 : OwnR X.heap.size y3 v3 (put x L) := (by rw [HQ.out, List.take_length, List.drop_length]; exact ho3); clear ho3; obtain ⟨b3, c3, rfl, _⟩ := ho4.lies (by rw [put_len]; omega); have O3 := Lib.hid ho4; clear ho4; clear hb3 q0; have FT := Lib.hid (FX.out.on HG.out GB3.out 0); have q0 := FT.out.g0; have qf := FT.out.fr)
        | fail)
      all_goals (
        go_ret
        obtain ⟨b', r1, r2, r3⟩ := RT.stored q0 qf (Nat.lt_of_lt_of_le HG.out FX.out.below.size) GB3.out.size O3.out (by rw [put_len]; omega) rfl
        exact ⟨by rw [HX.out.1]; rfl, b', by rw [HX.out.2]; exact r1, ((But.of_below (S := [g]) FX.out.below).on GB3.out).trans r3 (by simp), .inr (Nat.le_trans FX.out.below.size r2)⟩)
/-- The same, of an empty list. -/
structure Found0 (w w' : World) (x : E) (G g : Nat) : Prop where
  below : Below w.heap.size w w'
  eb : EBox w' G x
  g0 : w'.cell? ⟨g, 0, none⟩ = some (.slice none 0 0)
  fr : ∀ o, w'.frozen? ⟨g, o, none⟩ = false
theorem Found0.on {w w' w'' : World} {x : E} {G g : Nat} (h : Found0 w w' x G g) (hg : g < w.heap.size) (hb : Below w'.heap.size w' w'') : Found0 w w'' x G g :=
  have hl := Nat.lt_of_lt_of_le hg h.below.size
  ⟨h.below.trans (hb.mono h.below.size), h.eb.below hb, (hb.cell (p := ⟨g, 0, none⟩) hl).trans h.g0, fun o => (hb.frozen (p := ⟨g, o, none⟩) hl).trans (h.fr o)⟩
set_option maxRecDepth 100000 in
set_option maxHeartbeats 4000000 in
theorem refIns_nil (x : E) (hm : mayB x.a x.b = true) (g : Nat) (w : World) (h0 : w.cell? ⟨g, 0, none⟩ = some (.slice none 0 0)) (hfr : ∀ o, w.frozen? ⟨g, o, none⟩ = false) (hg : g < w.heap.size) :
    Calls Try.prog 10 #[.pointer (some ⟨g, 0, none⟩), .agg #[.int .u64 x.a, .int .u64 x.b], .int .u64 x.n] w fun e w' => e = .returned (.int .i64 0) ∧ ∃ b', RT w' g b' [x] ∧ But [g] w w' ∧ w.heap.size ≤ b' := by
  have MY := refMay_any x.a x.b
  rw [hm] at MY
  replace MY := Lib.hid MY
  have K0 : Below w.heap.size w (w.alloc (.cells #[.int .u64 x.a, .int .u64 x.b] 32)) := (Below.refl _ _).alloc (Nat.le_refl _) _
  have pb : Box (w.alloc (.cells #[.int .u64 x.a, .int .u64 x.b] 32)) w.heap.size x.a x.b := box_at w x.a x.b _ _ rfl
  obtain ⟨W, hW⟩ : ∃ W, w.alloc (.cells #[.int .u64 x.a, .int .u64 x.b] 32) = W := ⟨_, rfl⟩
  rw [hW] at K0 pb
  have d0 := pb.c0
  have d1 := pb.c1
  have KB := Lib.hid K0
  have PB := Lib.hid pb
  have F0 := Lib.hid (show ∀ w', Below w.heap.size w w' → ∀ G, EBox w' G x → Found0 w w' x G g from fun w' hb G he => ⟨hb, he, (hb.cell (p := ⟨g, 0, none⟩) hg).trans h0, fun o => (hb.frozen (p := ⟨g, o, none⟩) hg).trans (hfr o)⟩)
  have HG := Lib.hid hg
  clear K0 pb hm h0 hfr hg
  go_enter Try.func10, Try.ntmps10
  go_upto_region 1 with fail
  try rw [hW]
  clear hW
  go_wp2_with fail
  refine (MY.out _).mono ?_
  rintro e1 w1 ⟨rfl, b1⟩
  clear d0 d1
  have d0 := (PB.out.below b1).c0
  have d1 := (PB.out.below b1).c1
  have B1 := Lib.hid (KB.out.trans (b1.mono KB.out.size))
  clear b1 KB PB
  obtain ⟨V, hV⟩ : ∃ V, w1.alloc (.cells #[.int .u64 x.a, .int .u64 x.b, .int .u64 x.n] 67) = V := ⟨_, rfl⟩
  have FV := Lib.hid (F0.out V (by rw [← hV]; exact B1.out.alloc B1.out.size _) w1.heap.size (by rw [← hV]; exact ebox_at _ x _ _ rfl))
  go_wp2_with fail
  try rw [hV]
  clear hV d0 d1
  obtain ⟨G, hG⟩ : ∃ G, w1.heap.size = G := ⟨_, rfl⟩
  rw [hG] at FV ⊢
  clear hG F0 MY
  go_loopw [8] (fun v wr => v = .int .i64 0 ∧ Found0 w wr x G g) (fun _ _ => 0)
  case atStart => exact ⟨rfl, FV.out⟩
  case round =>
    obtain ⟨rfl, hf⟩ := hrel
    have F := Lib.hid hf
    clear hf FV
    have g0 := F.out.g0
    go_upto_region 5 with fail
    go_quiet (fail)
    clear g0
    obtain ⟨Y, hY⟩ : ∃ Y, wr.drewN nq = Y := ⟨_, rfl⟩
    have F1 := Lib.hid (show Found0 w Y x G g by rw [← hY]; exact F.out.on HG.out (show Below wr.heap.size wr (wr.drewN nq) from ⟨rfl, rfl, rfl, Nat.le_refl _, fun _ _ => rfl⟩))
    rw [hY]
    clear hY
    have g0 := F1.out.g0
    go_upto_region 7 with fail
    go_quiet (fail)
    clear g0
    obtain ⟨X, hX⟩ : ∃ X, Y.drewN nq = X := ⟨_, rfl⟩
    have FX := Lib.hid (show Found0 w X x G g by rw [← hX]; exact F1.out.on HG.out (show Below Y.heap.size Y (Y.drewN nq) from ⟨rfl, rfl, rfl, Nat.le_refl _, fun _ _ => rfl⟩))
    rw [hX]
    clear hX F1
    have q0 := FX.out.g0
    have q4 := FX.out.eb.c0
    have q5 := FX.out.eb.c1
    have q6 := FX.out.eb.c2
    go_wp2_with (first
      | (at_builtin; refine wpList_appRs _ rfl _ (.tmp 60) rfl X.heap.size (.slice none 0 0) [] rfl (OwnR.nil _ _) none 0 0 [] rfl (fun h => absurd h (Nat.lt_irrefl 0)) (fun _ => rfl) rfl (by simp) (Nat.le_refl _) ?_; intro v1 y1 ho1 hb1; have O1 := Lib.hid ho1; have FY := Lib.hid (FX.out.on HG.out hb1); have GB := Lib.hid hb1; clear ho1 hb1 q0 q4 q5 q6; have q0 := FY.out.g0; have q4 := FY.out.eb.c0; have q5 := FY.out.eb.c1; have q6 := FY.out.eb.c2)
      | (at_builtin; refine wpList_appRs _ rfl _ (.tmp 64) rfl X.heap.size v1 ([] ++ []) rfl (O1.out.alloc _) (some ⟨y1.heap.size, 0, none⟩) 1 1 [x] rfl (one_at _ _ _) (by intro h; cases h) rfl (by simp) (by simp; exact Nat.le_trans GB.out.size (Nat.le_succ _)) ?_; intro v2 y2 ho2 hb2; have O2 := Lib.hid ho2; have GB2 := Lib.hid ((GB.out.alloc GB.out.size _).trans hb2); clear ho2 hb2 q0 q4 q5 q6; have FZ := Lib.hid (FX.out.on HG.out GB2.out); have q0 := FZ.out.g0)
      | (at_builtin; refine wpList_appRs _ rfl _ (.tmp 73) rfl X.heap.size v2 ([] ++ [] ++ [x]) rfl O2.out none 0 0 [] rfl (fun h => absurd h (Nat.lt_irrefl 0)) (fun _ => rfl) rfl (by simp) GB2.out.size ?_; intro v3 y3 ho3 hb3; have GB3 := Lib.hid (GB2.out.trans (hb3.mono (Nat.le_refl _))); have ho4 : OwnR X.heap.size y3 v3 [x] := ho3; clear ho3; obtain ⟨b3, c3, rfl, _⟩ := ho4.lies (by simp); have O3 := Lib.hid ho4; clear ho4; clear hb3 q0; have FT := Lib.hid (FX.out.on HG.out GB3.out); have q0 := FT.out.g0; have qf := FT.out.fr)
      | fail)
    go_ret
    obtain ⟨b', r1, r2, r3⟩ := RT.stored q0 qf (Nat.lt_of_lt_of_le HG.out FX.out.below.size) GB3.out.size O3.out (by simp) rfl
    exact ⟨rfl, b', r1, ((But.of_below (S := [g]) FX.out.below).on GB3.out).trans r3 (by simp), Nat.le_trans FX.out.below.size r2⟩
/-- The document's Insert. -/
theorem refInsert_any (x : E) (g b : Nat) (L : List E) (w : World) (h : RT w g b L) (hs : L.length ≤ 1000000) (srt : Srt L) :
    Calls Try.prog 10 #[.pointer (some ⟨g, 0, none⟩), .agg #[.int .u64 x.a, .int .u64 x.b], .int .u64 x.n] w fun e w' => e = .returned (.int .i64 (insR x L)) ∧ ∃ b', RT w' g b' (insL x L) ∧ But [g] w w' ∧ (b' = b ∨ w.heap.size ≤ b') := by
  cases hm : mayB x.a x.b with
  | false =>
    obtain ⟨e1, e2⟩ := insL_arg (L := L) hm
    rw [e1, e2]
    refine (refIns_arg x g w hm).mono ?_
    rintro e w' ⟨rfl, hb⟩
    exact ⟨rfl, b, h.below hb, But.of_below hb, .inl rfl⟩
  | true =>
    have h' := h
    obtain ⟨h1, h2, ⟨rfl, a2⟩ | ⟨a1, a2, a3, c, a4, a5, a6⟩⟩ := h'
    · obtain ⟨e1, e2⟩ := insL_new (x := x) (L := []) hm (by simp)
      rw [e1, e2]
      refine (refIns_nil x hm g w a2 h1 h2).mono ?_
      rintro e w' ⟨rfl, b', r1, r2, r3⟩
      exact ⟨rfl, b', r1, r2, .inr r3⟩
    · exact refIns_some x hm g b c L w a5 h1 h2 a4 a6 a1 hs srt h
end Go.Proofs.Ytbifgmamjdniaaa

