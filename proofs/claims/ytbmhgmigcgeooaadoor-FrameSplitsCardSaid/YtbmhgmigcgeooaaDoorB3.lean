/- first: the frame with which bytes begin. -/
import Derived.Test.YtbmhgmigcgeooaaDoorB2
namespace Go.Proofs.YtbmhgmigcgeooaaDoor
open Go.RowKit
theorem or_bytes (a b : UInt8) : bits .or .i64 ((a.toNat : Int) * 256) (b.toNat : Int) = ((256 * a.toNat + b.toNat : Nat) : Int) := by
  have ha := a.toNat_lt
  have hb := b.toNat_lt
  have hx : 256 * a.toNat ||| b.toNat = 256 * a.toNat + b.toNat := (Nat.two_pow_add_eq_or_of_lt (i := 8) (by omega) a.toNat).symm
  rw [show (a.toNat : Int) * 256 = ((256 * a.toNat : Nat) : Int) by omega, ← hx]
  show IntKind.i64.wrap ((BitVec.ofInt 64 ((256 * a.toNat : Nat) : Int) ||| BitVec.ofInt 64 (b.toNat : Int)).toNat : Int) = _
  rw [BitVec.toNat_or, ofInt_u64 _ (by omega), ofInt_u64 _ (by omega), IntWalk.i64_in _ (by omega)]
/-- What first gives where there is none. -/
def noFr : Value := .tuple #[.agg #[.int .i64 0, .slice none 0 0], .bool false]
set_option maxRecDepth 100000 in
set_option maxHeartbeats 1000000 in
theorem first_short (A : Option Addr) (b : List UInt8) (cap : Nat) (w : World) (h : b.length < 3) :
    Calls Tryd.prog 33 #[.slice A b.length cap] w fun e w' => e = .returned noFr ∧ Below w.heap.size w w' := by
  go_enter Tryd.func33, Tryd.ntmps33
  go_wp2
  exact bodyPost_ret (v := noFr) (by simp [noFr, results, Tryd.results33, go_sem]) rfl ⟨rfl, (Below.refl _ _).alloc (Nat.le_refl _) _⟩
/-- Two cells in a block. -/
structure Box2 (w : World) (g : Nat) (x y : Value) : Prop where
  c0 : w.cell? ⟨g, 0, none⟩ = some x
  c1 : w.cell? ⟨g, 1, none⟩ = some y
  fr : ∀ o, w.frozen? ⟨g, o, none⟩ = false
  lt : g < w.heap.size
theorem Box2.below {w w' : World} {g : Nat} {x y : Value} (h : Box2 w g x y) (hb : Below w.heap.size w w') : Box2 w' g x y :=
  ⟨(hb.cell (p := ⟨g, 0, none⟩) h.lt).trans h.c0, (hb.cell (p := ⟨g, 1, none⟩) h.lt).trans h.c1, fun o => (hb.frozen (p := ⟨g, o, none⟩) h.lt).trans (h.fr o), Nat.lt_of_lt_of_le h.lt hb.size⟩
theorem Box2.new (w : World) (x y : Value) (t : TypeId) : Box2 (w.alloc (.cells #[x, y] t)) w.heap.size x y := by
  refine ⟨?_, ?_, fun o => ?_, by simp⟩
  · rw [cell_of_row _ _ _ _ _ _ (heap_alloc_new w _)]; rfl
  · rw [cell_of_row _ _ _ _ _ _ (heap_alloc_new w _)]; rfl
  · go_simp
theorem Box2.set {w : World} {g : Nat} {x y : Value} (h : Box2 w g x y) (x' y' : Value) : Box2 ((w.setCell ⟨g, 0, none⟩ x').setCell ⟨g, 1, none⟩ y') g x' y' := by
  have o (i j : Nat) (v : Value) (w : World) (h : i ≠ j) : (w.setCell ⟨g, i, none⟩ v).cell? ⟨g, j, none⟩ = w.cell? ⟨g, j, none⟩ := World.cell?_setCell_other _ _ _ _ (fun e => h (by injection e))
  have d0 : (w.setCell ⟨g, 0, none⟩ x').cell? ⟨g, 0, none⟩ = some x' := World.cell?_setCell_same _ _ _ h.c0
  exact ⟨(o 1 0 _ _ (by decide)).trans d0, World.cell?_setCell_same _ _ _ ((o 0 1 _ _ (by decide)).trans h.c1), fun i => by simpa [World.frozen?_setCell] using h.fr i, by simpa [World.setCell] using h.lt⟩
theorem Box2.last {w : World} {g : Nat} {x y : Value} (_ : Box2 w g x y) {base : World} (hg : base.heap.size ≤ g) (hb : Below base.heap.size base w) (x' y' : Value) : Below base.heap.size base ((w.setCell ⟨g, 0, none⟩ x').setCell ⟨g, 1, none⟩ y') :=
  (hb.setCell (p := ⟨g, 0, none⟩) hg _).setCell (p := ⟨g, 1, none⟩) hg _
theorem StripN (A : Option Addr) (l : List UInt8) (n cap : Nat) (w : World) (h : Env w) (hA : At w A l) (hz : A = none → cap = 0) (hc : l.length ≤ cap) (hm : l.length ≤ 140737488355328) (hn : l.length = n) :
    Calls Tryd.prog 38 #[.slice A n cap] w (Strips w l) := by
  subst hn
  exact Strip_any A l cap w h hA hz hc hm
set_option maxRecDepth 100000 in
set_option maxHeartbeats 4000000 in
theorem first_no (bb off : Nat) (b : List UInt8) (cap : Nat) (w : World) (hE : Env w) (hA : At w (some ⟨bb, off, none⟩) b) (h3 : 3 ≤ b.length) (hc : b.length ≤ cap) (hm : b.length ≤ 140737488355328) (hno : nextB b = false) :
    Calls Tryd.prog 33 #[.slice (some ⟨bb, off, none⟩) b.length cap] w fun e w' => e = .returned noFr ∧ Below w.heap.size w w' := by
  obtain ⟨b', off', e, hlt, hcell⟩ := hA (by omega)
  injection e with e
  injection e with e1 e2
  subst e1 e2
  have q0 := hcell 0 (by omega)
  have q1 := hcell 1 (by omega)
  have q2 := hcell 2 (by omega)
  unfold bv at q0 q1 q2
  rw [Nat.add_zero] at q0
  clear hcell
  have p0 := (b.getD 0 0).toNat_lt
  have p1 := (b.getD 1 0).toNat_lt
  have p2 := (b.getD 2 0).toNat_lt
  have HO := Lib.hid (or_bytes (b.getD 1 0) (b.getD 2 0))
  have HK := Lib.hid (show kindB b = (b.getD 0 0).toNat from rfl)
  have HN := Lib.hid (show lenB b = 256 * (b.getD 1 0).toNat + (b.getD 2 0).toNat from rfl)
  generalize b.getD 0 0 = c0 at *
  generalize b.getD 1 0 = c1 at *
  generalize b.getD 2 0 = c2 at *
  obtain ⟨N, hN⟩ : ∃ N, 256 * c1.toNat + c2.toNat = N := ⟨_, rfl⟩
  have hN6 : N ≤ 65535 := by omega
  rw [hN] at HO HN
  clear hN
  have HE := Lib.hid hE
  have HA := Lib.hid hA
  have CM := Lib.hid (fun w => mayKind_any (c0.toNat : Int) w)
  have CE := Lib.hid (fun w => encodedSize_any N w (by omega))
  clear hE hA
  go_enter Tryd.func33, Tryd.ntmps33
  go_upto_region 3 with fail
  go_quiet (fail)
  obtain ⟨V, hV⟩ : ∃ V, ((w.alloc (Obj.cells #[Value.int IntKind.i64 0, Value.slice none 0 0] 27)).drewN nq) = V := ⟨_, rfl⟩
  have bV : Below w.heap.size w V := by rw [← hV]; exact below_drewN' ((Below.refl _ _).alloc (Nat.le_refl _) _) _
  have xV : Box2 V w.heap.size (.int .i64 0) (.slice none 0 0) := by
    rw [← hV]
    exact (Box2.new w (.int .i64 0) (.slice none 0 0) 27).below (below_drewN' (Below.refl _ _) nq)
  rw [hV, HO.out]
  clear hV q0 q1 q2 p0 p1 p2 HO
  have BV := Lib.hid bV
  have XV := Lib.hid xV
  clear bV xV
  by_cases hk : 1 ≤ c0.toNat ∧ c0.toNat ≤ 3
  · have hmk := mayK_yes (k := (c0.toNat : Int)) (by omega) (by omega)
    rw [hmk] at CM
    clear hmk
    by_cases hn : 2048 < N
    · have e0 := (XV.out.set (.int .i64 0) (.slice none 0 0)).c0
      have e1 := (XV.out.set (.int .i64 0) (.slice none 0 0)).c1
      have eb := XV.out.last (Nat.le_refl _) BV.out (.int .i64 0) (.slice none 0 0)
      have x0 := XV.out.c0
      have x1 := XV.out.c1
      have xf := XV.out.fr
      generalize hU : (V.setCell _ _).setCell _ _ = U at e0 e1 eb
      have EB := Lib.hid (And.intro e0 (And.intro e1 eb))
      clear e0 e1 eb
      go_wp2_with (first
        | (go_at_call 25; ((with_reducible refine (CE.out _).mono ?_); rintro e w' ⟨rfl, rfl⟩))
        | (go_at_call 29; ((with_reducible refine (CM.out _).mono ?_); rintro e w' ⟨rfl, rfl⟩))
        | fail)
      exact bodyPost_ret (v := noFr) (by simp [noFr, results, Tryd.results33, go_sem, EB.out.1, EB.out.2.1]) rfl ⟨rfl, EB.out.2.2⟩
    · by_cases hl : b.length < N + 7
      · have e0 := (XV.out.set (.int .i64 0) (.slice none 0 0)).c0
        have e1 := (XV.out.set (.int .i64 0) (.slice none 0 0)).c1
        have eb := XV.out.last (Nat.le_refl _) BV.out (.int .i64 0) (.slice none 0 0)
        have x0 := XV.out.c0
        have x1 := XV.out.c1
        have xf := XV.out.fr
        generalize hU : (V.setCell _ _).setCell _ _ = U at e0 e1 eb
        have EB := Lib.hid (And.intro e0 (And.intro e1 eb))
        clear e0 e1 eb
        go_wp2_with (first
          | (go_at_call 25; ((with_reducible refine (CE.out _).mono ?_); rintro e w' ⟨rfl, rfl⟩))
          | (go_at_call 29; ((with_reducible refine (CM.out _).mono ?_); rintro e w' ⟨rfl, rfl⟩))
          | fail)
        exact bodyPost_ret (v := noFr) (by simp [noFr, results, Tryd.results33, go_sem, EB.out.1, EB.out.2.1]) rfl ⟨rfl, EB.out.2.2⟩
      · have hs : stripE (b.take (N + 7)) ≠ 0 := fun e => by
          refine absurd hno ?_
          rw [show nextB b = true from decide_eq_true ?_]
          · simp
          · rw [HK.out, HN.out]
            refine ⟨h3, hk.1, hk.2, by omega, by omega, ?_⟩
            have h7 : (b.take (N + 7)).length = N + 7 := by rw [List.length_take]; omega
            unfold stripE at e
            rw [if_neg (by omega), h7] at e
            split at e
            · rename_i h
              rw [List.take_take, show min (N + 7 - 4) (N + 7) = 3 + N by omega] at h
              rw [h, Nat.add_comm]
            · cases e
        have ts : ((stripE (b.take (N + 7)) : Nat) : Int) ≠ 0 := by omega
        have h7 : (b.take (N + 7)).length = N + 7 := by rw [List.length_take]; omega
        have CS := Lib.hid (StripN (some ⟨bb, off, none⟩) (b.take (N + 7)) (N + 7) cap V (HE.out.below (BV.out)) (take_at _ (HA.out.below BV.out)) (fun h => by cases h) (by omega) (by omega) h7)
        have i7 : ((N : Int) + 7).toNat = N + 7 := by omega
        unfold Strips at CS
        clear hs h7
        generalize stripE (b.take (N + 7)) = z at *
        generalize stripL (b.take (N + 7)) = sl at *
        have x0 := XV.out.c0
        have x1 := XV.out.c1
        have xf := XV.out.fr
        go_upto_region 8 with (first
          | (go_at_call 25; ((with_reducible refine (CE.out _).mono ?_); rintro e w' ⟨rfl, rfl⟩))
          | (go_at_call 29; ((with_reducible refine (CM.out _).mono ?_); rintro e w' ⟨rfl, rfl⟩))
          | (go_at_call 38; ((with_reducible refine (CS.out).mono ?_); rintro e w5 ⟨A5, c5, rfl, -, -, -, hb5⟩; have B5 := Lib.hid (BV.out.trans (hb5.mono BV.out.size)); have X5 := Lib.hid (XV.out.below hb5); clear hb5 x0 x1 xf))
          | fail)
        have e0 := (X5.out.set (.int .i64 0) (.slice none 0 0)).c0
        have e1 := (X5.out.set (.int .i64 0) (.slice none 0 0)).c1
        have eb := X5.out.last (Nat.le_refl _) B5.out (.int .i64 0) (.slice none 0 0)
        have x0 := X5.out.c0
        have x1 := X5.out.c1
        have xf := X5.out.fr
        generalize hU : (w5.setCell _ _).setCell _ _ = U at e0 e1 eb
        have EB := Lib.hid (And.intro e0 (And.intro e1 eb))
        clear e0 e1 eb
        go_wp2
        exact bodyPost_ret (v := noFr) (by simp [noFr, results, Tryd.results33, go_sem, EB.out.1, EB.out.2.1]) rfl ⟨rfl, EB.out.2.2⟩
  · have hmk := mayK_no (k := (c0.toNat : Int)) (by omega)
    rw [hmk] at CM
    clear hmk
    have e0 := (XV.out.set (.int .i64 0) (.slice none 0 0)).c0
    have e1 := (XV.out.set (.int .i64 0) (.slice none 0 0)).c1
    have eb := XV.out.last (Nat.le_refl _) BV.out (.int .i64 0) (.slice none 0 0)
    have x0 := XV.out.c0
    have x1 := XV.out.c1
    have xf := XV.out.fr
    generalize hU : (V.setCell _ _).setCell _ _ = U at e0 e1 eb
    have EB := Lib.hid (And.intro e0 (And.intro e1 eb))
    clear e0 e1 eb
    go_wp2_with (first
      | (go_at_call 25; ((with_reducible refine (CE.out _).mono ?_); rintro e w' ⟨rfl, rfl⟩))
      | (go_at_call 29; ((with_reducible refine (CM.out _).mono ?_); rintro e w' ⟨rfl, rfl⟩))
      | fail)
    exact bodyPost_ret (v := noFr) (by simp [noFr, results, Tryd.results33, go_sem, EB.out.1, EB.out.2.1]) rfl ⟨rfl, EB.out.2.2⟩
end Go.Proofs.YtbmhgmigcgeooaaDoor
