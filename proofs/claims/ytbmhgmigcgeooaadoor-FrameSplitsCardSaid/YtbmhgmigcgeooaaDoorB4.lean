/- first: a frame is there. -/
import Derived.Test.YtbmhgmigcgeooaaDoorB3
namespace Go.Proofs.YtbmhgmigcgeooaaDoor
open Go.RowKit
/-- A body, as it stands in a block behind three bytes. -/
def bodyA (g n : Nat) : Option Addr := if n = 0 then some ⟨g, 0, none⟩ else some ⟨g, 3, none⟩
def bodyV (g n : Nat) : Value := .slice (bodyA g n) n n
def FirstYes (w : World) (b : List UInt8) (e : Ending) (w' : World) : Prop :=
  ∃ g, e = .returned (.tuple #[.agg #[.int .i64 (kindB b : Int), bodyV g (lenB b)], .bool true]) ∧ Mine w.heap.size w' g (b.take (3 + lenB b)) ∧ Below w.heap.size w w'
theorem nextB_strip {b : List UInt8} (h : nextB b = true) : stripE (b.take (7 + lenB b)) = 0 ∧ stripL (b.take (7 + lenB b)) = b.take (3 + lenB b) := by
  have h2 := of_decide_eq_true h
  have h7 : (b.take (7 + lenB b)).length = 7 + lenB b := by rw [List.length_take]; omega
  have e : stripE (b.take (7 + lenB b)) = 0 := by
    unfold stripE
    rw [if_neg (by omega), h7, List.take_take, show min (7 + lenB b - 4) (7 + lenB b) = 3 + lenB b by omega, if_pos h2.2.2.2.2.2]
  refine ⟨e, ?_⟩
  unfold stripL
  rw [if_pos e, h7, List.take_take, show min (7 + lenB b - 4) (7 + lenB b) = 3 + lenB b by omega]
set_option maxRecDepth 100000 in
set_option maxHeartbeats 4000000 in
theorem first_yes (bb off : Nat) (b : List UInt8) (cap : Nat) (w : World) (hE : Env w) (hA : At w (some ⟨bb, off, none⟩) b) (hc : b.length ≤ cap) (hm : b.length ≤ 140737488355328) (hy : nextB b = true) :
    Calls Tryd.prog 33 #[.slice (some ⟨bb, off, none⟩) b.length cap] w (FirstYes w b) := by
  have h3 : 3 ≤ b.length := (of_decide_eq_true hy).1
  have hkk := (of_decide_eq_true hy).2.1
  have hkk2 := (of_decide_eq_true hy).2.2.1
  have hnn := (of_decide_eq_true hy).2.2.2.1
  have hll := (of_decide_eq_true hy).2.2.2.2.1
  obtain ⟨hs1, hs2⟩ := nextB_strip hy
  have h7 : (b.take (7 + lenB b)).length = 7 + lenB b := by rw [List.length_take]; omega
  have h33 : (b.take (3 + lenB b)).length = 3 + lenB b := by rw [List.length_take]; omega
  have HP : Hid (∀ e w', FirstYes w b e w' = ∃ g, e = .returned (.tuple #[.agg #[.int .i64 (kindB b : Int), bodyV g (lenB b)], .bool true]) ∧ Mine w.heap.size w' g (b.take (3 + lenB b)) ∧ Below w.heap.size w w') := Lib.hid fun _ _ => rfl
  generalize FirstYes w b = Post at *
  clear hy
  obtain ⟨b', off', e, hlt, hcell⟩ := hA (by omega)
  injection e with e
  injection e with e1 e2
  subst e1 e2
  have q0 := hcell 0 (by omega)
  have q1 := hcell 1 (by omega)
  have q2 := hcell 2 (by omega)
  unfold bv at q0 q1 q2
  rw [Nat.add_zero] at q0
  clear hcell
  have p0 := (b.getD 0 0).toNat_lt
  have p1 := (b.getD 1 0).toNat_lt
  have p2 := (b.getD 2 0).toNat_lt
  have HO := Lib.hid (or_bytes (b.getD 1 0) (b.getD 2 0))
  have HK := Lib.hid (show kindB b = (b.getD 0 0).toNat from rfl)
  have HN := Lib.hid (show lenB b = 256 * (b.getD 1 0).toNat + (b.getD 2 0).toNat from rfl)
  generalize b.getD 0 0 = c0 at *
  generalize b.getD 1 0 = c1 at *
  generalize b.getD 2 0 = c2 at *
  obtain ⟨N, hN⟩ : ∃ N, 256 * c1.toNat + c2.toNat = N := ⟨_, rfl⟩
  have hN6 : N ≤ 65535 := by omega
  rw [hN] at HO HN
  clear hN
  have hkB := HK.out
  have hnB := HN.out
  rw [hkB] at HP hkk hkk2
  rw [hnB] at HP hnn hll h7 h33 hs1 hs2
  clear HK HN hkB hnB
  have HE := Lib.hid hE
  have HA := Lib.hid hA
  have CM := Lib.hid (fun w => mayKind_any (c0.toNat : Int) w)
  have CE := Lib.hid (fun w => encodedSize_any N w (by omega))
  clear hE hA
  have hmk := mayK_yes (k := (c0.toNat : Int)) (by omega) (by omega)
  rw [hmk] at CM
  clear hmk
  go_enter Tryd.func33, Tryd.ntmps33
  go_upto_region 3 with fail
  go_quiet (fail)
  obtain ⟨V, hV⟩ : ∃ V, ((w.alloc (Obj.cells #[Value.int IntKind.i64 0, Value.slice none 0 0] 27)).drewN nq) = V := ⟨_, rfl⟩
  have bV : Below w.heap.size w V := by rw [← hV]; exact below_drewN' ((Below.refl _ _).alloc (Nat.le_refl _) _) _
  have xV : Box2 V w.heap.size (.int .i64 0) (.slice none 0 0) := by
    rw [← hV]
    exact (Box2.new w (.int .i64 0) (.slice none 0 0) 27).below (below_drewN' (Below.refl _ _) nq)
  rw [hV, HO.out]
  clear hV q0 q1 q2 p0 p1 p2 HO
  have BV := Lib.hid bV
  have XV := Lib.hid xV
  clear bV xV
  have CS := Lib.hid (StripN (some ⟨bb, off, none⟩) (b.take (7 + N)) (N + 7) cap V (HE.out.below (BV.out)) (take_at _ (HA.out.below BV.out)) (fun h => by cases h) (by omega) (by omega) (by omega))
  unfold Strips at CS
  rw [hs1, hs2, h33] at CS
  have i7 : ((N : Int) + 7).toNat = N + 7 := by omega
  generalize b.take (3 + N) = sl at *
  clear hs1 hs2 h7
  have x0 := XV.out.c0
  have x1 := XV.out.c1
  have xf := XV.out.fr
  go_upto_region 8 with (first
    | (go_at_call 25; ((with_reducible refine (CE.out _).mono ?_); rintro e w' ⟨rfl, rfl⟩))
    | (go_at_call 29; ((with_reducible refine (CM.out _).mono ?_); rintro e w' ⟨rfl, rfl⟩))
    | (go_at_call 38; ((with_reducible refine (CS.out).mono ?_); rintro e w5 ⟨A5, c5, rfl, hc5, hA5, hM5, hb5⟩; have B5 := Lib.hid (BV.out.trans (hb5.mono BV.out.size)); have X5 := Lib.hid (XV.out.below hb5); have HA5 := Lib.hid hA5; have HM5 := Lib.hid hM5; have HC5 := Lib.hid hc5; clear hb5 x0 x1 xf hc5 hA5 hM5))
    | fail)
  obtain ⟨rfl, hM5⟩ : A5 = some ⟨V.heap.size, 0, none⟩ ∧ Mine V.heap.size w5 V.heap.size sl := by
    rcases HM5.out with h | h
    · subst h
      have := HA5.out.none_nil
      rw [this] at h33
      simp at h33
      omega
    · exact h
  obtain rfl : c5 = 3 + N := HC5.out
  have M5 := Lib.hid hM5
  clear hM5 HM5 HC5 HA5
  have hMU : ∀ x y, Mine w.heap.size ((w5.setCell ⟨w.heap.size, 0, none⟩ x).setCell ⟨w.heap.size, 1, none⟩ y) V.heap.size sl := fun x y => by
    have hne : V.heap.size ≠ w.heap.size := fun e => by have := XV.out.lt; omega
    have m := M5.out
    refine ⟨BV.out.size, by simpa [World.setCell] using m.lt, fun i hi => ?_, fun i => by rw [World.frozen?_setCell, World.frozen?_setCell]; exact m.free i, by obtain ⟨c, fr, e⟩ := m.typ; exact ⟨c, fr, (Below.heap_setCell _ _ _ _ hne).trans ((Below.heap_setCell _ _ _ _ hne).trans e)⟩⟩
    rw [World.cell?_setCell_other _ _ _ _ (fun e => hne (by injection e with e; exact e.symm)), World.cell?_setCell_other _ _ _ _ (fun e => hne (by injection e with e; exact e.symm))]
    exact m.cell i hi
  have HMU := Lib.hid hMU
  clear hMU
  by_cases h0 : N = 0
  · subst h0
    have x0 := X5.out.c0
    have x1 := X5.out.c1
    have xf := X5.out.fr
    have e0 := (X5.out.set (.int .i64 (c0.toNat : Int)) (.slice (some ⟨V.heap.size, 0, none⟩) 0 0)).c0
    have e1 := (X5.out.set (.int .i64 (c0.toNat : Int)) (.slice (some ⟨V.heap.size, 0, none⟩) 0 0)).c1
    have eb := X5.out.last (Nat.le_refl _) B5.out (.int .i64 (c0.toNat : Int)) (.slice (some ⟨V.heap.size, 0, none⟩) 0 0)
    have em := HMU.out (.int .i64 (c0.toNat : Int)) (.slice (some ⟨V.heap.size, 0, none⟩) 0 0)
    generalize hU : (w5.setCell _ _).setCell _ _ = U at e0 e1 eb em
    have EB := Lib.hid (And.intro e0 (And.intro e1 (And.intro eb em)))
    clear e0 e1 eb em
    go_wp2
    refine bodyPost_ret (v := .tuple #[.agg #[.int .i64 (c0.toNat : Int), .slice (some ⟨V.heap.size, 0, none⟩) 0 0], .bool true]) (by simp [results, Tryd.results33, go_sem, EB.out.1, EB.out.2.1]) rfl ?_
    rw [HP.out]
    exact ⟨V.heap.size, rfl, EB.out.2.2.2, EB.out.2.2.1⟩
  · have x0 := X5.out.c0
    have x1 := X5.out.c1
    have xf := X5.out.fr
    have e0 := (X5.out.set (.int .i64 (c0.toNat : Int)) (.slice (some ⟨V.heap.size, 3, none⟩) N N)).c0
    have e1 := (X5.out.set (.int .i64 (c0.toNat : Int)) (.slice (some ⟨V.heap.size, 3, none⟩) N N)).c1
    have eb := X5.out.last (Nat.le_refl _) B5.out (.int .i64 (c0.toNat : Int)) (.slice (some ⟨V.heap.size, 3, none⟩) N N)
    have em := HMU.out (.int .i64 (c0.toNat : Int)) (.slice (some ⟨V.heap.size, 3, none⟩) N N)
    have HF := Lib.hid (show bodyV V.heap.size N = .slice (some ⟨V.heap.size, 3, none⟩) N N by rw [bodyV, bodyA, if_neg h0])
    generalize hU : (w5.setCell _ _).setCell _ _ = U at e0 e1 eb em
    have EB := Lib.hid (And.intro e0 (And.intro e1 (And.intro eb em)))
    clear e0 e1 eb em
    go_wp2
    refine bodyPost_ret (v := .tuple #[.agg #[.int .i64 (c0.toNat : Int), .slice (some ⟨V.heap.size, 3, none⟩) N N], .bool true]) (by simp [results, Tryd.results33, go_sem, EB.out.1, EB.out.2.1]) rfl ?_
    rw [HP.out]
    exact ⟨V.heap.size, by rw [HF.out], EB.out.2.2.2, EB.out.2.2.1⟩
/-- What first gives. -/
def Firsts (w : World) (b : List UInt8) (e : Ending) (w' : World) : Prop :=
  (nextB b = true ∧ FirstYes w b e w') ∨ (nextB b = false ∧ e = .returned noFr ∧ Below w.heap.size w w')
theorem nextB_short {b : List UInt8} (h : b.length < 3) : nextB b = false := decide_eq_false fun h2 => by omega
theorem first_any (A : Option Addr) (b : List UInt8) (n cap : Nat) (w : World) (hE : Env w) (hA : At w A b) (hc : b.length ≤ cap) (hm : b.length ≤ 140737488355328) (hn : b.length = n) :
    Calls Tryd.prog 33 #[.slice A n cap] w (Firsts w b) := by
  subst hn
  by_cases h3 : b.length < 3
  · exact (first_short A b cap w h3).mono fun _ _ h => .inr ⟨nextB_short h3, h⟩
  · obtain ⟨bb, off, rfl, _, _⟩ := hA (by omega)
    cases hy : nextB b with
    | true => exact (first_yes bb off b cap w hE hA hc hm hy).mono fun _ _ h => .inl ⟨hy, h⟩
    | false => exact (first_no bb off b cap w hE hA (by omega) hc hm hy).mono fun _ _ h => .inr ⟨hy, h⟩
end Go.Proofs.YtbmhgmigcgeooaaDoor
