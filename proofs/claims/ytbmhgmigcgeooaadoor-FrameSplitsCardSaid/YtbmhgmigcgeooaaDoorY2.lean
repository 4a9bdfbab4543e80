/- The document's Next where a frame begins. -/
import Derived.Test.YtbmhgmigcgeooaaDoorY1
namespace Go.Proofs.YtbmhgmigcgeooaaDoor
open Go.RowKit
def NextYes (w : World) (b : List UInt8) (e : Ending) (w' : World) : Prop :=
  ∃ A c, e = .returned (.tuple #[.agg #[.int .i64 (kindB b : Int), .slice A (lenB b) c], .int .i64 ((7 + lenB b : Nat) : Int)]) ∧ Own1 w.heap.size w' (.slice A (lenB b) c) ((b.take (3 + lenB b)).drop 3) ∧ Below w.heap.size w w'
theorem ref_ownN (A : Option Addr) (l : List UInt8) (n c : Nat) (w : World) (hA : At w A l) (hz : A = none → c = 0) (hn : l.length = n) (hm : l.length ≤ 140737488355328) :
    Calls Tryd.prog 35 #[.slice A n c] w fun e w' => ∃ B d, e = .returned (.slice B n d) ∧ Own1 w.heap.size w' (.slice B n d) l ∧ Below w.heap.size w w' := by
  refine (ref_own A l n c w hA hz hn hm).mono ?_
  rintro e w' ⟨v, rfl, ho, hb⟩
  obtain ⟨B, d, rfl, _, _, _⟩ := ho.at
  subst hn
  exact ⟨B, d, rfl, ho, hb⟩
theorem own_past {w : World} {base g : Nat} {v x y : Value} {l : List UInt8} (h : Own1 base w v l) (hg : g < base) : Own1 g ((w.setCell ⟨g, 0, none⟩ x).setCell ⟨g, 1, none⟩ y) v l := by
  refine ⟨h.1, ?_⟩
  rcases h.2 with hn | ⟨k, cap, cur, hv, hge, hh, rest⟩
  · exact .inl hn
  · have hne : k ≠ g := by omega
    exact .inr ⟨k, cap, cur, hv, by omega, (Below.heap_setCell _ _ _ _ hne).trans ((Below.heap_setCell _ _ _ _ hne).trans hh), rest⟩
set_option maxRecDepth 100000 in
set_option maxHeartbeats 4000000 in
theorem next_yes (bb off : Nat) (b : List UInt8) (cap : Nat) (w : World) (hA : At w (some ⟨bb, off, none⟩) b) (hc : b.length ≤ cap) (hm : b.length ≤ 140737488355328) (hy : nextB b = true) :
    Calls Tryd.prog 27 #[.slice (some ⟨bb, off, none⟩) b.length cap] w (NextYes w b) := by
  have h3 : 3 ≤ b.length := (of_decide_eq_true hy).1
  have hkk := (of_decide_eq_true hy).2.1
  have hkk2 := (of_decide_eq_true hy).2.2.1
  have hnn := (of_decide_eq_true hy).2.2.2.1
  have hll := (of_decide_eq_true hy).2.2.2.2.1
  obtain ⟨hs1, hs2⟩ := nextB_strip hy
  have h7 : (b.take (7 + lenB b)).length = 7 + lenB b := by rw [List.length_take]; omega
  have h33 : (b.take (3 + lenB b)).length = 3 + lenB b := by rw [List.length_take]; omega
  have HP : Hid (∀ e w', NextYes w b e w' = ∃ A c, e = .returned (.tuple #[.agg #[.int .i64 (kindB b : Int), .slice A (lenB b) c], .int .i64 ((7 + lenB b : Nat) : Int)]) ∧ Own1 w.heap.size w' (.slice A (lenB b) c) ((b.take (3 + lenB b)).drop 3) ∧ Below w.heap.size w w') := Lib.hid fun _ _ => rfl
  generalize NextYes w b = Post at *
  clear hy
  obtain ⟨b', off', e, hlt, hcell⟩ := hA (by omega)
  injection e with e
  injection e with e1 e2
  subst e1 e2
  have q0 := hcell 0 (by omega)
  have q1 := hcell 1 (by omega)
  have q2 := hcell 2 (by omega)
  unfold bv at q0 q1 q2
  rw [Nat.add_zero] at q0
  clear hcell
  have p0 := (b.getD 0 0).toNat_lt
  have p1 := (b.getD 1 0).toNat_lt
  have p2 := (b.getD 2 0).toNat_lt
  have HK := Lib.hid (show kindB b = (b.getD 0 0).toNat from rfl)
  have HN := Lib.hid (show lenB b = 256 * (b.getD 1 0).toNat + (b.getD 2 0).toNat from rfl)
  generalize b.getD 0 0 = c0 at *
  generalize b.getD 1 0 = c1 at *
  generalize b.getD 2 0 = c2 at *
  obtain ⟨N, hN⟩ : ∃ N, 256 * c1.toNat + c2.toNat = N := ⟨_, rfl⟩
  have hN6 : N ≤ 65535 := by omega
  have HNI := Lib.hid (show 256 * (c1.toNat : Int) + (c2.toNat : Int) = (N : Int) by omega)
  rw [hN] at HN
  clear hN
  have hkB := HK.out
  have hnB := HN.out
  rw [hkB] at HP hkk hkk2
  rw [hnB] at HP hnn hll h7 h33 hs1 hs2
  clear HK HN hkB hnB
  have HA := Lib.hid hA
  clear hA
  go_enter Tryd.func27, Tryd.ntmps27
  go_upto_region 3 with fail
  go_quiet (fail)
  obtain ⟨V, hV⟩ : ∃ V, ((w.alloc (Obj.cells #[Value.int IntKind.i64 0, Value.slice none 0 0] 30)).drewN nq) = V := ⟨_, rfl⟩
  have bV : Below w.heap.size w V := by rw [← hV]; exact below_drewN' ((Below.refl _ _).alloc (Nat.le_refl _) _) _
  have xV : Box2 V w.heap.size (.int .i64 0) (.slice none 0 0) := by
    rw [← hV]
    exact (Box2.new w (.int .i64 0) (.slice none 0 0) 30).below (below_drewN' (Below.refl _ _) nq)
  have qV := (bV.cell (p := ⟨bb, off, none⟩) hlt).trans q0
  rw [hV, HNI.out]
  clear hV q0 q1 q2 p1 p2 HNI
  have BV := Lib.hid bV
  have XV := Lib.hid xV
  clear bV xV
  have h1 : ¬ (c0.toNat : Int) < 1 := by omega
  have h2 : ¬ (c0.toNat : Int) > 3 := by omega
  have h4 : ¬ (N : Int) > 2048 := by omega
  have h5 : ¬ (b.length : Int) < 7 + (N : Int) := by omega
  have CS := Lib.hid (StripCN (some ⟨bb, off, none⟩) (b.take (7 + N)) (7 + N) cap V (take_at _ (HA.out.below BV.out)) (by omega) (by omega) h7)
  have i7 : ((7 : Int) + (N : Int)).toNat = 7 + N := by omega
  unfold StripsC at CS
  rw [hs1, hs2, h33] at CS
  generalize hsl : b.take (3 + N) = sl at *
  clear hs1 hs2 h7 hsl
  have x0 := XV.out.c0
  have x1 := XV.out.c1
  have xf := XV.out.fr
  go_upto_region 7 with (first
    | (go_at_call 34; ((with_reducible refine (CS.out).mono ?_); rintro e w5 ⟨A5, c5, rfl, hA5, hC5, hb5⟩; have B5 := Lib.hid (BV.out.trans (hb5.mono BV.out.size)); have X5 := Lib.hid (XV.out.below hb5); have HA5 := Lib.hid hA5; have HC5 := Lib.hid hC5; have q5 := (hb5.cell (p := ⟨bb, off, none⟩) (Nat.lt_of_lt_of_le hlt BV.out.size)).trans qV; clear hb5 x0 x1 xf hA5 hC5 qV))
    | fail)
  have hc5 : 3 + N ≤ c5 := HC5.out
  obtain ⟨g5, o5, rfl, _, _⟩ := HA5.out (by omega)
  obtain ⟨D, hD⟩ : ∃ D : Option Addr, (if c5 = 3 then some ⟨g5, o5, none⟩ else some ⟨g5, o5 + 3, none⟩) = D := ⟨_, rfl⟩
  have HAD := Lib.hid (show At w5 D (sl.drop 3) from hD ▸ from_at HA5.out (by omega) (by omega))
  have hld : (sl.drop 3).length = N := by rw [List.length_drop]; omega
  have HDN : Hid (D = none → c5 - 3 = 0) := Lib.hid fun h => by
    rw [h] at hD
    split at hD <;> cases hD
  go_upto_region 9 with fail
  have i3 : (3 : Int) ≤ ((3 + N : Nat) : Int) := by omega
  have i4 : ((3 + N : Nat) : Int) ≤ (c5 : Int) := by omega
  have i5 : (3 : Int) ≤ (c5 : Int) := by omega
  have i8 : IntKind.i64.wrap (c0.toNat : Int) = (c0.toNat : Int) := IntWalk.i64_in _ (by omega)
  have CO := Lib.hid (ref_ownN D (sl.drop 3) N (c5 - 3) w5.drew (HAD.out.below (Below.refl _ _).drew) HDN.out hld (by omega))
  go_region_with (go_at_call 35; ((with_reducible refine (CO.out).mono ?_); rintro e w6 ⟨A6, c6, rfl, ho6, hb6⟩; have b6 : Below w5.heap.size w5 w6 := (Below.refl _ _).drew.trans hb6; have X6 := Lib.hid (X5.out.below b6); have q6 := (b6.cell (p := ⟨bb, off, none⟩) (Nat.lt_of_lt_of_le hlt B5.out.size)).trans q5; have e0 := (X6.out.set (.int .i64 (c0.toNat : Int)) (.slice A6 N c6)).c0; have e1 := (X6.out.set (.int .i64 (c0.toNat : Int)) (.slice A6 N c6)).c1; have eb := X6.out.last (Nat.le_refl _) (B5.out.trans (b6.mono B5.out.size)) (.int .i64 (c0.toNat : Int)) (.slice A6 N c6); have em := own_past (x := .int .i64 (c0.toNat : Int)) (y := .slice A6 N c6) ho6 (show w.heap.size < w5.drew.heap.size from X5.out.lt); have x0 := X6.out.c0; have x1 := X6.out.c1; have xf := X6.out.fr; generalize hU : (w6.setCell _ _).setCell _ _ = U at e0 e1 eb em; have EB := Lib.hid (And.intro e0 (And.intro e1 (And.intro eb em))); clear e0 e1 eb em hb6 b6 ho6))
  all_goals go_wp2
  all_goals refine bodyPost_ret (v := .tuple #[.agg #[.int .i64 (c0.toNat : Int), .slice A6 N c6], .int .i64 (7 + (N : Int))]) (by simp [results, Tryd.results27, go_sem, EB.out.1, EB.out.2.1]) rfl ?_
  all_goals rw [HP.out]
  all_goals exact ⟨A6, c6, by rw [show ((7 + N : Nat) : Int) = 7 + (N : Int) by omega], EB.out.2.2.2, EB.out.2.2.1⟩
/-- What Next gives. -/
def Nexts (w : World) (b : List UInt8) (e : Ending) (w' : World) : Prop :=
  (nextB b = true ∧ NextYes w b e w') ∨ (nextB b = false ∧ e = .returned noR ∧ Below w.heap.size w w')
theorem next_any (A : Option Addr) (b : List UInt8) (n cap : Nat) (w : World) (hA : At w A b) (hc : b.length ≤ cap) (hm : b.length ≤ 140737488355328) (hn : b.length = n) :
    Calls Tryd.prog 27 #[.slice A n cap] w (Nexts w b) := by
  subst hn
  by_cases h3 : b.length < 3
  · exact (next_short A b cap w h3).mono fun _ _ h => .inr ⟨nextB_short h3, h⟩
  · obtain ⟨bb, off, rfl, _, _⟩ := hA (by omega)
    cases hy : nextB b with
    | true => exact (next_yes bb off b cap w hA hc hm hy).mono fun _ _ h => .inl ⟨hy, h⟩
    | false => exact (next_no bb off b cap w hA (by omega) hc hm hy).mono fun _ _ h => .inr ⟨hy, h⟩
end Go.Proofs.YtbmhgmigcgeooaaDoor
