/- The statement PeriodComposes, walked. -/
import Derived.Test.YtbdlmidkkdmkpaaQ7
import Derived.Test.YtbdlmidkkdmkpaaP15
namespace Go.Proofs.Ytbdlmidkkdmkpaa
open Go.RowKit
theorem known_iff (r : Int) : knownB r = true ↔ 1 ≤ r ∧ r ≤ 13 := by simp [knownB]
set_option maxRecDepth 100000 in
set_option maxHeartbeats 1000000 in
theorem refCompose_no1 (r s : Int) (w : World) (h : knownB r = false) : Calls Try.prog 26 #[.int .i64 r, .int .i64 s] w fun e w' => e = .returned (.tuple #[.slice none 0 0, .int .i64 1]) ∧ w = w' := by
  have h' : ¬ (1 ≤ r ∧ r ≤ 13) := by rw [← known_iff, h]; decide
  by_cases h1 : r < 1
  · clear h h'
    go_enter Try.func26, Try.ntmps26
    go_wp2
    go_ret2
    exact ⟨rfl, rfl⟩
  · have h2 : 13 < r := by omega
    clear h h'
    go_enter Try.func26, Try.ntmps26
    go_wp2
    go_ret2
    exact ⟨rfl, rfl⟩
set_option maxRecDepth 100000 in
set_option maxHeartbeats 1000000 in
theorem refCompose_no2 (r s : Int) (w : World) (hr : knownB r = true) (h : knownB s = false) : Calls Try.prog 26 #[.int .i64 r, .int .i64 s] w fun e w' => e = .returned (.tuple #[.slice none 0 0, .int .i64 1]) ∧ w = w' := by
  obtain ⟨k1, k2⟩ := (known_iff r).1 hr
  have h' : ¬ (1 ≤ s ∧ s ≤ 13) := by rw [← known_iff, h]; decide
  have k3 : ¬ r < 1 := by omega
  have k4 : ¬ 13 < r := by omega
  by_cases h1 : s < 1
  · clear h h' hr k1 k2
    go_enter Try.func26, Try.ntmps26
    go_wp2
    go_ret2
    exact ⟨rfl, rfl⟩
  · have h2 : 13 < s := by omega
    clear h h' hr k1 k2
    go_enter Try.func26, Try.ntmps26
    go_wp2
    go_ret2
    exact ⟨rfl, rfl⟩
theorem at_none (w : World) : AtI w none [] := fun h => absurd h (by simp)
set_option maxRecDepth 100000 in
set_option maxHeartbeats 4000000 in
theorem Composes_no (r s : Int) (w : World) (h : knownB r = false) : Calls Try.prog 4 #[.int .i64 r, .int .i64 s] w fun e w' => e = .returned (.bool true) ∧ Below w.heap.size w w' := by
  have K1 := Lib.hid (fun w => Compose_no1 r s w h)
  have K2 := Lib.hid (fun w => refCompose_no1 r s w h)
  have K3 := Lib.hid (fun w => Converse_no r w h)
  have AW := Lib.hid awake_any
  have h' : ¬ (1 ≤ r ∧ r ≤ 13) := by rw [← known_iff, h]; decide
  by_cases h1 : r < 1
  · clear h h'
    go_enter Try.func4, Try.ntmps4
    go_wp2_with fail
    refine (K1.out _).mono ?_
    rintro e w1 ⟨rfl, rfl⟩
    go_wp2_with fail
    refine (K2.out _).mono ?_
    rintro e w1 ⟨rfl, rfl⟩
    go_wp2_with fail
    refine (K3.out _).mono ?_
    rintro e w1 ⟨rfl, rfl⟩
    go_wp2_with fail
    refine (AW.out _).mono ?_
    rintro e w1 ⟨rfl, hb1⟩
    go_wp2
    go_ret
    exact ⟨rfl, hb1⟩
  · have h2 : 13 < r := by omega
    clear h h'
    go_enter Try.func4, Try.ntmps4
    go_wp2_with fail
    refine (K1.out _).mono ?_
    rintro e w1 ⟨rfl, rfl⟩
    go_wp2_with fail
    refine (K2.out _).mono ?_
    rintro e w1 ⟨rfl, rfl⟩
    go_wp2_with fail
    refine (K3.out _).mono ?_
    rintro e w1 ⟨rfl, rfl⟩
    go_wp2_with fail
    refine (AW.out _).mono ?_
    rintro e w1 ⟨rfl, hb1⟩
    go_wp2
    go_ret
    exact ⟨rfl, hb1⟩
set_option maxRecDepth 100000 in
set_option maxHeartbeats 4000000 in
theorem Composes_half (r s : Int) (w : World) (hr : knownB r = true) (h : knownB s = false) : Calls Try.prog 4 #[.int .i64 r, .int .i64 s] w fun e w' => e = .returned (.bool true) ∧ Below w.heap.size w w' := by
  obtain ⟨k1, k2⟩ := (known_iff r).1 hr
  have K1 := Lib.hid (fun w => Compose_no2 r s w hr h)
  have K2 := Lib.hid (fun w => refCompose_no2 r s w hr h)
  have K3 := Lib.hid (fun w => Converse_yes r w k1 k2)
  have EQ := Lib.hid (fun w => Equal_any none none [] [] 0 0 w (at_none w) (at_none w) (by simp) (by simp))
  have AW := Lib.hid awake_any
  have k3 : ¬ r < 1 := by omega
  have k4 : ¬ 13 < r := by omega
  have w0 : IntKind.i64.wrap (14 - r) = 14 - r := IntWalk.i64_in _ (by omega)
  clear h hr k1 k2
  go_enter Try.func4, Try.ntmps4
  go_wp2_with fail
  refine (K1.out _).mono ?_
  rintro e w1 ⟨rfl, rfl⟩
  go_wp2_with fail
  refine (K2.out _).mono ?_
  rintro e w1 ⟨rfl, rfl⟩
  go_wp2_with fail
  refine (K3.out _).mono ?_
  rintro e w1 ⟨rfl, rfl⟩
  go_wp2_with fail
  refine (AW.out _).mono ?_
  rintro e w1 ⟨rfl, hb1⟩
  go_wp2_with fail
  refine (EQ.out _).mono ?_
  rintro e w2 ⟨rfl, hb2⟩
  go_wp2
  go_ret
  exact ⟨by simp, hb1.trans (hb2.mono hb1.size)⟩
set_option maxRecDepth 100000 in
set_option maxHeartbeats 4000000 in
theorem Composes_both (r s : Nat) (w : World) (hr1 : 1 ≤ r) (hr2 : r ≤ 13) (hs1 : 1 ≤ s) (hs2 : s ≤ 13) : Calls Try.prog 4 #[.int .i64 (r : Int), .int .i64 (s : Int)] w fun e w' => e = .returned (.bool true) ∧ Below w.heap.size w w' := by
  have K1 := Lib.hid (Compose_any r s hr1 hr2 hs1 hs2)
  have K2 := Lib.hid (refCompose_yes r s hr1 hr2 hs1 hs2)
  have K3 := Lib.hid (fun w => Converse_yes (r : Int) w (by omega) (by omega))
  have AW := Lib.hid awake_any
  have hl : (compL r s).length ≤ 13 := most13 ((comp_rising r s).imp fun h => Int.ne_of_lt h) fun t ht => seen_range ((mem_comp r s t).1 ht)
  generalize compL r s = L at *
  have k3 : ¬ (r : Int) < 1 := by omega
  have k4 : ¬ 13 < (r : Int) := by omega
  have w0 : IntKind.i64.wrap (14 - (r : Int)) = 14 - (r : Int) := IntWalk.i64_in _ (by omega)
  clear hr1 hr2 hs1 hs2
  go_enter Try.func4, Try.ntmps4
  go_wp2_with fail
  refine (K1.out _).mono ?_
  rintro e w1 ⟨A, cp, rfl, hA, hb1⟩
  go_wp2_with fail
  refine (K2.out _).mono ?_
  rintro e w2 ⟨A2, cp2, rfl, hA2, hb2⟩
  go_wp2_with fail
  refine (K3.out _).mono ?_
  rintro e w3 ⟨rfl, rfl⟩
  go_wp2_with fail
  refine (AW.out _).mono ?_
  rintro e w3 ⟨rfl, hb3⟩
  go_wp2_with fail
  refine (Equal_any A A2 L L cp cp2 w3 ((hA.below hb2).below hb3) (hA2.below hb3) (by omega) (by omega)).mono ?_
  rintro e w4 ⟨rfl, hb4⟩
  rw [beq_self_eq_true]
  go_wp2
  go_ret
  exact ⟨rfl, hb1.trans ((hb2.trans ((hb3.trans (hb4.mono hb3.size)).mono hb2.size)).mono hb1.size)⟩
theorem Composes_walk (r s : Int) (w : World) : Calls Try.prog 4 #[.int .i64 r, .int .i64 s] w fun e w' => e = .returned (.bool true) ∧ Below w.heap.size w w' := by
  cases hr : knownB r
  · exact Composes_no r s w hr
  · cases hs : knownB s
    · exact Composes_half r s w hr hs
    · obtain ⟨k1, k2⟩ := (known_iff r).1 hr
      obtain ⟨k3, k4⟩ := (known_iff s).1 hs
      obtain ⟨rn, rfl⟩ : ∃ n : Nat, r = n := ⟨r.toNat, by omega⟩
      obtain ⟨sn, rfl⟩ : ∃ n : Nat, s = n := ⟨s.toNat, by omega⟩
      exact Composes_both rn sn w (by omega) (by omega) (by omega) (by omega)
end Go.Proofs.Ytbdlmidkkdmkpaa
