/- The statement PeriodKnown, walked. -/
import Derived.Test.YtbdlmidkkdmkpaaP13
import Derived.Test.YtbdlmidkkdmkpaaK1
namespace Go.Proofs.Ytbdlmidkkdmkpaa
open Go.RowKit
set_option maxRecDepth 100000 in
set_option maxHeartbeats 1000000 in
theorem Compose_no1 (r s : Int) (w : World) (h : knownB r = false) : Calls Try.prog 25 #[.int .i64 r, .int .i64 s] w fun e w' => e = .returned (.tuple #[.slice none 0 0, .int .i64 1]) ∧ w = w' := by
  have k1 := known_any r
  rw [h] at k1
  have K1 := Lib.hid k1
  clear k1 h
  go_enter Try.func25, Try.ntmps25
  go_wp2_with fail
  go_step3
  go_wp2_with fail
  refine (K1.out _).mono ?_
  rintro e w0 ⟨rfl, rfl⟩
  go_wp2
  try rw [Exit.noGoto_ret]
  go_ret2
  exact ⟨rfl, rfl⟩
set_option maxRecDepth 100000 in
set_option maxHeartbeats 1000000 in
theorem Compose_no2 (r s : Int) (w : World) (h1 : knownB r = true) (h : knownB s = false) : Calls Try.prog 25 #[.int .i64 r, .int .i64 s] w fun e w' => e = .returned (.tuple #[.slice none 0 0, .int .i64 1]) ∧ w = w' := by
  have k1 := known_any r
  rw [h1] at k1
  have K1 := Lib.hid k1
  have k2 := known_any s
  rw [h] at k2
  have K2 := Lib.hid k2
  clear k1 k2 h h1
  go_enter Try.func25, Try.ntmps25
  go_wp2_with fail
  go_step3
  go_wp2_with fail
  refine (K1.out _).mono ?_
  rintro e w0 ⟨rfl, rfl⟩
  go_wp2_with fail
  refine (K2.out _).mono ?_
  rintro e w0 ⟨rfl, rfl⟩
  go_wp2
  try rw [Exit.noGoto_ret]
  go_ret2
  exact ⟨rfl, rfl⟩
set_option maxRecDepth 100000 in
set_option maxHeartbeats 1000000 in
theorem rel_yes_any (a b c d want : Int) (w : World) (h : badE a b c d = 0) (h2 : relR a b c d = want) : Calls Try.prog 33 #[.agg #[.int .u64 a, .int .u64 b], .agg #[.int .u64 c, .int .u64 d], .int .i64 want] w fun e w' => e = .returned (.bool true) ∧ Below w.heap.size w w' := by
  have c1 := Relation_any a b c d
  rw [h, h2] at c1
  have C1 := Lib.hid c1
  clear c1 h h2
  go_enter Try.func33, Try.ntmps33
  go_wp2_with fail
  refine (C1.out _).mono ?_
  rintro e w1 ⟨rfl, hb1⟩
  have X1b0 : Hid (Box w1 (w.heap.size) (a) (b)) := Lib.hid (Box.below (Box.alloc (box_at _ (a) (b) 24 _ rfl) _) hb1)
  have X1b1 : Hid (Box w1 (w.heap.size + 1) (c) (d)) := Lib.hid (Box.below (box_at _ (c) (d) 24 _ (by simp)) hb1)
  have B1 := Lib.hid ((((Below.refl _ w).alloc (by first | exact Nat.le_refl _ | omega | (simp; done) | (simp; omega)) (.cells #[.int .u64 (a), .int .u64 (b)] 24)).alloc (by first | exact Nat.le_refl _ | omega | (simp; done) | (simp; omega)) (.cells #[.int .u64 (c), .int .u64 (d)] 24)).trans (hb1.mono (((Below.refl _ w).alloc (by first | exact Nat.le_refl _ | omega | (simp; done) | (simp; omega)) (.cells #[.int .u64 (a), .int .u64 (b)] 24)).alloc (by first | exact Nat.le_refl _ | omega | (simp; done) | (simp; omega)) (.cells #[.int .u64 (c), .int .u64 (d)] 24)).size))
  have hz1 := B1.out.size
  clear hb1
  go_wp2
  go_ret
  exact ⟨rfl, B1.out⟩
theorem comp_5_9 : compL 5 9 = numsR := by decide +kernel
theorem comp_2_2 : compL 2 2 = [1] := by decide +kernel
theorem enter_rel : ∀ args w, (callFunc 33 args).run Try.prog w = .ok (.enter 33 args) w := fun _ _ => by kernel_rfl
set_option maxRecDepth 100000 in
set_option maxHeartbeats 8000000 in
theorem Known_walk (w : World) : Calls Try.prog 8 #[] w fun e w' => e = .returned (.bool true) ∧ Below w.heap.size w w' := by
  have PA := Lib.hid P_any
  have AW := Lib.hid awake_any
  have r1 := Relation_any 3 3 1 2
  rw [show relR 3 3 1 2 = 0 by decide, show badE 3 3 1 2 = 1 by decide] at r1
  have r2 := Relation_any 1 2 0 1099511627777
  rw [show relR 1 2 0 1099511627777 = 0 by decide, show badE 1 2 0 1099511627777 = 1 by decide] at r2
  have q1 := Compose_any 5 9 (by decide) (by decide) (by decide) (by decide)
  rw [comp_5_9, show numsR.length = 13 by decide] at q1
  have q2 := Compose_any 2 2 (by decide) (by decide) (by decide) (by decide)
  rw [comp_2_2] at q2
  have q3 := fun w => Compose_no1 0 1 w (by decide)
  have q4 := fun w => Compose_no2 1 14 w (by decide) (by decide)
  have q5 := fun w => Converse_no 14 w (by decide)
  have l1 := fun w => rel_yes_any 1 4 3 5 3 w (by decide) (by decide)
  have l2 := fun w => rel_yes_any 3 4 3 5 4 w (by decide) (by decide)
  have l3 := fun w => rel_yes_any 3 5 3 5 7 w (by decide) (by decide)
  have l4 := fun w => rel_yes_any 0 1 2 1099511627776 1 w (by decide) (by decide)
  have n1 := Minus_any 3 5 0 9
  rw [show minusL 3 5 0 9 = [] by decide] at n1
  have n2 := Minus_any 5 3 0 1
  rw [show minusL 5 3 0 1 = [] by decide] at n2
  have m1 := May_any 0 0
  rw [show mayB 0 0 = false by decide] at m1
  have m2 := May_any 0 1099511627776
  rw [show mayB 0 1099511627776 = true by decide] at m2
  have m3 := Has_any 0 1099511627776 1099511627776
  rw [show hasB 0 1099511627776 1099511627776 = false by decide] at m3
  have R1 := Lib.hid r1
  have R2 := Lib.hid r2
  have Q1 := Lib.hid q1
  have Q2 := Lib.hid q2
  have Q3 := Lib.hid q3
  have Q4 := Lib.hid q4
  have Q5 := Lib.hid q5
  have L1 := Lib.hid l1
  have L2 := Lib.hid l2
  have L3 := Lib.hid l3
  have L4 := Lib.hid l4
  have N1 := Lib.hid n1
  have N2 := Lib.hid n2
  have M1 := Lib.hid m1
  have M2 := Lib.hid m2
  have M3 := Lib.hid m3
  clear r1 r2 q1 q2 q3 q4 q5 l1 l2 l3 l4 n1 n2 m1 m2 m3
  have er := enter_rel
  go_enter Try.func8, Try.ntmps8
  go_wp2_with fail
  refine (PA.out _ _ _).mono ?_
  rintro e w1 ⟨rfl, hb1⟩
  have B1 := Lib.hid hb1
  clear hb1
  go_wp2_with fail
  refine (PA.out _ _ _).mono ?_
  rintro e w2 ⟨rfl, hb2⟩
  have B2 := Lib.hid (B1.out.trans (hb2.mono B1.out.size))
  clear hb2
  go_wp2_with fail
  refine (R1.out _).mono ?_
  rintro e w3 ⟨rfl, hb3⟩
  have B3 := Lib.hid (B2.out.trans (hb3.mono B2.out.size))
  clear hb3
  go_wp2_with fail
  refine (PA.out _ _ _).mono ?_
  rintro e w4 ⟨rfl, hb4⟩
  have B4 := Lib.hid (B3.out.trans (hb4.mono B3.out.size))
  clear hb4
  go_wp2_with fail
  refine (PA.out _ _ _).mono ?_
  rintro e w5 ⟨rfl, hb5⟩
  have B5 := Lib.hid (B4.out.trans (hb5.mono B4.out.size))
  clear hb5
  go_wp2_with fail
  refine (R2.out _).mono ?_
  rintro e w6 ⟨rfl, hb6⟩
  have B6 := Lib.hid (B5.out.trans (hb6.mono B5.out.size))
  clear hb6
  go_wp2_with fail
  refine (Q1.out _).mono ?_
  rintro e w7 ⟨A7, c7, rfl, _, hb7⟩
  have B7 := Lib.hid (B6.out.trans (hb7.mono B6.out.size))
  clear hb7
  go_wp2_with fail
  refine (Q2.out _).mono ?_
  rintro e w8 ⟨A8, c8, rfl, hA8, hb8⟩
  have B8 := Lib.hid (B7.out.trans (hb8.mono B7.out.size))
  clear hb8
  obtain ⟨g8, rfl, lg8, cg8⟩ := hA8 (by decide)
  have Z8 := Lib.hid (show w8.cell? ⟨g8, 0, none⟩ = some (.int .i64 1) from cg8 0 (by decide))
  clear hA8 cg8
  go_wp2_with fail
  refine (Q3.out _).mono ?_
  rintro e w0 ⟨rfl, rfl⟩
  go_wp2_with fail
  refine (Q4.out _).mono ?_
  rintro e w0 ⟨rfl, rfl⟩
  go_wp2_with fail
  refine (Q5.out _).mono ?_
  rintro e w0 ⟨rfl, rfl⟩
  have K0 := Lib.hid (fun wk (hb : Below w8.heap.size w8 wk) => ((hb.cell (p := ⟨g8, 0, none⟩) lg8).trans Z8.out : wk.cell? ⟨g8, 0, none⟩ = some (.int .i64 1)))
  have D8 := Lib.hid (Below.refl w8.heap.size w8)
  go_wp2_with fail
  refine (AW.out _).mono ?_
  rintro e w9 ⟨rfl, hb9⟩
  have B9 := Lib.hid (B8.out.trans (hb9.mono B8.out.size))
  have D9 := Lib.hid (D8.out.trans (hb9.mono D8.out.size))
  clear hb9
  go_wp2_with fail
  refine (PA.out _ _ _).mono ?_
  rintro e w10 ⟨rfl, hb10⟩
  have B10 := Lib.hid (B9.out.trans (hb10.mono B9.out.size))
  have D10 := Lib.hid (D9.out.trans (hb10.mono D9.out.size))
  clear hb10
  go_wp2_with fail
  refine (PA.out _ _ _).mono ?_
  rintro e w11 ⟨rfl, hb11⟩
  have B11 := Lib.hid (B10.out.trans (hb11.mono B10.out.size))
  have D11 := Lib.hid (D10.out.trans (hb11.mono D10.out.size))
  clear hb11
  go_wp2_with fail
  refine (L1.out _).mono ?_
  rintro e w12 ⟨rfl, hb12⟩
  have B12 := Lib.hid (B11.out.trans (hb12.mono B11.out.size))
  have D12 := Lib.hid (D11.out.trans (hb12.mono D11.out.size))
  clear hb12
  go_wp2_with fail
  refine (PA.out _ _ _).mono ?_
  rintro e w13 ⟨rfl, hb13⟩
  have B13 := Lib.hid (B12.out.trans (hb13.mono B12.out.size))
  have D13 := Lib.hid (D12.out.trans (hb13.mono D12.out.size))
  clear hb13
  go_wp2_with fail
  refine (PA.out _ _ _).mono ?_
  rintro e w14 ⟨rfl, hb14⟩
  have B14 := Lib.hid (B13.out.trans (hb14.mono B13.out.size))
  have D14 := Lib.hid (D13.out.trans (hb14.mono D13.out.size))
  clear hb14
  go_wp2_with fail
  refine (L2.out _).mono ?_
  rintro e w15 ⟨rfl, hb15⟩
  have B15 := Lib.hid (B14.out.trans (hb15.mono B14.out.size))
  have D15 := Lib.hid (D14.out.trans (hb15.mono D14.out.size))
  clear hb15
  go_wp2_with fail
  refine (PA.out _ _ _).mono ?_
  rintro e w16 ⟨rfl, hb16⟩
  have B16 := Lib.hid (B15.out.trans (hb16.mono B15.out.size))
  have D16 := Lib.hid (D15.out.trans (hb16.mono D15.out.size))
  clear hb16
  go_wp2_with fail
  refine (PA.out _ _ _).mono ?_
  rintro e w17 ⟨rfl, hb17⟩
  have B17 := Lib.hid (B16.out.trans (hb17.mono B16.out.size))
  have D17 := Lib.hid (D16.out.trans (hb17.mono D16.out.size))
  clear hb17
  go_wp2_with fail
  refine (L3.out _).mono ?_
  rintro e w18 ⟨rfl, hb18⟩
  have B18 := Lib.hid (B17.out.trans (hb18.mono B17.out.size))
  have D18 := Lib.hid (D17.out.trans (hb18.mono D17.out.size))
  clear hb18
  go_wp2_with fail
  refine (PA.out _ _ _).mono ?_
  rintro e w19 ⟨rfl, hb19⟩
  have B19 := Lib.hid (B18.out.trans (hb19.mono B18.out.size))
  have D19 := Lib.hid (D18.out.trans (hb19.mono D18.out.size))
  clear hb19
  go_wp2_with fail
  refine (PA.out _ _ _).mono ?_
  rintro e w20 ⟨rfl, hb20⟩
  have B20 := Lib.hid (B19.out.trans (hb20.mono B19.out.size))
  have D20 := Lib.hid (D19.out.trans (hb20.mono D19.out.size))
  clear hb20
  go_wp2_with fail
  refine (L4.out _).mono ?_
  rintro e w21 ⟨rfl, hb21⟩
  have B21 := Lib.hid (B20.out.trans (hb21.mono B20.out.size))
  have D21 := Lib.hid (D20.out.trans (hb21.mono D20.out.size))
  clear hb21
  have z := K0.out _ D21.out
  go_wp2_with fail
  refine (PA.out _ _ _).mono ?_
  rintro e w22 ⟨rfl, hb22⟩
  have B22 := Lib.hid (B21.out.trans (hb22.mono B21.out.size))
  have D22 := Lib.hid (D21.out.trans (hb22.mono D21.out.size))
  clear hb22
  go_wp2_with fail
  refine (PA.out _ _ _).mono ?_
  rintro e w23 ⟨rfl, hb23⟩
  have B23 := Lib.hid (B22.out.trans (hb23.mono B22.out.size))
  have D23 := Lib.hid (D22.out.trans (hb23.mono D22.out.size))
  clear hb23
  go_wp2_with fail
  refine (N1.out _).mono ?_
  rintro e w24 ⟨A24, k24, rfl, _, hb24⟩
  have B24 := Lib.hid (B23.out.trans (hb24.mono B23.out.size))
  have D24 := Lib.hid (D23.out.trans (hb24.mono D23.out.size))
  clear hb24
  go_wp2_with fail
  refine (PA.out _ _ _).mono ?_
  rintro e w25 ⟨rfl, hb25⟩
  have B25 := Lib.hid (B24.out.trans (hb25.mono B24.out.size))
  have D25 := Lib.hid (D24.out.trans (hb25.mono D24.out.size))
  clear hb25
  go_wp2_with fail
  refine (PA.out _ _ _).mono ?_
  rintro e w26 ⟨rfl, hb26⟩
  have B26 := Lib.hid (B25.out.trans (hb26.mono B25.out.size))
  have D26 := Lib.hid (D25.out.trans (hb26.mono D25.out.size))
  clear hb26
  go_wp2_with fail
  refine (N2.out _).mono ?_
  rintro e w27 ⟨A27, k27, rfl, _, hb27⟩
  have B27 := Lib.hid (B26.out.trans (hb27.mono B26.out.size))
  have D27 := Lib.hid (D26.out.trans (hb27.mono D26.out.size))
  clear hb27
  go_wp2_with fail
  refine (PA.out _ _ _).mono ?_
  rintro e w28 ⟨rfl, hb28⟩
  have B28 := Lib.hid (B27.out.trans (hb28.mono B27.out.size))
  have D28 := Lib.hid (D27.out.trans (hb28.mono D27.out.size))
  clear hb28
  go_wp2_with fail
  refine (M1.out _).mono ?_
  rintro e w29 ⟨rfl, hb29⟩
  have B29 := Lib.hid (B28.out.trans (hb29.mono B28.out.size))
  have D29 := Lib.hid (D28.out.trans (hb29.mono D28.out.size))
  clear hb29
  go_wp2_with fail
  refine (PA.out _ _ _).mono ?_
  rintro e w30 ⟨rfl, hb30⟩
  have B30 := Lib.hid (B29.out.trans (hb30.mono B29.out.size))
  have D30 := Lib.hid (D29.out.trans (hb30.mono D29.out.size))
  clear hb30
  go_wp2_with fail
  refine (M2.out _).mono ?_
  rintro e w31 ⟨rfl, hb31⟩
  have B31 := Lib.hid (B30.out.trans (hb31.mono B30.out.size))
  have D31 := Lib.hid (D30.out.trans (hb31.mono D30.out.size))
  clear hb31
  go_wp2_with fail
  refine (PA.out _ _ _).mono ?_
  rintro e w32 ⟨rfl, hb32⟩
  have B32 := Lib.hid (B31.out.trans (hb32.mono B31.out.size))
  have D32 := Lib.hid (D31.out.trans (hb32.mono D31.out.size))
  clear hb32
  go_wp2_with fail
  refine (M3.out _).mono ?_
  rintro e w33 ⟨rfl, hb33⟩
  have B33 := Lib.hid (B32.out.trans (hb33.mono B32.out.size))
  have D33 := Lib.hid (D32.out.trans (hb33.mono D32.out.size))
  clear hb33
  go_wp2
  go_ret
  exact ⟨rfl, B33.out⟩
end Go.Proofs.Ytbdlmidkkdmkpaa
