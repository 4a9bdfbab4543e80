/- The statement WireOnce, walked. -/
import Derived.Test.YtgchgccfngiafaaB17
import Derived.Test.YtgchgccfngiafaaM3
namespace Go.Proofs.Ytgchgccfngiafaa
open Go.RowKit
theorem take_at {w : World} {A : Option Addr} {l : List UInt8} (k : Nat) (h : At w A l) : At w A (l.take k) := by
  intro h0
  rw [List.length_take] at h0
  obtain ⟨b, off, e, hl, hc⟩ := h (by omega)
  refine ⟨b, off, e, hl, fun i hi => ?_⟩
  rw [List.length_take] at hi
  rw [hc i (by omega)]
  congr 2
  rw [List.getD, List.getD, List.getElem?_take, if_pos (by omega)]
set_option maxRecDepth 100000 in
set_option maxHeartbeats 2000000 in
/-- What went, where the read failed. -/
theorem went_err (g c cap n2 c2 er : Nat) (A A0 X : Option Addr) (l : List UInt8) (p : Addr) (w : World) (h : Rd w g 0 A c l) (hp : w.cell? p = some (.slice A0 l.length cap)) (her : er ≠ 0) :
    Calls Try.prog 44 #[.pointer (some ⟨g, 0, none⟩), .slice X n2 c2, .int .i64 er, .pointer (some p)] w fun e w' => e = .returned (.bool true) ∧ Below w.heap.size w w' := by
  have C := Lib.hid (fun n => Left_any g 0 c A l (w.drewN n) h)
  have t1 : ((er : Int) != 0) = true := by simp; omega
  rw [Nat.sub_zero] at C
  have hs : IntKind.i64.wrap ((l.length : Int) - (l.length : Int)) = 0 := by rw [Int.sub_self]; rfl
  clear h her
  go_enter Try.func44, Try.ntmps44
  go_wp2
  go_quiet ((go_at_call 33; exact Calls.quiet_of (C.out _)))
  go_wp2
  go_ret
  exact ⟨rfl, below_drewN' (Below.refl _ _) _⟩
set_option maxRecDepth 100000 in
set_option maxHeartbeats 2000000 in
/-- What went, where something was read. -/
theorem went_ok (g k c cap n2 c2 : Nat) (A A0 X : Option Addr) (l al : List UInt8) (p : Addr) (w : World) (h : Rd w g k A c l) (hp : w.cell? p = some (.slice A0 l.length cap)) (hA : At w A0 l) (hX : At w X al) (hn : al.length = n2) (hk : 0 < k) (hal : l.take k = al) (hcap : l.length ≤ cap) :
    Calls Try.prog 44 #[.pointer (some ⟨g, 0, none⟩), .slice X n2 c2, .int .i64 0, .pointer (some p)] w fun e w' => e = .returned (.bool true) ∧ Below w.heap.size w w' := by
  obtain ⟨hkl, hl, _, _⟩ := h.2.1
  have C := Lib.hid (fun n => Left_any g k c A l (w.drewN n) h)
  have hs : IntKind.i64.wrap ((l.length : Int) - ((l.length - k : Nat) : Int)) = (k : Int) := by rw [IntWalk.i64_in _ (by omega)]; omega
  have i0 : (0 : Int) < (k : Int) := by omega
  have i1 : (k : Int) ≤ (cap : Int) := by omega
  have HE := fun n => EqualL X A0 al (l.take k) n2 k c2 cap (w.drewN n) hX (take_at k hA) hn (by rw [List.length_take]; omega)
  rw [hal] at HE
  have HEQ := Lib.hid HE
  obtain ⟨b, off, rfl, _, _⟩ := hA (by omega)
  clear h hA hX hn hal HE
  go_enter Try.func44, Try.ntmps44
  go_wp2
  go_quiet ((go_at_call 33; exact Calls.quiet_of (C.out _)))
  go_wp2_with (go_at_call 19; ((refine (HEQ.out _).mono ?_); rintro e w' ⟨rfl, rfl⟩))
  go_ret
  exact ⟨by simp, below_drewN' (Below.refl _ _) _⟩
theorem went_any (g k c cap n2 c2 er : Nat) (A A0 : Option Addr) (l : List UInt8) (X : Option Addr) (al : List UInt8) (p : Addr) {w : World} (h : Rd w g k A c l) (hp : w.cell? p = some (.slice A0 l.length cap)) (hA : At w A0 l) (hX : At w X al) (hn : al.length = n2)
    (hk : (er = 0 → 0 < k ∧ l.take k = al) ∧ (er ≠ 0 → k = 0)) (hcap : l.length ≤ cap) :
    Calls Try.prog 44 #[.pointer (some ⟨g, 0, none⟩), .slice X n2 c2, .int .i64 (er : Nat), .pointer (some p)] w fun e w' => e = .returned (.bool true) ∧ Below w.heap.size w w' := by
  by_cases h0 : er = 0
  · subst h0
    obtain ⟨h1, h2⟩ := hk.1 rfl
    exact went_ok g k c cap n2 c2 A A0 X l al p w h hp hA hX hn h1 h2 hcap
  · obtain rfl : k = 0 := hk.2 h0
    exact went_err g c cap n2 c2 er A A0 X l p w h hp h0
/-- What stays on the way through WireOnce: the slice that came in, and the variable that holds it. -/
def Boxed (w : World) (A : Option Addr) (cap : Nat) (l : List UInt8) (wk : World) : Prop := Below w.heap.size w wk ∧ w.heap.size < wk.heap.size ∧ wk.cell? ⟨w.heap.size, 0, none⟩ = some (.slice A l.length cap) ∧ At wk A l
section
variable {w wk wk' : World} {A : Option Addr} {cap : Nat} {l : List UInt8}
theorem Boxed.start (hA : At w A l) : Boxed w A cap l (w.alloc (.cells #[.slice A l.length cap] 22)) :=
  ⟨(Below.refl _ _).alloc (Nat.le_refl _) _, by simp, by simp, hA.below ((Below.refl _ _).alloc (Nat.le_refl _) _)⟩
theorem Boxed.step (h : Boxed w A cap l wk) (hb : Below wk.heap.size wk wk') : Boxed w A cap l wk' := by
  obtain ⟨h1, h2, h3, h4⟩ := h
  have hs := hb.size
  exact ⟨h1.trans (hb.mono (by omega)), by omega, (hb.cell (p := ⟨w.heap.size, 0, none⟩) h2).trans h3, h4.below hb⟩
theorem Boxed.moved {g j : Nat} (h : Boxed w A cap l wk) (hm : Moved wk g j wk') (hA : At w A l) (hg : w.heap.size < g) : Boxed w A cap l wk' := by
  obtain ⟨h1, h2, h3, h4⟩ := h
  have hs := Moved.size hm
  have hb := moved_below h1 hm (by omega) (by omega)
  refine ⟨hb, by omega, ?_, hA.below hb⟩
  rw [← h3]
  exact World.cell?_of_block (Moved.far hm h2 (show w.heap.size ≠ g by omega))
end
theorem num_err0 (most : Nat) (L : List UInt8) (h : numE most L ≠ 0) : numM most L = 0 ∧ numV most L = 0 := by unfold numM numV; rw [if_neg h, if_neg h]; exact ⟨rfl, rfl⟩
theorem int_err0 (L : List UInt8) (h : intE L ≠ 0) : intM L = 0 ∧ intV L = 0 := by unfold intM intV; rw [if_neg h, if_neg h]; exact ⟨rfl, rfl⟩
theorem float_err0 (L : List UInt8) (h : floatE L ≠ 0) : floatM L = 0 ∧ floatV L = 0 := by unfold floatM floatV; rw [if_neg h, if_neg h]; exact ⟨rfl, rfl⟩
theorem text_err0 (m : Nat) (L : List UInt8) (h : textE m L ≠ 0) : textM m L = 0 ∧ textV m L = [] := by unfold textM textV; rw [if_neg h, if_neg h]; exact ⟨rfl, rfl⟩
theorem most_int : ((18446744073709551615 : Nat) : Int) = 18446744073709551615 := rfl
theorem read_num (l : List UInt8) (g c : Nat) (P : Option Addr) (w : World) (h : Rd w g 0 P c l) : Calls Try.prog 22 #[.pointer (some ⟨g, 0, none⟩), .int .u64 18446744073709551615] w fun e w' => e = .returned (.tuple #[.int .u64 (numV 18446744073709551615 l : Nat), .int .i64 (numE 18446744073709551615 l : Nat)]) ∧ Moved w g (numM 18446744073709551615 l) w' := by
  have hC := RNum_any g 0 c 18446744073709551615 P l w h
  rw [List.drop_zero, Nat.zero_add, most_int] at hC
  exact hC
theorem read_int (l : List UInt8) (g c : Nat) (P : Option Addr) (w : World) (h : Rd w g 0 P c l) : Calls Try.prog 24 #[.pointer (some ⟨g, 0, none⟩)] w fun e w' => e = .returned (.tuple #[.int .i64 (intV l), .int .i64 (intE l : Nat)]) ∧ Moved w g (intM l) w' := by
  have hC := RInt_any g 0 c P l w h
  rw [List.drop_zero, Nat.zero_add] at hC
  exact hC
theorem read_float (l : List UInt8) (g c : Nat) (P : Option Addr) (w : World) (h : Rd w g 0 P c l) : Calls Try.prog 26 #[.pointer (some ⟨g, 0, none⟩)] w fun e w' => e = .returned (.tuple #[.float .f64 (floatV l), .int .i64 (floatE l : Nat)]) ∧ Moved w g (floatM l) w' := by
  have hC := RFloat_any g 0 c P l w h
  rw [List.drop_zero, Nat.zero_add] at hC
  exact hC
theorem read_text (m : Nat) (hm : m ≤ 9223372036854775807) (l : List UInt8) (g c : Nat) (P : Option Addr) (w : World) (h : Rd w g 0 P c l) : Calls Try.prog 29 #[.pointer (some ⟨g, 0, none⟩), .int .i64 m] w fun e w' => e = .returned (.tuple #[.string ⟨(textV m l).toArray⟩, .int .i64 (textE m l : Nat)]) ∧ Moved w g (textM m l) w' := by
  have hC := RText_any g 0 c m P l w h hm
  rw [List.drop_zero, Nat.zero_add] at hC
  exact hC
theorem went_num (l : List UInt8) : (numE 18446744073709551615 l = 0 → 0 < numM 18446744073709551615 l ∧ l.take (numM 18446744073709551615 l) = encNum (numV 18446744073709551615 l)) ∧ (numE 18446744073709551615 l ≠ 0 → numM 18446744073709551615 l = 0) :=
  ⟨fun h => ⟨(num_again _ _ h).1, (num_again _ _ h).2.2.1⟩, fun h => (num_err0 _ _ h).1⟩
theorem went_int (l : List UInt8) : (intE l = 0 → 0 < intM l ∧ l.take (intM l) = encInt (intV l)) ∧ (intE l ≠ 0 → intM l = 0) :=
  ⟨fun h => ⟨(int_again _ h).1, (int_again _ h).2.2.1⟩, fun h => (int_err0 _ h).1⟩
theorem went_float (l : List UInt8) : (floatE l = 0 → 0 < floatM l ∧ l.take (floatM l) = encFloat (floatV l)) ∧ (floatE l ≠ 0 → floatM l = 0) :=
  ⟨fun h => ⟨(float_again _ h).1, (float_again _ h).2.2.1⟩, fun h => (float_err0 _ h).1⟩
theorem went_text (m : Nat) (l : List UInt8) : (textE m l = 0 → 0 < textM m l ∧ l.take (textM m l) = encText (textV m l)) ∧ (textE m l ≠ 0 → textM m l = 0) :=
  ⟨fun h => ⟨(text_again _ _ h).1, (text_again _ _ h).2.2.1⟩, fun h => (text_err0 _ _ h).1⟩
theorem far_num (m : Nat) (l : List UInt8) : numM m l ≤ l.length := by
  by_cases h : numE m l = 0
  · exact (num_again _ _ h).2.1
  · rw [(num_err0 _ _ h).1]; exact Nat.zero_le _
theorem far_int (l : List UInt8) : intM l ≤ l.length := by
  by_cases h : intE l = 0
  · exact (int_again _ h).2.1
  · rw [(int_err0 _ h).1]; exact Nat.zero_le _
theorem far_float (l : List UInt8) : floatM l ≤ l.length := by
  by_cases h : floatE l = 0
  · exact (float_again _ h).2.1
  · rw [(float_err0 _ h).1]; exact Nat.zero_le _
theorem far_text (m : Nat) (l : List UInt8) : textM m l ≤ l.length := by
  by_cases h : textE m l = 0
  · exact (text_again _ _ h).2.1
  · rw [(text_err0 _ _ h).1]; exact Nat.zero_le _
theorem lays_num (m : Nat) (l : List UInt8) : numV m l < 2 ^ 64 := by
  by_cases h : numE m l = 0
  · exact (num_again _ _ h).2.2.2
  · rw [(num_err0 _ _ h).2]; omega
theorem lays_int (l : List UInt8) : fits (intV l) := by
  by_cases h : intE l = 0
  · exact (int_again _ h).2.2.2
  · rw [(int_err0 _ h).2]; unfold fits; omega
theorem lays_float (l : List UInt8) : canonF (floatV l) = floatV l ∧ floatV l < 18446744073709551616 := by
  by_cases h : floatE l = 0
  · exact (float_again _ h).2.2.2
  · rw [(float_err0 _ h).2]; exact ⟨by decide, by omega⟩
theorem lays_text (m : Nat) (l : List UInt8) (hl : l.length ≤ 140737488355328) : (encText (textV m l)).length ≤ 140737488355328 := by
  by_cases h : textE m l = 0
  · rw [← (text_again _ _ h).2.2.1, List.length_take]; omega
  · rw [(text_err0 _ _ h).2]; decide
theorem form_text (m : Nat) (l : List UInt8) (hl : l.length ≤ 140737488355328) (w : World) : Calls Try.prog 14 #[.slice none 0 0, .string ⟨(textV m l).toArray⟩] w (Gives w (encText (textV m l))) := by
  have h := TextN ⟨(textV m l).toArray⟩ w (by simpa using lays_text m l hl)
  simpa using h
set_option maxRecDepth 100000 in
set_option maxHeartbeats 8000000 in
/-- The statement's walk. -/
theorem WireOnce_walk (A : Option Addr) (cap : Nat) (l : List UInt8) (w : World) (hA : At w A l) (hz : A = none → cap = 0) (hl : l.length ≤ 140737488355328) (hcap : l.length ≤ cap) :
    Calls Try.prog 7 #[.slice A l.length cap] w fun e w' => e = .returned (.bool true) ∧ Below w.heap.size w w' := by
  have hmf : ∀ (fn : Fn) (first cap : Array Value) (w : World), (Instr.makeFunc fn first cap).run Try.prog w = .ok (.func fn first cap) w := fun _ _ _ _ => rfl
  have HA := Lib.hid hA
  have HZ := Lib.hid hz
  have HL := Lib.hid hl
  have HCAP := Lib.hid hcap
  have X0 := Lib.hid (Boxed.start (cap := cap) hA)
  have LE1 := Lib.hid (far_num 18446744073709551615 l)
  have LE2 := Lib.hid (far_int l)
  have LE3 := Lib.hid (far_float l)
  have LE4 := Lib.hid (far_text l.length l)
  have W1 := Lib.hid (went_num l)
  have W2 := Lib.hid (went_int l)
  have W3 := Lib.hid (went_float l)
  have W4 := Lib.hid (went_text l.length l)
  have KR1 := Lib.hid (read_num l)
  have KR2 := Lib.hid (read_int l)
  have KR3 := Lib.hid (read_float l)
  have KR4 := Lib.hid (read_text l.length (by omega) l)
  have KF1 := Lib.hid (fun w => NumN (numV 18446744073709551615 l) w (lays_num _ _))
  have KF2 := Lib.hid (fun w => IntN (intV l) w (lays_int _))
  have KF3 := Lib.hid (fun w => FloatN (floatV l) w (lays_float _).2 (lays_float _).1)
  have KF4 := Lib.hid (form_text l.length l hl)
  have KAW := Lib.hid awake_any
  clear hA hz hl hcap
  go_enter Try.func7, Try.ntmps7
  have q1 := X0.out.2.2.1
  go_wp2_with fail
  clear q1
  refine (NewL A l l.length cap _ X0.out.2.2.2 HZ.out HL.out rfl).mono ?_
  rintro e a1 ⟨g1, P1, c1, rfl, hg, hr, hb⟩
  have R1 := Lib.hid hr
  have N1 := Lib.hid (Nat.lt_of_lt_of_le X0.out.2.1 hg)
  have Y1 := Lib.hid (X0.out.step hb)
  clear hr hb hg
  go_wp2_with fail
  refine (KR1.out _ _ _ _ R1.out).mono ?_
  rintro e b1 ⟨rfl, hm⟩
  have Z1 := Lib.hid (Y1.out.moved hm HA.out N1.out)
  have Q1 := Lib.hid (R1.out.moved hm LE1.out)
  clear hm
  go_wp2_with fail
  refine (KF1.out _).mono ?_
  rintro e d1 ⟨f1, rfl, ho, hb⟩
  have O1 := Lib.hid (Gives.at_ ho)
  have V1 := Lib.hid (Z1.out.step hb)
  have S1 := Lib.hid (Q1.out.below hb)
  clear ho hb
  go_wp2_with fail
  refine (went_any _ _ _ _ _ _ _ _ _ l _ _ _ S1.out V1.out.2.2.1 V1.out.2.2.2 O1.out rfl W1.out HCAP.out).mono ?_
  rintro e x1 ⟨rfl, hb⟩
  have X1 := Lib.hid (V1.out.step hb)
  clear hb
  have q2 := X1.out.2.2.1
  go_wp2_with fail
  clear q2
  refine (NewL A l l.length cap _ X1.out.2.2.2 HZ.out HL.out rfl).mono ?_
  rintro e a2 ⟨g2, P2, c2, rfl, hg, hr, hb⟩
  have R2 := Lib.hid hr
  have N2 := Lib.hid (Nat.lt_of_lt_of_le X1.out.2.1 hg)
  have Y2 := Lib.hid (X1.out.step hb)
  clear hr hb hg
  go_wp2_with fail
  refine (KR2.out _ _ _ _ R2.out).mono ?_
  rintro e b2 ⟨rfl, hm⟩
  have Z2 := Lib.hid (Y2.out.moved hm HA.out N2.out)
  have Q2 := Lib.hid (R2.out.moved hm LE2.out)
  clear hm
  go_wp2_with fail
  refine (KF2.out _).mono ?_
  rintro e d2 ⟨f2, rfl, ho, hb⟩
  have O2 := Lib.hid (Gives.at_ ho)
  have V2 := Lib.hid (Z2.out.step hb)
  have S2 := Lib.hid (Q2.out.below hb)
  clear ho hb
  go_wp2_with fail
  refine (went_any _ _ _ _ _ _ _ _ _ l _ _ _ S2.out V2.out.2.2.1 V2.out.2.2.2 O2.out rfl W2.out HCAP.out).mono ?_
  rintro e x2 ⟨rfl, hb⟩
  have X2 := Lib.hid (V2.out.step hb)
  clear hb
  have q3 := X2.out.2.2.1
  go_wp2_with fail
  clear q3
  refine (NewL A l l.length cap _ X2.out.2.2.2 HZ.out HL.out rfl).mono ?_
  rintro e a3 ⟨g3, P3, c3, rfl, hg, hr, hb⟩
  have R3 := Lib.hid hr
  have N3 := Lib.hid (Nat.lt_of_lt_of_le X2.out.2.1 hg)
  have Y3 := Lib.hid (X2.out.step hb)
  clear hr hb hg
  go_wp2_with fail
  refine (KR3.out _ _ _ _ R3.out).mono ?_
  rintro e b3 ⟨rfl, hm⟩
  have Z3 := Lib.hid (Y3.out.moved hm HA.out N3.out)
  have Q3 := Lib.hid (R3.out.moved hm LE3.out)
  clear hm
  go_wp2_with fail
  refine (KF3.out _).mono ?_
  rintro e d3 ⟨f3, rfl, ho, hb⟩
  have O3 := Lib.hid (Gives.at_ ho)
  have V3 := Lib.hid (Z3.out.step hb)
  have S3 := Lib.hid (Q3.out.below hb)
  clear ho hb
  go_wp2_with fail
  refine (went_any _ _ _ _ _ _ _ _ _ l _ _ _ S3.out V3.out.2.2.1 V3.out.2.2.2 O3.out rfl W3.out HCAP.out).mono ?_
  rintro e x3 ⟨rfl, hb⟩
  have X3 := Lib.hid (V3.out.step hb)
  clear hb
  have q4 := X3.out.2.2.1
  go_wp2_with fail
  clear q4
  refine (NewL A l l.length cap _ X3.out.2.2.2 HZ.out HL.out rfl).mono ?_
  rintro e a4 ⟨g4, P4, c4, rfl, hg, hr, hb⟩
  have R4 := Lib.hid hr
  have N4 := Lib.hid (Nat.lt_of_lt_of_le X3.out.2.1 hg)
  have Y4 := Lib.hid (X3.out.step hb)
  clear hr hb hg
  have q5 := Y4.out.2.2.1
  go_wp2_with fail
  clear q5
  refine (KR4.out _ _ _ _ R4.out).mono ?_
  rintro e b4 ⟨rfl, hm⟩
  have Z4 := Lib.hid (Y4.out.moved hm HA.out N4.out)
  have Q4 := Lib.hid (R4.out.moved hm LE4.out)
  clear hm
  go_wp2_with fail
  refine (KAW.out _).mono ?_
  rintro e aw ⟨rfl, hb⟩
  have ZA := Lib.hid (Z4.out.step hb)
  have QA := Lib.hid (Q4.out.below hb)
  clear hb
  go_wp2_with fail
  refine (KF4.out _).mono ?_
  rintro e d4 ⟨f4, rfl, ho, hb⟩
  have O4 := Lib.hid (Gives.at_ ho)
  have V4 := Lib.hid (ZA.out.step hb)
  have S4 := Lib.hid (QA.out.below hb)
  clear ho hb
  go_wp2_with fail
  refine (went_any _ _ _ _ _ _ _ _ _ l _ _ _ S4.out V4.out.2.2.1 V4.out.2.2.2 O4.out rfl W4.out HCAP.out).mono ?_
  rintro e x4 ⟨rfl, hb⟩
  have X4 := Lib.hid (V4.out.step hb)
  clear hb
  go_wp2
  go_ret
  exact ⟨rfl, X4.out.1⟩
end Go.Proofs.Ytgchgccfngiafaa
