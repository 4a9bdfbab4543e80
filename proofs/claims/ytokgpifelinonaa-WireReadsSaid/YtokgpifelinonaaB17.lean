/- The statements' own test of being awake answers true, in every world. -/
import Derived.Test.YtokgpifelinonaaB16
namespace Go.Proofs.Ytokgpifelinonaa
open Go.RowKit
theorem moved_below {B g j : Nat} {w w2 w3 : World} (hb : Below B w w2) (hm : Moved w2 g j w3) (hg : B ≤ g) (hB : B ≤ w2.heap.size) : Below B w w3 := (hb.setCell (p := ⟨g, 1, none⟩) hg _).trans (Below.mono hm hB)
theorem at_nil (w : World) (A : Option Addr) : At w A [] := fun h => absurd h (Nat.lt_irrefl 0)
theorem at_new (w : World) (cs : Array Value) (l : List UInt8) (h : cs.toList = cellsB l) : At (w.alloc (.cells cs 5)) (some ⟨w.heap.size, 0, none⟩) l := by
  intro _
  refine ⟨w.heap.size, 0, rfl, by simp, fun i hi => ?_⟩
  rw [cell_of_row _ _ _ _ _ _ (heap_alloc_new w _)]
  rw [← Array.getElem?_toList, h]
  simp [cellsB, List.getD, hi]
theorem Gives.at_ {w w' : World} {l : List UInt8} {cap : Nat} (h : w'.ownsRow w.heap.size 5 1 (.slice (some ⟨w.heap.size, 0, none⟩) l.length cap) l.length (cellsB l)) : At w' (some ⟨w.heap.size, 0, none⟩) l := own_at h
/-- The forms laid onto nil. -/
theorem NumN (n : Nat) (w : World) (hn : n < 2 ^ 64) : Calls Try.prog 22 #[.slice none 0 0, .int .u64 n] w (Gives w (encNum n)) := Num_any none [] 0 n w hn (at_nil _ _) (fun _ => rfl) (by simp)
theorem IntN (n : Int) (w : World) (hn : fits n) : Calls Try.prog 23 #[.slice none 0 0, .int .i64 n] w (Gives w (encInt n)) := Int_any none [] 0 n w hn (at_nil _ _) (fun _ => rfl) (by simp)
theorem FloatN (f : Nat) (w : World) (hf : f < 18446744073709551616) (h : canonF f = f) : Calls Try.prog 20 #[.slice none 0 0, .float .f64 f] w (GivesF w (encFloat f)) := Float_yes none [] 0 f w hf h (at_nil _ _) (fun _ => rfl) (by simp)
theorem TextN (s : ByteArray) (w : World) (h : (encText s.data.toList).length ≤ 140737488355328) : Calls Try.prog 24 #[.slice none 0 0, .string s] w (Gives w (encText s.data.toList)) := Text_any none [] 0 s w (at_nil _ _) (fun _ => rfl) (by simpa using h)
theorem EqualL (A B : Option Addr) (a b : List UInt8) (n m c d : Nat) (w : World) (hA : At w A a) (hB : At w B b) (hn : a.length = n) (hm : b.length = m) :
    Calls Try.prog 21 #[.slice A n c, .slice B m d] w fun e w' => e = .returned (.bool (a == b)) ∧ w = w' := by
  subst hn hm
  exact Equal_any A B a b c d w hA hB
theorem NewL (A : Option Addr) (l : List UInt8) (n cap : Nat) (w : World) (hA : At w A l) (hz : A = none → cap = 0) (hm : l.length ≤ 140737488355328) (hn : l.length = n) :
    Calls Try.prog 6 #[.slice A n cap] w fun e w' => ∃ g P c, e = .returned (.pointer (some ⟨g, 0, none⟩)) ∧ w.heap.size ≤ g ∧ Rd w' g 0 P c l ∧ Below w.heap.size w w' := by
  subst hn
  exact New_any A l cap w hA hz hm
theorem encNum_258 : encNum 258 = [2, 1, 2] := by decide
theorem encInt_257 : encInt (-257) = [13, 254, 255] := by decide
theorem encText_ab : encText (⟨#[97, 0, 98]⟩ : ByteArray).data.toList = [97, 0, 255, 98, 0, 0] := by decide
theorem encFloat_1 : encFloat 4607182418800017408 = [191, 240, 0, 0, 0, 0, 0, 0] := by decide
theorem num_21 : numE 9 [2, 1] = 4 ∧ numM 9 [2, 1] = 0 ∧ numV 9 [2, 1] = 0 := by decide
theorem canon_1 : canonF 4607182418800017408 = 4607182418800017408 := by decide
theorem cells_rr : (#[.int .u8 2, .int .u8 1] : Array Value).toList = cellsB [2, 1] := by kernel_rfl
theorem cells_nn : (#[.int .u8 2, .int .u8 1, .int .u8 2] : Array Value).toList = cellsB [2, 1, 2] := by kernel_rfl
theorem cells_ii : (#[.int .u8 13, .int .u8 254, .int .u8 255] : Array Value).toList = cellsB [13, 254, 255] := by kernel_rfl
theorem cells_ff : (#[.int .u8 191, .int .u8 240, .int .u8 0, .int .u8 0, .int .u8 0, .int .u8 0, .int .u8 0, .int .u8 0] : Array Value).toList = cellsB [191, 240, 0, 0, 0, 0, 0, 0] := by kernel_rfl
theorem cells_tt : (#[.int .u8 97, .int .u8 0, .int .u8 255, .int .u8 98, .int .u8 0, .int .u8 0] : Array Value).toList = cellsB [97, 0, 255, 98, 0, 0] := by kernel_rfl
theorem at_size {w : World} {s t : Nat} {l : List UInt8} (h : s = t) (hA : At w (some ⟨s, 0, none⟩) l) : At w (some ⟨t, 0, none⟩) l := by subst h; exact hA
/-- What stays on the way through awake. -/
def Carry (w1 : World) (A : Option Addr) (l : List UInt8) (g : Nat) (P : Option Addr) (c : Nat) (wk : World) : Prop := Below w1.heap.size w1 wk ∧ At wk A l ∧ Rd wk g 0 P c [2, 1]
section
variable {w1 wk wk' : World} {A P : Option Addr} {l : List UInt8} {g c : Nat}
theorem Carry.step (h : Carry w1 A l g P c wk) (hb : Below wk.heap.size wk wk') : Carry w1 A l g P c wk' := ⟨h.1.trans (hb.mono h.1.size), h.2.1.below hb, h.2.2.below hb⟩
theorem Carry.alloc (h : Carry w1 A l g P c wk) (o : Obj) : Carry w1 A l g P c (wk.alloc o) := h.step ((Below.refl _ _).alloc (Nat.le_refl _) _)
theorem Carry.start {w2 w3 : World} (hA : At w1 A l) (hb : Below w1.heap.size w1 w2) (hg : w1.heap.size ≤ g) (hr : Rd w2 g 0 P c [2, 1]) (hm : Moved w2 g 0 w3) : Carry w1 A l g P c w3 := by
  have hb3 : Below w1.heap.size w1 w3 := moved_below hb hm hg hb.size
  exact ⟨hb3, hA.below hb3, hr.moved hm (Nat.zero_le _)⟩
end
theorem num_21_any (g c : Nat) (P : Option Addr) (w : World) (h : Rd w g 0 P c [2, 1]) : Calls Try.prog 7 #[.pointer (some ⟨g, 0, none⟩), .int .u64 9] w fun e w' => e = .returned (.tuple #[.int .u64 0, .int .i64 4]) ∧ Moved w g 0 w' := by
  have hC := RNum_any g 0 c 9 P [2, 1] w h
  rw [List.drop_zero, num_21.1, num_21.2.1, num_21.2.2] at hC
  exact hC
theorem left_21_any (g c : Nat) (P : Option Addr) (w : World) (h : Rd w g 0 P c [2, 1]) : Calls Try.prog 18 #[.pointer (some ⟨g, 0, none⟩)] w fun e w' => e = .returned (.int .i64 2) ∧ Below w.heap.size w w' :=
  (quiet_r (Left_any g 0 c P [2, 1] w h))
set_option maxRecDepth 100000 in
set_option maxHeartbeats 4000000 in
theorem awake_any (w : World) : Calls Try.prog 4 #[] w fun e w' => e = .returned (.bool true) ∧ Below w.heap.size w w' := by
  have K1 := Lib.hid (fun w => FloatN 4607182418800017408 w (by omega) canon_1)
  rw [encFloat_1] at K1
  have K2 := Lib.hid (fun w => NumN 258 w (by omega))
  rw [encNum_258] at K2
  have K3 := Lib.hid (fun w => IntN (-257) w (by unfold fits; omega))
  rw [encInt_257] at K3
  have K4 := Lib.hid (fun w => TextN ⟨#[97, 0, 98]⟩ w (by rw [encText_ab]; decide))
  rw [encText_ab] at K4
  go_enter Try.func4, Try.ntmps4
  go_wp2_with fail
  refine (K1.out _).mono ?_
  rintro e w1 ⟨c1, rfl, ho, hb⟩
  have O1 := Lib.hid (Gives.at_ ho)
  have B1 := Lib.hid hb
  clear ho hb
  go_wp2_with fail
  refine (NewL _ [2, 1] _ _ _ (at_new _ _ _ cells_rr) (fun h => by cases h) (by decide) rfl).mono ?_
  rintro e w2 ⟨g, P, c, rfl, hg, hr, hb⟩
  have R2 := Lib.hid hr
  have G2 := Lib.hid hg
  have B2 := Lib.hid hb
  clear hr hb hg
  go_wp2_with fail
  refine (num_21_any _ _ _ _ R2.out).mono ?_
  rintro e w3 ⟨rfl, hm⟩
  have T3 := Lib.hid (Carry.start O1.out (((Below.refl _ _).alloc (Nat.le_refl _) _).trans (B2.out.mono (by simp))) (Nat.le_trans (by simp) G2.out) R2.out hm)
  clear hm
  go_wp2_with fail
  refine (K2.out _).mono ?_
  rintro e w4 ⟨c4, rfl, ho, hb⟩
  have O4 := Lib.hid (Gives.at_ ho)
  have T4 := Lib.hid (T3.out.step hb)
  clear ho hb
  go_wp2_with fail
  refine (EqualL _ _ [2, 1, 2] [2, 1, 2] 3 3 _ _ _ (At.below O4.out ((Below.refl _ _).alloc (Nat.le_refl _) _)) (at_new _ _ _ cells_nn) rfl rfl).mono ?_
  rintro e w' ⟨rfl, rfl⟩
  go_wp2_with fail
  refine (K3.out _).mono ?_
  rintro e w5 ⟨c5, rfl, ho, hb⟩
  have O5 : Hid (At w5 (some ⟨w4.heap.size + 1, 0, none⟩) [13, 254, 255]) := at_size (by simp) (Gives.at_ ho)
  have T5 := Lib.hid ((T4.out.alloc _).step hb)
  clear ho hb
  go_wp2_with fail
  refine (EqualL _ _ [13, 254, 255] [13, 254, 255] 3 3 _ _ _ (At.below O5.out ((Below.refl _ _).alloc (Nat.le_refl _) _)) (at_new _ _ _ cells_ii) rfl rfl).mono ?_
  rintro e w' ⟨rfl, rfl⟩
  go_wp2_with fail
  refine (EqualL _ _ [191, 240, 0, 0, 0, 0, 0, 0] [191, 240, 0, 0, 0, 0, 0, 0] 8 8 _ _ _ ((T5.out.alloc _).alloc _).2.1 (at_size (by simp) (at_new _ _ _ cells_ff)) rfl rfl).mono ?_
  rintro e w' ⟨rfl, rfl⟩
  go_wp2_with fail
  refine (K4.out _).mono ?_
  rintro e w6 ⟨c6, rfl, ho, hb⟩
  have O6 : Hid (At w6 (some ⟨w5.heap.size + 1 + 1, 0, none⟩) [97, 0, 255, 98, 0, 0]) := at_size (by simp) (Gives.at_ ho)
  have T6 := Lib.hid (((T5.out.alloc _).alloc _).step hb)
  clear ho hb
  go_wp2_with fail
  refine (EqualL _ _ [97, 0, 255, 98, 0, 0] [97, 0, 255, 98, 0, 0] 6 6 _ _ _ (At.below O6.out ((Below.refl _ _).alloc (Nat.le_refl _) _)) (at_new _ _ _ cells_tt) rfl rfl).mono ?_
  rintro e w' ⟨rfl, rfl⟩
  go_wp2_with fail
  refine (left_21_any _ _ _ _ ((T6.out.alloc _).2.2)).mono ?_
  rintro e w7 ⟨rfl, hb⟩
  have T7 := Lib.hid ((T6.out.alloc _).step hb)
  clear hb
  go_wp2
  go_ret
  exact ⟨rfl, B1.out.trans (T7.out.1.mono B1.out.size)⟩
end Go.Proofs.Ytokgpifelinonaa
