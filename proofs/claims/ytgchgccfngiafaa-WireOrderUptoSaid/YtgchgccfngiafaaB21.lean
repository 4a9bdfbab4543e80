/- Comparisons: bytes.Compare, strings.Compare, cmp.Compare, num.Floats, for every two. -/
import Derived.Test.YtgchgccfngiafaaB17
import Derived.Lib.BytesEntry
namespace Go.Proofs.Ytgchgccfngiafaa
open Go.RowKit
theorem bytesOf_nums (l : List UInt8) : Lib.bytesOf (l.map fun b => (b.toNat : Int)) = l := by
  unfold Lib.bytesOf
  rw [List.map_map]
  conv => rhs; rw [← List.map_id l]
  apply List.map_congr_left
  intro b _
  simp [Function.comp]
theorem run_bytes_at (w : World) (A : Option Addr) (l : List UInt8) (c : Nat) (hA : At w A l) : (Extern.Bytes.bytesOf (.slice A l.length c)).run Try.prog w = .ok ⟨l.toArray⟩ w := by
  cases A with
  | none =>
    have hl : l = [] := by
      rcases Nat.eq_zero_or_pos l.length with e | e
      · exact List.eq_nil_of_length_eq_zero e
      · obtain ⟨b, off, h, _⟩ := hA e; cases h
    subst hl
    rfl
  | some a =>
    have h := Lib.run_loadBytesX (P := Try.prog) w (l.map fun b => (b.toNat : Int)) a .empty (fun j x hj => by
      have hj' : j < l.length := by simpa using (List.getElem?_eq_some_iff.1 hj).1
      have := hA.cells j (bv l[j]) (by simp [cellsB, hj'])
      rw [this]
      simp [hj'] at hj
      rw [← hj]
      rfl)
    rw [List.length_map, bytesOf_nums] at h
    show (Extern.Bytes.loadBytes a l.length .empty).run Try.prog w = _
    rw [h]
    congr 1
    apply ByteArray.ext
    show (#[] : Array UInt8) ++ l.toArray = l.toArray
    simp
theorem call_Compare (A B : Option Addr) (a b : List UInt8) (c d : Nat) (w : World) (hA : At w A a) (hB : At w B b) :
    (callFunc 72 #[.slice A a.length c, .slice B b.length d]).run Try.prog w = .ok (.value (.int .i64 (Lib.compareBytes a b))) w := by
  rw [run_callFunc_extern Try.func72 (by kernel_rfl) (by kernel_rfl) (by kernel_rfl) (e := Extern.BytealgCompare.compare) (by kernel_rfl)]
  change (Sem.run Try.prog (do pure (goInt (Extern.BytealgCompare.cmp (← Extern.Bytes.bytesOf (.slice A a.length c)) (← Extern.Bytes.bytesOf (.slice B b.length d))))) w).andThen _ = _
  simp only [Sem.run_bind, Sem.run_pure, run_bytes_at w A a c hA, run_bytes_at w B b d hB, Result.andThen]
  rw [Lib.cmp_eq]
  rfl
set_option maxRecDepth 100000 in
set_option maxHeartbeats 1000000 in
theorem Compare_any (A B : Option Addr) (a b : List UInt8) (c d : Nat) (w : World) (hA : At w A a) (hB : At w B b) :
    Calls Try.prog 38 #[.slice A a.length c, .slice B b.length d] w fun e w' => e = .returned (.int .i64 (Lib.compareBytes a b)) ∧ w = w' := by
  have hc := call_Compare A B a b c d w hA hB
  clear hA hB
  go_enter Try.func38, Try.ntmps38
  go_wp2
  go_ret
  exact ⟨rfl, rfl⟩
set_option maxRecDepth 100000 in
set_option maxHeartbeats 1000000 in
theorem cmpU_any (a b : Nat) (w : World) :
    Calls Try.prog 40 #[.int .u64 a, .int .u64 b] w fun e w' => e = .returned (.int .i64 (cmpI a b)) ∧ w = w' := by
  have hnn : ∀ z : Int, (z != z) = false := fun z => by simp
  rcases Int.lt_trichotomy (a : Int) (b : Int) with h | h | h
  · have t1 : decide (a < b) = true := by simp; omega
    have HE := Lib.hid (show cmpI a b = -1 from if_pos h)
    clear h
    go_enter Try.func40, Try.ntmps40
    go_wp2
    go_ret
    exact ⟨by rw [HE.out]; rfl, rfl⟩
  · have t1 : decide (a < b) = false := by simp; omega
    have t2 : decide (b < a) = false := by simp; omega
    have HE := Lib.hid (show cmpI a b = 0 from (if_neg (by omega)).trans (if_neg (by omega)))
    clear h
    go_enter Try.func40, Try.ntmps40
    go_wp2
    go_ret
    exact ⟨by rw [HE.out]; rfl, rfl⟩
  · have t1 : decide (a < b) = false := by simp; omega
    have t2 : decide (b < a) = true := by simp; omega
    have HE := Lib.hid (show cmpI a b = 1 from (if_neg (by omega)).trans (if_pos h))
    clear h
    go_enter Try.func40, Try.ntmps40
    go_wp2
    go_ret
    exact ⟨by rw [HE.out]; rfl, rfl⟩
set_option maxRecDepth 100000 in
set_option maxHeartbeats 1000000 in
theorem cmpI_any (a b : Int) (w : World) :
    Calls Try.prog 41 #[.int .i64 a, .int .i64 b] w fun e w' => e = .returned (.int .i64 (cmpI a b)) ∧ w = w' := by
  have hnn : ∀ z : Int, (z != z) = false := fun z => by simp
  rcases Int.lt_trichotomy (a : Int) (b : Int) with h | h | h
  · have t1 : decide (a < b) = true := by simp; omega
    have HE := Lib.hid (show cmpI a b = -1 from if_pos h)
    clear h
    go_enter Try.func41, Try.ntmps41
    go_wp2
    go_ret
    exact ⟨by rw [HE.out]; rfl, rfl⟩
  · have t1 : decide (a < b) = false := by simp; omega
    have t2 : decide (b < a) = false := by simp; omega
    have HE := Lib.hid (show cmpI a b = 0 from (if_neg (by omega)).trans (if_neg (by omega)))
    clear h
    go_enter Try.func41, Try.ntmps41
    go_wp2
    go_ret
    exact ⟨by rw [HE.out]; rfl, rfl⟩
  · have t1 : decide (a < b) = false := by simp; omega
    have t2 : decide (b < a) = true := by simp; omega
    have HE := Lib.hid (show cmpI a b = 1 from (if_neg (by omega)).trans (if_pos h))
    clear h
    go_enter Try.func41, Try.ntmps41
    go_wp2
    go_ret
    exact ⟨by rw [HE.out]; rfl, rfl⟩
theorem call_cmpstring (a b : ByteArray) (w : World) : (callFunc 93 #[.string a, .string b]).run Try.prog w = .ok (.value (.int .i64 (Lib.compareBytes a.data.toList b.data.toList))) w := by
  rw [run_callFunc_extern Try.func93 (by kernel_rfl) (by kernel_rfl) (by kernel_rfl) (e := Extern.BytealgCompare.compare) (by kernel_rfl), Lib.run_compareString]
  rfl
set_option maxRecDepth 100000 in
set_option maxHeartbeats 1000000 in
theorem sCompare_any (a b : ByteArray) (w : World) :
    Calls Try.prog 43 #[.string a, .string b] w fun e w' => e = .returned (.int .i64 (Lib.compareBytes a.data.toList b.data.toList)) ∧ w = w' := by
  have hc := call_cmpstring a b
  go_enter Try.func43, Try.ntmps43
  go_wp2
  go_ret
  exact ⟨rfl, rfl⟩
end Go.Proofs.Ytgchgccfngiafaa
