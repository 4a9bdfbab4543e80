/- The calls of a reader. -/
import Derived.Test.YtokgpifelinonaaB14
namespace Go.Proofs.Ytokgpifelinonaa
open Go.RowKit
theorem enter_Num1 : ∀ args w, (callFunc 27 args).run Try.prog w = .ok (.enter 27 args) w := fun _ _ => by kernel_rfl
theorem enter_Text1 : ∀ args w, (callFunc 37 args).run Try.prog w = .ok (.enter 37 args) w := fun _ _ => by kernel_rfl
theorem enter_takeInt : ∀ args w, (callFunc 31 args).run Try.prog w = .ok (.enter 31 args) w := fun _ _ => by kernel_rfl
theorem enter_takeFloat : ∀ args w, (callFunc 33 args).run Try.prog w = .ok (.enter 33 args) w := fun _ _ => by kernel_rfl
theorem enter_takeByte : ∀ args w, (callFunc 40 args).run Try.prog w = .ok (.enter 40 args) w := fun _ _ => by kernel_rfl
theorem sizedC_le (count : Nat) (L : List UInt8) : sizedC count L ≤ L.length := by unfold sizedC thereN; split <;> omega
theorem numC_le (L : List UInt8) : numC L ≤ L.length := by
  cases L with
  | nil => exact Nat.le_refl _
  | cons h t => have := sizedC_le h.toNat t; simp [numC]; omega
theorem intC_le (L : List UInt8) : intC L ≤ L.length := by
  cases L with
  | nil => exact Nat.le_refl _
  | cons h t =>
    have h1 := sizedC_le (h.toNat - 16) t
    have h2 := sizedC_le (15 - h.toNat) t
    simp only [intC, List.length_cons]
    split <;> omega
theorem floatC_le (L : List UInt8) : thereN 8 L ≤ L.length := by unfold thereN; omega
theorem scanT_le (m : Nat) : ∀ (n : Nat) (acc L : List UInt8), L.length ≤ n → (scanT m acc L).2.2 ≤ L.length
  | _, _, [], _ => by simp [scanT]
  | _, _, [_], _ => by simp [scanT]
  | 0, _, _ :: _ :: _, h => by simp at h
  | n + 1, acc, c :: d :: t, h => by
    have i1 := scanT_le m n (acc ++ [0]) t (by simp at h; omega)
    have i2 := scanT_le m n (acc ++ [c]) (d :: t) (by simp at h ⊢; omega)
    simp only [List.length_cons] at i1 i2 ⊢
    unfold scanT
    split
    · split
      · split <;> simp
      · split
        · simp; omega
        · simp
    · simp; omega
/-- What a call of the reader answers of the bytes that remain, its error's number, and how far it moves. -/
def numE (most : Nat) (L : List UInt8) : Nat := (numF most L).2
def numV (most : Nat) (L : List UInt8) : Nat := if numE most L = 0 then (numF most L).1 else 0
def numM (most : Nat) (L : List UInt8) : Nat := if numE most L = 0 then numC L else 0
def intE (L : List UInt8) : Nat := (intF L).2
def intV (L : List UInt8) : Int := if intE L = 0 then (intF L).1 else 0
def intM (L : List UInt8) : Nat := if intE L = 0 then intC L else 0
def floatE (L : List UInt8) : Nat := (floatF L).2
def floatV (L : List UInt8) : Nat := if floatE L = 0 then (floatF L).1 else 0
def floatM (L : List UInt8) : Nat := if floatE L = 0 then thereN 8 L else 0
def textE (m : Nat) (L : List UInt8) : Nat := (scanT m [] L).2.1
def textV (m : Nat) (L : List UInt8) : List UInt8 := if textE m L = 0 then (scanT m [] L).1 else []
def textM (m : Nat) (L : List UInt8) : Nat := if textE m L = 0 then (scanT m [] L).2.2 else 0
def byteE : List UInt8 → Nat
  | [] => 4
  | _ :: _ => 0
def byteV : List UInt8 → UInt8
  | [] => 0
  | c :: _ => c
def byteM : List UInt8 → Nat
  | [] => 0
  | _ :: _ => 1
theorem byteM_le (L : List UInt8) : byteM L ≤ L.length := by cases L <;> simp [byteM]
theorem takeByte_any (g k c : Nat) (A : Option Addr) (l : List UInt8) (w : World) (h : Rd w g k A c l) :
    Calls Try.prog 40 #[.pointer (some ⟨g, 0, none⟩)] w fun e w' => e = .returned (.tuple #[.int .u8 ((byteV (l.drop k)).toNat : Int), .int .i64 (byteE (l.drop k) : Nat)]) ∧ Moved w g (k + byteM (l.drop k)) w' := by
  have hb := h.2.1.1
  rcases Nat.lt_or_ge k l.length with hk | hk
  · rw [drop_more l k hk]
    exact takeByte_more g k c A l w h hk
  · rw [drop_none l k (by omega)]
    exact takeByte_end g k c A l w h (by omega)
set_option maxRecDepth 100000 in
set_option maxHeartbeats 1000000 in
theorem Num1_any (g k c : Nat) (most : Nat) (A : Option Addr) (l : List UInt8) (p q : Addr) (w : World) (h : Rd w g k A c l) (hp : w.cell? p = some (.pointer (some ⟨g, 0, none⟩))) (hq : w.cell? q = some (.int .u64 most)) :
    Calls Try.prog 27 #[.pointer (some p), .pointer (some q)] w fun e w' => e = .returned (.tuple #[.int .u64 ((numF most (l.drop k)).1 : Nat), .int .i64 ((numF most (l.drop k)).2 : Nat)]) ∧ Moved w g (k + numC (l.drop k)) w' := by
  have C := Lib.hid (takeNum_any g k c most A l w h)
  clear h
  go_enter Try.func27, Try.ntmps27
  go_wp2_with (go_at_call 28; ((with_reducible refine (C.out).mono ?_); rintro e w2 ⟨rfl, hm⟩))
  go_ret2
  exact ⟨rfl, hm⟩
set_option maxRecDepth 100000 in
set_option maxHeartbeats 1000000 in
theorem Text1_any (g k c : Nat) (m : Nat) (A : Option Addr) (l : List UInt8) (p q : Addr) (w : World) (h : Rd w g k A c l) (hm : m ≤ 9223372036854775807) (hp : w.cell? p = some (.pointer (some ⟨g, 0, none⟩))) (hq : w.cell? q = some (.int .i64 m)) :
    Calls Try.prog 37 #[.pointer (some p), .pointer (some q)] w fun e w' => e = .returned (.tuple #[.string ⟨(scanT m [] (l.drop k)).1.toArray⟩, .int .i64 ((scanT m [] (l.drop k)).2.1 : Nat)]) ∧ Moved w g (k + (scanT m [] (l.drop k)).2.2) w' := by
  have C := Lib.hid (takeText_any g k c m A l w h hm)
  clear h hm
  go_enter Try.func37, Try.ntmps37
  go_wp2_with (go_at_call 38; ((with_reducible refine (C.out).mono ?_); rintro e w2 ⟨rfl, hm⟩))
  go_ret2
  exact ⟨rfl, hm⟩
set_option maxRecDepth 100000 in
set_option maxHeartbeats 1000000 in
theorem RNum_any (g k c : Nat) (most : Nat) (A : Option Addr) (l : List UInt8) (w : World) (h : Rd w g k A c l) :
    Calls Try.prog 7 #[.pointer (some ⟨g, 0, none⟩), .int .u64 most] w fun e w' => e = .returned (.tuple #[.int .u64 (numV most (l.drop k) : Nat), .int .i64 (numE most (l.drop k) : Nat)]) ∧ Moved w g (k + numM most (l.drop k)) w' := by
  have hlt := h.lt
  have hbw : Below w.heap.size w ((w.alloc (.cells #[.pointer (some ⟨g, 0, none⟩)] 26)).alloc (.cells #[.int .u64 most] 31)) := ((Below.refl _ _).alloc (Nat.le_refl _) _).alloc (by simp) _
  have hk : k + numC (l.drop k) ≤ l.length := by have := numC_le (l.drop k); have := h.2.1.1; simp only [List.length_drop] at *; omega
  have C := stepU_any g k (k + numC (l.drop k)) c A l _ 27 #[] #[.pointer (some ⟨w.heap.size, 0, none⟩), .pointer (some ⟨w.heap.size + 1, 0, none⟩)] (((numF most (l.drop k)).1 : Nat)) (numE most (l.drop k)) (h.below hbw) hk enter_Num1 (fun W hW => by
    have hp : W.cell? ⟨w.heap.size, 0, none⟩ = some (.pointer (some ⟨g, 0, none⟩)) := by
      rw [hW.cell (p := ⟨w.heap.size, 0, none⟩) (by simp <;> omega), World.cell?_alloc_lt _ _ _ (by simp)]; simp
    have hq : W.cell? ⟨w.heap.size + 1, 0, none⟩ = some (.int .u64 most) := by
      rw [hW.cell (p := ⟨w.heap.size + 1, 0, none⟩) (by simp)]; simp
    exact Num1_any g k c most A l _ _ W ((h.below hbw).below hW) hp hq)
  have hV : (if numE most (l.drop k) = 0 then (.int .u64 ((numF most (l.drop k)).1 : Nat) : Value) else .int .u64 0) = .int .u64 (numV most (l.drop k) : Nat) := by
    unfold numV
    by_cases hc : numE most (l.drop k) = 0 <;> simp [hc]
  have hJ : (if numE most (l.drop k) = 0 then k + numC (l.drop k) else k) = k + numM most (l.drop k) := by
    unfold numM
    by_cases hc : numE most (l.drop k) = 0 <;> simp [hc]
  have hC := C.mono fun e w' ⟨he, hm⟩ => (⟨he, Moved.after hbw hlt hm⟩ : _ ∧ Moved w g _ w')
  rw [hV, hJ] at hC
  have HC := Lib.hid hC
  clear C hC h hk hbw hV hJ
  go_enter Try.func7, Try.ntmps7
  go_wp2_with (go_at_call 26; ((refine (HC.out).mono ?_); rintro e w2 ⟨rfl, hm⟩))
  go_ret2
  exact ⟨rfl, hm⟩
set_option maxRecDepth 100000 in
set_option maxHeartbeats 1000000 in
theorem RText_any (g k c : Nat) (m : Nat) (A : Option Addr) (l : List UInt8) (w : World) (h : Rd w g k A c l) (hm : m ≤ 9223372036854775807) :
    Calls Try.prog 14 #[.pointer (some ⟨g, 0, none⟩), .int .i64 m] w fun e w' => e = .returned (.tuple #[.string ⟨(textV m (l.drop k)).toArray⟩, .int .i64 (textE m (l.drop k) : Nat)]) ∧ Moved w g (k + textM m (l.drop k)) w' := by
  have hlt := h.lt
  have hbw : Below w.heap.size w ((w.alloc (.cells #[.pointer (some ⟨g, 0, none⟩)] 26)).alloc (.cells #[.int .i64 m] 3)) := ((Below.refl _ _).alloc (Nat.le_refl _) _).alloc (by simp) _
  have hk : k + (scanT m [] (l.drop k)).2.2 ≤ l.length := by have := scanT_le m _ [] (l.drop k) (Nat.le_refl _); have := h.2.1.1; simp only [List.length_drop] at *; omega
  have C := stepS_any g k (k + (scanT m [] (l.drop k)).2.2) c A l _ 37 #[] #[.pointer (some ⟨w.heap.size, 0, none⟩), .pointer (some ⟨w.heap.size + 1, 0, none⟩)] (⟨(scanT m [] (l.drop k)).1.toArray⟩) (textE m (l.drop k)) (h.below hbw) hk enter_Text1 (fun W hW => by
    have hp : W.cell? ⟨w.heap.size, 0, none⟩ = some (.pointer (some ⟨g, 0, none⟩)) := by
      rw [hW.cell (p := ⟨w.heap.size, 0, none⟩) (by simp <;> omega), World.cell?_alloc_lt _ _ _ (by simp)]; simp
    have hq : W.cell? ⟨w.heap.size + 1, 0, none⟩ = some (.int .i64 m) := by
      rw [hW.cell (p := ⟨w.heap.size + 1, 0, none⟩) (by simp)]; simp
    exact Text1_any g k c m A l _ _ W ((h.below hbw).below hW) hm hp hq)
  have hV : (if textE m (l.drop k) = 0 then (.string ⟨(scanT m [] (l.drop k)).1.toArray⟩ : Value) else .string ⟨#[]⟩) = .string ⟨(textV m (l.drop k)).toArray⟩ := by
    unfold textV
    by_cases hc : textE m (l.drop k) = 0 <;> simp [hc]
  have hJ : (if textE m (l.drop k) = 0 then k + (scanT m [] (l.drop k)).2.2 else k) = k + textM m (l.drop k) := by
    unfold textM
    by_cases hc : textE m (l.drop k) = 0 <;> simp [hc]
  have hC := C.mono fun e w' ⟨he, hm⟩ => (⟨he, Moved.after hbw hlt hm⟩ : _ ∧ Moved w g _ w')
  rw [hV, hJ] at hC
  have HC := Lib.hid hC
  clear C hC h hk hbw hV hJ
  go_enter Try.func14, Try.ntmps14
  go_wp2_with (go_at_call 36; ((refine (HC.out).mono ?_); rintro e w2 ⟨rfl, hm⟩))
  go_ret2
  exact ⟨rfl, hm⟩
set_option maxRecDepth 100000 in
set_option maxHeartbeats 1000000 in
theorem RInt_any (g k c : Nat) (A : Option Addr) (l : List UInt8) (w : World) (h : Rd w g k A c l) :
    Calls Try.prog 9 #[.pointer (some ⟨g, 0, none⟩)] w fun e w' => e = .returned (.tuple #[.int .i64 (intV (l.drop k)), .int .i64 (intE (l.drop k) : Nat)]) ∧ Moved w g (k + intM (l.drop k)) w' := by
  have hmf : ∀ (fn : Fn) (first cap : Array Value) (w : World), (Instr.makeFunc fn first cap).run Try.prog w = .ok (.func fn first cap) w := fun _ _ _ _ => rfl
  have hk : k + intC (l.drop k) ≤ l.length := by have := intC_le (l.drop k); have := h.2.1.1; simp only [List.length_drop] at *; omega
  have C := stepI_any g k (k + intC (l.drop k)) c A l w 31 #[.pointer (some ⟨g, 0, none⟩)] #[] ((intF (l.drop k)).1) (intE (l.drop k)) h hk enter_takeInt (fun W hW => takeInt_any g k c A l W (h.below hW))
  have hV : (if intE (l.drop k) = 0 then (.int .i64 (intF (l.drop k)).1 : Value) else .int .i64 0) = .int .i64 (intV (l.drop k)) := by
    unfold intV; by_cases hc : intE (l.drop k) = 0 <;> simp [hc]
  have hJ : (if intE (l.drop k) = 0 then k + intC (l.drop k) else k) = k + intM (l.drop k) := by
    unfold intM; by_cases hc : intE (l.drop k) = 0 <;> simp [hc]
  rw [hV, hJ] at C
  have HC := Lib.hid C
  clear C h hk hV hJ
  go_enter Try.func9, Try.ntmps9
  go_wp2_with (go_at_call 30; ((refine (HC.out).mono ?_); rintro e w2 ⟨rfl, hm⟩))
  go_ret2
  exact ⟨rfl, hm⟩
set_option maxRecDepth 100000 in
set_option maxHeartbeats 1000000 in
theorem RFloat_any (g k c : Nat) (A : Option Addr) (l : List UInt8) (w : World) (h : Rd w g k A c l) :
    Calls Try.prog 11 #[.pointer (some ⟨g, 0, none⟩)] w fun e w' => e = .returned (.tuple #[.float .f64 (floatV (l.drop k)), .int .i64 (floatE (l.drop k) : Nat)]) ∧ Moved w g (k + floatM (l.drop k)) w' := by
  have hmf : ∀ (fn : Fn) (first cap : Array Value) (w : World), (Instr.makeFunc fn first cap).run Try.prog w = .ok (.func fn first cap) w := fun _ _ _ _ => rfl
  have hk : k + thereN 8 (l.drop k) ≤ l.length := by have := floatC_le (l.drop k); have := h.2.1.1; simp only [List.length_drop] at *; omega
  have C := stepF_any g k (k + thereN 8 (l.drop k)) c A l w 33 #[.pointer (some ⟨g, 0, none⟩)] #[] ((floatF (l.drop k)).1) (floatE (l.drop k)) h hk enter_takeFloat (fun W hW => takeFloat_any g k c A l W (h.below hW))
  have hV : (if floatE (l.drop k) = 0 then (.float .f64 (floatF (l.drop k)).1 : Value) else .float .f64 0) = .float .f64 (floatV (l.drop k)) := by
    unfold floatV; by_cases hc : floatE (l.drop k) = 0 <;> simp [hc]
  have hJ : (if floatE (l.drop k) = 0 then k + thereN 8 (l.drop k) else k) = k + floatM (l.drop k) := by
    unfold floatM; by_cases hc : floatE (l.drop k) = 0 <;> simp [hc]
  rw [hV, hJ] at C
  have HC := Lib.hid C
  clear C h hk hV hJ
  go_enter Try.func11, Try.ntmps11
  go_wp2_with (go_at_call 32; ((refine (HC.out).mono ?_); rintro e w2 ⟨rfl, hm⟩))
  go_ret2
  exact ⟨rfl, hm⟩
set_option maxRecDepth 100000 in
set_option maxHeartbeats 1000000 in
theorem RByte_any (g k c : Nat) (A : Option Addr) (l : List UInt8) (w : World) (h : Rd w g k A c l) :
    Calls Try.prog 16 #[.pointer (some ⟨g, 0, none⟩)] w fun e w' => e = .returned (.tuple #[.int .u8 ((byteV (l.drop k)).toNat : Int), .int .i64 (byteE (l.drop k) : Nat)]) ∧ Moved w g (k + byteM (l.drop k)) w' := by
  have hmf : ∀ (fn : Fn) (first cap : Array Value) (w : World), (Instr.makeFunc fn first cap).run Try.prog w = .ok (.func fn first cap) w := fun _ _ _ _ => rfl
  have hk : k + byteM (l.drop k) ≤ l.length := by have := byteM_le (l.drop k); have := h.2.1.1; simp only [List.length_drop] at *; omega
  have C := stepB_any g k (k + byteM (l.drop k)) c A l w 40 #[.pointer (some ⟨g, 0, none⟩)] #[] (((byteV (l.drop k)).toNat : Int)) (byteE (l.drop k)) h hk enter_takeByte (fun W hW => takeByte_any g k c A l W (h.below hW))
  have hV : (if byteE (l.drop k) = 0 then (.int .u8 ((byteV (l.drop k)).toNat : Int) : Value) else .int .u8 0) = .int .u8 ((byteV (l.drop k)).toNat : Int) := by
    cases l.drop k <;> simp [byteE, byteV]
  have hJ : (if byteE (l.drop k) = 0 then k + byteM (l.drop k) else k) = k + byteM (l.drop k) := by
    cases l.drop k <;> simp [byteE, byteM]
  rw [hV, hJ] at C
  have HC := Lib.hid C
  clear C h hk hV hJ
  go_enter Try.func16, Try.ntmps16
  go_wp2_with (go_at_call 39; ((refine (HC.out).mono ?_); rintro e w2 ⟨rfl, hm⟩))
  go_ret2
  exact ⟨rfl, hm⟩
end Go.Proofs.Ytokgpifelinonaa
