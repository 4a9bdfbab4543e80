/- Readers that New did not make; the closures of WireKnown. -/
import Derived.Test.YtgchgccfngiafaaB17
namespace Go.Proofs.Ytgchgccfngiafaa
open Go.RowKit
set_option maxRecDepth 100000 in
set_option maxHeartbeats 1000000 in
theorem stepU_nil (fv : Value) (w : World) :
    Calls Try.prog 58 #[.pointer none, fv] w fun e w' => e = .returned (.tuple #[.int .u64 0, .int .i64 2]) ∧ Below w.heap.size w w' := by
  have hsf := store_float
  go_enter_defers Try.func58, Try.ntmps58
  go_wp2
  simp [Leaves, bodyPostD, results, Try.results58, go_sem]
  exact (((Below.refl _ _).alloc (Nat.le_refl _) _).alloc (by simp) _).alloc (by simp <;> omega) _
set_option maxRecDepth 100000 in
set_option maxHeartbeats 1000000 in
theorem stepI_nil (fv : Value) (w : World) :
    Calls Try.prog 62 #[.pointer none, fv] w fun e w' => e = .returned (.tuple #[.int .i64 0, .int .i64 2]) ∧ Below w.heap.size w w' := by
  have hsf := store_float
  go_enter_defers Try.func62, Try.ntmps62
  go_wp2
  simp [Leaves, bodyPostD, results, Try.results62, go_sem]
  exact (((Below.refl _ _).alloc (Nat.le_refl _) _).alloc (by simp) _).alloc (by simp <;> omega) _
set_option maxRecDepth 100000 in
set_option maxHeartbeats 1000000 in
theorem stepF_nil (fv : Value) (w : World) :
    Calls Try.prog 64 #[.pointer none, fv] w fun e w' => e = .returned (.tuple #[.float .f64 0, .int .i64 2]) ∧ Below w.heap.size w w' := by
  have hsf := store_float
  go_enter_defers Try.func64, Try.ntmps64
  go_wp2
  simp [Leaves, bodyPostD, results, Try.results64, go_sem]
  exact (((Below.refl _ _).alloc (Nat.le_refl _) _).alloc (by simp) _).alloc (by simp <;> omega) _
set_option maxRecDepth 100000 in
set_option maxHeartbeats 1000000 in
theorem stepS_nil (fv : Value) (w : World) :
    Calls Try.prog 67 #[.pointer none, fv] w fun e w' => e = .returned (.tuple #[.string ⟨#[]⟩, .int .i64 2]) ∧ Below w.heap.size w w' := by
  have hsf := store_float
  go_enter_defers Try.func67, Try.ntmps67
  go_wp2
  simp [Leaves, bodyPostD, results, Try.results67, go_sem]
  exact (((Below.refl _ _).alloc (Nat.le_refl _) _).alloc (by simp) _).alloc (by simp <;> omega) _
set_option maxRecDepth 100000 in
set_option maxHeartbeats 1000000 in
theorem stepB_nil (fv : Value) (w : World) :
    Calls Try.prog 70 #[.pointer none, fv] w fun e w' => e = .returned (.tuple #[.int .u8 0, .int .i64 2]) ∧ Below w.heap.size w w' := by
  have hsf := store_float
  go_enter_defers Try.func70, Try.ntmps70
  go_wp2
  simp [Leaves, bodyPostD, results, Try.results70, go_sem]
  exact (((Below.refl _ _).alloc (Nat.le_refl _) _).alloc (by simp) _).alloc (by simp <;> omega) _
set_option maxRecDepth 100000 in
set_option maxHeartbeats 1000000 in
theorem RNum_nil (w : World) :
    Calls Try.prog 22 #[.pointer none, .int .u64 1] w fun e w' => e = .returned (.tuple #[.int .u64 0, .int .i64 2]) ∧ Below w.heap.size w w' := by
  have hmf : ∀ (fn : Fn) (first cap : Array Value) (w : World), (Instr.makeFunc fn first cap).run Try.prog w = .ok (.func fn first cap) w := fun _ _ _ _ => rfl
  go_enter Try.func22, Try.ntmps22
  go_wp2_with (go_at_call 58; ((refine (stepU_nil _ _).mono ?_); rintro e w2 ⟨rfl, hb⟩))
  go_ret2
  exact ⟨rfl, (((Below.refl _ _).alloc (Nat.le_refl _) _).alloc (by simp) _).trans (hb.mono (by simp <;> omega))⟩
set_option maxRecDepth 100000 in
set_option maxHeartbeats 1000000 in
theorem RText_nil (w : World) :
    Calls Try.prog 29 #[.pointer none, .int .i64 1] w fun e w' => e = .returned (.tuple #[.string ⟨#[]⟩, .int .i64 2]) ∧ Below w.heap.size w w' := by
  have hmf : ∀ (fn : Fn) (first cap : Array Value) (w : World), (Instr.makeFunc fn first cap).run Try.prog w = .ok (.func fn first cap) w := fun _ _ _ _ => rfl
  go_enter Try.func29, Try.ntmps29
  go_wp2_with (go_at_call 67; ((refine (stepS_nil _ _).mono ?_); rintro e w2 ⟨rfl, hb⟩))
  go_ret2
  exact ⟨rfl, (((Below.refl _ _).alloc (Nat.le_refl _) _).alloc (by simp) _).trans (hb.mono (by simp <;> omega))⟩
set_option maxRecDepth 100000 in
set_option maxHeartbeats 1000000 in
theorem RInt_nil (w : World) :
    Calls Try.prog 24 #[.pointer none] w fun e w' => e = .returned (.tuple #[.int .i64 0, .int .i64 2]) ∧ Below w.heap.size w w' := by
  have hmf : ∀ (fn : Fn) (first cap : Array Value) (w : World), (Instr.makeFunc fn first cap).run Try.prog w = .ok (.func fn first cap) w := fun _ _ _ _ => rfl
  go_enter Try.func24, Try.ntmps24
  go_wp2_with (go_at_call 62; ((refine (stepI_nil _ _).mono ?_); rintro e w2 ⟨rfl, hb⟩))
  go_ret2
  exact ⟨rfl, hb⟩
set_option maxRecDepth 100000 in
set_option maxHeartbeats 1000000 in
theorem RFloat_nil (w : World) :
    Calls Try.prog 26 #[.pointer none] w fun e w' => e = .returned (.tuple #[.float .f64 0, .int .i64 2]) ∧ Below w.heap.size w w' := by
  have hmf : ∀ (fn : Fn) (first cap : Array Value) (w : World), (Instr.makeFunc fn first cap).run Try.prog w = .ok (.func fn first cap) w := fun _ _ _ _ => rfl
  go_enter Try.func26, Try.ntmps26
  go_wp2_with (go_at_call 64; ((refine (stepF_nil _ _).mono ?_); rintro e w2 ⟨rfl, hb⟩))
  go_ret2
  exact ⟨rfl, hb⟩
set_option maxRecDepth 100000 in
set_option maxHeartbeats 1000000 in
theorem RByte_nil (w : World) :
    Calls Try.prog 31 #[.pointer none] w fun e w' => e = .returned (.tuple #[.int .u8 0, .int .i64 2]) ∧ Below w.heap.size w w' := by
  have hmf : ∀ (fn : Fn) (first cap : Array Value) (w : World), (Instr.makeFunc fn first cap).run Try.prog w = .ok (.func fn first cap) w := fun _ _ _ _ => rfl
  go_enter Try.func31, Try.ntmps31
  go_wp2_with (go_at_call 70; ((refine (stepB_nil _ _).mono ?_); rintro e w2 ⟨rfl, hb⟩))
  go_ret2
  exact ⟨rfl, hb⟩
set_option maxRecDepth 100000 in
set_option maxHeartbeats 1000000 in
theorem End_nil (w : World) : Calls Try.prog 34 #[.pointer none] w fun e w' => e = .returned (.int .i64 2) ∧ Below w.heap.size w w' := by
  go_enter Try.func34, Try.ntmps34
  go_wp2
  go_ret
  exact ⟨rfl, Below.refl _ _⟩
set_option maxRecDepth 100000 in
set_option maxHeartbeats 1000000 in
theorem End_zero (g : Nat) (w : World) (h : w.cell? ⟨g, 2, none⟩ = some (.bool false)) : Calls Try.prog 34 #[.pointer (some ⟨g, 0, none⟩)] w fun e w' => e = .returned (.int .i64 2) ∧ Below w.heap.size w w' := by
  go_enter Try.func34, Try.ntmps34
  go_wp2
  go_ret
  exact ⟨rfl, Below.refl _ _⟩
theorem LeftB_nil (w : World) : Calls Try.prog 33 #[.pointer none] w fun e w' => e = .returned (.int .i64 0) ∧ Below w.heap.size w w' :=
  (Left_nil w).mono fun _ _ ⟨he, hw⟩ => ⟨he, by rw [← hw]; exact Below.refl _ _⟩
theorem ch1 {w0 x x' : World} (B : Below w0.heap.size w0 x) (hb : Below x.heap.size x x') : Below w0.heap.size w0 x' := B.trans (hb.mono B.size)
theorem ch2 {w0 x x' : World} {o : Obj} (B : Below w0.heap.size w0 x) (hb : Below (x.alloc o).heap.size (x.alloc o) x') : Below w0.heap.size w0 x' := ch1 (ch1 B ((Below.refl _ _).alloc (Nat.le_refl _) _)) hb
theorem EqualB (A B : Option Addr) (a b : List UInt8) (n m c d : Nat) (w : World) (hA : At w A a) (hB : At w B b) (hn : a.length = n) (hm : b.length = m) (hab : a = b) :
    Calls Try.prog 19 #[.slice A n c, .slice B m d] w fun e w' => e = .returned (.bool true) ∧ Below w.heap.size w w' :=
  (EqualL A B a b n m c d w hA hB hn hm).mono fun _ _ ⟨he, hw⟩ => ⟨by rw [he, hab]; simp, by rw [← hw]; exact Below.refl _ _⟩
theorem NumX (n : Nat) (l : List UInt8) (w : World) (hn : n < 2 ^ 64) (hl : encNum n = l) : Calls Try.prog 12 #[.slice none 0 0, .int .u64 n] w (Gives w l) := by subst hl; exact NumN n w hn
theorem IntX (n : Int) (l : List UInt8) (w : World) (hn : fits n) (hl : encInt n = l) : Calls Try.prog 13 #[.slice none 0 0, .int .i64 n] w (Gives w l) := by subst hl; exact IntN n w hn
set_option maxRecDepth 100000 in
set_option maxHeartbeats 1000000 in
theorem first_any (A : Option Addr) (l : List UInt8) (n cap er : Nat) (w : World) (hA : At w A l) (hz : A = none → cap = 0) (hm : l.length ≤ 140737488355328) (hn : l.length = n) (her : numE 1000 l = er) :
    Calls Try.prog 45 #[.slice A n cap] w fun e w' => e = .returned (.int .i64 (er : Nat)) ∧ Below w.heap.size w w' := by
  subst her
  have C1 := Lib.hid (NewL A l n cap w hA hz hm hn)
  have C2 := Lib.hid (fun g c P w2 hr => RNum_any g 0 c 1000 P l w2 hr)
  clear hA hz hm hn
  go_enter Try.func45, Try.ntmps45
  go_wp2_with (first
    | (go_at_call 21; ((refine (C1.out).mono ?_); rintro e w2 ⟨g, P, c, rfl, hg, hr, hb⟩; have R := Lib.hid hr; have G := Lib.hid hg; have B := Lib.hid hb; clear hg hr hb))
    | (go_at_call 22; ((refine (C2.out g c P w2 R.out).mono ?_); rintro e w3 ⟨rfl, hm⟩; have M := Lib.hid hm; clear hm)))
  go_ret
  exact ⟨rfl, moved_below B.out M.out G.out B.out.size⟩
set_option maxRecDepth 100000 in
set_option maxHeartbeats 1000000 in
theorem whole_any (A : Option Addr) (l : List UInt8) (n cap er : Nat) (w : World) (hA : At w A l) (hz : A = none → cap = 0) (hm : l.length ≤ 140737488355328) (hn : l.length = n) (her : intE l = er) :
    Calls Try.prog 46 #[.slice A n cap] w fun e w' => e = .returned (.int .i64 (er : Nat)) ∧ Below w.heap.size w w' := by
  subst her
  have C1 := Lib.hid (NewL A l n cap w hA hz hm hn)
  have C2 := Lib.hid (fun g c P w2 hr => RInt_any g 0 c P l w2 hr)
  clear hA hz hm hn
  go_enter Try.func46, Try.ntmps46
  go_wp2_with (first
    | (go_at_call 21; ((refine (C1.out).mono ?_); rintro e w2 ⟨g, P, c, rfl, hg, hr, hb⟩; have R := Lib.hid hr; have G := Lib.hid hg; have B := Lib.hid hb; clear hg hr hb))
    | (go_at_call 24; ((refine (C2.out g c P w2 R.out).mono ?_); rintro e w3 ⟨rfl, hm⟩; have M := Lib.hid hm; clear hm)))
  go_ret
  exact ⟨rfl, moved_below B.out M.out G.out B.out.size⟩
set_option maxRecDepth 100000 in
set_option maxHeartbeats 1000000 in
theorem text_any (m : Nat) (hm9 : m ≤ 9223372036854775807) (A : Option Addr) (l : List UInt8) (n cap er : Nat) (w : World) (hA : At w A l) (hz : A = none → cap = 0) (hm : l.length ≤ 140737488355328) (hn : l.length = n) (her : textE m l = er) :
    Calls Try.prog 47 #[.int .i64 m, .slice A n cap] w fun e w' => e = .returned (.int .i64 (er : Nat)) ∧ Below w.heap.size w w' := by
  subst her
  have C1 := Lib.hid (NewL A l n cap w hA hz hm hn)
  have C2 := Lib.hid (fun g c P w2 hr => RText_any g 0 c m P l w2 hr hm9)
  clear hA hz hm hn
  go_enter Try.func47, Try.ntmps47
  go_wp2_with (first
    | (go_at_call 21; ((refine (C1.out).mono ?_); rintro e w2 ⟨g, P, c, rfl, hg, hr, hb⟩; have R := Lib.hid hr; have G := Lib.hid hg; have B := Lib.hid hb; clear hg hr hb))
    | (go_at_call 29; ((refine (C2.out g c P w2 R.out).mono ?_); rintro e w3 ⟨rfl, hm⟩; have M := Lib.hid hm; clear hm)))
  go_ret
  exact ⟨rfl, moved_below B.out M.out G.out B.out.size⟩
set_option maxRecDepth 100000 in
set_option maxHeartbeats 1000000 in
theorem takeText_neg (g k c : Nat) (A : Option Addr) (l : List UInt8) (w : World) (h : Rd w g k A c l) :
    Calls Try.prog 69 #[.pointer (some ⟨g, 0, none⟩), .int .i64 (-1)] w fun e w' => e = .returned (.tuple #[.string ⟨#[]⟩, .int .i64 1]) ∧ Moved w g k w' := by
  have H := Lib.hid h
  clear h
  go_enter Try.func69, Try.ntmps69
  go_wp2
  go_ret2
  exact ⟨rfl, Moved.stay H.out (Below.refl _ _)⟩
set_option maxRecDepth 100000 in
set_option maxHeartbeats 1000000 in
theorem Text1_neg (g k c : Nat) (A : Option Addr) (l : List UInt8) (p q : Addr) (w : World) (h : Rd w g k A c l) (hp : w.cell? p = some (.pointer (some ⟨g, 0, none⟩))) (hq : w.cell? q = some (.int .i64 (-1))) :
    Calls Try.prog 68 #[.pointer (some p), .pointer (some q)] w fun e w' => e = .returned (.tuple #[.string ⟨#[]⟩, .int .i64 1]) ∧ Moved w g k w' := by
  have C := Lib.hid (takeText_neg g k c A l w h)
  clear h
  go_enter Try.func68, Try.ntmps68
  go_wp2_with (go_at_call 69; ((with_reducible refine (C.out).mono ?_); rintro e w2 ⟨rfl, hm⟩))
  go_ret2
  exact ⟨rfl, hm⟩
set_option maxRecDepth 100000 in
set_option maxHeartbeats 1000000 in
theorem RText_neg (g k c : Nat) (A : Option Addr) (l : List UInt8) (w : World) (h : Rd w g k A c l) :
    Calls Try.prog 29 #[.pointer (some ⟨g, 0, none⟩), .int .i64 (-1)] w fun e w' => e = .returned (.tuple #[.string ⟨#[]⟩, .int .i64 1]) ∧ Moved w g k w' := by
  have hlt := h.lt
  have hbw : Below w.heap.size w ((w.alloc (.cells #[.pointer (some ⟨g, 0, none⟩)] 42)).alloc (.cells #[.int .i64 (-1)] 3)) := ((Below.refl _ _).alloc (Nat.le_refl _) _).alloc (by simp) _
  have C := stepS_any g k k c A l _ 68 #[] #[.pointer (some ⟨w.heap.size, 0, none⟩), .pointer (some ⟨w.heap.size + 1, 0, none⟩)] ⟨#[]⟩ 1 (h.below hbw) h.2.1.1 enter_Text1 (fun W hW => by
    have hp : W.cell? ⟨w.heap.size, 0, none⟩ = some (.pointer (some ⟨g, 0, none⟩)) := by
      rw [hW.cell (p := ⟨w.heap.size, 0, none⟩) (by simp <;> omega), World.cell?_alloc_lt _ _ _ (by simp)]; simp
    have hq : W.cell? ⟨w.heap.size + 1, 0, none⟩ = some (.int .i64 (-1)) := by
      rw [hW.cell (p := ⟨w.heap.size + 1, 0, none⟩) (by simp)]; simp
    exact Text1_neg g k c A l _ _ W ((h.below hbw).below hW) hp hq)
  have hC : Calls Try.prog 67 #[.pointer (some ⟨g, 0, none⟩), .func (Fn.func 68) #[] #[.pointer (some ⟨w.heap.size, 0, none⟩), .pointer (some ⟨w.heap.size + 1, 0, none⟩)]] ((w.alloc (.cells #[.pointer (some ⟨g, 0, none⟩)] 42)).alloc (.cells #[.int .i64 (-1)] 3)) fun e w' => e = .returned (.tuple #[.string ⟨#[]⟩, .int .i64 1]) ∧ Moved w g k w' :=
    C.mono fun e w' ⟨he, hm⟩ => ⟨by rw [he]; rfl, Moved.after hbw hlt (by simpa using hm)⟩
  have HC := Lib.hid hC
  clear C hC h hbw
  go_enter Try.func29, Try.ntmps29
  go_wp2_with (go_at_call 67; ((refine (HC.out).mono ?_); rintro e w2 ⟨rfl, hm⟩))
  go_ret2
  exact ⟨rfl, hm⟩
set_option maxRecDepth 100000 in
set_option maxHeartbeats 1000000 in
theorem text_neg (w : World) :
    Calls Try.prog 47 #[.int .i64 (-1), .slice none 0 0] w fun e w' => e = .returned (.int .i64 1) ∧ Below w.heap.size w w' := by
  have C1 := Lib.hid (NewL none [] 0 0 w (at_nil _ _) (fun _ => rfl) (by decide) rfl)
  have C2 := Lib.hid (fun g c P w2 (hr : Rd w2 g 0 P c []) => RText_neg g 0 c P [] w2 hr)
  go_enter Try.func47, Try.ntmps47
  go_wp2_with (first
    | (go_at_call 21; ((refine (C1.out).mono ?_); rintro e w2 ⟨g, P, c, rfl, hg, hr, hb⟩; have R := Lib.hid hr; have G := Lib.hid hg; have B := Lib.hid hb; clear hg hr hb))
    | (go_at_call 29; ((refine (C2.out g c P w2 R.out).mono ?_); rintro e w3 ⟨rfl, hm⟩; have M := Lib.hid hm; clear hm)))
  go_ret
  exact ⟨rfl, moved_below B.out M.out G.out B.out.size⟩
end Go.Proofs.Ytgchgccfngiafaa
