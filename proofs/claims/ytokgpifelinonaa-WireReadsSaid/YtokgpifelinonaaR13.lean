/- Readers: End anywhere, Text of a most below nought. -/
import Derived.Test.YtokgpifelinonaaR12
namespace Go.Proofs.Ytokgpifelinonaa
open Go.RowKit
/-- What End answers where n bytes are left. -/
def endE (n : Nat) : Nat := if n = 0 then 0 else 3
set_option maxRecDepth 100000 in
set_option maxHeartbeats 1000000 in
theorem End_any (g k c : Nat) (A : Option Addr) (l : List UInt8) (w : World) (h : Rd w g k A c l) :
    Calls Try.prog 19 #[.pointer (some ⟨g, 0, none⟩)] w fun e w' => e = .returned (.int .i64 (endE (l.length - k) : Nat)) ∧ Below w.heap.size w w' := by
  have C := Lib.hid (quiet_r (Left_any g k c A l w h))
  have h2 := h.c2
  obtain ⟨n, hn⟩ : ∃ n, l.length - k = n := ⟨_, rfl⟩
  rw [hn] at C
  rw [hn]
  clear h hn
  by_cases h0 : n = 0
  · subst h0
    go_enter Try.func19, Try.ntmps19
    go_wp2_with (go_at_call 18; ((refine (C.out).mono ?_); rintro e w2 ⟨rfl, hb⟩))
    go_ret
    exact ⟨rfl, hb⟩
  · have i1 : (0 : Int) < (n : Int) := by omega
    have HE : Hid (endE n = 3) := Lib.hid (if_neg h0)
    clear h0
    go_enter Try.func19, Try.ntmps19
    go_wp2_with (go_at_call 18; ((refine (C.out).mono ?_); rintro e w2 ⟨rfl, hb⟩))
    go_ret
    exact ⟨by rw [HE.out]; rfl, hb⟩
set_option maxRecDepth 100000 in
set_option maxHeartbeats 1000000 in
theorem takeText_neg (g : Nat) (m : Int) (w : World) (hm : m < 0) :
    Calls Try.prog 38 #[.pointer (some ⟨g, 0, none⟩), .int .i64 m] w fun e w' => e = .returned (.tuple #[.string ⟨#[]⟩, .int .i64 1]) ∧ w = w' := by
  go_enter Try.func38, Try.ntmps38
  go_wp2
  go_ret2
  exact ⟨rfl, rfl⟩
set_option maxRecDepth 100000 in
set_option maxHeartbeats 1000000 in
theorem qText_neg (Q : Nat) (m : Int) (L : List UInt8) (w : World) (h : Qd w Q L) (hm : m < 0) :
    Calls Try.prog 15 #[.pointer (some ⟨Q, 0, none⟩), .int .i64 m] w (QText w Q L (.tuple #[.string ⟨#[]⟩, .int .i64 1]) 0) := by
  have HQ := Lib.hid h
  clear h
  go_enter Try.func15, Try.ntmps15
  go_wp2
  go_ret2
  exact QText.stay HQ.out (Below.refl _ _) rfl rfl
set_option maxRecDepth 100000 in
set_option maxHeartbeats 1000000 in
theorem Text1_neg (g : Nat) (m : Int) (p q : Addr) (w : World) (hm : m < 0) (hp : w.cell? p = some (.pointer (some ⟨g, 0, none⟩))) (hq : w.cell? q = some (.int .i64 m)) :
    Calls Try.prog 37 #[.pointer (some p), .pointer (some q)] w fun e w' => e = .returned (.tuple #[.string ⟨#[]⟩, .int .i64 1]) ∧ w = w' := by
  have C := Lib.hid (takeText_neg g m w hm)
  clear hm
  go_enter Try.func37, Try.ntmps37
  go_wp2_with (go_at_call 38; ((with_reducible refine (C.out).mono ?_); rintro e w2 ⟨rfl, rfl⟩))
  go_ret2
  exact ⟨rfl, rfl⟩
set_option maxRecDepth 100000 in
set_option maxHeartbeats 1000000 in
theorem RText_neg (g k c : Nat) (m : Int) (A : Option Addr) (l : List UInt8) (w : World) (h : Rd w g k A c l) (hm : m < 0) :
    Calls Try.prog 14 #[.pointer (some ⟨g, 0, none⟩), .int .i64 m] w fun e w' => e = .returned (.tuple #[.string ⟨#[]⟩, .int .i64 1]) ∧ Moved w g k w' := by
  have hlt := h.lt
  have hbw : Below w.heap.size w ((w.alloc (.cells #[.pointer (some ⟨g, 0, none⟩)] 26)).alloc (.cells #[.int .i64 m] 3)) := ((Below.refl _ _).alloc (Nat.le_refl _) _).alloc (by simp) _
  have C := stepS_any g k k c A l _ 37 #[] #[.pointer (some ⟨w.heap.size, 0, none⟩), .pointer (some ⟨w.heap.size + 1, 0, none⟩)] (⟨#[]⟩) 1 (h.below hbw) h.2.1.1 enter_Text1 (fun W hW => by
    have hp : W.cell? ⟨w.heap.size, 0, none⟩ = some (.pointer (some ⟨g, 0, none⟩)) := by
      rw [hW.cell (p := ⟨w.heap.size, 0, none⟩) (by simp <;> omega), World.cell?_alloc_lt _ _ _ (by simp)]; simp
    have hq : W.cell? ⟨w.heap.size + 1, 0, none⟩ = some (.int .i64 m) := by
      rw [hW.cell (p := ⟨w.heap.size + 1, 0, none⟩) (by simp)]; simp
    exact (Text1_neg g m _ _ W hm hp hq).mono fun _ _ ⟨he, hw⟩ => ⟨he, by rw [← hw]; exact Moved.stay ((h.below hbw).below hW) (Below.refl _ _)⟩)
  have hC := C.mono fun e w' ⟨he, hm⟩ => (⟨he, Moved.after hbw hlt hm⟩ : _ ∧ Moved w g _ w')
  have HC := Lib.hid hC
  clear C hC h hbw
  go_enter Try.func14, Try.ntmps14
  go_wp2_with (go_at_call 36; ((refine (HC.out).mono ?_); rintro e w2 ⟨rfl, hm⟩))
  go_ret2
  exact ⟨rfl, hm⟩
end Go.Proofs.Ytokgpifelinonaa
