/- New, End; bytes.Equal. -/
import Derived.Test.YtokgpifelinonaaB15
namespace Go.Proofs.Ytokgpifelinonaa
open Go.RowKit
theorem eql_nil8 (w : World) (a : Option Addr) (n c n' c' : Nat) : (binOp .eql 22 (.slice a n c) (.slice none n' c')).run Try.prog w = .ok (.bool a.isNone) w := Lib.run_eql_slice_nil w _ _ a n c n' c' Try.underlying22
/-- A slice that the call made, and its bytes. -/
def Made (w : World) (l : List UInt8) (e : Ending) (w' : World) : Prop :=
  ∃ P cap, e = .returned (.slice P l.length cap) ∧ w'.ownsRow w.heap.size 5 1 (.slice P l.length cap) l.length (cellsB l) ∧ Below w.heap.size w w'
theorem Made.mk' {w w' : World} {l : List UInt8} {v : Value} (h : w'.ownsRow w.heap.size 5 1 v l.length (cellsB l)) (hb : Below w.heap.size w w') : Made w l (.returned v) w' := by
  rcases h.2 with ⟨rfl, h0⟩ | ⟨g, cap, cur, rfl, _⟩
  · exact ⟨none, 0, by rw [h0], by rw [h0] at h ⊢; exact h, hb⟩
  · exact ⟨_, cap, rfl, h, hb⟩
set_option maxRecDepth 100000 in
set_option maxHeartbeats 1000000 in
theorem Clone_any (A : Option Addr) (l : List UInt8) (cap : Nat) (w : World) (hA : At w A l) (hz : A = none → cap = 0) (hm : l.length ≤ 140737488355328) :
    Calls Try.prog 25 #[.slice A l.length cap] w (Made w l) := by
  obtain ⟨i0, hi, hz0, hz1, hz2⟩ := info_parts info8
  have q := eql_nil8
  cases A with
  | none =>
    have hl : l = [] := by
      rcases Nat.eq_zero_or_pos l.length with e | e
      · exact List.eq_nil_of_length_eq_zero e
      · obtain ⟨b, off, h, _⟩ := hA e; cases h
    subst hl
    go_enter Try.func25, Try.ntmps25
    go_wp2
    go_ret
    exact ⟨none, 0, rfl, World.ownsRow_nil _ _ _ _, Below.refl _ _⟩
  | some ad =>
    have h1 : 0 + l.length ≤ maxLen := by unfold maxLen; omega
    have h2 : (0 + l.length) * 1 ≤ 140737488355328 := by omega
    have HA := Lib.hid hA
    clear hA hz
    go_enter Try.func25, Try.ntmps25
    go_wp2_with (at_builtin; refine wpList_append_own _ rfl _ _ _ rfl w.heap.size 5 i0 _ 1 1 Try.underlying22 hi hz0 hz1 hz2 rfl (by omega) _ 0 [] rfl (World.ownsRow_made w #[] 0 (Nat.le_refl _) (Nat.zero_le _) rfl) ad l.length cap (cellsB l) rfl (by rw [cellsB_length]; omega) (At.cells (w := w.alloc _) (HA.out.below ((Below.refl _ _).alloc (Nat.le_refl _) _))) (cellsB_one l) h1 h2 (by simp) ?_; intro v1 w1 hown hg _; have H1 := Lib.hid hown; have G1 := Lib.hid (show World.grownBy _ w1 (some w.heap.size) from hg); clear hown hg)
    go_ret
    have ho := H1.out
    rw [Nat.zero_add, List.nil_append] at ho
    exact Made.mk' ho (((Below.refl _ _).alloc (Nat.le_refl _) _).grown G1.out (by simp) (by simp))
set_option maxRecDepth 100000 in
set_option maxHeartbeats 1000000 in
theorem New_any (A : Option Addr) (l : List UInt8) (cap : Nat) (w : World) (hA : At w A l) (hz : A = none → cap = 0) (hm : l.length ≤ 140737488355328) :
    Calls Try.prog 6 #[.slice A l.length cap] w fun e w' => ∃ g P c, e = .returned (.pointer (some ⟨g, 0, none⟩)) ∧ w.heap.size ≤ g ∧ Rd w' g 0 P c l ∧ Below w.heap.size w w' := by
  have C := Lib.hid (Clone_any A l cap w hA hz hm)
  have HM := Lib.hid hm
  clear hA hz hm
  go_enter Try.func6, Try.ntmps6
  go_wp2_with (go_at_call 25; ((refine (C.out).mono ?_); rintro e w1 ⟨P, c1, rfl, ho, hb⟩; have HO := Lib.hid ho; have HB := Lib.hid hb; clear ho hb))
  go_ret
  refine ⟨w1.heap.size, P, c1, rfl, HB.out.size, ⟨by simpa using heap_alloc_new w1 _, ⟨Nat.zero_le _, HM.out, ?_⟩, fun h0 => ?_⟩, HB.out.alloc HB.out.size _⟩
  · rcases HO.out.2 with ⟨h, h0⟩ | ⟨g, cap', cur, h, _, _, h1, h2, _⟩
    · injection h with _ _ h'; omega
    · injection h with _ _ h'; omega
  · obtain ⟨b, off, e, hl, hc⟩ := own_at HO.out h0
    refine ⟨b, off, e, by simp; omega, by omega, fun i hi => ?_⟩
    rw [World.cell?_alloc_lt _ _ _ hl]
    exact hc i hi
set_option maxRecDepth 100000 in
set_option maxHeartbeats 1000000 in
theorem Equal_any (A B : Option Addr) (a b : List UInt8) (c d : Nat) (w : World) (hA : At w A a) (hB : At w B b) :
    Calls Try.prog 21 #[.slice A a.length c, .slice B b.length d] w fun e w' => e = .returned (.bool (a == b)) ∧ w = w' := by
  have q1 := conv_text w A a c hA
  have q2 := conv_text w B b d hB
  clear hA hB
  go_enter Try.func21, Try.ntmps21
  go_wp2
  go_ret
  exact ⟨by simp, rfl⟩
end Go.Proofs.Ytokgpifelinonaa
