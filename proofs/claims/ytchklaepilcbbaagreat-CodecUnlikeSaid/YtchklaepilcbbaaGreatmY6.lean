/- Which operations may be: MayOp, for every operation. -/
import Derived.Test.YtchklaepilcbbaaGreatmY5
namespace Go.Proofs.YtchklaepilcbbaaGreat
open Go.RowKit
theorem str_empty {s : ByteArray} (h : s ≠ ByteArray.empty) : (s.toList == []) = false := by
  rw [ByteArray.toList_eq, beq_eq_false_iff_ne]
  intro e
  exact h (ByteArray.ext (Array.toList_inj.1 (by rw [e]; rfl)))
theorem labelB_eq {s : ByteArray} (h : s ≠ ByteArray.empty) : labelB s = wordB s := by unfold labelB; simp [h]
set_option maxRecDepth 100000 in
theorem isLabel_any (s : ByteArray) (w : World) : Calls Tryz.prog 65 #[.string s] w fun e w' => e = .returned (.bool (labelB s)) ∧ w = w' := by
  by_cases h : s = ByteArray.empty
  · subst h
    rw [show labelB ByteArray.empty = true by decide]
    go_enter Tryz.func65, Tryz.ntmps65
    go_wp2
    go_ret
    exact ⟨rfl, rfl⟩
  · have t1 := str_empty h
    have C := Lib.hid (fun w => Word_any s w)
    rw [labelB_eq h]
    clear h
    go_enter Tryz.func65, Tryz.ntmps65
    go_wp2_with (go_at_call 15; ((with_reducible refine (C.out _).mono ?_); rintro e w' ⟨rfl, rfl⟩))
    go_ret
    exact ⟨rfl, rfl⟩
theorem mayB_iff {v : VP} : mayB v.k v.b v.n v.f v.s = true ↔ v.may := by unfold mayB VP.may; simp
set_option maxRecDepth 100000 in
theorem mayProperty_any (v : VP) (hf : v.f < 18446744073709551616) (w : World) :
    Calls Tryz.prog 67 #[v.val] w fun e w' => ∃ c : Bool, e = .returned (.bool c) ∧ (c = true ↔ v.k ≠ 5 ∧ v.k ≠ 6 ∧ v.may) ∧ Below w.heap.size w w' := by
  have C := Lib.hid (fun W => May_any v.k v.b v.n v.f v.s W hf)
  have HB := Lib.hid (mayB_iff (v := v))
  obtain ⟨k, b, n, f, s⟩ := v
  simp only at C HB
  by_cases h5 : k = 5
  · subst h5
    clear hf
    go_enter Tryz.func67, Tryz.ntmps67
    go_wp2
    go_ret
    exact ⟨_, rfl, by simp, (Below.refl _ _).alloc (Nat.le_refl _) _⟩
  have t5 : (k != 5) = true := by simp [h5]
  by_cases h6 : k = 6
  · subst h6
    clear hf
    go_enter Tryz.func67, Tryz.ntmps67
    go_wp2
    go_ret
    exact ⟨_, rfl, by simp, (Below.refl _ _).alloc (Nat.le_refl _) _⟩
  have t6 : (k != 6) = true := by simp [h6]
  have H5 := Lib.hid (And.intro h5 h6)
  clear hf h5 h6
  go_enter Tryz.func67, Tryz.ntmps67
  go_wp2_with (go_at_call 22; ((with_reducible refine (C.out _).mono ?_); rintro e w1 ⟨rfl, hb⟩))
  go_ret
  refine ⟨_, rfl, ?_, ((Below.refl _ _).alloc (Nat.le_refl _) _).trans (hb.mono (by simp))⟩
  rw [HB.out]
  exact ⟨fun h => ⟨H5.out.1, H5.out.2, h⟩, fun h => h.2.2⟩
/-- What isBare asks. -/
def OP.bare (o : OP) : Prop := o.label = ByteArray.empty ∧ o.fr = 0 ∧ o.til = 0 ∧ o.key = ByteArray.empty ∧ o.v.k = 0 ∧ o.v.may
theorem ne_zero {n : Nat} (h : n ≠ 0) : ((n : Int) == 0) = false := by rw [beq_eq_false_iff_ne]; omega
set_option maxRecDepth 100000 in
set_option maxHeartbeats 1000000 in
theorem isBare_any (o : OP) (hf : o.v.f < 18446744073709551616) (w : World) :
    Calls Tryz.prog 69 #[o.val] w fun e w' => ∃ c : Bool, e = .returned (.bool c) ∧ (c = true ↔ o.bare) ∧ Below w.heap.size w w' := by
  obtain ⟨kind, edge, id, label, fr, til, key, ⟨k, b, n, f, s⟩, pf, pt⟩ := o
  have C := Lib.hid (fun W => May_any k b n f s W hf)
  have HB := Lib.hid (mayB_iff (v := ⟨k, b, n, f, s⟩))
  simp only at C HB
  clear hf
  by_cases h1 : label = ByteArray.empty
  case neg =>
    have t1 := str_empty h1
    have H := Lib.hid h1
    clear h1
    go_enter Tryz.func69, Tryz.ntmps69
    go_wp2
    go_ret
    exact ⟨_, rfl, by simp [OP.bare, H.out], (Below.refl _ _).alloc (Nat.le_refl _) _⟩
  subst h1
  by_cases h2 : fr = 0
  case neg =>
    have t1 := ne_zero h2
    have H := Lib.hid h2
    clear h2
    go_enter Tryz.func69, Tryz.ntmps69
    go_wp2
    go_ret
    exact ⟨_, rfl, by simp [OP.bare, H.out], (Below.refl _ _).alloc (Nat.le_refl _) _⟩
  subst h2
  by_cases h3 : til = 0
  case neg =>
    have t1 := ne_zero h3
    have H := Lib.hid h3
    clear h3
    go_enter Tryz.func69, Tryz.ntmps69
    go_wp2
    go_ret
    exact ⟨_, rfl, by simp [OP.bare, H.out], (Below.refl _ _).alloc (Nat.le_refl _) _⟩
  subst h3
  by_cases h4 : key = ByteArray.empty
  case neg =>
    have t1 := str_empty h4
    have H := Lib.hid h4
    clear h4
    go_enter Tryz.func69, Tryz.ntmps69
    go_wp2
    go_ret
    exact ⟨_, rfl, by simp [OP.bare, H.out], (Below.refl _ _).alloc (Nat.le_refl _) _⟩
  subst h4
  by_cases h5 : k = 0
  case neg =>
    have t1 : (k == 0) = false := by simp [h5]
    have H := Lib.hid h5
    clear h5
    go_enter Tryz.func69, Tryz.ntmps69
    go_wp2
    go_ret
    exact ⟨_, rfl, by simp [OP.bare, H.out], (Below.refl _ _).alloc (Nat.le_refl _) _⟩
  subst h5
  go_enter Tryz.func69, Tryz.ntmps69
  go_wp2_with (go_at_call 22; ((with_reducible refine (C.out _).mono ?_); rintro e w1 ⟨rfl, hb⟩))
  go_ret
  refine ⟨_, rfl, ?_, ((Below.refl _ _).alloc (Nat.le_refl _) _).trans (hb.mono (by simp))⟩
  rw [HB.out]
  simp [OP.bare]
end Go.Proofs.YtchklaepilcbbaaGreat
