/- Strings cut. -/
import Derived.Test.YtgjahnidjcfbiaaDoorLY
import Derived.Test.YtgjahnidjcfbiaaDoorJ11
import Derived.Shelf.Strings.Prefix
import Derived.Shelf.Strings.Search1
namespace Go.Proofs.YtgjahnidjcfbiaaDoor
open Go.RowKit Go.Shelf Go.Lib
open Iset (cutAt)
theorem cut_none (c : UInt8) : ∀ (l : List UInt8), Lib.indexByte l c = -1 → cutAt c l = (l, [], false)
  | [], _ => rfl
  | x :: l, h => by
    rw [Lib.indexByte] at h
    by_cases hx : x = c
    · subst hx
      simp at h
    · have hx' : (x == c) = false := by simpa using hx
      rw [hx'] at h
      simp only [Bool.false_eq_true, if_false] at h
      have h1 : Lib.indexByte l c = -1 := by
        have := Lib.indexByte_ge l c
        by_cases e : Lib.indexByte l c = -1
        · exact e
        · simp [e] at h
          omega
      rw [cutAt, if_neg hx, cut_none c l h1]
theorem cut_some (c : UInt8) : ∀ (l : List UInt8) (i : Nat), Lib.indexByte l c = i → cutAt c l = (l.take i, l.drop (i + 1), true) ∧ i < l.length
  | [], i, h => by
    rw [Lib.indexByte] at h
    omega
  | x :: l, i, h => by
    rw [Lib.indexByte] at h
    by_cases hx : x = c
    · subst hx
      simp at h
      obtain rfl : i = 0 := by omega
      simp [cutAt]
    · have hx' : (x == c) = false := by simpa using hx
      rw [hx'] at h
      simp only [Bool.false_eq_true, if_false] at h
      have := Lib.indexByte_ge l c
      by_cases e : Lib.indexByte l c = -1
      · rw [e] at h
        simp at h
      · simp [e] at h
        obtain ⟨j, rfl⟩ : ∃ j, i = j + 1 := ⟨i - 1, by omega⟩
        have h1 : Lib.indexByte l c = j := by omega
        obtain ⟨h2, h3⟩ := cut_some c l j h1
        rw [cutAt, if_neg hx, h2]
        simp [h3]
theorem ext_list (s : ByteArray) (a b : Nat) : (s.extract a b).data.toList = (s.data.toList.take b).drop a := by
  rw [ByteArray.data_extract]
  simp only [Array.toList_extract, List.extract_eq_take_drop]
  by_cases h : a ≤ b
  · rw [List.take_drop, show a + (b - a) = b by omega]
  · rw [show b - a = 0 by omega, List.take_zero, List.drop_eq_nil_of_le (by rw [List.length_take]; omega)]
theorem toList_data (s : ByteArray) : s.toList = s.data.toList := by
  exact ByteArray.toList_eq s
set_option maxRecDepth 100000 in
theorem Index_one (s : ByteArray) (c : UInt8) (w : World) : Calls Tryd.prog 67 #[.string s, .string ⟨#[c]⟩] w fun e w' => e = .returned (.int .i64 (Lib.indexByte s.data.toList c)) ∧ w = w' := by
  have hc : (((c.toNat : Nat) : Int).toNat.toUInt8) = c := by simp
  have H := Lib.hid (show Calls Tryd.prog 86 #[.string s, .int .u8 c.toNat] w fun e w' => e = .returned (.int .i64 (Lib.indexByte s.data.toList c)) ∧ w' = w by
    have h := Any.stringslite_IndexByte Tryd.idxByte s (c.toNat : Int) w
    rw [hc] at h
    exact h)
  clear hc
  go_enter Tryd.func67, Tryd.ntmps67
  go_wp2_with fail
  all_goals first
    | (refine (H.out).mono ?_; rintro e w1 ⟨rfl, rfl⟩; go_wp2; go_ret; exact ⟨rfl, rfl⟩)
    | (rename_i hq; have hq' : [c] = s.toList := by simpa using hq
       go_ret
       refine ⟨?_, rfl⟩
       rw [show s.data.toList = [c] from (toList_data s).symm.trans hq'.symm]
       simp [Lib.indexByte])
/-- What a string cut gives. -/
def CutBy (c : UInt8) (s : ByteArray) (w : World) (e : Ending) (w' : World) : Prop :=
  ∃ a b : ByteArray, ∃ f : Bool, e = .returned (.tuple #[.string a, .string b, .bool f]) ∧ cutAt c s.data.toList = (a.data.toList, b.data.toList, f) ∧ a.size ≤ s.size ∧ b.size ≤ s.size ∧ ∃ q, w' = w.drewN q
set_option maxRecDepth 100000 in
theorem sCut_any (s : ByteArray) (c : UInt8) (w : World) (hs : s.size ≤ 140737488355328) : Calls Tryd.prog 54 #[.string s, .string ⟨#[c]⟩] w (CutBy c s w) := by
  have H := Lib.hid (Index_one s c w)
  have hge := Lib.indexByte_ge s.data.toList c
  by_cases hn : Lib.indexByte s.data.toList c = -1
  · have hc := Lib.hid (cut_none c _ hn)
    rw [hn] at H
    clear hn hge
    go_enter Tryd.func54, Tryd.ntmps54
    go_wp2_with fail
    refine (H.out).mono ?_
    rintro e w1 ⟨rfl, rfl⟩
    go_wp2
    go_ret3
    exact ⟨s, ⟨#[]⟩, false, rfl, hc.out, Nat.le_refl _, Nat.zero_le _, 0, rfl⟩
  · obtain ⟨i, hi⟩ : ∃ i : Nat, Lib.indexByte s.data.toList c = i := ⟨(Lib.indexByte s.data.toList c).toNat, by omega⟩
    obtain ⟨hc, hlt⟩ := cut_some c _ i hi
    have HC := Lib.hid hc
    rw [hi] at H
    have hlt' : i < s.size := by simpa using hlt
    clear hn hge hi hc hlt
    go_enter Tryd.func54, Tryd.ntmps54
    go_wp2_with fail
    refine (H.out).mono ?_
    rintro e w1 ⟨rfl, rfl⟩
    go_upto_region 3 with fail
    go_quiet (fail)
    go_wp2
    go_ret3
    refine ⟨s.extract 0 i, s.extract (i + 1) s.size, true, rfl, ?_, by simp; omega, by simp, nq, rfl⟩
    rw [HC.out, ext_list, ext_list, List.take_of_length_le (l := s.data.toList) (i := s.size) (by simp)]
    simp
theorem Cut_any (s : ByteArray) (c : UInt8) (w : World) (hs : s.size ≤ 140737488355328) : Calls Tryd.prog 44 #[.string s, .string ⟨#[c]⟩] w (CutBy c s w) := by
  have H := Lib.hid (sCut_any s c w hs)
  go_enter Tryd.func44, Tryd.ntmps44
  go_wp2_with fail
  refine (H.out).mono ?_
  rintro e w1 ⟨a, b, f, rfl, hc, ha, hb, q, rfl⟩
  have HC := Lib.hid hc
  clear hc
  go_wp2
  go_ret3
  exact ⟨a, b, f, rfl, HC.out, ha, hb, q, rfl⟩
/-- What a string without its first [ gives. -/
def PreBy (s : ByteArray) (w : World) (e : Ending) (w' : World) : Prop :=
  ∃ a : ByteArray, ∃ f : Bool, e = .returned (.tuple #[.string a, .bool f]) ∧ ((f = true → ∃ l, s.data.toList = 91 :: l ∧ a.data.toList = l) ∧ (f = false → ¬ ∃ l, s.data.toList = 91 :: l)) ∧ a.size ≤ s.size ∧ w = w'
theorem pre_iff (s : ByteArray) : Lib.hasPrefix s.data.toList [91] = true ↔ ∃ l, s.data.toList = 91 :: l := by
  unfold Lib.hasPrefix
  cases s.data.toList with
  | nil => simp
  | cons x l =>
    have e : List.isPrefixOf ([] : List UInt8) l = true := by cases l <;> rfl
    rw [show List.isPrefixOf [91] (x :: l) = ((91 == x) && List.isPrefixOf [] l) from rfl, e, Bool.and_true, beq_iff_eq]
    constructor
    · rintro rfl
      exact ⟨l, rfl⟩
    · rintro ⟨m, h⟩
      injection h with h _
      exact h.symm
set_option maxRecDepth 100000 in
theorem sPre_any (s : ByteArray) (w : World) (hs : s.size ≤ 140737488355328) : Calls Tryd.prog 53 #[.string s, .string ⟨#[91]⟩] w (PreBy s w) := by
  have h := Any.stringslite_HasPrefix Tryd.hasPre s ⟨#[91]⟩ w
  have h' : Calls Tryd.prog 66 #[.string s, .string ⟨#[91]⟩] w fun e w' => e = .returned (.bool (Lib.hasPrefix s.data.toList [91])) ∧ w' = w := h
  have hp := pre_iff s
  clear h
  cases hv : Lib.hasPrefix s.data.toList [91]
  · rw [hv] at h' hp
    have H := Lib.hid h'
    have HP := Lib.hid hp
    clear h' hp hv
    go_enter Tryd.func53, Tryd.ntmps53
    go_wp2_with fail
    refine (H.out).mono ?_
    rintro e w1 ⟨rfl, rfl⟩
    go_wp2
    go_ret2
    refine ⟨s, false, rfl, ⟨(fun h => by cases h), fun _ h => Bool.noConfusion (HP.out.2 h)⟩, Nat.le_refl _, rfl⟩
  · rw [hv] at h' hp
    obtain ⟨l, hl⟩ := hp.1 rfl
    have hpos : 1 ≤ s.size := by
      have := congrArg List.length hl
      simp at this
      omega
    have H := Lib.hid h'
    have HP := Lib.hid hl
    clear h' hp hv hl
    go_enter Tryd.func53, Tryd.ntmps53
    go_wp2_with fail
    refine (H.out).mono ?_
    rintro e w1 ⟨rfl, rfl⟩
    go_wp2
    go_ret2
    refine ⟨s.extract 1 s.size, true, rfl, ⟨fun _ => ⟨l, HP.out, ?_⟩, (fun h => by cases h)⟩, by simp, rfl⟩
    rw [ext_list, List.take_of_length_le (l := s.data.toList) (i := s.size) (by simp), HP.out]
    rfl
theorem Pre_any (s : ByteArray) (w : World) (hs : s.size ≤ 140737488355328) : Calls Tryd.prog 43 #[.string s, .string ⟨#[91]⟩] w (PreBy s w) := by
  have H := Lib.hid (sPre_any s w hs)
  go_enter Tryd.func43, Tryd.ntmps43
  go_wp2_with fail
  refine (H.out).mono ?_
  rintro e w1 ⟨a, f, rfl, hc, ha, rfl⟩
  have HC := Lib.hid hc
  clear hc
  go_wp2
  go_ret2
  exact ⟨a, f, rfl, HC.out, ha, rfl⟩
end Go.Proofs.YtgjahnidjcfbiaaDoor
