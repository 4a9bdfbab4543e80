/- Forms of values of one kind stand in the order of the values. -/
import Derived.Test.YtchklaepilcbbaaGreatmW2
namespace Go.Proofs.YtchklaepilcbbaaGreat
open Go.RowKit
theorem less_cb : ∀ (a b : List UInt8), Op.bytesLess a b = decide (Lib.compareBytes a b < 0)
  | [], [] => by simp [Op.bytesLess, Lib.compareBytes]
  | [], _ :: _ => by simp [Op.bytesLess, Lib.compareBytes]
  | _ :: _, [] => by simp [Op.bytesLess, Lib.compareBytes]
  | x :: a, y :: b => by
    have ih := less_cb a b
    unfold Op.bytesLess Lib.compareBytes
    by_cases h1 : x < y
    · have h1' : x.toNat < y.toNat := UInt8.lt_iff_toNat_lt.1 h1
      simp [h1]
    · by_cases h2 : y < x
      · have h2' : y.toNat < x.toNat := UInt8.lt_iff_toNat_lt.1 h2
        have : x ≠ y := fun e => by subst e; omega
        simp [h1, h2, this]
      · have h1' : ¬ x.toNat < y.toNat := fun h => h1 (UInt8.lt_iff_toNat_lt.2 h)
        have h2' : ¬ y.toNat < x.toNat := fun h => h2 (UInt8.lt_iff_toNat_lt.2 h)
        have e : x = y := UInt8.toNat_inj.1 (by omega)
        subst e
        simp [ih]
theorem cb_cons (x : UInt8) (a b : List UInt8) : Lib.compareBytes (x :: a) (x :: b) = Lib.compareBytes a b := cb_same [x] a b
theorem enc_order {v w : VP} (hv : v.may) (hw : w.may) (wv : v.wide) (ww : w.wide) (hk : v.k = w.k) :
    Lib.compareBytes v.enc w.enc = cmpK (keyV v.k v.b v.n v.f v.s) (keyV w.k w.b w.n w.f w.s) := by
  obtain ⟨k, b, n, f, s⟩ := v
  obtain ⟨k', b', n', f', s'⟩ := w
  simp only at hk
  subst hk
  have hr := vp_kind hv
  unfold VP.may MayV at hv hw
  unfold VP.wide at wv ww
  simp only at hv hw wv ww hr
  unfold VP.enc
  rw [cb_cons]
  have hc : k = 0 ∨ k = 1 ∨ k = 2 ∨ k = 3 ∨ k = 4 ∨ k = 5 ∨ k = 6 := by omega
  rcases hc with rfl | rfl | rfl | rfl | rfl | rfl | rfl
  · simp at hv hw
    obtain ⟨rfl, rfl, rfl, rfl⟩ := hv
    obtain ⟨rfl, rfl, rfl, rfl⟩ := hw
    rfl
  · simp at hv hw
    obtain ⟨rfl, rfl, rfl⟩ := hv
    obtain ⟨rfl, rfl, rfl⟩ := hw
    rw [cmpK_num (x := keyV 1 b 0 0 ByteArray.empty) (y := keyV 1 b' 0 0 ByteArray.empty) rfl rfl rfl]
    cases b <;> cases b' <;> rfl
  · rw [cmpK_num (x := keyV 2 b n f s) (y := keyV 2 b' n' f' s') rfl rfl rfl]
    show Lib.compareBytes (encInt n) (encInt n') = cmpI (ikey 2 b n f) (ikey 2 b' n' f')
    have e : ∀ b n f, ikey 2 b n f = numKey 2 n f := fun b n f => by unfold ikey; rw [if_neg (by omega), if_pos (by omega)]
    rw [e, e, ← cmp_ints]
    exact (stands_int n n' wv.2.1 ww.2.1).1
  · simp at hv hw
    rw [cmpK_num (x := keyV 3 b n f s) (y := keyV 3 b' n' f' s') rfl rfl rfl]
    show Lib.compareBytes (encFloat f) (encFloat f') = cmpI (ikey 3 b n f) (ikey 3 b' n' f')
    have e : ∀ b n f, ikey 3 b n f = numKey 3 n f := fun b n f => by unfold ikey; rw [if_neg (by omega), if_pos (by omega)]
    rw [e, e, ← cmp_floats f f' wv.2.2.1 ww.2.2.1]
    have := (stands_float f f' wv.2.2.1 ww.2.2.1).1
    rw [hv.2.2.2, hw.2.2.2] at this
    exact this
  · rw [cmpK_str (x := keyV 4 b n f s) (y := keyV 4 b' n' f' s') rfl (by simp at hv hw; obtain ⟨rfl, rfl, rfl, _⟩ := hv; obtain ⟨rfl, rfl, rfl, _⟩ := hw; rfl)]
    exact (stands_text s.data.toList s'.data.toList).1
  · simp at hv hw
    rw [cmpK_num (x := keyV 5 b n f s) (y := keyV 5 b' n' f' s') rfl rfl rfl]
    show Lib.compareBytes (encNum n.toNat) (encNum n'.toNat) = cmpI n n'
    rw [(stands_num n.toNat n'.toNat (by omega) (by omega)).1, Int.toNat_of_nonneg (by omega), Int.toNat_of_nonneg (by omega)]
  · simp at hv hw
    rw [cmpK_num (x := keyV 6 b n f s) (y := keyV 6 b' n' f' s') rfl rfl rfl]
    show Lib.compareBytes (encNum n.toNat) (encNum n'.toNat) = cmpI n n'
    rw [(stands_num n.toNat n'.toNat (by omega) (by omega)).1, Int.toNat_of_nonneg (by omega), Int.toNat_of_nonneg (by omega)]
/-- No form is the beginning of another one. -/
theorem no_begin {v w : VP} (hv : v.may) (hw : w.may) (wv : v.wide) (ww : w.wide) (h : v.enc.length < w.enc.length) : w.enc.take v.enc.length ≠ v.enc := fun e => by
  have h2 : v.enc ++ w.enc.drop v.enc.length = w.enc ++ [] := by rw [List.append_nil]; conv => rhs; rw [← List.take_append_drop v.enc.length w.enc, e]
  have h3 := (pc_value hv hw wv ww h2).2
  have := congrArg List.length h3
  simp at this
  omega
theorem enc_inj {v w : VP} (hv : v.may) (hw : w.may) (wv : v.wide) (ww : w.wide) (h : v.enc = w.enc) : v = w :=
  (pc_value (p := []) (q := []) hv hw wv ww (by rw [h])).1
/-- Two forms as strings. -/
theorem str_list (l : List UInt8) : (⟨l.toArray⟩ : ByteArray).toList = l := by rw [ByteArray.toList_eq]
theorem str_size (l : List UInt8) : (⟨l.toArray⟩ : ByteArray).size = l.length := by show l.toArray.size = _; simp
theorem str_take (l : List UInt8) (n : Nat) : ((⟨l.toArray⟩ : ByteArray).extract 0 n).toList = l.take n := by
  rw [ByteArray.toList_eq, ByteArray.data_extract]; simp
end Go.Proofs.YtchklaepilcbbaaGreat
