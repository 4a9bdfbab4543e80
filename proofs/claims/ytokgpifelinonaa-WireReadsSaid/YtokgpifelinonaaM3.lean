/- What a reader reads, laid again, is the bytes that went: plain arithmetic. -/
import Derived.Test.YtokgpifelinonaaB15
namespace Go.Proofs.Ytokgpifelinonaa
theorem numF_err (count most : Nat) (fl : UInt8 → UInt8) (L : List UInt8) (h : (sizedF count most fl L).2 = 0) :
    count ≤ 8 ∧ count ≤ L.length ∧ (sizedF count most fl L).1 = val ((L.take count).map fl) ∧ leastOf count ≤ (sizedF count most fl L).1 ∧ (sizedF count most fl L).1 ≤ most := by
  have hle := sizedF_le count most fl L
  unfold sizedF at h hle ⊢
  by_cases h8 : 8 < count
  · rw [if_pos h8] at h; cases h
  rw [if_neg h8] at h hle ⊢
  unfold digF at h hle ⊢
  by_cases ho : okOne count most (lowOf count fl L) (highOf count fl L) = false
  · rw [if_pos ho] at h; cases h
  rw [if_neg ho] at h hle ⊢
  by_cases hl : L.length < count
  · rw [if_pos hl] at h; cases h
  rw [if_neg hl] at hle ⊢
  have ht : thereN count L = count := by unfold thereN; omega
  refine ⟨by omega, by omega, by show nOf count fl L = _; unfold nOf; rw [ht], ?_, hle⟩
  simp only [okOne, meetsB, Bool.and_eq_false_iff, not_or, Bool.not_eq_false, decide_eq_true_eq] at ho
  have h2 := ho.2
  unfold highOf lowOf at h2
  rw [ht, Nat.sub_self] at h2
  simpa using h2
/-- A number that was read of that many digits has just that many. -/
theorem nlen_of (n count : Nat) (h8 : count ≤ 8) (h1 : leastOf count ≤ n) (h2 : n < 256 ^ count) : nlen n = count := by
  have hp : (256 : Nat) ^ count ≤ 256 ^ 8 := Nat.pow_le_pow_right (by omega) h8
  refine nlen_eq n count (by omega) h2 (fun h0 => ?_)
  unfold leastOf at h1
  rw [if_pos h0] at h1
  exact h1
theorem map_id8 (l : List UInt8) : l.map id = l := List.map_id l
theorem map_neg (l : List UInt8) : l.map neg255 = flip8 l := rfl
theorem byte_back (x : UInt8) (n : Nat) (h : n = x.toNat) : UInt8.ofNat n = x := by
  apply UInt8.toNat_inj.1
  rw [byte_ofNat, h]
  have := x.toNat_lt
  omega
theorem num_again (most : Nat) (L : List UInt8) (h : numE most L = 0) : 0 < numM most L ∧ numM most L ≤ L.length ∧ L.take (numM most L) = encNum (numV most L) ∧ numV most L < 2 ^ 64 := by
  unfold numV numM
  rw [if_pos h, if_pos h]
  unfold numE at h
  cases L with
  | nil => simp [numF] at h
  | cons x t =>
    have hF : numF most (x :: t) = if (sizedF x.toNat 18446744073709551615 id t).2 = 0 ∧ most < (sizedF x.toNat 18446744073709551615 id t).1 then ((sizedF x.toNat 18446744073709551615 id t).1, 3) else sizedF x.toNat 18446744073709551615 id t := rfl
    rw [hF] at h ⊢
    by_cases hc : (sizedF x.toNat 18446744073709551615 id t).2 = 0 ∧ most < (sizedF x.toNat 18446744073709551615 id t).1
    · rw [if_pos hc] at h; cases h
    rw [if_neg hc] at h ⊢
    obtain ⟨h8, hl, hv, h1, h2⟩ := numF_err _ _ _ _ h
    have hC : numC (x :: t) = 1 + x.toNat := by
      show 1 + sizedC x.toNat t = _
      unfold sizedC thereN
      rw [if_neg (by omega)]
      omega
    have hlt : (sizedF x.toNat 18446744073709551615 id t).1 < 256 ^ x.toNat := by
      rw [hv]
      have := val_lt ((t.take x.toNat).map id)
      rw [List.length_map, List.length_take, Nat.min_eq_left hl] at this
      exact this
    have hn := nlen_of _ _ h8 h1 hlt
    refine ⟨by omega, by rw [hC]; simp; omega, ?_, by omega⟩
    rw [hC, Nat.add_comm, List.take_succ_cons]
    unfold encNum
    rw [hn]
    congr 1
    · exact (byte_back x _ rfl).symm
    · rw [hv, map_id8]
      have := digs_val (t.take x.toNat)
      rw [List.length_take, Nat.min_eq_left hl] at this
      exact this.symm
theorem int_again (L : List UInt8) (h : intE L = 0) : 0 < intM L ∧ intM L ≤ L.length ∧ L.take (intM L) = encInt (intV L) ∧ fits (intV L) := by
  unfold intV intM
  rw [if_pos h, if_pos h]
  unfold intE at h
  cases L with
  | nil => simp [intF] at h
  | cons x t =>
    have hx := x.toNat_lt
    by_cases h16 : 16 ≤ x.toNat
    · have hF : intF (x :: t) = (((sizedF (x.toNat - 16) 9223372036854775807 id t).1 : Int), (sizedF (x.toNat - 16) 9223372036854775807 id t).2) := if_pos h16
      have hC : intC (x :: t) = 1 + sizedC (x.toNat - 16) t := if_pos h16
      rw [hF] at h ⊢
      obtain ⟨h8, hl, hv, h1, h2⟩ := numF_err _ _ _ _ h
      have hC2 : intC (x :: t) = 1 + (x.toNat - 16) := by
        rw [hC]
        unfold sizedC thereN
        rw [if_neg (by omega)]
        omega
      have hlt : (sizedF (x.toNat - 16) 9223372036854775807 id t).1 < 256 ^ (x.toNat - 16) := by
        rw [hv]
        have := val_lt ((t.take (x.toNat - 16)).map id)
        rw [List.length_map, List.length_take, Nat.min_eq_left hl] at this
        exact this
      have hn := nlen_of _ _ h8 h1 hlt
      refine ⟨by omega, by rw [hC2]; simp; omega, ?_, by unfold fits; simp only; omega⟩
      rw [hC2, Nat.add_comm, List.take_succ_cons, encInt_pos, hn]
      congr 1
      · exact (byte_back x _ (by omega)).symm
      · rw [hv, map_id8]
        have := digs_val (t.take (x.toNat - 16))
        rw [List.length_take, Nat.min_eq_left hl] at this
        exact this.symm
    · have hF : intF (x :: t) = (-((sizedF (15 - x.toNat) 9223372036854775807 neg255 t).1 : Int) - 1, (sizedF (15 - x.toNat) 9223372036854775807 neg255 t).2) := if_neg h16
      have hC : intC (x :: t) = 1 + sizedC (15 - x.toNat) t := if_neg h16
      rw [hF] at h ⊢
      obtain ⟨h8, hl, hv, h1, h2⟩ := numF_err _ _ _ _ h
      have hC2 : intC (x :: t) = 1 + (15 - x.toNat) := by
        rw [hC]
        unfold sizedC thereN
        rw [if_neg (by omega)]
        omega
      have hlt : (sizedF (15 - x.toNat) 9223372036854775807 neg255 t).1 < 256 ^ (15 - x.toNat) := by
        rw [hv]
        have := val_lt ((t.take (15 - x.toNat)).map neg255)
        rw [List.length_map, List.length_take, Nat.min_eq_left hl] at this
        exact this
      have hn := nlen_of _ _ h8 h1 hlt
      refine ⟨by omega, by rw [hC2]; simp; omega, ?_, by unfold fits; simp only; omega⟩
      rw [hC2, Nat.add_comm, List.take_succ_cons, encInt_neg, hn]
      congr 1
      · exact (byte_back x _ (by omega)).symm
      · rw [hv, map_neg]
        have := digs_val (flip8 (t.take (15 - x.toNat)))
        rw [flip8_length, List.length_take, Nat.min_eq_left hl] at this
        rw [this, flip8_flip8]
theorem digF_err (count : Nat) (fl : UInt8 → UInt8) (ok : Nat → Nat → Bool) (L : List UInt8) (h : (digF count fl ok L).2 = 0) :
    count ≤ L.length ∧ (digF count fl ok L).1 = val ((L.take count).map fl) ∧ ok (val ((L.take count).map fl)) (val ((L.take count).map fl)) = true := by
  unfold digF at h ⊢
  by_cases ho : ok (lowOf count fl L) (highOf count fl L) = false
  · rw [if_pos ho] at h; cases h
  rw [if_neg ho] at h ⊢
  by_cases hl : L.length < count
  · rw [if_pos hl] at h; cases h
  rw [if_neg hl]
  have ht : thereN count L = count := by unfold thereN; omega
  have hn : nOf count fl L = val ((L.take count).map fl) := by unfold nOf; rw [ht]
  have e1 : lowOf count fl L = val ((L.take count).map fl) := by unfold lowOf; rw [ht, hn]; simp
  have e2 : highOf count fl L = val ((L.take count).map fl) := by unfold highOf; rw [ht, e1]; simp
  rw [e1, e2] at ho
  exact ⟨by omega, hn, by simpa using ho⟩
theorem float_ok (n : Nat) (hn : n < 18446744073709551616) (h : okF n n = true) : placeF (atF n) = n ∧ canonF (atF n) = atF n ∧ atF n < 18446744073709551616 := by
  have e1 : placeF bitsM = 4503599627370495 := by decide
  have e2 : placeF bitsP = 18442240474082181120 := by decide
  have e3 : placeF bitsN = 18444492273895866369 := by decide
  unfold okF meetsB at h
  rw [e1, e2, e3] at h
  simp only [Bool.or_eq_true, Bool.and_eq_true, decide_eq_true_eq] at h
  unfold placeF atF canonF isNaNF
  by_cases h0 : n < 9223372036854775808
  · rw [if_pos h0]
    refine ⟨by rw [if_neg (by omega)]; omega, ?_, by omega⟩
    rw [if_neg (by simp; omega)]
  · rw [if_neg h0]
    refine ⟨by rw [if_pos (by omega)]; omega, ?_, by omega⟩
    by_cases hN : 9218868437227405312 < (n - 9223372036854775808) % 9223372036854775808
    · rw [if_pos (by simpa using hN)]
      omega
    · rw [if_neg (by simpa using hN)]
theorem float_again (L : List UInt8) (h : floatE L = 0) : 0 < floatM L ∧ floatM L ≤ L.length ∧ L.take (floatM L) = encFloat (floatV L) ∧ canonF (floatV L) = floatV L ∧ floatV L < 18446744073709551616 := by
  unfold floatV floatM
  rw [if_pos h, if_pos h]
  unfold floatE floatF at h
  obtain ⟨hl, hv, hok⟩ := digF_err 8 id okF L h
  have ht : thereN 8 L = 8 := by unfold thereN; omega
  have hlt : val ((L.take 8).map id) < 18446744073709551616 := by
    have := val_lt ((L.take 8).map id)
    rw [List.length_map, List.length_take, Nat.min_eq_left hl] at this
    exact this
  obtain ⟨h1, h2, h3⟩ := float_ok _ hlt hok
  have hF : (floatF L).1 = atF (val ((L.take 8).map id)) := by unfold floatF; rw [hv]
  rw [hF, ht]
  refine ⟨by omega, hl, ?_, h2, h3⟩
  unfold encFloat
  rw [h1, map_id8]
  have := digs_val (L.take 8)
  rw [List.length_take, Nat.min_eq_left hl] at this
  exact this.symm
theorem scan_again (m : Nat) : ∀ (n : Nat) (acc L : List UInt8), L.length ≤ n → (scanT m acc L).2.1 = 0 →
    0 < (scanT m acc L).2.2 ∧ (scanT m acc L).2.2 ≤ L.length ∧ ∃ s, (scanT m acc L).1 = acc ++ s ∧ L.take (scanT m acc L).2.2 = encText s ∧ (acc ++ s).length ≤ m := by
  intro n
  induction n with
  | zero =>
    intro acc L hL h
    obtain rfl : L = [] := List.eq_nil_of_length_eq_zero (by omega)
    simp [scanT] at h
  | succ n ih =>
    intro acc L hL h
    match L, hL, h with
    | [], _, h => simp [scanT] at h
    | [c], _, h => simp [scanT] at h
    | c :: d :: t, hL, h =>
      by_cases hc : c = 0
      · subst hc
        by_cases hd : d = 0
        · subst hd
          by_cases hm : m < acc.length
          · simp [scanT, hm] at h
          · have e : scanT m acc (0 :: 0 :: t) = (acc, 0, 2) := by simp [scanT, hm]
            rw [e]
            exact ⟨by simp, by simp, [], by simp, by simp [encText, escT], by simp; omega⟩
        · by_cases hd2 : d = 255
          · subst hd2
            have e : scanT m acc (0 :: 255 :: t) = ((scanT m (acc ++ [0]) t).1, (scanT m (acc ++ [0]) t).2.1, (scanT m (acc ++ [0]) t).2.2 + 2) := by simp [scanT]
            rw [e] at h ⊢
            obtain ⟨h1, h2, s, h3, h4, h5⟩ := ih (acc ++ [0]) t (by simp at hL; omega) h
            refine ⟨by simp, by simp; omega, 0 :: s, by simp [h3], ?_, by simpa using h5⟩
            simp only [List.take_succ_cons, h4]
            simp [encText, escT]
          · simp [scanT, hd, hd2] at h
      · have e : scanT m acc (c :: d :: t) = ((scanT m (acc ++ [c]) (d :: t)).1, (scanT m (acc ++ [c]) (d :: t)).2.1, (scanT m (acc ++ [c]) (d :: t)).2.2 + 1) := by simp [scanT, hc]
        rw [e] at h ⊢
        obtain ⟨h1, h2, s, h3, h4, h5⟩ := ih (acc ++ [c]) (d :: t) (by simp at hL ⊢; omega) h
        refine ⟨by simp, by simp at h2 ⊢; omega, c :: s, by simp [h3], ?_, by simpa using h5⟩
        simp only [List.take_succ_cons, h4]
        simp [encText, escT, hc]
theorem text_again (m : Nat) (L : List UInt8) (h : textE m L = 0) : 0 < textM m L ∧ textM m L ≤ L.length ∧ L.take (textM m L) = encText (textV m L) ∧ (textV m L).length ≤ m := by
  unfold textV textM
  rw [if_pos h, if_pos h]
  unfold textE at h
  obtain ⟨h1, h2, s, h3, h4, h5⟩ := scan_again m _ [] L (Nat.le_refl _) h
  rw [h3]
  exact ⟨h1, h2, by simpa using h4, h5⟩
end Go.Proofs.Ytokgpifelinonaa
