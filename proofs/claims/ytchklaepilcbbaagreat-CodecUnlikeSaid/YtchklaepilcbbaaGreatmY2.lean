/- Reading in plain words: what a reader makes of bytes is what was laid, if it has not failed; and it does not fail where a form stands. -/
import Derived.Test.YtchklaepilcbbaaGreatmY1
namespace Go.Proofs.YtchklaepilcbbaaGreat
open Go.RowKit

theorem digF_full (count : Nat) (fl : UInt8 → UInt8) (ok : Nat → Nat → Bool) (L : List UInt8) (hl : count ≤ L.length) (n : Nat) (hn : val ((L.take count).map fl) = n) (hok : ok n n = true) :
    digF count fl ok L = (n, 0) := by
  have ht : thereN count L = count := by unfold thereN; omega
  have e : nOf count fl L = n := by unfold nOf; rw [ht, hn]
  have e1 : lowOf count fl L = n := by unfold lowOf; rw [ht, e]; simp
  have e2 : highOf count fl L = n := by unfold highOf; rw [ht, e1]; simp
  unfold digF
  rw [e1, e2, if_neg (by rw [hok]; decide), if_neg (by omega), e]
theorem take_digs (n k : Nat) (r : List UInt8) : (digs n k ++ r).take k = digs n k := by
  rw [List.take_append_of_le_length (by rw [digs_length]; omega), List.take_of_length_le (by rw [digs_length]; omega)]
theorem least_le (n : Nat) (hn : n < 2 ^ 64) : leastOf (nlen n) ≤ n := by
  unfold leastOf
  by_cases h : 0 < nlen n
  · rw [if_pos h]
    rcases Nat.eq_zero_or_pos n with e | e
    · subst e; rw [nlen_zero] at h; omega
    · exact (nlen_ge n hn (by omega)).2
  · rw [if_neg h]; exact Nat.zero_le _
theorem sized_full (n most : Nat) (hn : n < 2 ^ 64) (hm : n ≤ most) (r : List UInt8) : sizedF (nlen n) most id (digs n (nlen n) ++ r) = (n, 0) := by
  unfold sizedF
  rw [if_neg (by have := nlen_8 n hn; omega)]
  refine digF_full _ _ _ _ (by simp [digs_length]) n ?_ ?_
  · rw [take_digs, map_id8, val_digs_lt n _ (nlen_lt n hn)]
  · unfold okOne meetsB
    simp only [Bool.and_eq_true, decide_eq_true_eq]
    exact ⟨hm, least_le n hn⟩
theorem head_len (k : Nat) (h : k ≤ 255) : (UInt8.ofNat k).toNat = k := by rw [byte_ofNat]; omega
theorem numF_cons (most : Nat) (h : UInt8) (t : List UInt8) : numF most (h :: t) = if (sizedF h.toNat 18446744073709551615 id t).2 = 0 ∧ most < (sizedF h.toNat 18446744073709551615 id t).1 then ((sizedF h.toNat 18446744073709551615 id t).1, 3) else sizedF h.toNat 18446744073709551615 id t := rfl
theorem intF_cons (h : UInt8) (t : List UInt8) : intF (h :: t) = if 16 ≤ h.toNat then (((sizedF (h.toNat - 16) 9223372036854775807 id t).1 : Int), (sizedF (h.toNat - 16) 9223372036854775807 id t).2)
    else (-((sizedF (15 - h.toNat) 9223372036854775807 neg255 t).1 : Int) - 1, (sizedF (15 - h.toNat) 9223372036854775807 neg255 t).2) := rfl
theorem fwd_num (n most : Nat) (hn : n < 2 ^ 64) (hm : n ≤ most) (r : List UInt8) : numE most (encNum n ++ r) = 0 := by
  have h8 := nlen_8 n hn
  unfold numE encNum
  rw [List.cons_append, numF_cons, head_len _ (by omega), sized_full n _ hn (by omega) r, if_neg (by simp; omega)]
theorem fwd_int (n : Int) (hn : fits n) (r : List UInt8) : intE (encInt n ++ r) = 0 := by
  unfold fits at hn
  rcases Int.lt_or_le n 0 with h | h
  · obtain ⟨m, hm⟩ : ∃ m : Nat, n = -(m : Int) - 1 := ⟨(-n - 1).toNat, by omega⟩
    subst hm
    have h64 : m < 2 ^ 64 := by omega
    have h8 := nlen_8 m h64
    rw [encInt_neg]
    unfold intE
    rw [List.cons_append, intF_cons, head_len _ (by omega), if_neg (by omega), show 15 - (15 - nlen m) = nlen m by omega]
    unfold sizedF
    rw [if_neg (by omega), digF_full (nlen m) _ _ _ (by simp [flip8_length, digs_length]) m ?_ ?_]
    · rw [List.take_append_of_le_length (by rw [flip8_length, digs_length]; omega), List.take_of_length_le (by rw [flip8_length, digs_length]; omega), map_neg, flip8_flip8, val_digs_lt m _ (nlen_lt m h64)]
    · unfold okOne meetsB
      simp only [Bool.and_eq_true, decide_eq_true_eq]
      exact ⟨by omega, least_le m h64⟩
  · obtain ⟨m, rfl⟩ := Int.eq_ofNat_of_zero_le h
    have h64 : m < 2 ^ 64 := by omega
    have h8 := nlen_8 m h64
    rw [encInt_pos]
    unfold intE
    rw [List.cons_append, intF_cons, head_len _ (by omega), if_pos (by omega), show 16 + nlen m - 16 = nlen m by omega, sized_full m _ h64 (by omega) r]
theorem digF_laid (n k : Nat) (ok : Nat → Nat → Bool) (r : List UInt8) (hn : n < 256 ^ k) (hok : ok n n = true) : digF k id ok (digs n k ++ r) = (n, 0) :=
  digF_full k id ok _ (by simp [digs_length]) n (by rw [take_digs, map_id8, val_digs_lt n k hn]) hok
theorem okF_place (f : Nat) (hf : f < 18446744073709551616) (hc : canonF f = f) : okF (placeF f) (placeF f) = true := by
  have e1 : placeF bitsM = 4503599627370495 := by decide
  have e2 : placeF bitsP = 18442240474082181120 := by decide
  have e3 : placeF bitsN = 18444492273895866369 := by decide
  unfold okF meetsB
  rw [e1, e2, e3]
  simp only [Bool.or_eq_true, Bool.and_eq_true, decide_eq_true_eq]
  unfold canonF isNaNF at hc
  unfold placeF
  by_cases hN : 9218868437227405312 < f % 9223372036854775808
  · rw [if_pos (by simpa using hN)] at hc
    rw [← hc, if_pos (by omega)]
    omega
  · by_cases h0 : f < 9223372036854775808
    · rw [if_pos h0]; omega
    · rw [if_neg h0]; omega
theorem floatE_eq (L : List UInt8) : floatE L = (digF 8 id okF L).2 := rfl
theorem fwd_float (f : Nat) (hf : f < 18446744073709551616) (hc : canonF f = f) (r : List UInt8) : floatE (encFloat f ++ r) = 0 := by
  have hp := placeF_lt f hf
  rw [floatE_eq, encFloat, digF_laid (placeF f) 8 okF r (by omega) (okF_place f hf hc)]
theorem scan_fwd (m : Nat) (r : List UInt8) : ∀ (s acc : List UInt8), acc.length + s.length ≤ m → (scanT m acc (encText s ++ r)).2.1 = 0
  | [], acc, h => by
    have hn : ¬ m < acc.length := by simp at h; omega
    simp [encText, escT, scanT, hn]
  | c :: s, acc, h => by
    have ih := fun c => scan_fwd m r s (acc ++ [c]) (by simp at h ⊢; omega)
    by_cases hc : c = 0
    · subst hc
      have e : encText (0 :: s) ++ r = 0 :: 255 :: (encText s ++ r) := by simp [encText, escT]
      rw [e]
      have := ih 0
      simp [scanT]
      exact this
    · have e : encText (c :: s) ++ r = c :: (encText s ++ r) := by simp [encText, escT, hc]
      rw [e]
      have := ih c
      obtain ⟨d, t, hd⟩ : ∃ d t, encText s ++ r = d :: t := by
        cases s with
        | nil => exact ⟨0, 0 :: r, by simp [encText, escT]⟩
        | cons x s =>
          by_cases hx : x = 0
          · exact ⟨0, 255 :: (encText s ++ r), by simp [encText, escT, hx]⟩
          · exact ⟨x, encText s ++ r, by simp [encText, escT, hx]⟩
      rw [hd] at this ⊢
      unfold scanT
      rw [if_neg hc]
      exact this
theorem fwd_text (m : Nat) (s r : List UInt8) (h : s.length ≤ m) : textE m (encText s ++ r) = 0 := scan_fwd m r s [] (by simpa using h)

/-- What has been read of L, if the reader had not failed ahead of it, and has not now: x, whose form stands there; and where a form stands, just that is read. -/
def Reads {α : Type} (enc : α → List UInt8) (P : α → Prop) (bad : Bool) (L : List UInt8) (x : α) (bad' : Bool) (L' : List UInt8) : Prop :=
  (bad' = false → bad = false ∧ L = enc x ++ L') ∧ ∀ y r, P y → bad = false → L = enc y ++ r → x = y ∧ bad' = false ∧ L' = r
theorem split_at {L e : List UInt8} {n : Nat} (h : L.take n = e) : L = e ++ L.drop n := by rw [← h, List.take_append_drop]
/-- Has a step failed? -/
def badE (bad : Bool) (e : Nat) : Bool := bad || decide (e ≠ 0)
theorem badE_no {bad : Bool} {e : Nat} : badE bad e = false ↔ bad = false ∧ e = 0 := by unfold badE; simp
theorem numV_le (most : Nat) (L : List UInt8) : numV most L ≤ most := by
  unfold numV
  by_cases h : numE most L = 0
  · rw [if_pos h]
    unfold numE at h
    cases L with
    | nil => simp [numF] at h
    | cons x t =>
      rw [numF_cons] at h ⊢
      by_cases h1 : (sizedF x.toNat 18446744073709551615 id t).2 = 0 ∧ most < (sizedF x.toNat 18446744073709551615 id t).1
      · rw [if_pos h1] at h; simp at h
      · rw [if_neg h1] at h ⊢
        rcases Nat.lt_or_ge most (sizedF x.toNat 18446744073709551615 id t).1 with h2 | h2
        · exact absurd ⟨h, h2⟩ h1
        · exact h2
  · rw [if_neg h]; exact Nat.zero_le _
theorem reads_num (most : Nat) (hm : most < 2 ^ 64) (bad : Bool) (L : List UInt8) : Reads encNum (fun n => n ≤ most) bad L (numV most L) (badE bad (numE most L)) (L.drop (numM most L)) := by
  constructor
  · intro h
    obtain ⟨h1, h2⟩ := badE_no.1 h
    exact ⟨h1, split_at (num_again most L h2).2.2.1⟩
  · intro y r hy hb hL
    have hE : numE most L = 0 := by rw [hL]; exact fwd_num y most (by omega) hy r
    obtain ⟨_, _, h3, h4⟩ := num_again most L hE
    obtain ⟨e1, e2⟩ := pc_num h4 (by omega) ((split_at h3).symm.trans hL)
    exact ⟨e1, badE_no.2 ⟨hb, hE⟩, e2⟩
theorem reads_int (bad : Bool) (L : List UInt8) : Reads encInt fits bad L (intV L) (badE bad (intE L)) (L.drop (intM L)) := by
  constructor
  · intro h
    obtain ⟨h1, h2⟩ := badE_no.1 h
    exact ⟨h1, split_at (int_again L h2).2.2.1⟩
  · intro y r hy hb hL
    have hE : intE L = 0 := by rw [hL]; exact fwd_int y hy r
    obtain ⟨_, _, h3, h4⟩ := int_again L hE
    obtain ⟨e1, e2⟩ := pc_int h4 hy ((split_at h3).symm.trans hL)
    exact ⟨e1, badE_no.2 ⟨hb, hE⟩, e2⟩
theorem intV_fits (L : List UInt8) : fits (intV L) := by
  by_cases h : intE L = 0
  · exact (int_again L h).2.2.2
  · unfold intV fits; rw [if_neg h]; omega
theorem floatV_lt (L : List UInt8) : floatV L < 18446744073709551616 := by
  by_cases h : floatE L = 0
  · exact (float_again L h).2.2.2.2
  · unfold floatV; rw [if_neg h]; omega
theorem reads_float (bad : Bool) (L : List UInt8) : Reads encFloat (fun f => f < 18446744073709551616 ∧ canonF f = f) bad L (floatV L) (badE bad (floatE L)) (L.drop (floatM L)) := by
  constructor
  · intro h
    obtain ⟨h1, h2⟩ := badE_no.1 h
    exact ⟨h1, split_at (float_again L h2).2.2.1⟩
  · intro y r hy hb hL
    have hE : floatE L = 0 := by rw [hL]; exact fwd_float y hy.1 hy.2 r
    obtain ⟨_, _, h3, h4, h5⟩ := float_again L hE
    obtain ⟨e1, e2⟩ := pc_float h5 hy.1 ((split_at h3).symm.trans hL)
    exact ⟨e1, badE_no.2 ⟨hb, hE⟩, e2⟩
/-- A string's form. -/
def encStr (s : ByteArray) : List UInt8 := encText s.data.toList
theorem textV_le (m : Nat) (L : List UInt8) : (textV m L).length ≤ m := by
  by_cases h : textE m L = 0
  · exact (text_again m L h).2.2.2
  · unfold textV; rw [if_neg h]; exact Nat.zero_le _
theorem reads_text (m : Nat) (bad : Bool) (L : List UInt8) : Reads encStr (fun s => s.size ≤ m) bad L ⟨(textV m L).toArray⟩ (badE bad (textE m L)) (L.drop (textM m L)) := by
  constructor
  · intro h
    obtain ⟨h1, h2⟩ := badE_no.1 h
    refine ⟨h1, ?_⟩
    unfold encStr
    exact split_at (text_again m L h2).2.2.1
  · intro y r hy hb hL
    unfold encStr at hL
    have hy' : y.data.toList.length ≤ m := by simpa using hy
    have hE : textE m L = 0 := by rw [hL]; exact fwd_text m y.data.toList r hy'
    obtain ⟨_, _, h3, _⟩ := text_again m L hE
    obtain ⟨e1, e2⟩ := pc_text ((split_at h3).symm.trans hL)
    refine ⟨ByteArray.ext ?_, badE_no.2 ⟨hb, hE⟩, e2⟩
    simp [e1]
/-- A kind: a byte between two; another one is answered as the least. -/
def kindV (least most : Nat) (L : List UInt8) : Int := if (byteV L).toNat < least ∨ most < (byteV L).toNat then least else (byteV L).toNat
def kindBad (least most : Nat) (bad : Bool) (L : List UInt8) : Bool := badE bad (byteE L) || decide ((byteV L).toNat < least ∨ most < (byteV L).toNat)
theorem kindV_range (least most : Nat) (h : least ≤ most) (L : List UInt8) : (least : Int) ≤ kindV least most L ∧ kindV least most L ≤ most := by
  unfold kindV; split <;> omega
theorem reads_kind (least most : Nat) (hm : most ≤ 255) (bad : Bool) (L : List UInt8) : Reads (fun k => [kind8 k]) (fun k => (least : Int) ≤ k ∧ k ≤ most) bad L (kindV least most L) (kindBad least most bad L) (L.drop (byteM L)) := by
  constructor
  · intro h
    unfold kindBad at h
    rw [Bool.or_eq_false_iff, badE_no, decide_eq_false_iff_not] at h
    obtain ⟨⟨h1, h2⟩, h3⟩ := h
    refine ⟨h1, ?_⟩
    cases L with
    | nil => simp [byteE] at h2
    | cons c L =>
      unfold kindV
      rw [if_neg h3]
      simp only [byteV, byteM, List.drop_succ_cons, List.drop_zero, List.cons_append, List.nil_append, kind8]
      rw [Int.toNat_natCast, UInt8.ofNat_toNat]
  · intro y r hy hb hL
    simp only [List.cons_append, List.nil_append] at hL
    subst hL
    have hc : (kind8 y).toNat = y.toNat := by unfold kind8; rw [byte_ofNat]; omega
    unfold kindV kindBad
    simp only [byteV, byteM, byteE, List.drop_succ_cons, List.drop_zero, hc]
    rw [if_neg (by omega)]
    refine ⟨by omega, ?_, trivial⟩
    rw [Bool.or_eq_false_iff, badE_no, decide_eq_false_iff_not]
    exact ⟨⟨hb, rfl⟩, by omega⟩
/-- A byte that stands for a truth. -/
theorem reads_flag {bad bad' : Bool} {L L' : List UInt8} {k : Int} (h : Reads (fun k => [kind8 k]) (fun k => ((0 : Nat) : Int) ≤ k ∧ k ≤ ((1 : Nat) : Int)) bad L k bad' L') (hk : ((0 : Nat) : Int) ≤ k ∧ k ≤ ((1 : Nat) : Int)) :
    Reads (fun b => [bit8 b]) (fun _ => True) bad L (k == 1) bad' L' := by
  have hb : k = 0 ∨ k = 1 := by omega
  constructor
  · intro h0
    obtain ⟨h1, h2⟩ := h.1 h0
    refine ⟨h1, ?_⟩
    rcases hb with rfl | rfl <;> exact h2
  · intro y r _ hb' hL
    cases y with
    | false =>
      obtain ⟨e, h1, h2⟩ := h.2 0 r (by omega) hb' hL
      subst e
      exact ⟨rfl, h1, h2⟩
    | true =>
      obtain ⟨e, h1, h2⟩ := h.2 1 r (by omega) hb' hL
      subst e
      exact ⟨rfl, h1, h2⟩
/-- A value. -/
abbrev ReadsV := Reads VP.enc (fun v => v.may ∧ v.wide)
section
variable {bad b1 b2 : Bool} {L L1 L2 : List UInt8} {k : Int}
theorem reads_value (v : VP) (hk : Reads (fun k => [kind8 k]) (fun k => ((0 : Nat) : Int) ≤ k ∧ k ≤ ((6 : Nat) : Int)) bad L v.k b1 L1)
    (hb : Reads (fun v => v.body) (fun y => y.may ∧ y.wide ∧ y.k = v.k) b1 L1 v b2 L2) : ReadsV bad L v b2 L2 := by
  constructor
  · intro h
    obtain ⟨h1, h2⟩ := hb.1 h
    obtain ⟨h3, h4⟩ := hk.1 h1
    refine ⟨h3, ?_⟩
    rw [h4, h2]; simp [VP.enc]
  · intro y r hy hb' hL
    have hr := vp_kind hy.1
    obtain ⟨e1, e2, e3⟩ := hk.2 y.k (y.body ++ r) (by omega) hb' (by rw [hL]; simp [VP.enc])
    exact hb.2 y r ⟨hy.1, hy.2, e1.symm⟩ e2 e3
theorem body_null : Reads (fun v : VP => v.body) (fun y => y.may ∧ y.wide ∧ y.k = 0) b1 L1 VP.none b1 L1 := by
  refine ⟨fun h => ⟨h, rfl⟩, fun y r hy hb hL => ?_⟩
  have e := may_none hy.1 hy.2.2
  subst e
  exact ⟨rfl, hb, hL⟩
theorem body_bool {x : Bool} (h : Reads (fun b => [bit8 b]) (fun _ => True) b1 L1 x b2 L2) : Reads (fun v : VP => v.body) (fun y => y.may ∧ y.wide ∧ y.k = 1) b1 L1 ⟨1, x, 0, 0, ByteArray.empty⟩ b2 L2 := by
  refine ⟨fun h0 => ?_, fun y r hy hb hL => ?_⟩
  · obtain ⟨h1, h2⟩ := h.1 h0
    exact ⟨h1, h2⟩
  · obtain ⟨k, b, n, f, s⟩ := y
    obtain ⟨hm, _, rfl⟩ := hy
    unfold VP.may MayV at hm
    simp at hm
    obtain ⟨rfl, rfl, rfl⟩ := hm
    obtain ⟨e1, e2, e3⟩ := h.2 b r trivial hb hL
    subst e1
    exact ⟨rfl, e2, e3⟩
theorem body_int {x : Int} (h : Reads encInt fits b1 L1 x b2 L2) : Reads (fun v : VP => v.body) (fun y => y.may ∧ y.wide ∧ y.k = 2) b1 L1 ⟨2, false, x, 0, ByteArray.empty⟩ b2 L2 := by
  refine ⟨fun h0 => ?_, fun y r hy hb hL => ?_⟩
  · obtain ⟨h1, h2⟩ := h.1 h0
    exact ⟨h1, h2⟩
  · obtain ⟨k, b, n, f, s⟩ := y
    obtain ⟨hm, hw, rfl⟩ := hy
    unfold VP.may MayV at hm
    simp at hm
    obtain ⟨rfl, rfl, rfl⟩ := hm
    obtain ⟨e1, e2, e3⟩ := h.2 n r hw.2.1 hb hL
    subst e1
    exact ⟨rfl, e2, e3⟩
theorem body_float {x : Nat} (h : Reads encFloat (fun f => f < 18446744073709551616 ∧ canonF f = f) b1 L1 x b2 L2) : Reads (fun v : VP => v.body) (fun y => y.may ∧ y.wide ∧ y.k = 3) b1 L1 ⟨3, false, 0, x, ByteArray.empty⟩ b2 L2 := by
  refine ⟨fun h0 => ?_, fun y r hy hb hL => ?_⟩
  · obtain ⟨h1, h2⟩ := h.1 h0
    exact ⟨h1, h2⟩
  · obtain ⟨k, b, n, f, s⟩ := y
    obtain ⟨hm, hw, rfl⟩ := hy
    unfold VP.may MayV at hm
    simp at hm
    obtain ⟨rfl, rfl, rfl, hc⟩ := hm
    obtain ⟨e1, e2, e3⟩ := h.2 f r ⟨hw.2.2.1, hc⟩ hb hL
    subst e1
    exact ⟨rfl, e2, e3⟩
theorem body_str {x : ByteArray} (h : Reads encStr (fun s => s.size ≤ 32) b1 L1 x b2 L2) : Reads (fun v : VP => v.body) (fun y => y.may ∧ y.wide ∧ y.k = 4) b1 L1 ⟨4, false, 0, 0, x⟩ b2 L2 := by
  refine ⟨fun h0 => ?_, fun y r hy hb hL => ?_⟩
  · obtain ⟨h1, h2⟩ := h.1 h0
    exact ⟨h1, h2⟩
  · obtain ⟨k, b, n, f, s⟩ := y
    obtain ⟨hm, hw, rfl⟩ := hy
    unfold VP.may MayV at hm
    simp at hm
    obtain ⟨rfl, rfl, rfl, hc⟩ := hm
    obtain ⟨e1, e2, e3⟩ := h.2 s r hc hb hL
    subst e1
    exact ⟨rfl, e2, e3⟩
theorem body_id {x : Nat} (hk : k = 5 ∨ k = 6) (h : Reads encNum (fun n => n ≤ 1099511627776) b1 L1 x b2 L2) : Reads (fun v : VP => v.body) (fun y => y.may ∧ y.wide ∧ y.k = k) b1 L1 ⟨k, false, (x : Int), 0, ByteArray.empty⟩ b2 L2 := by
  have hbody : ∀ v : VP, v.k = k → v.body = encNum v.n.toNat := by
    intro v e
    unfold VP.body
    rw [e]
    rcases hk with rfl | rfl <;> simp
  refine ⟨fun h0 => ?_, fun y r hy hb hL => ?_⟩
  · obtain ⟨h1, h2⟩ := h.1 h0
    refine ⟨h1, ?_⟩
    show L1 = VP.body ⟨k, false, (x : Int), 0, ByteArray.empty⟩ ++ L2
    rw [hbody _ rfl]
    simpa using h2
  · obtain ⟨hm, hw, e⟩ := hy
    simp only [hbody y e] at hL
    obtain ⟨k', b, n, f, s⟩ := y
    simp only at e hL
    subst e
    unfold VP.may MayV at hm
    rcases hk with rfl | rfl
    all_goals
      simp at hm
      obtain ⟨rfl, rfl, rfl, h3, h4⟩ := hm
      obtain ⟨e1, e2, e3⟩ := h.2 n.toNat r (by omega) hb hL
      refine ⟨?_, e2, e3⟩
      rw [e1, Int.toNat_of_nonneg (by omega)]
end
/-- An operation. -/
abbrev ReadsO := Reads OP.enc (fun o => o.may ∧ o.wide)
section
variable {bad b1 b2 b3 b4 b5 b6 : Bool} {L L1 L2 L3 L4 L5 L6 : List UInt8}
theorem reads_op (o : OP) (hk : Reads (fun k => [kind8 k]) (fun k => ((1 : Nat) : Int) ≤ k ∧ k ≤ ((5 : Nat) : Int)) bad L o.kind b1 L1)
    (he : Reads (fun b => [bit8 b]) (fun _ => True) b1 L1 o.edge b2 L2) (hi : Reads encNum (fun n => n ≤ 1099511627776) b2 L2 o.id b3 L3)
    (hm : Reads (fun o => o.mid) (fun y => y.may ∧ y.wide ∧ y.kind = o.kind ∧ y.edge = o.edge ∧ y.id = o.id ∧ y.pf = o.pf ∧ y.pt = o.pt) b3 L3 o b4 L4)
    (hmid : ∀ y : OP, y.may → y.wide → y.kind = o.kind → ∀ r, b3 = false → L3 = y.mid ++ r → b4 = false ∧ L4 = r)
    (hf : Reads encNum (fun n => n ≤ 1099511627776) b4 L4 o.pf b5 L5) (ht : Reads encNum (fun n => n ≤ 1099511627776) b5 L5 o.pt b6 L6) : ReadsO bad L o b6 L6 := by
  constructor
  · intro h
    obtain ⟨h1, e1⟩ := ht.1 h
    obtain ⟨h1, e2⟩ := hf.1 h1
    obtain ⟨h1, e3⟩ := hm.1 h1
    obtain ⟨h1, e4⟩ := hi.1 h1
    obtain ⟨h1, e5⟩ := he.1 h1
    obtain ⟨h1, e6⟩ := hk.1 h1
    refine ⟨h1, ?_⟩
    rw [e6, e5, e4, e3, e2, e1]
    simp [OP.enc]
  · intro y r hy hb hL
    obtain ⟨my, wy⟩ := hy
    obtain ⟨i1, i2, i3, i4⟩ := my
    have rk := kindP_range i4
    unfold idP at i1
    obtain ⟨k1, k2, k3⟩ := hk.2 y.kind (bit8 y.edge :: (encNum y.id ++ (y.mid ++ (encNum y.pf ++ (encNum y.pt ++ r))))) (by omega) hb (by rw [hL]; simp [OP.enc])
    obtain ⟨k4, k5, k6⟩ := he.2 y.edge (encNum y.id ++ (y.mid ++ (encNum y.pf ++ (encNum y.pt ++ r)))) trivial k2 (by rw [k3]; rfl)
    obtain ⟨k7, k8, k9⟩ := hi.2 y.id (y.mid ++ (encNum y.pf ++ (encNum y.pt ++ r))) i1.2 k5 k6
    obtain ⟨m1, m2⟩ := hmid y ⟨i1, i2, i3, i4⟩ wy k1.symm _ k8 k9
    obtain ⟨k10, k11, k12⟩ := hf.2 y.pf (encNum y.pt ++ r) (by omega) m1 m2
    obtain ⟨k13, k14, k15⟩ := ht.2 y.pt r i3 k11 k12
    obtain ⟨m3, _, _⟩ := hm.2 y _ ⟨⟨i1, i2, i3, i4⟩, wy, k1.symm, k4.symm, k7.symm, k10.symm, k13.symm⟩ k8 k9
    exact ⟨m3, k14, k15⟩
end
end Go.Proofs.YtchklaepilcbbaaGreat
