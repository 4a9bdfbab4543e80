/- The document's reader: Float. -/
import Derived.Test.YtokgpifelinonaaR10
namespace Go.Proofs.Ytokgpifelinonaa
open Go.RowKit
theorem low_in (fl : UInt8 → UInt8) (L : List UInt8) (j : Nat) (h : j < L.length) :
    lowOf (j + 1) fl L = 256 * lowOf j fl L + (fl (L.getD j 0)).toNat ∧ highOf (j + 1) fl L = 256 * highOf j fl L + (fl (L.getD j 0)).toNat := by
  have e1 : thereN j L = j := by unfold thereN; omega
  have e2 : thereN (j + 1) L = j + 1 := by unfold thereN; omega
  have v := vsnoc fl L j h
  unfold highOf lowOf nOf
  rw [e1, e2, v, Nat.sub_self, Nat.sub_self, Nat.pow_zero]
  constructor <;> omega
theorem low_out (fl : UInt8 → UInt8) (L : List UInt8) (j : Nat) (h : L.length ≤ j) :
    lowOf (j + 1) fl L = 256 * lowOf j fl L ∧ highOf (j + 1) fl L = 256 * highOf j fl L + 255 := by
  have e1 : thereN j L = L.length := by unfold thereN; omega
  have e2 : thereN (j + 1) L = L.length := by unfold thereN; omega
  have e3 : j + 1 - L.length = (j - L.length) + 1 := by omega
  have hp := Nat.pow_pos (n := j - L.length) (show 0 < 256 by omega)
  unfold highOf lowOf nOf
  rw [e1, e2, e3, Nat.pow_succ, ← Nat.mul_assoc]
  constructor <;> omega
theorem lowq_lt (L : List UInt8) (j : Nat) (h : j ≤ 7) : lowOf j id L ≤ 72057594037927935 ∧ highOf j id L ≤ 72057594037927935 := by
  have h1 := lowOf_le j id L
  have h2 : lowOf j id L ≤ highOf j id L := by unfold highOf; omega
  have h3 : (256 : Nat) ^ j ≤ 256 ^ 7 := Nat.pow_le_pow_right (by omega) h
  omega
theorem okF_eq (low high : Nat) : okF low high = ((decide (low ≤ 18442240474082181120) && decide (4503599627370495 ≤ high)) || (decide (low ≤ 18444492273895866369) && decide (18444492273895866369 ≤ high))) := by
  have e1 : placeF bitsP = 18442240474082181120 := by decide
  have e2 : placeF bitsM = 4503599627370495 := by decide
  have e3 : placeF bitsN = 18444492273895866369 := by decide
  unfold okF meetsB
  rw [e1, e2, e3]
theorem floatq_form (L : List UInt8) (h : okF (lowOf 8 id L) (highOf 8 id L) = false) : floatE L = 5 ∧ floatV L = 0 ∧ floatM L = 0 := by
  have hE : floatE L = 5 := by unfold floatE floatF digF; rw [if_pos h]
  exact ⟨hE, by unfold floatV; rw [if_neg (by omega)], by unfold floatM; rw [if_neg (by omega)]⟩
theorem floatq_short (L : List UInt8) (h : okF (lowOf 8 id L) (highOf 8 id L) = true) (hl : L.length < 8) : floatE L = 4 ∧ floatV L = 0 ∧ floatM L = 0 := by
  have hE : floatE L = 4 := by unfold floatE floatF digF; rw [if_neg (by rw [h]; decide), if_pos hl]
  exact ⟨hE, by unfold floatV; rw [if_neg (by omega)], by unfold floatM; rw [if_neg (by omega)]⟩
theorem floatq_ok (L : List UInt8) (h : okF (lowOf 8 id L) (highOf 8 id L) = true) (hl : 8 ≤ L.length) : floatE L = 0 ∧ floatV L = atF (lowOf 8 id L) ∧ floatM L = 8 := by
  have hD : digF 8 id okF L = (nOf 8 id L, 0) := by unfold digF; rw [if_neg (by rw [h]; decide), if_neg (by omega)]
  have hE : floatE L = 0 := by unfold floatE floatF; rw [hD]
  have e1 : thereN 8 L = 8 := by unfold thereN; omega
  refine ⟨hE, ?_, by unfold floatM; rw [if_pos hE, e1]⟩
  unfold floatV floatF
  rw [if_pos hE, hD]
  unfold lowOf
  rw [e1, Nat.sub_self, Nat.pow_zero, Nat.mul_one]
set_option maxRecDepth 100000 in
set_option maxHeartbeats 8000000 in
theorem qFloat_any (Q : Nat) (L : List UInt8) (w : World) (h : Qd w Q L) :
    Calls Try.prog 12 #[.pointer (some ⟨Q, 0, none⟩)] w (QTells w Q L (.tuple #[.float .f64 (floatV L), .int .i64 (floatE L : Nat)]) (floatM L)) := by
  obtain ⟨A, c, hc, hlc, hz, hcells⟩ := h.some_
  have hsh := h.short
  have hfr := h.free
  have HC : Hid (∀ i, i < L.length → ∃ b off, A = some ⟨b, off, none⟩ ∧ w.cell? ⟨b, off + i, none⟩ = some (bv (L.getD i 0))) := Lib.hid fun i hi => by
    obtain ⟨b, off, h1, _, _, h2⟩ := hcells (by omega)
    exact ⟨b, off, h1, h2 i hi⟩
  have HD8 : Hid (8 ≤ L.length → ∃ b off, A = some ⟨b, off, none⟩ ∧ Qd (w.setCell ⟨Q, 0, none⟩ (.slice (if c = 8 then some ⟨b, off, none⟩ else some ⟨b, off + 8, none⟩) (L.length - 8) (c - 8))) Q (L.drop 8)) := Lib.hid fun hk => by
    obtain ⟨b, off, h1, h3, h4, h2⟩ := hcells (by omega)
    exact ⟨b, off, h1, h.on (by rw [hc, h1]) hlc hk h3 h4 h2⟩
  have HQ := Lib.hid h
  have hff := call_Float64frombits
  clear h hcells hz
  go_enter Try.func12, Try.ntmps12
  go_wp2
  go_loopw [4, 5, 6] (fun lo hi i wr => ∃ j : Nat, j ≤ 8 ∧ i = .int .i64 j ∧ lo = .int .u64 ((lowOf j id L : Nat) : Int) ∧ hi = .int .u64 ((highOf j id L : Nat) : Int) ∧ w = wr) (fun _ _ i _ => 8 - (intOf i).toNat)
  case atStart => exact ⟨0, by omega, rfl, by simp [lowOf, nOf, thereN, val], by simp [highOf, lowOf, nOf, thereN, val], rfl⟩
  case round =>
    obtain ⟨j, hj, rfl, rfl, rfl, rfl⟩ := hrel
    have i1 : (0 : Int) ≤ (j : Int) := by omega
    by_cases hlt : j < 8
    · have i2 : (j : Int) < 8 := by omega
      have HL := lowq_lt L j (by omega)
      by_cases hin : j < L.length
      · have i3 : (j : Int) < (L.length : Int) := by omega
        obtain ⟨s1, s2⟩ := low_in id L j hin
        obtain ⟨b, off, rfl, q⟩ := HC.out j hin
        have S1 := Lib.hid s1
        have S2 := Lib.hid s2
        unfold bv at q
        clear s1 s2
        generalize hy : L.getD j 0 = y at *
        generalize lowOf j id L = n at *
        generalize highOf j id L = m at *
        have hyl := y.toNat_lt
        obtain ⟨z, hzn⟩ : ∃ z : Int, (n : Int) = z := ⟨_, rfl⟩
        obtain ⟨u, hum⟩ : ∃ z : Int, (m : Int) = z := ⟨_, rfl⟩
        have a1 : z ≤ 72057594037927935 := by omega
        have a2 : 0 ≤ z := by omega
        have a3 : u ≤ 72057594037927935 := by omega
        have a4 : 0 ≤ u := by omega
        have HZ := Lib.hid hzn
        have HU := Lib.hid hum
        rw [hzn, hum]
        clear HL hy hzn hum
        go_wp2
        exact ⟨⟨j + 1, by omega, by go_num, by rw [S1.out]; congr 1; have := HZ.out; simp; omega, by rw [S2.out]; congr 1; have := HU.out; simp; omega, by first | rfl | trivial⟩, by simp [intOf]; omega⟩
      · have i3 : ¬ (j : Int) < (L.length : Int) := by omega
        obtain ⟨s1, s2⟩ := low_out id L j (by omega)
        have S1 := Lib.hid s1
        have S2 := Lib.hid s2
        clear s1 s2
        generalize lowOf j id L = n at *
        generalize highOf j id L = m at *
        obtain ⟨z, hzn⟩ : ∃ z : Int, (n : Int) = z := ⟨_, rfl⟩
        obtain ⟨u, hum⟩ : ∃ z : Int, (m : Int) = z := ⟨_, rfl⟩
        have a1 : z ≤ 72057594037927935 := by omega
        have a2 : 0 ≤ z := by omega
        have a3 : u ≤ 72057594037927935 := by omega
        have a4 : 0 ≤ u := by omega
        have HZ := Lib.hid hzn
        have HU := Lib.hid hum
        rw [hzn, hum]
        clear HL hzn hum
        go_wp2
        exact ⟨⟨j + 1, by omega, by go_num, by rw [S1.out]; congr 1; have := HZ.out; simp; omega, by rw [S2.out]; congr 1; have := HU.out; simp; omega, by first | rfl | trivial⟩, by simp [intOf]; omega⟩
    · obtain rfl : j = 8 := by omega
      have HB := lowOf_le 8 id L
      have HB2 : lowOf 8 id L ≤ highOf 8 id L := by unfold highOf; omega
      have HO := okF_eq (lowOf 8 id L) (highOf 8 id L)
      have HF5 := Lib.hid (floatq_form L)
      have HF4 := Lib.hid (floatq_short L)
      have HF0 := Lib.hid (floatq_ok L)
      generalize lowOf 8 id L = n at *
      generalize highOf 8 id L = m at *
      obtain ⟨z, hzn⟩ : ∃ z : Int, (n : Int) = z := ⟨_, rfl⟩
      obtain ⟨u, hum⟩ : ∃ z : Int, (m : Int) = z := ⟨_, rfl⟩
      have a2 : 0 ≤ z := by omega
      have a4 : 0 ≤ u := by omega
      have a5 : u ≤ 18446744073709551615 := by omega
      have a6 : z ≤ 18446744073709551615 := by omega
      have HZ := Lib.hid hzn
      rw [hzn, hum]
      by_cases hok : okF n m = true
      · have hcase : (z ≤ 18442240474082181120 ∧ 4503599627370495 ≤ u ∧ z ≤ z) ∨ (¬ z ≤ 18442240474082181120 ∧ z ≤ 18444492273895866369 ∧ 18444492273895866369 ≤ u) := by
          rw [HO] at hok
          simp only [Bool.or_eq_true, Bool.and_eq_true, decide_eq_true_eq] at hok
          omega
        by_cases hl8 : L.length < 8
        · have HA := Lib.hid (HF4.out hok hl8)
          have i4 : (L.length : Int) < 8 := by omega
          clear HO HB HB2 HF5 HF4 HF0 hok hzn hum
          rcases hcase with ⟨b1, b2, b3⟩ | ⟨b1, b2, b3⟩
          all_goals
            go_wp2
            go_ret2
            exact QTells.stay HQ.out (by rw [HA.out.1, HA.out.2.1]; rfl) HA.out.2.2
        · have HA := Lib.hid (HF0.out hok (by omega))
          obtain ⟨b, off, rfl, hq⟩ := HD8.out (by omega)
          have HD := Lib.hid hq
          have i4 : ¬ (L.length : Int) < 8 := by omega
          have i5 : (8 : Int) ≤ (L.length : Int) := by omega
          have i6 : (8 : Int) ≤ (c : Int) := by omega
          have i9 : (L.length : Int) ≤ (c : Int) := by omega
          obtain ⟨D, hD⟩ : ∃ D : Option Addr, (if c = 8 then some (⟨b, off, none⟩ : Addr) else some ⟨b, off + 8, none⟩) = D := ⟨_, rfl⟩
          rw [hD] at HD
          by_cases hbig : 9223372036854775808 ≤ z
          · obtain ⟨v, hv⟩ : ∃ v : Nat, n - 9223372036854775808 = v := ⟨_, rfl⟩
            have m1 : IntKind.u64.wrap (z - 9223372036854775808) = (v : Int) := by rw [IntWalk.u64_in _ (by omega)]; omega
            have HV : Hid (atF n = v) := Lib.hid (by unfold atF; rw [if_neg (by omega)]; exact hv)
            clear HO HB HB2 HF5 HF4 HF0 hok hzn hum hq hv HC HD8
            rcases hcase with ⟨b1, b2, b3⟩ | ⟨b1, b2, b3⟩
            all_goals
              go_wp2
              go_ret2
              exact ⟨by rw [HA.out.1, HA.out.2.1, HV.out]; rfl, by rw [HA.out.2.2]; exact HD.out, .inr ⟨_, rfl⟩⟩
          · obtain ⟨v, hv⟩ : ∃ v : Nat, 18446744073709551615 - n = v := ⟨_, rfl⟩
            have m1 : IntKind.u64.wrap (18446744073709551615 - z) = (v : Int) := by rw [IntWalk.u64_in _ (by omega)]; omega
            have HV : Hid (atF n = v) := Lib.hid (by unfold atF; rw [if_pos (by omega)]; exact hv)
            have b1 : z ≤ 18442240474082181120 ∧ 4503599627370495 ≤ u := by omega
            obtain ⟨b1, b2⟩ := b1
            clear HO HB HB2 HF5 HF4 HF0 hok hzn hum hq hv HC HD8 hcase
            go_wp2
            go_ret2
            exact ⟨by rw [HA.out.1, HA.out.2.1, HV.out]; rfl, by rw [HA.out.2.2]; exact HD.out, .inr ⟨_, rfl⟩⟩
      · have hcase : (z ≤ 18442240474082181120 ∧ ¬ 4503599627370495 ≤ u ∧ z ≤ 18444492273895866369 ∧ ¬ 18444492273895866369 ≤ u) ∨ (¬ z ≤ 18442240474082181120 ∧ z ≤ 18444492273895866369 ∧ ¬ 18444492273895866369 ≤ u ∧ z ≤ z) ∨ (¬ z ≤ 18442240474082181120 ∧ ¬ z ≤ 18444492273895866369 ∧ z ≤ z ∧ z ≤ z) := by
          rw [HO] at hok
          simp only [Bool.or_eq_true, Bool.and_eq_true, decide_eq_true_eq] at hok
          omega
        have HA := Lib.hid (HF5.out (by simpa using hok))
        clear HO HB HB2 HF5 HF4 HF0 hok hzn hum
        rcases hcase with ⟨b1, b2, b3, b4⟩ | ⟨b1, b2, b3, b4⟩ | ⟨b1, b2, b3, b4⟩
        all_goals
          go_wp2
          go_ret2
          exact QTells.stay HQ.out (by rw [HA.out.1, HA.out.2.1]; rfl) HA.out.2.2
end Go.Proofs.Ytokgpifelinonaa
