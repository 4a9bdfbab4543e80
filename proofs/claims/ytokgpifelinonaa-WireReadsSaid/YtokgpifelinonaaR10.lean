/- The document's reader: Int. -/
import Derived.Test.YtokgpifelinonaaR9
namespace Go.Proofs.Ytokgpifelinonaa
open Go.RowKit
theorem low_bounds (k : Nat) (fl : UInt8 → UInt8) (c : UInt8) (r : List UInt8) (hk : 0 < k) : (fl c).toNat * 256 ^ (k - 1) ≤ lowOf k fl (c :: r) ∧ lowOf k fl (c :: r) < ((fl c).toNat + 1) * 256 ^ (k - 1) := by
  obtain ⟨m, hm⟩ : ∃ m, m = thereN k (c :: r) := ⟨_, rfl⟩
  have hm1 : m = min k (r.length + 1) := by rw [hm]; unfold thereN; simp
  have htake : (c :: r).take m = c :: r.take (m - 1) := by
    obtain ⟨j, rfl⟩ : ∃ j, m = j + 1 := ⟨m - 1, by omega⟩
    rfl
  have hn : nOf k fl (c :: r) = (fl c).toNat * 256 ^ (m - 1) + val ((r.take (m - 1)).map fl) := by
    unfold nOf
    rw [← hm, htake, List.map_cons]
    show (fl c).toNat * 256 ^ ((r.take (m - 1)).map fl).length + _ = _
    rw [List.length_map, List.length_take, show min (m - 1) r.length = m - 1 by omega]
  have hv : val ((r.take (m - 1)).map fl) < 256 ^ (m - 1) := by
    have := val_lt ((r.take (m - 1)).map fl)
    rwa [List.length_map, List.length_take, show min (m - 1) r.length = m - 1 by omega] at this
  have hp : (256 : Nat) ^ (k - 1) = 256 ^ (m - 1) * 256 ^ (k - m) := by rw [← Nat.pow_add]; congr 1; omega
  have hpos := Nat.pow_pos (n := k - m) (show 0 < 256 by omega)
  have e : lowOf k fl (c :: r) = ((fl c).toNat * 256 ^ (m - 1) + val ((r.take (m - 1)).map fl)) * 256 ^ (k - m) := by unfold lowOf; rw [← hm, hn]
  rw [e, hp, ← Nat.mul_assoc, ← Nat.mul_assoc]
  constructor
  · exact Nat.mul_le_mul_right _ (by omega)
  · refine Nat.mul_lt_mul_of_pos_right ?_ hpos
    rw [Nat.add_mul, Nat.one_mul]
    omega
/-- Digits of a whole number: as the document asks. -/
theorem int_sized (k : Nat) (fl : UInt8 → UInt8) (t : List UInt8) (hk : k ≤ 8) :
    sizedF k 9223372036854775807 fl t = if k = 8 ∧ 0 < t.length ∧ 128 ≤ (fl (t.getD 0 0)).toNat then (0, 5) else docN k fl t := by
  by_cases h : k = 8 ∧ 0 < t.length ∧ 128 ≤ (fl (t.getD 0 0)).toNat
  · rw [if_pos h]
    obtain ⟨rfl, h1, h2⟩ := h
    cases t with
    | nil => simp at h1
    | cons c r =>
      have hb := (low_bounds 8 fl c r (by omega)).1
      have h2' : 128 ≤ (fl c).toNat := h2
      have hb2 : 128 * 256 ^ 7 ≤ (fl c).toNat * 256 ^ 7 := Nat.mul_le_mul_right _ h2'
      have : okOne 8 9223372036854775807 (lowOf 8 fl (c :: r)) (highOf 8 fl (c :: r)) = false := by
        unfold okOne meetsB
        simp only [Bool.and_eq_false_iff, decide_eq_false_iff_not]
        left
        show ¬ lowOf 8 fl (c :: r) ≤ 9223372036854775807
        omega
      unfold sizedF digF
      rw [if_neg (by omega), if_pos this]
  · rw [if_neg h]
    refine sized_doc k 9223372036854775807 fl t hk ?_
    cases t with
    | nil => simp [lowOf, nOf, thereN, val]
    | cons c r =>
      rcases Nat.lt_or_ge k 8 with h8 | h8
      · have := lowOf_le k fl (c :: r)
        have h2 : lowOf k fl (c :: r) ≤ highOf k fl (c :: r) := by unfold highOf; omega
        have h3 : (256 : Nat) ^ k ≤ 256 ^ 7 := Nat.pow_le_pow_right (by omega) (by omega)
        omega
      · obtain rfl : k = 8 := by omega
        have hlt : (fl c).toNat < 128 := by
          rcases Nat.lt_or_ge (fl c).toNat 128 with u | u
          · exact u
          · exact absurd ⟨rfl, by simp, u⟩ h
        have hb := (low_bounds 8 fl c r (by omega)).2
        have hb2 : ((fl c).toNat + 1) * 256 ^ (8 - 1) ≤ 128 * 256 ^ 7 := Nat.mul_le_mul_right _ (by omega)
        omega
/-- What the document's Int answers of k digits. -/
def docI (k : Nat) (fl : UInt8 → UInt8) (t : List UInt8) : Nat × Nat := if k = 8 ∧ 0 < t.length ∧ 128 ≤ (fl (t.getD 0 0)).toNat then (0, 5) else docN k fl t
theorem docI_zero {k : Nat} {fl : UInt8 → UInt8} {t : List UInt8} (h : (docI k fl t).2 = 0) : k ≤ t.length := by
  unfold docI at h
  split at h
  · cases h
  · exact docN_zero h
theorem docI_le {k : Nat} {fl : UInt8 → UInt8} {t : List UInt8} (hk : k ≤ 8) : (docI k fl t).1 ≤ 9223372036854775807 := by
  unfold docI
  rw [← int_sized k fl t hk]
  exact sizedF_le k 9223372036854775807 fl t
theorem int_plus (x : UInt8) (t : List UInt8) (h16 : 16 ≤ x.toNat) (hk : x.toNat - 16 ≤ 8) :
    intE (x :: t) = (docI (x.toNat - 16) id t).2 ∧ intV (x :: t) = (if intE (x :: t) = 0 then ((docI (x.toNat - 16) id t).1 : Int) else 0) ∧ intM (x :: t) = (if intE (x :: t) = 0 then 1 + (x.toNat - 16) else 0) := by
  have hF : intF (x :: t) = (((docI (x.toNat - 16) id t).1 : Int), (docI (x.toNat - 16) id t).2) := by
    show (if 16 ≤ x.toNat then _ else _) = _
    rw [if_pos h16, int_sized _ id t hk]
    rfl
  have hE : intE (x :: t) = (docI (x.toNat - 16) id t).2 := by unfold intE; rw [hF]
  refine ⟨hE, by unfold intV; rw [hF], ?_⟩
  unfold intM
  by_cases h0 : intE (x :: t) = 0
  · rw [if_pos h0, if_pos h0]
    show (if 16 ≤ x.toNat then _ else _) = _
    rw [if_pos h16]
    unfold sizedC thereN
    rw [if_neg (by omega)]
    have := docI_zero (hE ▸ h0)
    omega
  · rw [if_neg h0, if_neg h0]
theorem int_minus (x : UInt8) (t : List UInt8) (h16 : ¬ 16 ≤ x.toNat) (hk : 15 - x.toNat ≤ 8) :
    intE (x :: t) = (docI (15 - x.toNat) neg255 t).2 ∧ intV (x :: t) = (if intE (x :: t) = 0 then -((docI (15 - x.toNat) neg255 t).1 : Int) - 1 else 0) ∧ intM (x :: t) = (if intE (x :: t) = 0 then 1 + (15 - x.toNat) else 0) := by
  have hF : intF (x :: t) = (-((docI (15 - x.toNat) neg255 t).1 : Int) - 1, (docI (15 - x.toNat) neg255 t).2) := by
    show (if 16 ≤ x.toNat then _ else _) = _
    rw [if_neg h16, int_sized _ neg255 t hk]
    rfl
  have hE : intE (x :: t) = (docI (15 - x.toNat) neg255 t).2 := by unfold intE; rw [hF]
  refine ⟨hE, by unfold intV; rw [hF], ?_⟩
  unfold intM
  by_cases h0 : intE (x :: t) = 0
  · rw [if_pos h0, if_pos h0]
    show (if 16 ≤ x.toNat then _ else _) = _
    rw [if_neg h16]
    unfold sizedC thereN
    rw [if_neg (by omega)]
    have := docI_zero (hE ▸ h0)
    omega
  · rw [if_neg h0, if_neg h0]
theorem int_formp (x : UInt8) (t : List UInt8) (h16 : 16 ≤ x.toNat) (hk : 8 < x.toNat - 16) : intE (x :: t) = 5 ∧ intV (x :: t) = 0 ∧ intM (x :: t) = 0 := by
  have hS : sizedF (x.toNat - 16) 9223372036854775807 id t = (0, 5) := by unfold sizedF; rw [if_pos hk]
  have hE : intE (x :: t) = 5 := by
    show (if 16 ≤ x.toNat then _ else _ : Int × Nat).2 = 5
    rw [if_pos h16, hS]
  exact ⟨hE, by unfold intV; rw [if_neg (by omega)], by unfold intM; rw [if_neg (by omega)]⟩
theorem int_formm (x : UInt8) (t : List UInt8) (h16 : ¬ 16 ≤ x.toNat) (hk : 8 < 15 - x.toNat) : intE (x :: t) = 5 ∧ intV (x :: t) = 0 ∧ intM (x :: t) = 0 := by
  have hS : sizedF (15 - x.toNat) 9223372036854775807 neg255 t = (0, 5) := by unfold sizedF; rw [if_pos hk]
  have hE : intE (x :: t) = 5 := by
    show (if 16 ≤ x.toNat then _ else _ : Int × Nat).2 = 5
    rw [if_neg h16, hS]
  exact ⟨hE, by unfold intV; rw [if_neg (by omega)], by unfold intM; rw [if_neg (by omega)]⟩
theorem minus_facts (x : UInt8) (k : Nat) (v : Int) (h16 : ¬ 16 ≤ x.toNat) (hk0 : 15 - x.toNat = k) (hv : (x.toNat : Int) - 16 = v) :
    IntKind.i64.wrap ((x.toNat : Int) - 16) = v ∧ v < 0 ∧ -v - 1 = (k : Int) ∧ IntKind.i64.wrap (-v - 1) = (k : Int) ∧ IntKind.i64.wrap (-v) = -v := by
  have a1 : v < 0 := by omega
  have a2 : -v - 1 = (k : Int) := by omega
  have a3 : -16 ≤ v := by omega
  refine ⟨?_, a1, a2, ?_, ?_⟩
  · rw [hv]; exact IntWalk.i64_in _ (by constructor <;> omega)
  · rw [IntWalk.i64_in _ (by constructor <;> omega)]; exact a2
  · exact IntWalk.i64_in _ (by constructor <;> omega)
set_option maxRecDepth 100000 in
set_option maxHeartbeats 8000000 in
theorem qInt_plus (Q : Nat) (x : UInt8) (t : List UInt8) (w : World) (h : Qd w Q (x :: t)) (h16 : 16 ≤ x.toNat) :
    Calls Try.prog 10 #[.pointer (some ⟨Q, 0, none⟩)] w (QTells w Q (x :: t) (.tuple #[.int .i64 (intV (x :: t)), .int .i64 (intE (x :: t) : Nat)]) (intM (x :: t))) := by
  obtain ⟨k, hk0⟩ : ∃ k, x.toNat - 16 = k := ⟨_, rfl⟩
  have CN := Lib.hid (fun hk => qnumber_plus Q k x t w h hk)
  obtain ⟨A, c, hc, hlc, hz, hcells⟩ := h.some_
  obtain ⟨b, off, rfl, hb, hbl, hcell⟩ := hcells (by simp)
  have h0 := hcell 0 (by simp)
  have H1 : Hid (0 < t.length → w.cell? ⟨b, off + 1, none⟩ = some (.int .u8 ((t.getD 0 0).toNat : Int))) := Lib.hid fun hp => hcell 1 (by simp; omega)
  have hfr := h.free
  have hsh := h.short
  have hl : (x :: t).length = t.length + 1 := rfl
  have e0 : (x :: t).getD 0 0 = x := rfl
  have HON := Lib.hid (fun (hk : 1 + k ≤ (x :: t).length) => h.on (k := 1 + k) hc hlc hk hb hbl hcell)
  have HQ := Lib.hid h
  rw [e0] at h0
  unfold bv at h0
  rw [Nat.add_zero] at h0
  rw [hl] at hc HON hsh hlc
  have hx := x.toNat_lt
  have i2 : (0 : Int) < (t.length : Int) + 1 := by omega
  have hv : (x.toNat : Int) - 16 = (k : Int) := by rw [← hk0, Int.ofNat_sub h16]; rfl
  have m1 : IntKind.i64.wrap ((x.toNat : Int) - 16) = (k : Int) := by rw [IntWalk.i64_in _ (by omega)]; exact hv
  have m2 : ¬ (k : Int) < 0 := by omega
  by_cases hk : k ≤ 8
  · obtain ⟨n1, n2, n3⟩ := int_plus x t h16 (by omega)
    rw [hk0] at n1 n2 n3
    have C := Lib.hid (CN.out hk)
    have i3 : ¬ (8 : Int) < (k : Int) := by omega
    by_cases hbig : k = 8 ∧ 0 < t.length ∧ 128 ≤ (id (t.getD 0 0)).toNat
    · have hD5 : docI k id t = (0, 5) := by unfold docI; rw [if_pos hbig]
      rw [hD5] at n1 n2
      have N1 := Lib.hid n1
      have N2 := Lib.hid n2
      have N3 := Lib.hid n3
      clear n1 n2 n3
      have q1 := H1.out hbig.2.1
      have k8 : ((k : Int) == 8) = true := by simp; omega
      have l1 : (1 : Int) < (t.length : Int) + 1 := by omega
      have hy := hbig.2.2
      generalize t.getD 0 0 = y at *
      have hyl := y.toNat_lt
      have c1 : (128 : Int) ≤ (y.toNat : Int) := by have : (id y).toNat = y.toNat := rfl; omega
      clear h hcell hcells hz CN C HON H1 hbig hy hk0 hk h16 hD5
      go_enter Try.func10, Try.ntmps10
      go_wp2
      go_ret2
      exact QTells.stay HQ.out (by rw [N2.out, N1.out]; rfl) (by rw [N3.out, N1.out]; rfl)
    · have hDN : docI k id t = docN k id t := by unfold docI; rw [if_neg hbig]
      rw [hDN] at n1 n2
      have hle : (docN k id t).1 ≤ 9223372036854775807 := by rw [← hDN]; exact docI_le hk
      obtain ⟨d1, d2⟩ := docN_lt k id t hk
      have hz0 := fun h => docN_zero (k := k) (fl := id) (t := t) h
      obtain ⟨N, hN⟩ : ∃ N, (docN k id t).1 = N := ⟨_, rfl⟩
      obtain ⟨E, hE⟩ : ∃ N, (docN k id t).2 = N := ⟨_, rfl⟩
      rw [hE] at n1
      rw [hN] at n2 d1 hle
      rw [hE] at d2 hz0
      rw [hN, hE] at C
      have HN1 := Lib.hid n1
      have HN2 := Lib.hid n2
      have HN3 := Lib.hid n3
      obtain ⟨z, hzn⟩ : ∃ z : Int, (N : Int) = z := ⟨_, rfl⟩
      have j0 : 0 ≤ z := by omega
      have j1 : z ≤ 9223372036854775807 := by omega
      rw [hzn] at C
      have HZ := Lib.hid hzn
      obtain ⟨y, hy⟩ : ∃ y, t.getD 0 0 = y := ⟨_, rfl⟩
      have hyl := y.toNat_lt
      have Y1 := Lib.hid hy
      have hreg : (((k : Int) == 8) = true ∧ (1 : Int) < (t.length : Int) + 1 ∧ w.cell? ⟨b, off + 1, none⟩ = some (.int .u8 (y.toNat : Int)) ∧ ¬ (128 : Int) ≤ ((id y).toNat : Int)) ∨ (((k : Int) == 8) = true ∧ ¬ (1 : Int) < (t.length : Int) + 1 ∧ w.cell? ⟨b, off, none⟩ = some (.int .u8 (x.toNat : Int)) ∧ (0 : Int) ≤ z) ∨ (((k : Int) == 8) = false ∧ (0 : Int) ≤ z ∧ w.cell? ⟨b, off, none⟩ = some (.int .u8 (x.toNat : Int)) ∧ (0 : Int) ≤ z) := by
        by_cases u1 : k = 8
        · by_cases u2 : 0 < t.length
          · left
            refine ⟨by simp; omega, by omega, by rw [← hy]; exact H1.out u2, fun u3 => hbig ⟨u1, u2, by rw [hy]; omega⟩⟩
          · right; left
            exact ⟨by simp; omega, by omega, h0, j0⟩
        · right; right
          exact ⟨by simp; omega, j0, h0, j0⟩
      replace hreg : (((k : Int) == 8) = true ∧ (1 : Int) < (t.length : Int) + 1 ∧ w.cell? ⟨b, off + 1, none⟩ = some (.int .u8 (y.toNat : Int)) ∧ ¬ (128 : Int) ≤ (y.toNat : Int)) ∨ _ := hreg
      by_cases hE0 : E = 0
      · subst hE0
        have hkt := hz0 rfl
        have HD := Lib.hid (HON.out (by omega))
        have i5 : (1 : Int) + (k : Int) ≤ (t.length : Int) + 1 := by omega
        have i6 : (1 : Int) + (k : Int) ≤ (c : Int) := by omega
        have i7 : (0 : Int) ≤ 1 + (k : Int) := by omega
        have i8 : ((1 : Int) + (k : Int)).toNat = 1 + k := by omega
        have i9 : (t.length : Int) + 1 ≤ (c : Int) := by omega
        obtain ⟨D, hD⟩ : ∃ D : Option Addr, (if c = 1 + k then some (⟨b, off, none⟩ : Addr) else some ⟨b, off + (1 + k), none⟩) = D := ⟨_, rfl⟩
        rw [hD] at HD
        clear h hcell hcells hz CN HON H1 n1 n2 n3 d1 hN hE hz0 hzn hbig hDN hle hk0 h16 hy hkt
        rcases hreg with ⟨r1, r2, r3, r4⟩ | ⟨r1, r2, r3, r4⟩ | ⟨r1, r2, r3, r4⟩
        rotate_left
        · have := eq_of_beq r1
          omega
        all_goals
          go_enter Try.func10, Try.ntmps10
          go_wp2_with (go_at_call 29; ((refine (C.out).mono ?_); rintro e w1 ⟨rfl, rfl⟩))
          go_ret2
          refine ⟨?_, ?_, .inr ⟨_, rfl⟩⟩
          · rw [HN2.out, HN1.out, if_pos rfl, HZ.out] <;> rfl
          · rw [HN3.out, HN1.out, if_pos rfl]; exact HD.out
      · have t1 : ((E : Int) != 0) = true := by simp; omega
        have HE0 := Lib.hid hE0
        clear h hcell hcells hz CN HON H1 n1 n2 n3 d1 hN hE hz0 hzn hbig hDN hle hk0 h16 hy hE0
        rcases hreg with ⟨r1, r2, r3, r4⟩ | ⟨r1, r2, r3, r4⟩ | ⟨r1, r2, r3, r4⟩
        all_goals
          go_enter Try.func10, Try.ntmps10
          go_wp2_with (go_at_call 29; ((refine (C.out).mono ?_); rintro e w1 ⟨rfl, rfl⟩))
          go_ret2
          refine QTells.stay HQ.out ?_ ?_
          · rw [HN2.out, HN1.out, if_neg HE0.out] <;> rfl
          · rw [HN3.out, HN1.out, if_neg HE0.out]
  · obtain ⟨n1, n2, n3⟩ := int_formp x t h16 (by omega)
    have N1 := Lib.hid n1
    have N2 := Lib.hid n2
    have N3 := Lib.hid n3
    clear n1 n2 n3
    have i3 : (8 : Int) < (k : Int) := by omega
    clear h hcell hcells hz CN HON H1 hk hk0 h16
    go_enter Try.func10, Try.ntmps10
    go_wp2
    go_ret2
    exact QTells.stay HQ.out (by rw [N1.out, N2.out]; rfl) N3.out
set_option maxRecDepth 100000 in
set_option maxHeartbeats 8000000 in
theorem qInt_minus (Q : Nat) (x : UInt8) (t : List UInt8) (w : World) (h : Qd w Q (x :: t)) (h16 : ¬ 16 ≤ x.toNat) :
    Calls Try.prog 10 #[.pointer (some ⟨Q, 0, none⟩)] w (QTells w Q (x :: t) (.tuple #[.int .i64 (intV (x :: t)), .int .i64 (intE (x :: t) : Nat)]) (intM (x :: t))) := by
  obtain ⟨k, hk0⟩ : ∃ k, 15 - x.toNat = k := ⟨_, rfl⟩
  have CN := Lib.hid (fun hk => qnumber_minus Q k x t w h hk)
  obtain ⟨A, c, hc, hlc, hz, hcells⟩ := h.some_
  obtain ⟨b, off, rfl, hb, hbl, hcell⟩ := hcells (by simp)
  have h0 := hcell 0 (by simp)
  have H1 : Hid (0 < t.length → w.cell? ⟨b, off + 1, none⟩ = some (.int .u8 ((t.getD 0 0).toNat : Int))) := Lib.hid fun hp => hcell 1 (by simp; omega)
  have hfr := h.free
  have hsh := h.short
  have hl : (x :: t).length = t.length + 1 := rfl
  have e0 : (x :: t).getD 0 0 = x := rfl
  have HON := Lib.hid (fun (hk : 1 + k ≤ (x :: t).length) => h.on (k := 1 + k) hc hlc hk hb hbl hcell)
  have HQ := Lib.hid h
  rw [e0] at h0
  unfold bv at h0
  rw [Nat.add_zero] at h0
  rw [hl] at hc HON hsh hlc
  have hx := x.toNat_lt
  have i2 : (0 : Int) < (t.length : Int) + 1 := by omega
  obtain ⟨v, hv⟩ : ∃ v : Int, (x.toNat : Int) - 16 = v := ⟨_, rfl⟩
  obtain ⟨m1, m2, m3, m4, m5⟩ := minus_facts x k v h16 hk0 hv
  by_cases hk : k ≤ 8
  · obtain ⟨n1, n2, n3⟩ := int_minus x t h16 (by omega)
    rw [hk0] at n1 n2 n3
    have C := Lib.hid (CN.out hk)
    have i3 : ¬ (8 : Int) < (k : Int) := by omega
    by_cases hbig : k = 8 ∧ 0 < t.length ∧ 128 ≤ (neg255 (t.getD 0 0)).toNat
    · have hD5 : docI k neg255 t = (0, 5) := by unfold docI; rw [if_pos hbig]
      rw [hD5] at n1 n2
      have N1 := Lib.hid n1
      have N2 := Lib.hid n2
      have N3 := Lib.hid n3
      clear n1 n2 n3
      have q1 := H1.out hbig.2.1
      have k8 : ((k : Int) == 8) = true := by simp; omega
      have l1 : (1 : Int) < (t.length : Int) + 1 := by omega
      have hy := hbig.2.2
      generalize t.getD 0 0 = y at *
      have hyl := y.toNat_lt
      have e9 : 255 - (y.toNat : Int) = ((neg255 y).toNat : Int) := by have := byte_flip y; show _ = ((255 - y).toNat : Int); omega
      have hul := (neg255 y).toNat_lt
      generalize neg255 y = u at *
      have c1 : (128 : Int) ≤ (u.toNat : Int) := by omega
      clear h hcell hcells hz CN C HON H1 hbig hy hk0 hk h16 hD5
      go_enter Try.func10, Try.ntmps10
      go_wp2
      go_ret2
      exact QTells.stay HQ.out (by rw [N2.out, N1.out]; rfl) (by rw [N3.out, N1.out]; rfl)
    · have hDN : docI k neg255 t = docN k neg255 t := by unfold docI; rw [if_neg hbig]
      rw [hDN] at n1 n2
      have hle : (docN k neg255 t).1 ≤ 9223372036854775807 := by rw [← hDN]; exact docI_le hk
      obtain ⟨d1, d2⟩ := docN_lt k neg255 t hk
      have hz0 := fun h => docN_zero (k := k) (fl := neg255) (t := t) h
      obtain ⟨N, hN⟩ : ∃ N, (docN k neg255 t).1 = N := ⟨_, rfl⟩
      obtain ⟨E, hE⟩ : ∃ N, (docN k neg255 t).2 = N := ⟨_, rfl⟩
      rw [hE] at n1
      rw [hN] at n2 d1 hle
      rw [hE] at d2 hz0
      rw [hN, hE] at C
      have HN1 := Lib.hid n1
      have HN2 := Lib.hid n2
      have HN3 := Lib.hid n3
      obtain ⟨z, hzn⟩ : ∃ z : Int, (N : Int) = z := ⟨_, rfl⟩
      have j0 : 0 ≤ z := by omega
      have j1 : z ≤ 9223372036854775807 := by omega
      rw [hzn] at C
      have HZ := Lib.hid hzn
      obtain ⟨y, hy⟩ : ∃ y, t.getD 0 0 = y := ⟨_, rfl⟩
      have hyl := y.toNat_lt
      have Y1 := Lib.hid hy
      have hreg : (((k : Int) == 8) = true ∧ (1 : Int) < (t.length : Int) + 1 ∧ w.cell? ⟨b, off + 1, none⟩ = some (.int .u8 (y.toNat : Int)) ∧ ¬ (128 : Int) ≤ ((neg255 y).toNat : Int)) ∨ (((k : Int) == 8) = true ∧ ¬ (1 : Int) < (t.length : Int) + 1 ∧ w.cell? ⟨b, off, none⟩ = some (.int .u8 (x.toNat : Int)) ∧ (0 : Int) ≤ z) ∨ (((k : Int) == 8) = false ∧ (0 : Int) ≤ z ∧ w.cell? ⟨b, off, none⟩ = some (.int .u8 (x.toNat : Int)) ∧ (0 : Int) ≤ z) := by
        by_cases u1 : k = 8
        · by_cases u2 : 0 < t.length
          · left
            refine ⟨by simp; omega, by omega, by rw [← hy]; exact H1.out u2, fun u3 => hbig ⟨u1, u2, by rw [hy]; omega⟩⟩
          · right; left
            exact ⟨by simp; omega, by omega, h0, j0⟩
        · right; right
          exact ⟨by simp; omega, j0, h0, j0⟩
      have e9 : 255 - (y.toNat : Int) = ((neg255 y).toNat : Int) := by have := byte_flip y; show _ = ((255 - y).toNat : Int); omega
      have hul := (neg255 y).toNat_lt
      generalize neg255 y = u at hreg e9 hul
      by_cases hE0 : E = 0
      · subst hE0
        have hkt := hz0 rfl
        have HD := Lib.hid (HON.out (by omega))
        have i5 : (1 : Int) + (k : Int) ≤ (t.length : Int) + 1 := by omega
        have i6 : (1 : Int) + (k : Int) ≤ (c : Int) := by omega
        have i7 : (0 : Int) ≤ 1 + (k : Int) := by omega
        have i8 : ((1 : Int) + (k : Int)).toNat = 1 + k := by omega
        have i9 : (t.length : Int) + 1 ≤ (c : Int) := by omega
        obtain ⟨D, hD⟩ : ∃ D : Option Addr, (if c = 1 + k then some (⟨b, off, none⟩ : Addr) else some ⟨b, off + (1 + k), none⟩) = D := ⟨_, rfl⟩
        rw [hD] at HD
        clear h hcell hcells hz CN HON H1 n1 n2 n3 d1 hN hE hz0 hzn hbig hDN hle hk0 h16 hy hkt
        rcases hreg with ⟨r1, r2, r3, r4⟩ | ⟨r1, r2, r3, r4⟩ | ⟨r1, r2, r3, r4⟩
        rotate_left
        · have := eq_of_beq r1
          omega
        all_goals
          go_enter Try.func10, Try.ntmps10
          go_wp2_with (go_at_call 29; ((refine (C.out).mono ?_); rintro e w1 ⟨rfl, rfl⟩))
          go_ret2
          refine ⟨?_, ?_, .inr ⟨_, rfl⟩⟩
          · rw [HN2.out, HN1.out, if_pos rfl, HZ.out] <;> rfl
          · rw [HN3.out, HN1.out, if_pos rfl]; exact HD.out
      · have t1 : ((E : Int) != 0) = true := by simp; omega
        have HE0 := Lib.hid hE0
        clear h hcell hcells hz CN HON H1 n1 n2 n3 d1 hN hE hz0 hzn hbig hDN hle hk0 h16 hy hE0
        rcases hreg with ⟨r1, r2, r3, r4⟩ | ⟨r1, r2, r3, r4⟩ | ⟨r1, r2, r3, r4⟩
        all_goals
          go_enter Try.func10, Try.ntmps10
          go_wp2_with (go_at_call 29; ((refine (C.out).mono ?_); rintro e w1 ⟨rfl, rfl⟩))
          go_ret2
          refine QTells.stay HQ.out ?_ ?_
          · rw [HN2.out, HN1.out, if_neg HE0.out] <;> rfl
          · rw [HN3.out, HN1.out, if_neg HE0.out]
  · obtain ⟨n1, n2, n3⟩ := int_formm x t h16 (by omega)
    have N1 := Lib.hid n1
    have N2 := Lib.hid n2
    have N3 := Lib.hid n3
    clear n1 n2 n3
    have i3 : (8 : Int) < (k : Int) := by omega
    clear h hcell hcells hz CN HON H1 hk hk0 h16
    go_enter Try.func10, Try.ntmps10
    go_wp2
    go_ret2
    exact QTells.stay HQ.out (by rw [N1.out, N2.out]; rfl) N3.out
theorem qInt_any (Q : Nat) (L : List UInt8) (w : World) (h : Qd w Q L) :
    Calls Try.prog 10 #[.pointer (some ⟨Q, 0, none⟩)] w (QTells w Q L (.tuple #[.int .i64 (intV L), .int .i64 (intE L : Nat)]) (intM L)) := by
  cases L with
  | nil =>
    obtain ⟨A, c, hc, hlc, hz, hcells⟩ := h.some_
    have HQ := Lib.hid h
    clear h hcells
    simp only [List.length_nil] at hc
    go_enter Try.func10, Try.ntmps10
    go_wp2
    go_ret2
    exact QTells.stay HQ.out rfl rfl
  | cons x t =>
    by_cases h16 : 16 ≤ x.toNat
    · exact qInt_plus Q x t w h h16
    · exact qInt_minus Q x t w h h16
end Go.Proofs.Ytokgpifelinonaa
