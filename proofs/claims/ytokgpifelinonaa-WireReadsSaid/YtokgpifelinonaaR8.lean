/- The document's reader: the digits of a number, Num. -/
import Derived.Test.YtokgpifelinonaaR7
namespace Go.Proofs.Ytokgpifelinonaa
open Go.RowKit
theorem vsnoc (fl : UInt8 → UInt8) (t : List UInt8) (i : Nat) (h : i < t.length) : val ((t.take (i + 1)).map fl) = val ((t.take i).map fl) * 256 + (fl (t.getD i 0)).toNat := by
  rw [List.take_succ_eq_append_getElem h, List.map_append, List.map_cons, List.map_nil, val_snoc, show t.getD i 0 = t[i] by simp [List.getD, h]]
theorem vlt (fl : UInt8 → UInt8) (t : List UInt8) (i : Nat) (h : i ≤ 7) : val ((t.take i).map fl) < 72057594037927936 := by
  have h1 := val_lt ((t.take i).map fl)
  have h2 : ((t.take i).map fl).length ≤ 7 := by simp; omega
  have h3 : (256 : Nat) ^ ((t.take i).map fl).length ≤ 256 ^ 7 := Nat.pow_le_pow_right (by omega) h2
  omega
theorem docN_short {k : Nat} {fl : UInt8 → UInt8} {t : List UInt8} (hk : t.length < k) (h : 0 < t.length → fl (t.getD 0 0) ≠ 0) : docN k fl t = (0, 4) := by
  unfold docN
  rw [if_neg (by omega)]
  by_cases h0 : t.length = 0
  · rw [if_pos h0]
  · rw [if_neg h0, if_neg (h (by omega)), if_pos hk]
theorem docN_form {k : Nat} {fl : UInt8 → UInt8} {t : List UInt8} (hk : 0 < k) (h0 : 0 < t.length) (h : fl (t.getD 0 0) = 0) : docN k fl t = (0, 5) := by
  unfold docN
  rw [if_neg (by omega), if_neg (by omega), if_pos h]
theorem docN_ok {k : Nat} {fl : UInt8 → UInt8} {t : List UInt8} (hk : k ≤ t.length) (h : 0 < k → fl (t.getD 0 0) ≠ 0) : docN k fl t = (val ((t.take k).map fl), 0) := by
  unfold docN
  by_cases h0 : k = 0
  · subst h0; rfl
  · rw [if_neg h0, if_neg (by omega), if_neg (h (by omega)), if_neg (by omega)]
theorem tup_eq {a b : Nat} {p : Nat × Nat} (h : p = (a, b)) : Ending.returned (.tuple #[.int .u64 (a : Int), .int .i64 (b : Int)]) = .returned (.tuple #[.int .u64 (p.1 : Int), .int .i64 (p.2 : Int)]) := by rw [h]
set_option maxRecDepth 100000 in
set_option maxHeartbeats 4000000 in
theorem qnumber_plus (Q k : Nat) (x : UInt8) (t : List UInt8) (w : World) (h : Qd w Q (x :: t)) (hk : k ≤ 8) :
    Calls Try.prog 29 #[.pointer (some ⟨Q, 0, none⟩), .int .i64 (k : Int), .bool false] w fun e w' => e = .returned (.tuple #[.int .u64 ((docN k id t).1 : Nat), .int .i64 ((docN k id t).2 : Nat)]) ∧ w = w' := by
  obtain ⟨A, c, hc, hlc, hz, hcells⟩ := h.some_
  obtain ⟨b, off, rfl, hb, hbl, hcell⟩ := hcells (by simp)
  have hsh := h.short
  have hl : (x :: t).length = t.length + 1 := rfl
  rw [hl] at hc hsh
  have HCELL : Hid (∀ i, i < t.length → w.cell? ⟨b, off + (1 + i), none⟩ = some (bv (t.getD i 0))) := Lib.hid fun i hi => by
    rw [hcell (1 + i) (by rw [hl]; omega)]
    congr 2
    rw [Nat.add_comm]
    rfl
  clear hcells hcell h hlc
  go_enter Try.func29, Try.ntmps29
  go_wp2
  go_loopw [8, 9] (fun v i wr => ∃ j : Nat, j ≤ k ∧ i = .int .i64 j ∧ v = .int .u64 ((val ((t.take j).map id) : Nat) : Int) ∧ j ≤ t.length ∧ (0 < j → t.getD 0 0 ≠ 0) ∧ w = wr) (fun _ i _ => k - (intOf i).toNat)
  case atStart => exact ⟨0, Nat.zero_le _, rfl, by simp [val], Nat.zero_le _, fun h => absurd h (Nat.lt_irrefl 0), rfl⟩
  case round =>
    obtain ⟨j, hj, rfl, rfl, hjt, hnz, rfl⟩ := hrel
    have i1 : (0 : Int) ≤ (j : Int) := by omega
    by_cases hlt : j < k
    · have i2 : (j : Int) < (k : Int) := by omega
      by_cases hend : t.length ≤ j
      · have HR := Lib.hid (docN_short (fl := id) (by omega : t.length < k) (fun h0 => hnz (by omega)))
        have i3 : (t.length : Int) + 1 ≤ 1 + (j : Int) := by omega
        clear hnz
        go_wp2
        go_ret2
        exact ⟨tup_eq HR.out, rfl⟩
      · have i3 : ¬ (t.length : Int) + 1 ≤ 1 + (j : Int) := by omega
        have i4 : 1 + (j : Int) < (t.length : Int) + 1 := by omega
        have i5 : (1 + (j : Int)).toNat = 1 + j := by omega
        have q := HCELL.out j (by omega)
        have HS := Lib.hid (vsnoc id t j (by omega))
        have HL := vlt id t j (by omega)
        have HF := Lib.hid (fun h0 : j = 0 => docN_form (k := k) (fl := id) (t := t) (by omega) (by omega))
        have HNZ := Lib.hid hnz
        have HG : Hid (j = 0 → t.getD 0 0 = t.getD j 0) := Lib.hid fun e => by rw [e]
        unfold bv at q
        clear hnz
        generalize hy : t.getD j 0 = y at *
        generalize val ((t.take j).map id) = n at *
        have hyl := y.toNat_lt
        obtain ⟨z, hzn⟩ : ∃ z : Int, (n : Int) = z := ⟨_, rfl⟩
        have i6 : z ≤ 72057594037927935 := by omega
        have i7 : 0 ≤ z := by omega
        have HZN := Lib.hid hzn
        rw [hzn]
        clear HL hy hzn
        by_cases hj0 : j = 0
        · subst hj0
          have q0 : w.cell? ⟨b, off + 1, none⟩ = some (.int .u8 (y.toNat : Int)) := q
          have k3 : ¬ (t.length : Int) + 1 ≤ 1 := by omega
          have k4 : (1 : Int) < (t.length : Int) + 1 := by omega
          clear q i1 i3 i4 i5
          by_cases hy0 : y = 0
          · have t1 : ((y.toNat : Int) == 0) = true := by rw [hy0]; rfl
            have HR := Lib.hid (HF.out rfl (by rw [HG.out rfl, hy0]; rfl))
            clear hy0
            go_wp2
            go_ret2
            exact ⟨tup_eq HR.out, rfl⟩
          · have t1 : ((y.toNat : Int) == 0) = false := by
              have : y.toNat ≠ 0 := fun e => hy0 (UInt8.toNat_inj.1 (by simpa using e))
              simp; omega
            have HY := Lib.hid hy0
            clear hy0
            go_wp2
            exact ⟨⟨1, by omega, by go_num, by rw [HS.out]; congr 1; have := HZN.out; simp; omega, by omega, fun _ => by rw [HG.out rfl]; exact HY.out, by first | rfl | trivial⟩, by simp [intOf]; omega⟩
        · have t2 : ((j : Int) == 0) = false := by simp; omega
          go_wp2
          exact ⟨⟨j + 1, by omega, by go_num, by rw [HS.out]; congr 1; have := HZN.out; simp; omega, by omega, fun _ => HNZ.out (by omega), by first | rfl | trivial⟩, by simp [intOf]; omega⟩
    · obtain rfl : j = k := by omega
      have HR := Lib.hid (docN_ok (fl := id) hjt hnz)
      clear hnz
      go_wp2
      go_ret2
      exact ⟨tup_eq HR.out, by first | rfl | trivial⟩
set_option maxRecDepth 100000 in
set_option maxHeartbeats 4000000 in
theorem qnumber_minus (Q k : Nat) (x : UInt8) (t : List UInt8) (w : World) (h : Qd w Q (x :: t)) (hk : k ≤ 8) :
    Calls Try.prog 29 #[.pointer (some ⟨Q, 0, none⟩), .int .i64 (k : Int), .bool true] w fun e w' => e = .returned (.tuple #[.int .u64 ((docN k neg255 t).1 : Nat), .int .i64 ((docN k neg255 t).2 : Nat)]) ∧ w = w' := by
  obtain ⟨A, c, hc, hlc, hz, hcells⟩ := h.some_
  obtain ⟨b, off, rfl, hb, hbl, hcell⟩ := hcells (by simp)
  have hsh := h.short
  have hl : (x :: t).length = t.length + 1 := rfl
  rw [hl] at hc hsh
  have HCELL : Hid (∀ i, i < t.length → w.cell? ⟨b, off + (1 + i), none⟩ = some (bv (t.getD i 0))) := Lib.hid fun i hi => by
    rw [hcell (1 + i) (by rw [hl]; omega)]
    congr 2
    rw [Nat.add_comm]
    rfl
  clear hcells hcell h hlc
  go_enter Try.func29, Try.ntmps29
  go_wp2
  go_loopw [8, 9] (fun v i wr => ∃ j : Nat, j ≤ k ∧ i = .int .i64 j ∧ v = .int .u64 ((val ((t.take j).map neg255) : Nat) : Int) ∧ j ≤ t.length ∧ (0 < j → neg255 (t.getD 0 0) ≠ 0) ∧ w = wr) (fun _ i _ => k - (intOf i).toNat)
  case atStart => exact ⟨0, Nat.zero_le _, rfl, by simp [val], Nat.zero_le _, fun h => absurd h (Nat.lt_irrefl 0), rfl⟩
  case round =>
    obtain ⟨j, hj, rfl, rfl, hjt, hnz, rfl⟩ := hrel
    have i1 : (0 : Int) ≤ (j : Int) := by omega
    by_cases hlt : j < k
    · have i2 : (j : Int) < (k : Int) := by omega
      by_cases hend : t.length ≤ j
      · have HR := Lib.hid (docN_short (fl := neg255) (by omega : t.length < k) (fun h0 => hnz (by omega)))
        have i3 : (t.length : Int) + 1 ≤ 1 + (j : Int) := by omega
        clear hnz
        go_wp2
        go_ret2
        exact ⟨tup_eq HR.out, rfl⟩
      · have i3 : ¬ (t.length : Int) + 1 ≤ 1 + (j : Int) := by omega
        have i4 : 1 + (j : Int) < (t.length : Int) + 1 := by omega
        have i5 : (1 + (j : Int)).toNat = 1 + j := by omega
        have q := HCELL.out j (by omega)
        have HS := Lib.hid (vsnoc neg255 t j (by omega))
        have HL := vlt neg255 t j (by omega)
        have HF := Lib.hid (fun h0 : j = 0 => docN_form (k := k) (fl := neg255) (t := t) (by omega) (by omega))
        have HNZ := Lib.hid hnz
        have HG : Hid (j = 0 → t.getD 0 0 = t.getD j 0) := Lib.hid fun e => by rw [e]
        unfold bv at q
        clear hnz
        generalize hy : t.getD j 0 = y at *
        generalize val ((t.take j).map neg255) = n at *
        have hyl := y.toNat_lt
        obtain ⟨u, hu⟩ : ∃ u, neg255 y = u := ⟨_, rfl⟩
        have e9 : 255 - (y.toNat : Int) = (u.toNat : Int) := by rw [← hu]; have := byte_flip y; show _ = ((255 - y).toNat : Int); omega
        rw [hu] at HS
        have hul := u.toNat_lt
        have HU := Lib.hid hu
        clear hu
        obtain ⟨z, hzn⟩ : ∃ z : Int, (n : Int) = z := ⟨_, rfl⟩
        have i6 : z ≤ 72057594037927935 := by omega
        have i7 : 0 ≤ z := by omega
        have HZN := Lib.hid hzn
        rw [hzn]
        clear HL hy hzn
        by_cases hj0 : j = 0
        · subst hj0
          have q0 : w.cell? ⟨b, off + 1, none⟩ = some (.int .u8 (y.toNat : Int)) := q
          have k3 : ¬ (t.length : Int) + 1 ≤ 1 := by omega
          have k4 : (1 : Int) < (t.length : Int) + 1 := by omega
          clear q i1 i3 i4 i5
          by_cases hy0 : u = 0
          · have t1 : ((u.toNat : Int) == 0) = true := by rw [hy0]; rfl
            have HR := Lib.hid (HF.out rfl (by rw [HG.out rfl, HU.out]; exact hy0))
            clear hy0
            go_wp2
            go_ret2
            exact ⟨tup_eq HR.out, rfl⟩
          · have t1 : ((u.toNat : Int) == 0) = false := by
              have : u.toNat ≠ 0 := fun e => hy0 (UInt8.toNat_inj.1 (by simpa using e))
              simp; omega
            have HY := Lib.hid hy0
            clear hy0
            go_wp2
            exact ⟨⟨1, by omega, by go_num, by rw [HS.out]; congr 1; have := HZN.out; simp; omega, by omega, fun _ => by rw [HG.out rfl, HU.out]; exact HY.out, by first | rfl | trivial⟩, by simp [intOf]; omega⟩
        · have t2 : ((j : Int) == 0) = false := by simp; omega
          go_wp2
          exact ⟨⟨j + 1, by omega, by go_num, by rw [HS.out]; congr 1; have := HZN.out; simp; omega, by omega, fun _ => HNZ.out (by omega), by first | rfl | trivial⟩, by simp [intOf]; omega⟩
    · obtain rfl : j = k := by omega
      have HR := Lib.hid (docN_ok (fl := neg255) hjt hnz)
      clear hnz
      go_wp2
      go_ret2
      exact ⟨tup_eq HR.out, by first | rfl | trivial⟩
end Go.Proofs.Ytokgpifelinonaa
