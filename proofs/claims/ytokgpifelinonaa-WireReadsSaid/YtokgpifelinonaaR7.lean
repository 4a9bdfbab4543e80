/- The document's reader: Byte, the digits of a number, Num. -/
import Derived.Test.YtokgpifelinonaaR5
import Derived.Test.YtokgpifelinonaaM3
namespace Go.Proofs.Ytokgpifelinonaa
open Go.RowKit
/-- The document's reader in block Q: what is left. -/
structure Qd (w : World) (Q : Nat) (L : List UInt8) : Prop where
  lt : Q < w.heap.size
  free : w.frozen? ⟨Q, 0, none⟩ = false
  some_ : ∃ A c, w.cell? ⟨Q, 0, none⟩ = some (.slice A L.length c) ∧ L.length ≤ c ∧ (A = none → c = 0) ∧ (0 < L.length → ∃ b off, A = some ⟨b, off, none⟩ ∧ b ≠ Q ∧ b < w.heap.size ∧ ∀ i, i < L.length → w.cell? ⟨b, off + i, none⟩ = some (bv (L.getD i 0)))
  short : L.length ≤ 1000
/-- All but the reader's slice stays. -/
def QSt (w : World) (Q : Nat) (w' : World) : Prop := w = w' ∨ ∃ v, w' = w.setCell ⟨Q, 0, none⟩ v
/-- The reader behind k bytes more. -/
theorem Qd.on {w : World} {Q b off c k : Nat} {L : List UInt8} (h : Qd w Q L) (hc : w.cell? ⟨Q, 0, none⟩ = some (.slice (some ⟨b, off, none⟩) L.length c)) (hl : L.length ≤ c) (hk : k ≤ L.length) (hb : b ≠ Q) (hbl : b < w.heap.size) (hcell : ∀ i, i < L.length → w.cell? ⟨b, off + i, none⟩ = some (bv (L.getD i 0))) :
    Qd (w.setCell ⟨Q, 0, none⟩ (.slice (if c = k then some ⟨b, off, none⟩ else some ⟨b, off + k, none⟩) (L.length - k) (c - k))) Q (L.drop k) := by
  have hd : (L.drop k).length = L.length - k := List.length_drop
  refine ⟨by simpa [World.setCell] using h.lt, by rw [World.frozen?_setCell]; exact h.free, ⟨_, c - k, by rw [World.cell?_setCell_same _ _ _ hc, hd], by omega, ?_, fun h0 => ?_⟩, by have := h.short; omega⟩
  · split <;> exact fun e => by cases e
  · rw [if_neg (by omega)]
    refine ⟨b, off + k, rfl, hb, by simpa [World.setCell] using hbl, fun i hi => ?_⟩
    rw [World.cell?_setCell_other _ _ _ _ (fun e => hb (congrArg Addr.block e).symm), Nat.add_assoc, hcell (k + i) (by omega)]
    congr 2
    rw [List.getD, List.getD, List.getElem?_drop]
set_option maxRecDepth 100000 in
set_option maxHeartbeats 1000000 in
theorem qByte_any (Q : Nat) (L : List UInt8) (w : World) (h : Qd w Q L) :
    Calls Try.prog 17 #[.pointer (some ⟨Q, 0, none⟩)] w fun e w' => e = .returned (.tuple #[.int .u8 ((byteV L).toNat : Int), .int .i64 (byteE L : Nat)]) ∧ Qd w' Q (L.drop (byteM L)) ∧ QSt w Q w' := by
  obtain ⟨A, c, hc, hlc, hz, hcells⟩ := h.some_
  have hfr := h.free
  cases L with
  | nil =>
    have HQ := Lib.hid h
    clear h hcells
    simp only [List.length_nil] at hc
    go_enter Try.func17, Try.ntmps17
    go_wp2
    go_ret2
    exact ⟨rfl, HQ.out, .inl rfl⟩
  | cons x t =>
    obtain ⟨b, off, rfl, hb, hbl, hcell⟩ := hcells (by simp)
    have h0 := hcell 0 (by simp)
    have HD := Lib.hid (h.on (k := 1) hc hlc (by simp) hb hbl hcell)
    have hl : (x :: t).length = t.length + 1 := rfl
    have i1 : (1 : Int) ≤ (c : Int) := by omega
    have i2 : (0 : Int) < (t.length : Int) + 1 := by omega
    have i3 : (t.length : Int) + 1 ≤ (c : Int) := by omega
    have e0 : (x :: t).getD 0 0 = x := rfl
    rw [e0] at h0
    unfold bv at h0
    rw [Nat.add_zero] at h0
    rw [hl] at hc HD
    obtain ⟨D, hD⟩ : ∃ D : Option Addr, (if c = 1 then some (⟨b, off, none⟩ : Addr) else some ⟨b, off + 1, none⟩) = D := ⟨_, rfl⟩
    rw [hD] at HD
    clear h hcell hcells hlc hz
    go_enter Try.func17, Try.ntmps17
    go_wp2
    go_ret2
    exact ⟨rfl, HD.out, .inr ⟨_, rfl⟩⟩
/-- What the document's digits come to. -/
def docN (k : Nat) (fl : UInt8 → UInt8) (t : List UInt8) : Nat × Nat :=
  if k = 0 then (0, 0) else if t.length = 0 then (0, 4) else if fl (t.getD 0 0) = 0 then (0, 5) else if t.length < k then (0, 4) else (val ((t.take k).map fl), 0)
theorem val_cons_lt (c : UInt8) (l : List UInt8) (h : c ≠ 0) : 256 ^ l.length ≤ val (c :: l) := by
  have hc : 1 ≤ c.toNat := by
    rcases Nat.eq_zero_or_pos c.toNat with e | e
    · exact absurd (UInt8.toNat_inj.1 (by simpa using e)) h
    · exact e
  show 256 ^ l.length ≤ c.toNat * 256 ^ l.length + val l
  have : 1 * 256 ^ l.length ≤ c.toNat * 256 ^ l.length := Nat.mul_le_mul_right _ hc
  omega
theorem sized_doc (k most : Nat) (fl : UInt8 → UInt8) (t : List UInt8) (h8 : k ≤ 8) (hmost : lowOf k fl t ≤ most) : sizedF k most fl t = docN k fl t := by
  unfold sizedF docN
  rw [if_neg (by omega)]
  unfold digF
  have hok : okOne k most (lowOf k fl t) (highOf k fl t) = decide (leastOf k ≤ highOf k fl t) := by
    unfold okOne meetsB
    simp [hmost]
  rw [hok]
  by_cases h0 : k = 0
  · subst h0
    have e : leastOf 0 = 0 := rfl
    rw [e]
    simp [nOf, thereN, val]
  rw [if_neg h0]
  cases t with
  | nil =>
    have e : highOf k fl [] = 256 ^ k - 1 := by simp [highOf, lowOf, nOf, thereN, val]
    have e2 : leastOf k = 256 ^ (k - 1) := by unfold leastOf; rw [if_pos (by omega)]
    have e3 : 256 ^ (k - 1) ≤ 256 ^ k - 1 := by
      obtain ⟨j, rfl⟩ : ∃ j, k = j + 1 := ⟨k - 1, by omega⟩
      rw [Nat.add_sub_cancel, Nat.pow_succ]
      have := Nat.pow_pos (n := j) (show 0 < 256 by omega)
      omega
    rw [e, e2]
    simp [e3]
    omega
  | cons c r =>
    obtain ⟨m, hm⟩ : ∃ m, m = thereN k (c :: r) := ⟨_, rfl⟩
    have hm1 : m = min k (r.length + 1) := by rw [hm]; unfold thereN; simp
    have htake : (c :: r).take m = c :: r.take (m - 1) := by
      obtain ⟨j, rfl⟩ : ∃ j, m = j + 1 := ⟨m - 1, by omega⟩
      rfl
    have hn : nOf k fl (c :: r) = (fl c).toNat * 256 ^ (m - 1) + val ((r.take (m - 1)).map fl) := by
      unfold nOf
      rw [← hm, htake, List.map_cons]
      show (fl c).toNat * 256 ^ ((r.take (m - 1)).map fl).length + _ = _
      rw [List.length_map, List.length_take, show min (m - 1) r.length = m - 1 by omega]
    have hv : val ((r.take (m - 1)).map fl) < 256 ^ (m - 1) := by
      have := val_lt ((r.take (m - 1)).map fl)
      rwa [List.length_map, List.length_take, show min (m - 1) r.length = m - 1 by omega] at this
    have hp : (256 : Nat) ^ (k - 1) = 256 ^ (m - 1) * 256 ^ (k - m) := by rw [← Nat.pow_add]; congr 1; omega
    have hpos := Nat.pow_pos (n := k - m) (show 0 < 256 by omega)
    have e2 : leastOf k = 256 ^ (m - 1) * 256 ^ (k - m) := by unfold leastOf; rw [if_pos (by omega), hp]
    have eh : highOf k fl (c :: r) = nOf k fl (c :: r) * 256 ^ (k - m) + (256 ^ (k - m) - 1) := by unfold highOf lowOf; rw [← hm]
    rw [eh, e2, show (c :: r).getD 0 0 = c from rfl]
    have hlen0 : ¬ (c :: r).length = 0 := by simp
    by_cases hc : fl c = 0
    · have e0 : (fl c).toNat = 0 := by rw [hc]; rfl
      rw [e0, Nat.zero_mul, Nat.zero_add] at hn
      have h1 : (nOf k fl (c :: r) + 1) * 256 ^ (k - m) ≤ 256 ^ (m - 1) * 256 ^ (k - m) := Nat.mul_le_mul_right _ (by omega)
      rw [Nat.add_mul, Nat.one_mul] at h1
      rw [decide_eq_false (by omega), if_pos rfl, if_neg hlen0, if_pos hc]
    · have h0' : 0 < (fl c).toNat := by
        rcases Nat.eq_zero_or_pos (fl c).toNat with e | e
        · exact absurd (UInt8.toNat_inj.1 (by simpa using e)) hc
        · exact e
      have h1 : 1 * 256 ^ (m - 1) ≤ (fl c).toNat * 256 ^ (m - 1) := Nat.mul_le_mul_right _ h0'
      have h2 : 256 ^ (m - 1) * 256 ^ (k - m) ≤ nOf k fl (c :: r) * 256 ^ (k - m) := Nat.mul_le_mul_right _ (by omega)
      rw [decide_eq_true (by omega), if_neg (show ¬ (true = false) by decide), if_neg hlen0, if_neg hc]
      by_cases hl : (c :: r).length < k
      · rw [if_pos hl, if_pos hl]
      · rw [if_neg hl, if_neg hl]
        have hmk : m = k := by simp at hl; omega
        show (val (((c :: r).take (thereN k (c :: r))).map fl), 0) = _
        rw [← hm, hmk]
end Go.Proofs.Ytokgpifelinonaa
