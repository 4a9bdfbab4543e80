/- The document's reader: Num. -/
import Derived.Test.YtokgpifelinonaaR8
namespace Go.Proofs.Ytokgpifelinonaa
open Go.RowKit
theorem docN_zero {k : Nat} {fl : UInt8 → UInt8} {t : List UInt8} (h : (docN k fl t).2 = 0) : k ≤ t.length := by
  unfold docN at h
  split at h
  · omega
  · split at h
    · cases h
    · split at h
      · cases h
      · split at h
        · cases h
        · omega
theorem docN_lt (k : Nat) (fl : UInt8 → UInt8) (t : List UInt8) (hk : k ≤ 8) : (docN k fl t).1 < 18446744073709551616 ∧ (docN k fl t).2 ≤ 5 := by
  unfold docN
  have h1 := val_lt ((t.take k).map fl)
  have h2 : ((t.take k).map fl).length ≤ 8 := by simp; omega
  have h3 : (256 : Nat) ^ ((t.take k).map fl).length ≤ 256 ^ 8 := Nat.pow_le_pow_right (by omega) h2
  split
  · exact ⟨by decide, by decide⟩
  · split
    · exact ⟨by decide, by decide⟩
    · split
      · exact ⟨by decide, by decide⟩
      · split
        · exact ⟨by decide, by decide⟩
        · exact ⟨by show val _ < _; omega, by show 0 ≤ 5; omega⟩
theorem low_most (k : Nat) (fl : UInt8 → UInt8) (t : List UInt8) (hk : k ≤ 8) : lowOf k fl t ≤ 18446744073709551615 := by
  have h := lowOf_le k fl t
  have h2 : lowOf k fl t ≤ highOf k fl t := by unfold highOf; omega
  have h3 : (256 : Nat) ^ k ≤ 256 ^ 8 := Nat.pow_le_pow_right (by omega) hk
  omega
/-- What the document's Num answers, as the program's reader does. -/
theorem num_cases (most : Nat) (x : UInt8) (t : List UInt8) (hk : x.toNat ≤ 8) :
    numE most (x :: t) = (if (docN x.toNat id t).2 = 0 ∧ most < (docN x.toNat id t).1 then 3 else (docN x.toNat id t).2) ∧ numV most (x :: t) = (if numE most (x :: t) = 0 then (docN x.toNat id t).1 else 0) ∧
      numM most (x :: t) = (if numE most (x :: t) = 0 then 1 + x.toNat else 0) := by
  have e := sized_doc x.toNat 18446744073709551615 id t hk (low_most _ _ _ hk)
  have hF : numF most (x :: t) = if (docN x.toNat id t).2 = 0 ∧ most < (docN x.toNat id t).1 then ((docN x.toNat id t).1, 3) else docN x.toNat id t := by
    show (if (sizedF x.toNat 18446744073709551615 id t).2 = 0 ∧ _ then _ else _) = _
    rw [e]
  have hE : numE most (x :: t) = (if (docN x.toNat id t).2 = 0 ∧ most < (docN x.toNat id t).1 then 3 else (docN x.toNat id t).2) := by
    unfold numE
    rw [hF]
    split <;> rfl
  refine ⟨hE, ?_, ?_⟩
  · unfold numV
    rw [hF]
    by_cases h0 : numE most (x :: t) = 0
    · rw [if_pos h0, if_pos h0]
      rw [hE] at h0
      split at h0
      · cases h0
      · rename_i hn
        rw [if_neg hn]
    · rw [if_neg h0, if_neg h0]
  · unfold numM
    by_cases h0 : numE most (x :: t) = 0
    · rw [if_pos h0, if_pos h0]
      rw [hE] at h0
      split at h0
      · cases h0
      · show 1 + sizedC x.toNat t = _
        unfold sizedC thereN
        rw [if_neg (by omega)]
        have := docN_zero h0
        omega
    · rw [if_neg h0, if_neg h0]
theorem num_form (most : Nat) (x : UInt8) (t : List UInt8) (hk : 8 < x.toNat) : numE most (x :: t) = 5 ∧ numV most (x :: t) = 0 ∧ numM most (x :: t) = 0 := by
  have hS : sizedF x.toNat 18446744073709551615 id t = (0, 5) := by unfold sizedF; rw [if_pos hk]
  have hE : numE most (x :: t) = 5 := by
    show (numF most (x :: t)).2 = 5
    show (if (sizedF x.toNat 18446744073709551615 id t).2 = 0 ∧ _ then _ else _ : Nat × Nat).2 = 5
    rw [hS]
    rfl
  exact ⟨hE, by unfold numV; rw [if_neg (by omega)], by unfold numM; rw [if_neg (by omega)]⟩
/-- What a call of the document's reader gives back. -/
def QTells (w : World) (Q : Nat) (L : List UInt8) (v : Value) (m : Nat) (e : Ending) (w' : World) : Prop := e = .returned v ∧ Qd w' Q (L.drop m) ∧ QSt w Q w'
theorem QTells.stay {w : World} {Q : Nat} {L : List UInt8} {v u : Value} {m : Nat} (h : Qd w Q L) (hv : v = u) (hm : m = 0) : QTells w Q L u m (.returned v) w := by
  subst hv hm
  exact ⟨rfl, h, .inl rfl⟩
set_option maxRecDepth 100000 in
set_option maxHeartbeats 2000000 in
theorem qNum_any (Q most : Nat) (L : List UInt8) (w : World) (h : Qd w Q L) :
    Calls Try.prog 8 #[.pointer (some ⟨Q, 0, none⟩), .int .u64 (most : Int)] w (QTells w Q L (.tuple #[.int .u64 (numV most L : Nat), .int .i64 (numE most L : Nat)]) (numM most L)) := by
  cases L with
  | nil =>
    obtain ⟨A, c, hc, hlc, hz, hcells⟩ := h.some_
    have HQ := Lib.hid h
    clear h hcells
    simp only [List.length_nil] at hc
    go_enter Try.func8, Try.ntmps8
    go_wp2
    go_ret2
    exact QTells.stay HQ.out rfl rfl
  | cons x t =>
    have CN := Lib.hid (fun hk => qnumber_plus Q x.toNat x t w h hk)
    obtain ⟨A, c, hc, hlc, hz, hcells⟩ := h.some_
    obtain ⟨b, off, rfl, hb, hbl, hcell⟩ := hcells (by simp)
    have h0 := hcell 0 (by simp)
    have hfr := h.free
    have hsh := h.short
    have hl : (x :: t).length = t.length + 1 := rfl
    have e0 : (x :: t).getD 0 0 = x := rfl
    have HON := Lib.hid (fun (hk : 1 + x.toNat ≤ (x :: t).length) => h.on (k := 1 + x.toNat) hc hlc hk hb hbl hcell)
    have HQ := Lib.hid h
    rw [e0] at h0
    unfold bv at h0
    rw [Nat.add_zero] at h0
    rw [hl] at hc HON hsh hlc
    have hx := x.toNat_lt
    have i2 : (0 : Int) < (t.length : Int) + 1 := by omega
    by_cases hk : x.toNat ≤ 8
    · obtain ⟨n1, n2, n3⟩ := num_cases most x t hk
      have C := Lib.hid (CN.out hk)
      obtain ⟨d1, d2⟩ := docN_lt x.toNat id t hk
      have hz0 := fun h => docN_zero (k := x.toNat) (fl := id) (t := t) h
      have i3 : ¬ (8 : Int) < (x.toNat : Int) := by omega
      obtain ⟨N, hN⟩ : ∃ N, (docN x.toNat id t).1 = N := ⟨_, rfl⟩
      obtain ⟨E, hE⟩ : ∃ N, (docN x.toNat id t).2 = N := ⟨_, rfl⟩
      rw [hN, hE] at n1
      rw [hN] at n2 d1
      rw [hE] at d2 hz0
      rw [hN, hE] at C
      have HN2 := Lib.hid n2
      have HN3 := Lib.hid n3
      by_cases hE0 : E = 0
      · subst hE0
        have hkt := hz0 rfl
        have HD := Lib.hid (HON.out (by omega))
        obtain ⟨z, hzn⟩ : ∃ z : Int, (N : Int) = z := ⟨_, rfl⟩
        have j0 : 0 ≤ z := by omega
        have j1 : z ≤ 18446744073709551615 := by omega
        by_cases hgt : most < N
        · have hE3 : numE most (x :: t) = 3 := by rw [n1, if_pos ⟨rfl, hgt⟩]
          have i4 : (most : Int) < z := by omega
          rw [hzn] at C
          have HE3 := Lib.hid hE3
          clear h hcell hcells hz CN HON n1 n2 n3 d1 hN hE hz0 hzn hgt HD hE3
          go_enter Try.func8, Try.ntmps8
          go_wp2_with (go_at_call 29; ((refine (C.out).mono ?_); rintro e w1 ⟨rfl, rfl⟩))
          go_ret2
          refine QTells.stay HQ.out ?_ ?_
          · rw [HN2.out, HE3.out, if_neg (by decide)]; rfl
          · rw [HN3.out, HE3.out, if_neg (by decide)]
        · have hE3 : numE most (x :: t) = 0 := by rw [n1, if_neg (fun h => hgt h.2)]
          have i4 : ¬ (most : Int) < z := by omega
          have i5 : (1 : Int) + (x.toNat : Int) ≤ (t.length : Int) + 1 := by omega
          have i6 : (1 : Int) + (x.toNat : Int) ≤ (c : Int) := by omega
          have i7 : (0 : Int) ≤ 1 + (x.toNat : Int) := by omega
          have i8 : ((1 : Int) + (x.toNat : Int)).toNat = 1 + x.toNat := by omega
          have i9 : (t.length : Int) + 1 ≤ (c : Int) := by omega
          obtain ⟨D, hD⟩ : ∃ D : Option Addr, (if c = 1 + x.toNat then some (⟨b, off, none⟩ : Addr) else some ⟨b, off + (1 + x.toNat), none⟩) = D := ⟨_, rfl⟩
          rw [hD] at HD
          have HZ := Lib.hid hzn
          rw [hzn] at C
          have HE3 := Lib.hid hE3
          clear h hcell hcells hz CN HON n1 n2 n3 d1 hN hE hz0 hzn hgt hE3
          go_enter Try.func8, Try.ntmps8
          go_wp2_with (go_at_call 29; ((refine (C.out).mono ?_); rintro e w1 ⟨rfl, rfl⟩))
          go_ret2
          refine ⟨?_, ?_, .inr ⟨_, rfl⟩⟩
          · rw [HN2.out, HE3.out, if_pos rfl, HZ.out]; rfl
          · rw [HN3.out, HE3.out, if_pos rfl]; exact HD.out
      · have hE3 : numE most (x :: t) = E := by rw [n1, if_neg (fun h => hE0 h.1)]
        have HE3 := Lib.hid hE3
        have t1 : ((E : Int) != 0) = true := by simp; omega
        have HE0 := Lib.hid hE0
        obtain ⟨z, hzn⟩ : ∃ z : Int, (N : Int) = z := ⟨_, rfl⟩
        rw [hzn] at C
        clear h hcell hcells hz CN HON n1 n2 n3 d1 hN hE hz0 hzn hE3 hE0
        go_enter Try.func8, Try.ntmps8
        go_wp2_with (go_at_call 29; ((refine (C.out).mono ?_); rintro e w1 ⟨rfl, rfl⟩))
        go_ret2
        refine QTells.stay HQ.out ?_ ?_
        · rw [HN2.out, HE3.out, if_neg HE0.out]; rfl
        · rw [HN3.out, HE3.out, if_neg HE0.out]
    · obtain ⟨n1, n2, n3⟩ := num_form most x t (by omega)
      have i3 : (8 : Int) < (x.toNat : Int) := by omega
      clear h hcell hcells hz CN HON hk
      go_enter Try.func8, Try.ntmps8
      go_wp2
      go_ret2
      exact QTells.stay HQ.out (by rw [n1, n2]; rfl) n3
end Go.Proofs.Ytokgpifelinonaa
