/- The statements' own test of being awake answers true, in every world. -/
import Derived.Test.YtchklaepilcbbaaGreatmP5
import Derived.Test.YtchklaepilcbbaaGreatmY9
import Derived.Test.YtchklaepilcbbaaGreatH5
namespace Go.Proofs.YtchklaepilcbbaaGreat
open Go.RowKit
theorem At.none_nil' {w : World} {l : List UInt8} (h : At w none l) : l = [] := by
  rcases Nat.eq_zero_or_pos l.length with e | e
  · exact List.eq_nil_of_length_eq_zero e
  · obtain ⟨b, off, e, _⟩ := h e; cases e
theorem conv_txt (w : World) (A : Option Addr) (l : List UInt8) (c : Nat) (hA : At w A l) : (convert 25 9 (.slice A l.length c)).run Tryz.prog w = .ok (.string ⟨l.toArray⟩) w := by
  cases A with
  | none =>
    obtain rfl := hA.none_nil'
    exact run_convert_bytes_nil w _ _ Tryz.underlying25 Tryz.underlying5 _ _ _ Tryz.underlying9
  | some a =>
    refine run_convert_bytes_back w _ _ _ a c l Tryz.underlying25 Tryz.underlying5 Tryz.underlying9 (fun j hj => ?_)
    exact hA.cells j _ (by simp [cellsB, bv, hj])
theorem conv_gs {w : World} {v : Value} {l : List UInt8} (h : GS w v l) : (convert 25 9 v).run Tryz.prog w = .ok (.string ⟨l.toArray⟩) w := by
  obtain ⟨A, c, rfl, hA, _⟩ := h
  exact conv_txt w A l c hA
section
set_option maxRecDepth 100000
set_option maxHeartbeats 2000000
theorem lput_any (v : VP) (hm : v.may) (hw : v.wide) (s : ByteArray) (hs : (⟨v.enc.toArray⟩ : ByteArray) = s) (w : World) : Calls Tryz.prog 53 #[v.val] w fun e w' => e = .returned (.string s) ∧ Below w.heap.size w w' := by
  subst hs
  have C := Lib.hid (fun W => PutValue_any v hw W)
  have HM := Lib.hid hm
  obtain ⟨k, b, n, f, s⟩ := v
  clear hm hw
  go_enter Tryz.func53, Tryz.ntmps53
  go_wp2_with (go_at_call 10; (refine (C.out _).mono ?_); rintro e w1 h1; obtain ⟨_, u, rfl, hs⟩ := h1.resolve_right (fun h => h.1 HM.out); have S1 := Lib.hid hs; have cv := conv_gs hs.gs; clear hs h1)
  go_ret
  exact ⟨rfl, al1 S1.out.bel⟩
theorem Number_any (n : Int) (w : World) : Calls Tryz.prog 36 #[.int .i64 n] w fun e w' => e = .returned (vagg 2 false n 0 ⟨#[]⟩) ∧ Below w.heap.size w w' := by
  have hsf := store_float
  go_enter Tryz.func36, Tryz.ntmps36
  go_wp2
  go_returns
  exact ⟨rfl, by go_grown⟩
theorem no_value {l : List UInt8} {E : Nat} {v : VP} (h : Took VP.enc (fun v => v.may ∧ v.wide) l VP.zero E v) (hn : ∀ y : VP, y.may → l ≠ y.enc) : E = 5 := by
  rcases h with ⟨_, h, e⟩ | ⟨h, _⟩
  · exact absurd e (hn _ h.1)
  · exact h
theorem head_kind {a : UInt8} {l : List UInt8} {y : VP} (hy : y.may) (h : a :: l = y.enc) (hk : a.toNat ≤ 6) : y.k = a.toNat ∧ l = y.body := by
  unfold VP.enc at h
  obtain ⟨h1, h2⟩ := List.cons.inj h
  have hr := vp_kind hy
  refine ⟨?_, h2⟩
  have e := congrArg UInt8.toNat h1
  unfold kind8 at e
  rw [byte_ofNat] at e
  omega
theorem no_12 (y : VP) (hy : y.may) : [1, 2] ≠ y.enc := fun h => by
  obtain ⟨h1, h2⟩ := head_kind hy h (by decide)
  have e : y.k = 1 := h1
  unfold VP.body at h2
  rw [e] at h2
  simp at h2
  revert h2
  cases y.b <;> decide
theorem no_00 (y : VP) (hy : y.may) : [0, 0] ≠ y.enc := fun h => by
  obtain ⟨h1, h2⟩ := head_kind hy h (by decide)
  have e : y.k = 0 := h1
  unfold VP.body at h2
  rw [e] at h2
  simp at h2
abbrev opA : OP := ⟨4, false, 3, ⟨#[]⟩, 0, 0, ⟨#[]⟩, VP.zero, 1, 256⟩
theorem opA_may : opA.may := by
  refine ⟨by unfold idP; decide, by decide, by decide, ?_⟩
  right; right; left
  exact ⟨.inr rfl, rfl, rfl, rfl, rfl, rfl⟩
theorem opA_wide : opA.wide := by
  unfold OP.wide VP.wide fits
  simp [esz]
theorem opA_enc : (⟨opA.enc.toArray⟩ : ByteArray) = ⟨#[4, 0, 1, 3, 1, 1, 2, 1, 0]⟩ := by
  have : opA.enc = [4, 0, 1, 3, 1, 1, 2, 1, 0] := by decide
  rw [this]
theorem vw (k n : Int) (b : Bool) (f : Nat) (s : ByteArray) (h1 : fits k) (h2 : fits n) (h3 : f < 18446744073709551616) (h4 : s.size ≤ maxLen) : VP.wide ⟨k, b, n, f, s⟩ := ⟨h1, h2, h3, h4⟩
theorem wakes_any (w : World) : Calls Tryz.prog 17 #[] w fun e w' => e = .returned (.bool true) ∧ Below w.heap.size w w' := by
  have hsf := store_float
  have K1 : Hid (∀ W, Calls Tryz.prog 18 #[.agg #[.int .i64 4, .bool false, .int .u64 3, .string ⟨#[]⟩, .int .u64 0, .int .u64 0, .string ⟨#[]⟩, .int .i64 0, .bool false, .int .i64 0, .float .f64 0, .string ⟨#[]⟩, .int .u64 1, .int .u64 256]] W (fun e w' => ∃ u, e = .returned (.tuple #[u, .int .i64 0]) ∧ St W w' u opA.enc)) :=
    Lib.hid (fun W => (PutOp_any opA opA_wide W).mono fun e w' h => (h.resolve_right (fun h => h.1 opA_may)).2)
  have K2 : Hid (∀ W, Calls Tryz.prog 12 #[.slice (some ⟨W.heap.size, 0, none⟩) 2 2] (W.alloc (.cells #[.int .u8 1, .int .u8 2] 5)) (fun e w' => ∃ v, e = .returned (.tuple #[VP.val v, .int .i64 5]) ∧ Below W.heap.size W w')) :=
    Lib.hid (fun W => (TakeValue_any _ [1, 2] _ (gs_two W 1 2 1 2 rfl rfl) (by decide)).mono fun e w' ⟨E, v, he, ht, hb⟩ => ⟨v, by rw [he, no_value ht no_12]; rfl, al1 hb⟩)
  have K3 : Hid (∀ (W : World) (i : Nat), W.heap.size = i → Calls Tryz.prog 12 #[.slice (some ⟨i, 0, none⟩) 2 2] (W.alloc (.cells #[.int .u8 0, .int .u8 0] 5)) (fun e w' => ∃ v, e = .returned (.tuple #[VP.val v, .int .i64 5]) ∧ Below W.heap.size W w')) :=
    Lib.hid (fun W i hi => hi ▸ (TakeValue_any _ [0, 0] _ (gs_two W 0 0 0 0 rfl rfl) (by decide)).mono fun e w' ⟨E, v, he, ht, hb⟩ => ⟨v, by rw [he, no_value ht no_00]; rfl, al1 hb⟩)
  have P0 := Lib.hid (fun W => lput_any ⟨0, false, 0, 0, ⟨#[]⟩⟩ none_may (vw _ _ _ _ _ (by unfold fits; omega) (by unfold fits; omega) (by omega) (by simp [esz])) ⟨#[0]⟩ (by decide) W)
  have P1 := Lib.hid (fun W => lput_any ⟨1, true, 0, 0, ⟨#[]⟩⟩ (by unfold VP.may MayV; simp; rfl) (vw _ _ _ _ _ (by unfold fits; omega) (by unfold fits; omega) (by omega) (by simp [esz])) ⟨#[1, 1]⟩ (by decide) W)
  have P2 := Lib.hid (fun W => lput_any ⟨2, false, 5, 0, ⟨#[]⟩⟩ (by unfold VP.may MayV; simp; rfl) (vw _ _ _ _ _ (by unfold fits; omega) (by unfold fits; omega) (by omega) (by simp [esz])) ⟨#[2, 17, 5]⟩ (by decide) W)
  have P3 := Lib.hid (fun W => lput_any ⟨4, false, 0, 0, ⟨#[97]⟩⟩ (by unfold VP.may MayV; simp; decide) (vw _ _ _ _ _ (by unfold fits; omega) (by unfold fits; omega) (by omega) (by decide)) ⟨#[4, 97, 0, 0]⟩ (by decide) W)
  have T1 := Lib.hid (fun W => Truth_any true W)
  have T2 := Lib.hid (fun W => Number_any 5 W)
  have T3 := Lib.hid (fun W => Word_any' ⟨#[97]⟩ W (by decide) (by decide))
  go_enter Tryz.func17, Tryz.ntmps17
  go_upto_region 2 with (go_at_call 18; (with_reducible refine (K1.out _).mono ?_); rintro e w1 ⟨u1, rfl, hs⟩; have S1 := Lib.hid hs; clear hs)
  go_upto_region 3 with (go_at_call 12; (with_reducible refine (K2.out _).mono ?_); rintro e w2 ⟨⟨k, b, n, f, s⟩, rfl, hb⟩; have S2 := Lib.hid (S1.out.next hb); clear hb)
  go_upto_region 4 with (go_at_call 12; (with_reducible refine (K3.out _ _ (by simp)).mono ?_); rintro e w3 ⟨⟨k', b', n', f', s'⟩, rfl, hb⟩; have S3 := Lib.hid ((S2.out.next ((Below.refl _ _).alloc (Nat.le_refl _) _)).next hb); clear hb)
  go_wp2_with (first
    | (go_at_call 53; (with_reducible refine (P0.out _).mono ?_); rintro e w4 ⟨rfl, hb⟩; have S4 := Lib.hid ((S3.out.next ((Below.refl _ _).alloc (Nat.le_refl _) _)).next hb); clear hb)
    | (go_at_call 54; (with_reducible refine (T1.out _).mono ?_); rintro e w5 ⟨rfl, hb⟩; have S5 := Lib.hid (S4.out.next hb); clear hb)
    | (go_at_call 53; (with_reducible refine (P1.out _).mono ?_); rintro e w6 ⟨rfl, hb⟩; have S6 := Lib.hid (S5.out.next hb); clear hb)
    | (go_at_call 36; (with_reducible refine (T2.out _).mono ?_); rintro e w7 ⟨rfl, hb⟩; have S7 := Lib.hid (S6.out.next hb); clear hb)
    | (go_at_call 53; (with_reducible refine (P2.out _).mono ?_); rintro e w8 ⟨rfl, hb⟩; have S8 := Lib.hid (S7.out.next hb); clear hb)
    | (go_at_call 55; (with_reducible refine (T3.out _).mono ?_); rintro e w9 ⟨rfl, hb⟩; have S9 := Lib.hid (S8.out.next hb); clear hb)
    | (go_at_call 53; (with_reducible refine (P3.out _).mono ?_); rintro e w10 ⟨rfl, hb⟩; have S10 := Lib.hid (S9.out.next hb); have cv := conv_gs S10.out.gs; rw [opA_enc] at cv; clear hb))
  go_ret
  exact ⟨rfl, S10.out.bel⟩
end
end Go.Proofs.YtchklaepilcbbaaGreat
