/- Digits read back: takeDigits where nothing remains. -/
import Derived.Test.YtokgpifelinonaaB7
namespace Go.Proofs.Ytokgpifelinonaa
open Go.RowKit
set_option maxRecDepth 100000 in
set_option maxHeartbeats 2000000 in
theorem takeDigits_end (g k c count : Nat) (flip : Int) (fl : UInt8 → UInt8) (A : Option Addr) (l : List UInt8) (sp : Value) (ok : Nat → Nat → Bool) (w : World) (h : Rd w g k A c l) (hk : l.length = k) (hc : count ≤ 8)
    (hok : SpansOk w g sp ok) :
    Calls Try.prog 53 #[.pointer (some ⟨g, 0, none⟩), .int .i64 count, .int .u8 flip, sp] w fun e w' => e = .returned (.tuple #[.int .u64 ((digF count fl ok (l.drop k)).1 : Nat), .int .i64 ((digF count fl ok (l.drop k)).2 : Nat)]) ∧ Moved w g (k + thereN count (l.drop k)) w' := by
  have C := Lib.hid (Left_any g k c A l w h)
  have HT := Lib.hid (show 0 = thereN count (l.drop k) by unfold thereN; simp; omega)
  rw [← HT.out]
  have h0 := h.c0
  rw [hk] at h0
  have h1 := h.c1
  have hf := h.f1
  have hb := h.2.1
  rw [hk] at hb
  have hmin : min (count : Int) 0 = 0 := by omega
  have H := Lib.hid h
  have HOK := Lib.hid hok
  have HK := Lib.hid hk
  rw [hk, Nat.sub_self] at C
  clear h hok hk
  go_enter Try.func53, Try.ntmps53
  go_wp2_with (go_at_call 18; ((with_reducible refine (C.out).mono ?_); rintro e w1 ⟨rfl, nd, rfl⟩))
  have i0 : (0 : Int) ≤ (k : Int) := by omega
  have i2 : (k : Int) ≤ (c : Int) := by omega
  have hs : IntKind.i64.wrap ((k : Int)) = (k : Int) := IntWalk.i64_in _ (by omega)
  go_quiet (fail)
  clear hs i0 i2 hmin
  generalize (if c = k then A else Option.map (fun x => x.add k) A) = A2 at *
  go_wp2
  refine wp_loop_rounds 1 ?_
  rw [rounds_succ]
  go_wp2
  obtain ⟨W, hW⟩ : ∃ W : World, W = (w.drewN (nd + nq)).setCell ⟨g, 1, none⟩ (.int .i64 (k : Int)) := ⟨_, rfl⟩
  rw [← hW]
  have HW := Lib.hid hW
  clear hW
  have hw0 : IntKind.u64.wrap 0 = ((0 * 256 ^ count : Nat) : Int) := by rw [IntKind.wrap_u64, Nat.zero_mul]; rfl
  have HW0 := Lib.hid hw0
  clear hw0
  have HE2 := Lib.hid (or_high 0 count hc (Nat.pow_pos (by omega)))
  have HN0 : Hid (nOf count fl (l.drop k) = 0) := by
    unfold nOf
    rw [← HT.out]
    exact rfl
  have HLO := Lib.hid (show 0 * 256 ^ count = lowOf count fl (l.drop k) by unfold lowOf; rw [HN0.out, ← HT.out, Nat.sub_zero])
  have HHI := Lib.hid (show 0 * 256 ^ count + (256 ^ count - 1) = highOf count fl (l.drop k) by unfold highOf; rw [← HLO.out, ← HT.out, Nat.sub_zero])
  go_region_held3 (fun _ => True) (trivial) (fail)
  rw [HW0.out, HE2.out, HHI.out, HLO.out]
  have HAP := Lib.hid (Apart.begins (g := g) (v := .int .i64 (k : Int)) w (nd + nq) (.cells #[.int .u64 (lowOf count fl (l.drop k) : Nat), .int .u64 (highOf count fl (l.drop k) : Nat)] 89))
  rw [← HW.out] at HAP
  have HMV : Hid (Moved w g (k + 0) ((W.alloc (.cells #[.int .u64 (lowOf count fl (l.drop k) : Nat), .int .u64 (highOf count fl (l.drop k) : Nat)] 89)).drew)) := by
    rw [HW.out]
    exact (((below_drewN' (Below.refl _ _) (nd + nq)).alloc (by simp [World.setCell]) _).drew)
  have HDG : Hid (digF count fl ok (l.drop k) = if ok (lowOf count fl (l.drop k)) (highOf count fl (l.drop k)) = false then (0, 5) else if 0 < count then (0, 4) else (0, 0)) := by
    unfold digF
    rw [HN0.out]
    have : (l.drop k).length < count ↔ 0 < count := by have := HK.out; simp; omega
    by_cases q : 0 < count
    · rw [if_pos q, if_pos (this.2 q)]; exact rfl
    · rw [if_neg q, if_neg (fun x => q (this.1 x))]; exact rfl
  have CS := Lib.hid (HOK.out _ HAP.out (lowOf count fl (l.drop k)) (highOf count fl (l.drop k)))
  generalize lowOf count fl (l.drop k) = low at *
  generalize highOf count fl (l.drop k) = high at *
  clear HE2 HLO HHI
  cases hok : ok low high
  · rw [hok] at CS HDG
    clear hok
    go_wp2_with (go_at_call 64; ((refine (CS.out).mono ?_); rintro e w2 ⟨rfl, hb2⟩; have B2 := Lib.hid hb2; clear hb2))
    go_ret2
    exact ⟨by rw [HDG.out]; rfl, HMV.out.then B2.out⟩
  · rw [hok] at CS HDG
    clear hok
    by_cases hlt2 : 0 < count
    · have HDJ := Lib.hid (show (if 0 < count then ((0, 4) : Nat × Nat) else (0, 0)) = (0, 4) from if_pos hlt2)
      go_wp2_with (go_at_call 64; ((refine (CS.out).mono ?_); rintro e w2 ⟨rfl, hb2⟩; have B2 := Lib.hid hb2; clear hb2))
      go_ret2
      exact ⟨by rw [HDG.out, HDJ.out]; rfl, HMV.out.then B2.out⟩
    · have HDJ := Lib.hid (show (if 0 < count then ((0, 4) : Nat × Nat) else (0, 0)) = (0, 0) from if_neg hlt2)
      obtain rfl : count = 0 := by omega
      go_wp2_with (go_at_call 64; ((refine (CS.out).mono ?_); rintro e w2 ⟨rfl, hb2⟩; have B2 := Lib.hid hb2; clear hb2))
      go_ret2
      exact ⟨by rw [HDG.out, HDJ.out]; rfl, HMV.out.then B2.out⟩
theorem takeDigits_any (g k c count : Nat) (flip : Int) (fl : UInt8 → UInt8) (A : Option Addr) (l : List UInt8) (sp : Value) (ok : Nat → Nat → Bool) (w : World) (h : Rd w g k A c l) (hc : count ≤ 8)
    (hfl : ∀ x : UInt8, bits .xor .u8 (x.toNat : Int) flip = ((fl x).toNat : Int)) (hok : SpansOk w g sp ok) :
    Calls Try.prog 53 #[.pointer (some ⟨g, 0, none⟩), .int .i64 count, .int .u8 flip, sp] w fun e w' => e = .returned (.tuple #[.int .u64 ((digF count fl ok (l.drop k)).1 : Nat), .int .i64 ((digF count fl ok (l.drop k)).2 : Nat)]) ∧ Moved w g (k + thereN count (l.drop k)) w' := by
  have hb := h.2.1.1
  rcases Nat.lt_or_ge k l.length with hk | hk
  · exact takeDigits_more g k c count flip fl A l sp ok w h hk hc hfl hok
  · exact takeDigits_end g k c count flip fl A l sp ok w h (by omega) hc hok
end Go.Proofs.Ytokgpifelinonaa
