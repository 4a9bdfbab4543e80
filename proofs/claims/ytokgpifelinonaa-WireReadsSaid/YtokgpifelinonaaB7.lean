/- Digits read back: takeDigits. -/
import Derived.Test.YtokgpifelinonaaB6
import Derived.Test.YtokgpifelinonaaM2
import Derived.Lib.MinMax
namespace Go.Proofs.Ytokgpifelinonaa
open Go.RowKit
/-- A world in which nothing that lay there has turned but the reader in block g. -/
def Apart (w W : World) (g : Nat) : Prop := w.heap.size ≤ W.heap.size ∧ ∀ b, b < w.heap.size → b ≠ g → W.heap[b]? = w.heap[b]?
/-- What the spans answer, wherever the walk has come to. -/
def SpansOk (w : World) (g : Nat) (sp : Value) (ok : Nat → Nat → Bool) : Prop :=
  ∀ W, Apart w W g → ∀ low high, Calls Try.prog 64 #[sp, meetsV low high] W fun e w' => e = .returned (.bool (ok low high)) ∧ Below W.heap.size W w'
theorem drop_getD (l : List UInt8) (k i : Nat) : (l.drop k).getD i 0 = l.getD (k + i) 0 := by simp [List.getD]
/-- What j digits from k on say. -/
def vOf (fl : UInt8 → UInt8) (l : List UInt8) (k j : Nat) : Nat := val (((l.drop k).take j).map fl)
theorem vOf_succ (fl : UInt8 → UInt8) (l : List UInt8) (k j : Nat) (h : k + j < l.length) : vOf fl l k (j + 1) = vOf fl l k j * 256 + (fl (l.getD (k + j) 0)).toNat := by
  unfold vOf
  have h' : j < (l.drop k).length := by simp; omega
  rw [List.take_succ_eq_append_getElem h', List.map_append, List.map_singleton, val_snoc]
  simp [List.getD, h]
theorem vOf_lt (fl : UInt8 → UInt8) (l : List UInt8) (k j : Nat) (h : k + j ≤ l.length) : vOf fl l k j < 256 ^ j := by
  have e := val_lt (((l.drop k).take j).map fl)
  simp only [List.length_map, List.length_take, List.length_drop] at e
  rw [show min j (l.length - k) = j by omega] at e
  exact e
theorem or_step (V d : Nat) (hV : V < 256 ^ 7) (hd : d < 2 ^ 8) : bits .or .u64 (IntKind.u64.wrap ((V : Int) * 256)) (d : Int) = ((V * 256 + d : Nat) : Int) := by
  rw [IntKind.wrap_u64, show (V : Int) * 256 % 18446744073709551616 = ((V * 256 : Nat) : Int) by omega, u64_or _ _ (by omega) (by omega) (by omega) (by omega)]
  simp only [Int.toNat_natCast]
  congr 1
  rw [show V * 256 = 2 ^ 8 * V by omega, Nat.two_pow_add_eq_or_of_lt hd]
theorem pow_8D (D : Nat) : (2 : Int) ^ (8 * (D : Int)).toNat = ((256 ^ D : Nat) : Int) := by
  rw [show (8 * (D : Int)).toNat = 8 * D by omega, show (256 : Nat) ^ D = 2 ^ (8 * D) by rw [Nat.pow_mul]]
  simp
theorem low_lt {V D : Nat} (hD : D ≤ 8) (hV : V < 256 ^ (8 - D)) : V * 256 ^ D + 256 ^ D ≤ 18446744073709551616 := by
  have h := Nat.mul_le_mul_right (256 ^ D) (show V + 1 ≤ 256 ^ (8 - D) from hV)
  rw [← Nat.pow_add, show 8 - D + D = 8 by omega, Nat.add_mul, Nat.one_mul] at h
  exact h
theorem shl_low (V D : Nat) (hD : D ≤ 8) (hV : V < 256 ^ (8 - D)) : IntKind.u64.wrap ((V : Int) * 2 ^ (8 * (D : Int)).toNat) = ((V * 256 ^ D : Nat) : Int) := by
  have h := low_lt hD hV
  have hp := Nat.pow_pos (n := D) (show 0 < 256 by omega)
  rw [pow_8D, IntKind.wrap_u64, ← Int.natCast_mul]
  omega
theorem or_high (V D : Nat) (hD : D ≤ 8) (hV : V < 256 ^ (8 - D)) :
    bits .or .u64 ((V * 256 ^ D : Nat) : Int) (IntKind.u64.wrap (IntKind.u64.wrap (2 ^ (8 * (D : Int)).toNat) - 1)) = ((V * 256 ^ D + (256 ^ D - 1) : Nat) : Int) := by
  have h := low_lt hD hV
  have hp := Nat.pow_pos (n := D) (show 0 < 256 by omega)
  have e : IntKind.u64.wrap (IntKind.u64.wrap (2 ^ (8 * (D : Int)).toNat) - 1) = ((256 ^ D - 1 : Nat) : Int) := by
    rw [pow_8D, IntKind.wrap_u64, IntKind.wrap_u64]
    generalize 256 ^ D = q at *
    generalize V * q = r at *
    omega
  rw [e, u64_or _ _ (by omega) (by omega) (by omega) (by omega)]
  simp only [Int.toNat_natCast]
  congr 1
  rw [show (256 : Nat) ^ D = 2 ^ (8 * D) by rw [Nat.pow_mul], Nat.mul_comm V, Nat.two_pow_add_eq_or_of_lt]
  exact Nat.sub_lt (Nat.pow_pos (by omega)) (by omega)
theorem Apart.begins {g : Nat} {v : Value} (w : World) (n : Nat) (o : Obj) : Apart w ((((w.drewN n).setCell ⟨g, 1, none⟩ v).alloc o).drew) g := by
  refine ⟨by simp [World.setCell], fun b hb hne => ?_⟩
  show ((((w.drewN n).setCell ⟨g, 1, none⟩ v).alloc o)).heap[b]? = _
  rw [Below.heap_alloc _ _ _ (by simpa [World.setCell] using hb), Below.heap_setCell _ _ _ _ (by simpa using hne)]
  rfl
set_option maxRecDepth 100000 in
set_option maxHeartbeats 2000000 in
theorem takeDigits_more (g k c count : Nat) (flip : Int) (fl : UInt8 → UInt8) (A : Option Addr) (l : List UInt8) (sp : Value) (ok : Nat → Nat → Bool) (w : World) (h : Rd w g k A c l) (hk : k < l.length) (hc : count ≤ 8)
    (hfl : ∀ x : UInt8, bits .xor .u8 (x.toNat : Int) flip = ((fl x).toNat : Int)) (hok : SpansOk w g sp ok) :
    Calls Try.prog 53 #[.pointer (some ⟨g, 0, none⟩), .int .i64 count, .int .u8 flip, sp] w fun e w' => e = .returned (.tuple #[.int .u64 ((digF count fl ok (l.drop k)).1 : Nat), .int .i64 ((digF count fl ok (l.drop k)).2 : Nat)]) ∧ Moved w g (k + thereN count (l.drop k)) w' := by
  have C := Lib.hid (Left_any g k c A l w h)
  have hL : (l.drop k).length = l.length - k := by simp
  obtain ⟨T, hT⟩ : ∃ T : Nat, T = thereN count (l.drop k) := ⟨_, rfl⟩
  have hT1 : T ≤ count := by rw [hT]; unfold thereN; omega
  have hT2 : k + T ≤ l.length := by rw [hT]; unfold thereN; omega
  have hmin : min (count : Int) ((l.length - k : Nat) : Int) = (T : Int) := by rw [hT]; unfold thereN; omega
  rw [← hT]
  have h0 := h.c0
  have h1 := h.c1
  have hf := h.f1
  have hb := h.2.1
  obtain ⟨b, off, rfl, hbl, hbn, hcell⟩ := h.2.2 (by omega)
  have HC := Lib.hid hcell
  have H := Lib.hid h
  have HF := Lib.hid hfl
  have HOK := Lib.hid hok
  have HT := Lib.hid hT
  have hcl : ((c : Int) == (k : Int)) = false := by simp; omega
  clear hcell h hfl hok hT hL
  go_enter Try.func53, Try.ntmps53
  go_wp2_with (go_at_call 18; ((with_reducible refine (C.out).mono ?_); rintro e w1 ⟨rfl, nd, rfl⟩))
  have hs : IntKind.i64.wrap ((k : Int) + (T : Int)) = (k : Int) + (T : Int) := IntWalk.i64_in _ (by omega)
  have i0 : (0 : Int) ≤ (k : Int) := by omega
  have i1 : (k : Int) ≤ (k : Int) + (T : Int) := by omega
  have i2 : (k : Int) + (T : Int) ≤ (c : Int) := by omega
  have i3 : ((k : Int) + (T : Int)).toNat = k + T := by omega
  have i4 : (0 : Int) ≤ (k : Int) + (T : Int) := by omega
  go_quiet (fail)
  clear hs i0 i1 i2 i3 i4 hmin hcl
  go_wp2
  go_loop [11, 36] (fun n i => ∃ j : Nat, j ≤ T ∧ i = .int .i64 j ∧ n = .int .u64 (vOf fl l k j)) (fun _ i => T - (intOf i).toNat)
  case atStart => exact ⟨0, Nat.zero_le _, rfl, rfl⟩
  case round =>
    obtain ⟨j, hj, rfl, rfl⟩ := hrel
    by_cases hlt : j < T
    · have hx := HC.out (k + j) (by omega)
      obtain ⟨y, hy⟩ : ∃ y : UInt8, y = l.getD (k + j) 0 := ⟨_, rfl⟩
      rw [← hy] at hx
      obtain ⟨x, hxx⟩ : ∃ x : Int, x = (y.toNat : Int) := ⟨_, rfl⟩
      have hfx := HF.out y
      rw [show bv y = .int .u8 x by rw [hxx]; rfl, show off + (k + j) = off + k + j by omega] at hx
      rw [← hxx] at hfx
      have h256 := (fl y).toNat_lt
      have HV := Lib.hid (vOf_succ fl l k j (by omega))
      rw [← hy] at HV
      have hv := vOf_lt fl l k j (by omega)
      generalize vOf fl l k j = V at *
      clear hy hxx
      go_wp2
      exact ⟨⟨_, _, _, ⟨j + 1, by omega, rfl, rfl⟩, by rw [HV.out, or_step V _ (Nat.lt_of_lt_of_le hv (Nat.pow_le_pow_right (by omega) (by omega))) h256], rfl, by go_num⟩, by simp [intOf]; omega⟩
    · obtain rfl : j = T := by omega
      have hv := vOf_lt fl l k j (by omega)
      have HVN := Lib.hid (show vOf fl l k j = nOf count fl (l.drop k) by unfold vOf nOf; rw [← HT.out])
      generalize vOf fl l k j = V at *
      have hsub : IntKind.i64.wrap ((count : Int) - (j : Int)) = ((count - j : Nat) : Int) := by rw [IntWalk.i64_in _ (by omega)]; omega
      go_wp2
      generalize hD : count - j = D at *
      have hD8 : D ≤ 8 := by omega
      obtain ⟨W, hW⟩ : ∃ W : World, W = (w.drewN (nd + nq)).setCell ⟨g, 1, none⟩ (.int .i64 ((k : Int) + (j : Int))) := ⟨_, rfl⟩
      rw [← hW]
      have HW := Lib.hid hW
      have HD := Lib.hid hD
      clear hW hD hsub
      have HE1 := Lib.hid (shl_low V D (by omega) (Nat.lt_of_lt_of_le hv (by rw [show 8 - D = j + (8 - count) by have := HD.out; omega]; exact Nat.pow_le_pow_right (by omega) (by omega))))
      have HE2 := Lib.hid (or_high V D (by omega) (Nat.lt_of_lt_of_le hv (by rw [show 8 - D = j + (8 - count) by have := HD.out; omega]; exact Nat.pow_le_pow_right (by omega) (by omega))))
      have HLO := Lib.hid (show V * 256 ^ D = lowOf count fl (l.drop k) by unfold lowOf; rw [← HVN.out, ← HT.out, HD.out])
      have HHI := Lib.hid (show V * 256 ^ D + (256 ^ D - 1) = highOf count fl (l.drop k) by unfold highOf; rw [← HLO.out, ← HT.out, HD.out])
      go_region_held3 (fun _ => True) (trivial) (fail)
      rw [HE1.out, HE2.out, HHI.out, HLO.out]
      have HAP := Lib.hid (Apart.begins (g := g) (v := .int .i64 ((k : Int) + (j : Int))) w (nd + nq) (.cells #[.int .u64 (lowOf count fl (l.drop k) : Nat), .int .u64 (highOf count fl (l.drop k) : Nat)] 89))
      rw [← HW.out] at HAP
      have HMV : Hid (Moved w g (k + j) ((W.alloc (.cells #[.int .u64 (lowOf count fl (l.drop k) : Nat), .int .u64 (highOf count fl (l.drop k) : Nat)] 89)).drew)) := by
        rw [HW.out]
        exact (((below_drewN' (Below.refl _ _) (nd + nq)).alloc (by simp [World.setCell]) _).drew)
      have HDG : Hid (digF count fl ok (l.drop k) = if ok (lowOf count fl (l.drop k)) (highOf count fl (l.drop k)) = false then (0, 5) else if j < count then (0, 4) else (V, 0)) := by
        unfold digF
        rw [← HVN.out]
        have : (l.drop k).length < count ↔ j < count := by have := HT.out; unfold thereN at this; omega
        by_cases q : j < count
        · rw [if_pos q, if_pos (this.2 q)]; exact rfl
        · rw [if_neg q, if_neg (fun x => q (this.1 x))]; exact rfl
      have CS := Lib.hid (HOK.out _ HAP.out (lowOf count fl (l.drop k)) (highOf count fl (l.drop k)))
      generalize lowOf count fl (l.drop k) = low at *
      generalize highOf count fl (l.drop k) = high at *
      clear HE1 HE2 HLO HHI hv
      cases hok : ok low high
      · rw [hok] at CS HDG
        clear hok
        go_wp2_with (go_at_call 64; ((refine (CS.out).mono ?_); rintro e w2 ⟨rfl, hb2⟩; have B2 := Lib.hid hb2; clear hb2))
        go_ret2
        exact ⟨by rw [HDG.out]; rfl, HMV.out.then B2.out⟩
      · rw [hok] at CS HDG
        clear hok
        by_cases hlt2 : j < count
        · have HDJ := Lib.hid (show (if j < count then ((0, 4) : Nat × Nat) else (V, 0)) = (0, 4) from if_pos hlt2)
          go_wp2_with (go_at_call 64; ((refine (CS.out).mono ?_); rintro e w2 ⟨rfl, hb2⟩; have B2 := Lib.hid hb2; clear hb2))
          go_ret2
          exact ⟨by rw [HDG.out, HDJ.out]; rfl, HMV.out.then B2.out⟩
        · have HDJ := Lib.hid (show (if j < count then ((0, 4) : Nat × Nat) else (V, 0)) = (V, 0) from if_neg hlt2)
          have t2 : decide (j < count) = false := by simp; omega
          go_wp2_with (go_at_call 64; ((refine (CS.out).mono ?_); rintro e w2 ⟨rfl, hb2⟩; have B2 := Lib.hid hb2; clear hb2))
          go_ret2
          exact ⟨by rw [HDG.out, HDJ.out]; rfl, HMV.out.then B2.out⟩
end Go.Proofs.Ytokgpifelinonaa
