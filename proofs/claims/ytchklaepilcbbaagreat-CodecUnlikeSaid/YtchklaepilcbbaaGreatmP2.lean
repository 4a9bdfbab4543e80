/- The steps of a source: a byte, a number, a whole number, a float, a string, a kind, a truth, a period. -/
import Derived.Test.YtchklaepilcbbaaGreatmP1
import Derived.Test.YtchklaepilcbbaaGreatH3
namespace Go.Proofs.YtchklaepilcbbaaGreat
open Go.RowKit
section
variable {w w' : World} {s g k c : Nat} {A : Option Addr} {l : List UInt8} {bad : Bool}
theorem Src.data (h : Src w s g A c l k bad) (b off : Nat) (e : A = some ⟨b, off, none⟩) (h0 : 0 < l.length) : b ≠ s := by
  rintro rfl
  obtain ⟨b', off', e', _, _, hc⟩ := h.rd.2.2 h0
  rw [e] at e'
  obtain ⟨rfl, rfl⟩ : b = b' ∧ off = off' := by injection e' with e'; injection e' with e1 e2; exact ⟨e1, e2⟩
  have h1 := hc 0 h0
  rw [cell_of_row w b (off + 0) _ _ _ h.box] at h1
  unfold bv at h1
  match off, h1 with
  | 0, h1 => simp at h1
  | 1, h1 => simp at h1
  | n + 2, h1 => simp at h1
theorem Src.setBad (h : Src w s g A c l k bad) (b : Bool) : Src (w.setCell ⟨s, 1, none⟩ (.bool b)) s g A c l k b := by
  refine ⟨?_, h.ne, h.rd.other h.ne (fun b off e h0 => h.data b off e h0)⟩
  simp [World.setCell, Array.getElem?_modify, h.box]
theorem Far.setBad (g : Nat) (v : Value) : Far s g w (w.setCell ⟨s, 1, none⟩ v) :=
  ⟨rfl, rfl, rfl, by simp [World.setCell], fun b _ h1 _ => block_setCell _ _ _ _ h1⟩
end
theorem numM_le (most : Nat) (L : List UInt8) : numM most L ≤ L.length := by
  unfold numM; split
  · exact numC_le L
  · exact Nat.zero_le _
theorem intM_le (L : List UInt8) : intM L ≤ L.length := by
  unfold intM; split
  · exact intC_le L
  · exact Nat.zero_le _
theorem floatM_le (L : List UInt8) : floatM L ≤ L.length := by
  unfold floatM; split
  · exact floatC_le L
  · exact Nat.zero_le _
theorem textM_le (m : Nat) (L : List UInt8) : textM m L ≤ L.length := by
  unfold textM; split
  · exact scanT_le m _ [] L (Nat.le_refl _)
  · exact Nat.zero_le _
section
set_option maxRecDepth 100000
set_option maxHeartbeats 1000000
theorem note_any (s g c k : Nat) (A : Option Addr) (l : List UInt8) (bad : Bool) (E : Nat) (w : World) (h : Src w s g A c l k bad) :
    Calls Tryz.prog 90 #[.pointer (some ⟨s, 0, none⟩), .int .i64 (E : Int)] w fun e w' => e = .returned (.tuple #[]) ∧ Src w' s g A c l k (badE bad E) ∧ Far s g w w' := by
  have H := Lib.hid h
  have h1 := h.c1
  have hf := h.f1
  clear h
  by_cases h0 : E = 0
  · subst h0
    go_enter Tryz.func90, Tryz.ntmps90
    go_wp2
    go_end0
    exact ⟨rfl, by simpa [badE] using H.out, Far.refl _ _ _⟩
  · have t1 : ((E : Int) != 0) = true := by simp; omega
    have HE := Lib.hid (show badE bad E = true by unfold badE; simp [h0])
    rw [HE.out]
    clear h0
    go_enter Tryz.func90, Tryz.ntmps90
    go_wp2
    go_end0
    exact ⟨rfl, H.out.setBad true, Far.setBad _ _⟩
theorem src_byte (s g c k : Nat) (A : Option Addr) (l : List UInt8) (bad : Bool) (w : World) (h : Src w s g A c l k bad) :
    Calls Tryz.prog 128 #[.pointer (some ⟨s, 0, none⟩)] w fun e w' => e = .returned (.int .u8 ((byteV (l.drop k)).toNat : Int)) ∧ Src w' s g A c l (k + byteM (l.drop k)) (badE bad (byteE (l.drop k))) ∧ Far s g w w' := by
  have C := Lib.hid (RByte_any g k c A l w h.rd)
  have HL := Lib.hid (show k + byteM (l.drop k) ≤ l.length by have := byteM_le (l.drop k); have := h.rd.2.1.1; simp only [List.length_drop] at *; omega)
  have H := Lib.hid h
  have h0 := h.c0
  generalize hq : byteM (l.drop k) = mq at *
  generalize he : byteE (l.drop k) = E at *
  clear h hq he
  go_enter Tryz.func128, Tryz.ntmps128
  go_wp2_with (first
    | (go_at_call 149; (refine (C.out).mono ?_); rintro e w1 ⟨rfl, hm⟩; have S1 := Lib.hid (H.out.moved hm HL.out); have F1 := Lib.hid (Far.moved (s := s) hm); clear hm)
    | (go_at_call 90; (refine (note_any s g c _ A l bad E _ S1.out).mono ?_); rintro e w2 ⟨rfl, h2, h3⟩; have S2 := Lib.hid h2; have F2 := Lib.hid h3; clear h2 h3))
  go_ret
  exact ⟨rfl, S2.out, F1.out.trans F2.out⟩
theorem src_num (s g c k : Nat) (most : Nat) (A : Option Addr) (l : List UInt8) (bad : Bool) (w : World) (h : Src w s g A c l k bad) :
    Calls Tryz.prog 94 #[.pointer (some ⟨s, 0, none⟩), .int .u64 most] w fun e w' => e = .returned (.int .u64 (numV most (l.drop k) : Nat)) ∧ Src w' s g A c l (k + numM most (l.drop k)) (badE bad (numE most (l.drop k))) ∧ Far s g w w' := by
  have C := Lib.hid (RNum_any g k c most A l w h.rd)
  have HL := Lib.hid (show k + numM most (l.drop k) ≤ l.length by have := numM_le most (l.drop k); have := h.rd.2.1.1; simp only [List.length_drop] at *; omega)
  have H := Lib.hid h
  have h0 := h.c0
  generalize hq : numM most (l.drop k) = mq at *
  generalize he : numE most (l.drop k) = E at *
  clear h hq he
  go_enter Tryz.func94, Tryz.ntmps94
  go_wp2_with (first
    | (go_at_call 129; (refine (C.out).mono ?_); rintro e w1 ⟨rfl, hm⟩; have S1 := Lib.hid (H.out.moved hm HL.out); have F1 := Lib.hid (Far.moved (s := s) hm); clear hm)
    | (go_at_call 90; (refine (note_any s g c _ A l bad E _ S1.out).mono ?_); rintro e w2 ⟨rfl, h2, h3⟩; have S2 := Lib.hid h2; have F2 := Lib.hid h3; clear h2 h3))
  go_ret
  exact ⟨rfl, S2.out, F1.out.trans F2.out⟩
theorem src_int (s g c k : Nat) (A : Option Addr) (l : List UInt8) (bad : Bool) (w : World) (h : Src w s g A c l k bad) :
    Calls Tryz.prog 99 #[.pointer (some ⟨s, 0, none⟩)] w fun e w' => e = .returned (.int .i64 (intV (l.drop k))) ∧ Src w' s g A c l (k + intM (l.drop k)) (badE bad (intE (l.drop k))) ∧ Far s g w w' := by
  have C := Lib.hid (RInt_any g k c A l w h.rd)
  have HL := Lib.hid (show k + intM (l.drop k) ≤ l.length by have := intM_le (l.drop k); have := h.rd.2.1.1; simp only [List.length_drop] at *; omega)
  have H := Lib.hid h
  have h0 := h.c0
  generalize hq : intM (l.drop k) = mq at *
  generalize he : intE (l.drop k) = E at *
  clear h hq he
  go_enter Tryz.func99, Tryz.ntmps99
  go_wp2_with (first
    | (go_at_call 130; (refine (C.out).mono ?_); rintro e w1 ⟨rfl, hm⟩; have S1 := Lib.hid (H.out.moved hm HL.out); have F1 := Lib.hid (Far.moved (s := s) hm); clear hm)
    | (go_at_call 90; (refine (note_any s g c _ A l bad E _ S1.out).mono ?_); rintro e w2 ⟨rfl, h2, h3⟩; have S2 := Lib.hid h2; have F2 := Lib.hid h3; clear h2 h3))
  go_ret
  exact ⟨rfl, S2.out, F1.out.trans F2.out⟩
theorem src_float (s g c k : Nat) (A : Option Addr) (l : List UInt8) (bad : Bool) (w : World) (h : Src w s g A c l k bad) :
    Calls Tryz.prog 101 #[.pointer (some ⟨s, 0, none⟩)] w fun e w' => e = .returned (.float .f64 (floatV (l.drop k))) ∧ Src w' s g A c l (k + floatM (l.drop k)) (badE bad (floatE (l.drop k))) ∧ Far s g w w' := by
  have C := Lib.hid (RFloat_any g k c A l w h.rd)
  have HL := Lib.hid (show k + floatM (l.drop k) ≤ l.length by have := floatM_le (l.drop k); have := h.rd.2.1.1; simp only [List.length_drop] at *; omega)
  have H := Lib.hid h
  have h0 := h.c0
  generalize hq : floatM (l.drop k) = mq at *
  generalize he : floatE (l.drop k) = E at *
  clear h hq he
  go_enter Tryz.func101, Tryz.ntmps101
  go_wp2_with (first
    | (go_at_call 131; (refine (C.out).mono ?_); rintro e w1 ⟨rfl, hm⟩; have S1 := Lib.hid (H.out.moved hm HL.out); have F1 := Lib.hid (Far.moved (s := s) hm); clear hm)
    | (go_at_call 90; (refine (note_any s g c _ A l bad E _ S1.out).mono ?_); rintro e w2 ⟨rfl, h2, h3⟩; have S2 := Lib.hid h2; have F2 := Lib.hid h3; clear h2 h3))
  go_ret
  exact ⟨rfl, S2.out, F1.out.trans F2.out⟩
theorem src_text (s g c k : Nat) (m : Nat) (A : Option Addr) (l : List UInt8) (bad : Bool) (w : World) (h : Src w s g A c l k bad) (hm : m ≤ 9223372036854775807) :
    Calls Tryz.prog 103 #[.pointer (some ⟨s, 0, none⟩), .int .i64 m] w fun e w' => e = .returned (.string ⟨(textV m (l.drop k)).toArray⟩) ∧ Src w' s g A c l (k + textM m (l.drop k)) (badE bad (textE m (l.drop k))) ∧ Far s g w w' := by
  have C := Lib.hid (RText_any g k c m A l w h.rd hm)
  have HL := Lib.hid (show k + textM m (l.drop k) ≤ l.length by have := textM_le m (l.drop k); have := h.rd.2.1.1; simp only [List.length_drop] at *; omega)
  have H := Lib.hid h
  have h0 := h.c0
  clear hm
  generalize hq : textM m (l.drop k) = mq at *
  generalize he : textE m (l.drop k) = E at *
  clear h hq he
  go_enter Tryz.func103, Tryz.ntmps103
  go_wp2_with (first
    | (go_at_call 132; (refine (C.out).mono ?_); rintro e w1 ⟨rfl, hm⟩; have S1 := Lib.hid (H.out.moved hm HL.out); have F1 := Lib.hid (Far.moved (s := s) hm); clear hm)
    | (go_at_call 90; (refine (note_any s g c _ A l bad E _ S1.out).mono ?_); rintro e w2 ⟨rfl, h2, h3⟩; have S2 := Lib.hid h2; have F2 := Lib.hid h3; clear h2 h3))
  go_ret
  exact ⟨rfl, S2.out, F1.out.trans F2.out⟩
/-- What a step that reads tells and leaves. -/
def Tells {α : Type} (enc : α → List UInt8) (P : α → Prop) (s g : Nat) (A : Option Addr) (c : Nat) (l : List UInt8) (k : Nat) (bad : Bool) (x : α) (w w' : World) : Prop :=
  ∃ k' bad', Src w' s g A c l k' bad' ∧ Far s g w w' ∧ Reads enc P bad (l.drop k) x bad' (l.drop k')
theorem Tells.num (s g c k most : Nat) (hm : most < 2 ^ 64) (A : Option Addr) (l : List UInt8) (bad : Bool) (w : World) (h : Src w s g A c l k bad) :
    Calls Tryz.prog 94 #[.pointer (some ⟨s, 0, none⟩), .int .u64 (most : Int)] w fun e w' => ∃ n : Nat, e = .returned (.int .u64 (n : Int)) ∧ n ≤ most ∧ Tells encNum (fun n => n ≤ most) s g A c l k bad n w w' :=
  (src_num s g c k most A l bad w h).mono fun _ _ ⟨e, h1, h2⟩ => ⟨_, e, numV_le _ _, _, _, h1, h2, by rw [← List.drop_drop]; exact reads_num most hm bad (l.drop k)⟩
theorem Tells.int (s g c k : Nat) (A : Option Addr) (l : List UInt8) (bad : Bool) (w : World) (h : Src w s g A c l k bad) :
    Calls Tryz.prog 99 #[.pointer (some ⟨s, 0, none⟩)] w fun e w' => ∃ n : Int, e = .returned (.int .i64 n) ∧ fits n ∧ Tells encInt fits s g A c l k bad n w w' :=
  (src_int s g c k A l bad w h).mono fun _ _ ⟨e, h1, h2⟩ => ⟨_, e, intV_fits _, _, _, h1, h2, by rw [← List.drop_drop]; exact reads_int bad (l.drop k)⟩
theorem Tells.float (s g c k : Nat) (A : Option Addr) (l : List UInt8) (bad : Bool) (w : World) (h : Src w s g A c l k bad) :
    Calls Tryz.prog 101 #[.pointer (some ⟨s, 0, none⟩)] w fun e w' => ∃ f : Nat, e = .returned (.float .f64 f) ∧ f < 18446744073709551616 ∧ Tells encFloat (fun f => f < 18446744073709551616 ∧ canonF f = f) s g A c l k bad f w w' :=
  (src_float s g c k A l bad w h).mono fun _ _ ⟨e, h1, h2⟩ => ⟨_, e, floatV_lt _, _, _, h1, h2, by rw [← List.drop_drop]; exact reads_float bad (l.drop k)⟩
theorem Tells.text (s g c k m : Nat) (hm : m ≤ 9223372036854775807) (A : Option Addr) (l : List UInt8) (bad : Bool) (w : World) (h : Src w s g A c l k bad) :
    Calls Tryz.prog 103 #[.pointer (some ⟨s, 0, none⟩), .int .i64 (m : Int)] w fun e w' => ∃ t : ByteArray, e = .returned (.string t) ∧ t.size ≤ m ∧ Tells encStr (fun t => t.size ≤ m) s g A c l k bad t w w' :=
  (src_text s g c k m A l bad w h hm).mono fun _ _ ⟨e, h1, h2⟩ => ⟨_, e, (by have := textV_le m (l.drop k); show (textV m (l.drop k)).toArray.size ≤ m; simpa using this), _, _, h1, h2, by rw [← List.drop_drop]; exact reads_text m bad (l.drop k)⟩
theorem Tells.kind (s g c k least most : Nat) (hl : least ≤ most) (hm : most ≤ 255) (A : Option Addr) (l : List UInt8) (bad : Bool) (w : World) (h : Src w s g A c l k bad) :
    Calls Tryz.prog 92 #[.pointer (some ⟨s, 0, none⟩), .int .i64 (least : Int), .int .i64 (most : Int)] w fun e w' => ∃ n : Int, e = .returned (.int .i64 n) ∧ ((least : Int) ≤ n ∧ n ≤ most) ∧ Tells (fun n => [kind8 n]) (fun n => (least : Int) ≤ n ∧ n ≤ most) s g A c l k bad n w w' := by
  have HR := Lib.hid (reads_kind least most hm bad (l.drop k))
  rw [List.drop_drop] at HR
  have HV := Lib.hid (kindV_range least most hl (l.drop k))
  have C := Lib.hid (src_byte s g c k A l bad w h)
  unfold kindV kindBad at HR
  unfold kindV at HV
  obtain ⟨x, hx⟩ : ∃ x : Nat, x = (byteV (l.drop k)).toNat := ⟨_, rfl⟩
  rw [← hx] at HR HV C
  have hx2 : (x : Int) ≤ 255 := by have := (byteV (l.drop k)).toNat_lt; omega
  generalize k + byteM (l.drop k) = k' at *
  generalize badE bad (byteE (l.drop k)) = b1 at *
  clear h hx
  by_cases h1 : x < least
  · have t1 : decide (x < least) = true := by simp; omega
    rw [if_pos (.inl h1)] at HV HR
    rw [show (b1 || decide (x < least ∨ most < x)) = true by simp [h1]] at HR
    clear h1
    go_enter Tryz.func92, Tryz.ntmps92
    go_upto_region 3 with (go_at_call 128; (refine (C.out).mono ?_); rintro e w1 ⟨rfl, h2, h3⟩; have S1 := Lib.hid h2; have F1 := Lib.hid h3; have q1 := h2.f1; have q2 := h2.c1; clear h2 h3)
    go_wp2
    go_ret
    exact ⟨_, rfl, HV.out, _, _, S1.out.setBad true, F1.out.trans (Far.setBad _ _), HR.out⟩
  · have t1 : decide (x < least) = false := by simp; omega
    by_cases h2 : most < x
    · have t2 : decide (most < x) = true := by simp; omega
      rw [if_pos (.inr h2)] at HV HR
      rw [show (b1 || decide (x < least ∨ most < x)) = true by simp [h2]] at HR
      clear h1 h2
      go_enter Tryz.func92, Tryz.ntmps92
      go_upto_region 3 with (go_at_call 128; (refine (C.out).mono ?_); rintro e w1 ⟨rfl, h2, h3⟩; have S1 := Lib.hid h2; have F1 := Lib.hid h3; have q1 := h2.f1; have q2 := h2.c1; clear h2 h3)
      go_wp2
      go_ret
      exact ⟨_, rfl, HV.out, _, _, S1.out.setBad true, F1.out.trans (Far.setBad _ _), HR.out⟩
    · have t2 : decide (most < x) = false := by simp; omega
      have h3 : ¬ (x < least ∨ most < x) := by omega
      rw [if_neg h3] at HV HR
      rw [show (b1 || decide (x < least ∨ most < x)) = b1 by simp [h3]] at HR
      clear h1 h2 h3
      go_enter Tryz.func92, Tryz.ntmps92
      go_wp2_with (go_at_call 128; (refine (C.out).mono ?_); rintro e w1 ⟨rfl, h2, h3⟩; have S1 := Lib.hid h2; have F1 := Lib.hid h3; clear h2 h3)
      go_ret
      exact ⟨_, rfl, HV.out, _, _, S1.out, F1.out, HR.out⟩
theorem Tells.flag (s g c k : Nat) (A : Option Addr) (l : List UInt8) (bad : Bool) (w : World) (h : Src w s g A c l k bad) :
    Calls Tryz.prog 97 #[.pointer (some ⟨s, 0, none⟩)] w fun e w' => ∃ b : Bool, e = .returned (.bool b) ∧ Tells (fun b => [bit8 b]) (fun _ => True) s g A c l k bad b w w' := by
  have C := Lib.hid (Tells.kind s g c k 0 1 (by omega) (by omega) A l bad w h)
  clear h
  go_enter Tryz.func97, Tryz.ntmps97
  go_wp2_with (go_at_call 92; (refine (C.out).mono ?_); rintro e w1 ⟨n, rfl, hn, k', b', h1, h2, h3⟩; have HR := Lib.hid (reads_flag h3 hn); have S1 := Lib.hid h1; have F1 := Lib.hid h2; clear h1 h2 h3 hn)
  go_ret
  exact ⟨_, rfl, _, _, S1.out, F1.out, HR.out⟩
end
end Go.Proofs.YtchklaepilcbbaaGreat
