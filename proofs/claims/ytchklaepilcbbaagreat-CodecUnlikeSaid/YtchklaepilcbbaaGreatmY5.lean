/- The form of a value; PutValue. -/
import Derived.Test.YtchklaepilcbbaaGreatmY4
namespace Go.Proofs.YtchklaepilcbbaaGreat
open Go.RowKit
theorem St.eq {w0 w : World} {v : Value} {l m : List UInt8} (h : St w0 w v l) (e : l = m) : St w0 w v m := e ▸ h
set_option maxRecDepth 100000 in
set_option maxHeartbeats 1000000 in
theorem valueBytes_0 (b : Bool) (n : Int) (f : Nat) (s : ByteArray) (w : World) :
    Calls Tryz.prog 38 #[.agg #[.int .i64 0, .bool b, .int .i64 n, .float .f64 f, .string s]] w fun e w' => ∃ u, e = .returned u ∧ St w w' u (0 :: []) := by
  have C0 := Lib.hid (fun W => ByteS (w0 := W) 0 0 rfl (Below.refl _ W) (GS.nil W) (by simp))
  go_enter Tryz.func38, Tryz.ntmps38
  have X0 := Lib.hid (Bx.new w #[.int .i64 0, .bool b, .int .i64 n, .float .f64 f, .string s] 24)
  have HB0 := Lib.hid ((Below.refl w.heap.size w).alloc (Nat.le_refl _) (.cells #[.int .i64 0, .bool b, .int .i64 n, .float .f64 f, .string s] 24))
  go_wp2_with (first
    | (go_at_call 81; (with_reducible refine (C0.out _).mono ?_); rintro e w1 ⟨v1, rfl, h1⟩; have S1 := Lib.hid h1; have q1 := (X0.out.below h1.bel).c; clear h1))
  go_ret
  exact ⟨_, rfl, St.of HB0.out (S1.out.eq (by simp))⟩
set_option maxRecDepth 100000 in
set_option maxHeartbeats 1000000 in
theorem valueBytes_1 (b : Bool) (n : Int) (f : Nat) (s : ByteArray) (w : World) :
    Calls Tryz.prog 38 #[.agg #[.int .i64 1, .bool b, .int .i64 n, .float .f64 f, .string s]] w fun e w' => ∃ u, e = .returned u ∧ St w w' u (1 :: [bit8 b]) := by
  have CF := Lib.hid (fun W => flag_any b W)
  have C0 := Lib.hid (fun W => ByteS (w0 := W) 1 1 rfl (Below.refl _ W) (GS.nil W) (by simp))
  go_enter Tryz.func38, Tryz.ntmps38
  have X0 := Lib.hid (Bx.new w #[.int .i64 1, .bool b, .int .i64 n, .float .f64 f, .string s] 24)
  have HB0 := Lib.hid ((Below.refl w.heap.size w).alloc (Nat.le_refl _) (.cells #[.int .i64 1, .bool b, .int .i64 n, .float .f64 f, .string s] 24))
  go_wp2_with (first
    | (go_at_call 81; (with_reducible refine (C0.out _).mono ?_); rintro e w1 ⟨v1, rfl, h1⟩; have S1 := Lib.hid h1; have q1 := (X0.out.below h1.bel).c; clear h1)
    | (go_at_call 82; (with_reducible refine (CF.out _).mono ?_); rintro e w' ⟨rfl, rfl⟩)
    | (go_at_call 81; (refine (ByteS (bit8 b) _ rfl S1.out.bel S1.out.gs (by simp)).mono ?_); rintro e w2 ⟨v2, rfl, h2⟩; have S2 := Lib.hid h2; clear h2))
  go_ret
  exact ⟨_, rfl, St.of HB0.out (S2.out.eq (by simp))⟩
set_option maxRecDepth 100000 in
set_option maxHeartbeats 1000000 in
theorem valueBytes_2 (b : Bool) (n : Int) (f : Nat) (s : ByteArray) (w : World) (hn : fits n) :
    Calls Tryz.prog 38 #[.agg #[.int .i64 2, .bool b, .int .i64 n, .float .f64 f, .string s]] w fun e w' => ∃ u, e = .returned u ∧ St w w' u (2 :: encInt n) := by
  have HN := Lib.hid hn
  clear hn
  have C0 := Lib.hid (fun W => ByteS (w0 := W) 2 2 rfl (Below.refl _ W) (GS.nil W) (by simp))
  go_enter Tryz.func38, Tryz.ntmps38
  have X0 := Lib.hid (Bx.new w #[.int .i64 2, .bool b, .int .i64 n, .float .f64 f, .string s] 24)
  have HB0 := Lib.hid ((Below.refl w.heap.size w).alloc (Nat.le_refl _) (.cells #[.int .i64 2, .bool b, .int .i64 n, .float .f64 f, .string s] 24))
  go_wp2_with (first
    | (go_at_call 81; (with_reducible refine (C0.out _).mono ?_); rintro e w1 ⟨v1, rfl, h1⟩; have S1 := Lib.hid h1; have q1 := (X0.out.below h1.bel).c; clear h1)
    | (go_at_call 83; (refine (IntS n S1.out.bel HN.out S1.out.gs (by simp)).mono ?_); rintro e w2 ⟨v2, rfl, h2⟩; have S2 := Lib.hid h2; clear h2))
  go_ret
  exact ⟨_, rfl, St.of HB0.out (S2.out.eq (by simp))⟩
set_option maxRecDepth 100000 in
set_option maxHeartbeats 1000000 in
theorem valueBytes_3 (b : Bool) (n : Int) (f : Nat) (s : ByteArray) (w : World) (hf : f < 18446744073709551616) (hc : canonF f = f) :
    Calls Tryz.prog 38 #[.agg #[.int .i64 3, .bool b, .int .i64 n, .float .f64 f, .string s]] w fun e w' => ∃ u, e = .returned u ∧ St w w' u (3 :: encFloat f) := by
  have HN := Lib.hid (And.intro hf hc)
  clear hf hc
  have C0 := Lib.hid (fun W => ByteS (w0 := W) 3 3 rfl (Below.refl _ W) (GS.nil W) (by simp))
  go_enter Tryz.func38, Tryz.ntmps38
  have X0 := Lib.hid (Bx.new w #[.int .i64 3, .bool b, .int .i64 n, .float .f64 f, .string s] 24)
  have HB0 := Lib.hid ((Below.refl w.heap.size w).alloc (Nat.le_refl _) (.cells #[.int .i64 3, .bool b, .int .i64 n, .float .f64 f, .string s] 24))
  go_wp2_with (first
    | (go_at_call 81; (with_reducible refine (C0.out _).mono ?_); rintro e w1 ⟨v1, rfl, h1⟩; have S1 := Lib.hid h1; have q1 := (X0.out.below h1.bel).c; clear h1)
    | (go_at_call 84; (refine (FloatS f S1.out.bel HN.out.1 HN.out.2 S1.out.gs (by simp)).mono ?_); rintro e w2 ⟨v2, rfl, h2⟩; have S2 := Lib.hid h2; clear h2))
  go_ret
  exact ⟨_, rfl, St.of HB0.out (S2.out.eq (by simp))⟩
set_option maxRecDepth 100000 in
set_option maxHeartbeats 1000000 in
theorem valueBytes_4 (b : Bool) (n : Int) (f : Nat) (s : ByteArray) (w : World) (hs : s.size ≤ 32) :
    Calls Tryz.prog 38 #[.agg #[.int .i64 4, .bool b, .int .i64 n, .float .f64 f, .string s]] w fun e w' => ∃ u, e = .returned u ∧ St w w' u (4 :: encStr s) := by
  have HN := Lib.hid (show s.size ≤ 40 by omega)
  clear hs
  have C0 := Lib.hid (fun W => ByteS (w0 := W) 4 4 rfl (Below.refl _ W) (GS.nil W) (by simp))
  go_enter Tryz.func38, Tryz.ntmps38
  have X0 := Lib.hid (Bx.new w #[.int .i64 4, .bool b, .int .i64 n, .float .f64 f, .string s] 24)
  have HB0 := Lib.hid ((Below.refl w.heap.size w).alloc (Nat.le_refl _) (.cells #[.int .i64 4, .bool b, .int .i64 n, .float .f64 f, .string s] 24))
  go_wp2_with (first
    | (go_at_call 81; (with_reducible refine (C0.out _).mono ?_); rintro e w1 ⟨v1, rfl, h1⟩; have S1 := Lib.hid h1; have q1 := (X0.out.below h1.bel).c; clear h1)
    | (go_at_call 85; (refine (TextS s S1.out.bel S1.out.gs HN.out (by simp)).mono ?_); rintro e w2 ⟨v2, rfl, h2⟩; have S2 := Lib.hid h2; clear h2))
  go_ret
  exact ⟨_, rfl, St.of HB0.out (S2.out.eq (by simp))⟩
set_option maxRecDepth 100000 in
set_option maxHeartbeats 1000000 in
theorem valueBytes_5 (b : Bool) (n : Nat) (f : Nat) (s : ByteArray) (w : World) (hn : n ≤ 1099511627776) :
    Calls Tryz.prog 38 #[.agg #[.int .i64 5, .bool b, .int .i64 (n : Int), .float .f64 f, .string s]] w fun e w' => ∃ u, e = .returned u ∧ St w w' u (5 :: encNum n) := by
  have hw : IntKind.u64.wrap (n : Int) = (n : Int) := by rw [IntKind.wrap_u64]; omega
  have HN := Lib.hid (show n < 2 ^ 64 by omega)
  clear hn
  have C0 := Lib.hid (fun W => ByteS (w0 := W) 5 5 rfl (Below.refl _ W) (GS.nil W) (by simp))
  go_enter Tryz.func38, Tryz.ntmps38
  have X0 := Lib.hid (Bx.new w #[.int .i64 5, .bool b, .int .i64 (n : Int), .float .f64 f, .string s] 24)
  have HB0 := Lib.hid ((Below.refl w.heap.size w).alloc (Nat.le_refl _) (.cells #[.int .i64 5, .bool b, .int .i64 (n : Int), .float .f64 f, .string s] 24))
  go_wp2_with (first
    | (go_at_call 81; (with_reducible refine (C0.out _).mono ?_); rintro e w1 ⟨v1, rfl, h1⟩; have S1 := Lib.hid h1; have q1 := (X0.out.below h1.bel).c; clear h1)
    | (go_at_call 86; (refine (NumS n S1.out.bel HN.out S1.out.gs (by simp)).mono ?_); rintro e w2 ⟨v2, rfl, h2⟩; have S2 := Lib.hid h2; clear h2))
  go_ret
  exact ⟨_, rfl, St.of HB0.out (S2.out.eq (by simp))⟩
set_option maxRecDepth 100000 in
set_option maxHeartbeats 1000000 in
theorem valueBytes_6 (b : Bool) (n : Nat) (f : Nat) (s : ByteArray) (w : World) (hn : n ≤ 1099511627776) :
    Calls Tryz.prog 38 #[.agg #[.int .i64 6, .bool b, .int .i64 (n : Int), .float .f64 f, .string s]] w fun e w' => ∃ u, e = .returned u ∧ St w w' u (6 :: encNum n) := by
  have hw : IntKind.u64.wrap (n : Int) = (n : Int) := by rw [IntKind.wrap_u64]; omega
  have HN := Lib.hid (show n < 2 ^ 64 by omega)
  clear hn
  have C0 := Lib.hid (fun W => ByteS (w0 := W) 6 6 rfl (Below.refl _ W) (GS.nil W) (by simp))
  go_enter Tryz.func38, Tryz.ntmps38
  have X0 := Lib.hid (Bx.new w #[.int .i64 6, .bool b, .int .i64 (n : Int), .float .f64 f, .string s] 24)
  have HB0 := Lib.hid ((Below.refl w.heap.size w).alloc (Nat.le_refl _) (.cells #[.int .i64 6, .bool b, .int .i64 (n : Int), .float .f64 f, .string s] 24))
  go_wp2_with (first
    | (go_at_call 81; (with_reducible refine (C0.out _).mono ?_); rintro e w1 ⟨v1, rfl, h1⟩; have S1 := Lib.hid h1; have q1 := (X0.out.below h1.bel).c; clear h1)
    | (go_at_call 86; (refine (NumS n S1.out.bel HN.out S1.out.gs (by simp)).mono ?_); rintro e w2 ⟨v2, rfl, h2⟩; have S2 := Lib.hid h2; clear h2))
  go_ret
  exact ⟨_, rfl, St.of HB0.out (S2.out.eq (by simp))⟩
theorem valueBytes_any (v : VP) (h : v.may) (hw : v.wide) (w : World) :
    Calls Tryz.prog 38 #[v.val] w fun e w' => ∃ u, e = .returned u ∧ St w w' u v.enc := by
  obtain ⟨k, b, n, f, s⟩ := v
  have hk := vp_kind h
  unfold VP.may MayV at h
  unfold VP.wide at hw
  simp only at h hw hk
  have hc : k = 0 ∨ k = 1 ∨ k = 2 ∨ k = 3 ∨ k = 4 ∨ k = 5 ∨ k = 6 := by omega
  rcases hc with rfl | rfl | rfl | rfl | rfl | rfl | rfl
  · exact valueBytes_0 b n f s w
  · exact valueBytes_1 b n f s w
  · exact valueBytes_2 b n f s w hw.2.1
  · exact valueBytes_3 b n f s w hw.2.2.1 (by simp at h; exact h.2.2.2)
  · exact valueBytes_4 b n f s w (by simp at h; exact h.2.2.2)
  · simp at h
    obtain ⟨m, rfl⟩ := Int.eq_ofNat_of_zero_le (show 0 ≤ n by omega)
    exact (valueBytes_5 b m f s w (by omega)).mono fun _ _ ⟨u, e, hs⟩ => ⟨u, e, hs.eq (by simp [VP.enc, VP.body, kind8])⟩
  · simp at h
    obtain ⟨m, rfl⟩ := Int.eq_ofNat_of_zero_le (show 0 ≤ n by omega)
    exact (valueBytes_6 b m f s w (by omega)).mono fun _ _ ⟨u, e, hs⟩ => ⟨u, e, hs.eq (by simp [VP.enc, VP.body, kind8])⟩
end Go.Proofs.YtchklaepilcbbaaGreat
