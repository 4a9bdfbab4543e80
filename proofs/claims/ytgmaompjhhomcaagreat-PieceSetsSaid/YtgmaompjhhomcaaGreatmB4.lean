/- A value in new memory; whether one piece may follow another. -/
import Derived.Test.YtgmaompjhhomcaaGreatmB3
namespace Go.Proofs.YtgmaompjhhomcaaGreat
open Go.RowKit
section
set_option maxRecDepth 100000
set_option maxHeartbeats 2000000
theorem slClone_any (s : ByteArray) (w : World) (h1 : s.size ≤ 1000) :
    Calls Tryz.prog 139 #[.string s] w fun e w' => e = .returned (.string s) ∧ Below w.heap.size w w' := by
  by_cases h0 : 0 < s.size
  · exact strClone_any s w h0 h1
  · obtain rfl : s = ByteArray.empty := by
      obtain ⟨d⟩ := s
      have : d = #[] := Array.eq_empty_of_size_eq_zero (by simpa [ByteArray.size] using h0)
      subst this; rfl
    clear h0 h1
    go_enter Tryz.func139, Tryz.ntmps139
    go_wp2
    go_ret
    exact ⟨rfl, Below.refl _ _⟩
theorem strsClone_any (s : ByteArray) (w : World) (h1 : s.size ≤ 1000) :
    Calls Tryz.prog 94 #[.string s] w fun e w' => e = .returned (.string s) ∧ Below w.heap.size w w' := by
  have C := Lib.hid (fun W => slClone_any s W h1)
  clear h1
  go_enter Tryz.func94, Tryz.ntmps94
  go_wp2_with (go_at_call 139; (with_reducible refine (C.out _).mono ?_); rintro e w1 ⟨rfl, hb⟩)
  go_ret
  exact ⟨rfl, hb⟩
theorem clone_any (v : VP) (hs : v.s.size ≤ 1000) (w : World) :
    Calls Tryz.prog 64 #[v.val] w fun e w' => e = .returned v.val ∧ Below w.heap.size w w' := by
  have C := Lib.hid (fun W => strsClone_any v.s W hs)
  obtain ⟨k, b, n, f, s⟩ := v
  simp only at C
  clear hs
  have hsf := store_float
  go_enter Tryz.func64, Tryz.ntmps64
  go_upto_region 1 with fail
  have X0 := Lib.hid ((Bx.new w #[.int .i64 k, .bool b, .int .i64 n, .float .f64 f, .string s] 28).below ((Below.refl _ _).alloc (Nat.le_refl _) (.cells #[.int .i64 0, .bool false, .int .i64 0, .float .f64 0, .string ⟨#[]⟩] 28)))
  have Y0 := Lib.hid (Bx.new (w.alloc (.cells #[.int .i64 k, .bool b, .int .i64 n, .float .f64 f, .string s] 28)) #[.int .i64 0, .bool false, .int .i64 0, .float .f64 0, .string ⟨#[]⟩] 28)
  have B0 := Lib.hid (((Below.refl w.heap.size w).alloc (Nat.le_refl _) (.cells #[.int .i64 k, .bool b, .int .i64 n, .float .f64 f, .string s] 28)).alloc (by simp) (.cells #[.int .i64 0, .bool false, .int .i64 0, .float .f64 0, .string ⟨#[]⟩] 28))
  go_wp2_with (go_at_call 94; (with_reducible refine (C.out _).mono ?_); rintro e w1 ⟨rfl, hb⟩; have x0 := (X0.out.below hb).c; have x1 := (X0.out.below hb).fr; have y0 := (Y0.out.below hb).c; have y1 := (Y0.out.below hb).fr; have B1 := Lib.hid (B0.out.trans (hb.mono B0.out.size)); clear hb; rw [show (w.alloc (.cells #[.int .i64 k, .bool b, .int .i64 n, .float .f64 f, .string s] 28)).heap.size = w.heap.size + 1 by simp] at y0 y1)
  obtain ⟨s0, s1, s2, s3, s4⟩ := set5 (w1.setCell ⟨w.heap.size, 4, none⟩ (.string s)) (w.heap.size + 1) (.int .i64 k) (.bool b) (.int .i64 n) (.float .f64 f) (.string s) _ rfl (fun j => (World.cell?_setCell_other _ _ _ _ (by intro e; simp only [Addr.mk.injEq] at e; omega)).trans (y0 j))
  refine bodyPost_ret (v := vagg k b n f s) (by simp [results, Tryz.results64, go_sem, s0, s1, s2, s3, s4]) rfl ?_
  exact ⟨rfl, set5_below _ _ _ _ _ _ (by omega) (B1.out.setCell (p := ⟨w.heap.size, 4, none⟩) (Nat.le_refl _) _)⟩
/-- Whether y may stand behind x. -/
theorem follows_any (x y : Pie) (hx : x.v.wide) (hy : y.v.wide) (mx : x.v.may) (my : y.v.may) (w : World) :
    Calls Tryz.prog 76 #[Pie.val x, Pie.val y] w (Says (Pl.follows x y) w) := by
  have CS := Lib.hid (fun W => valSame_any x.v y.v hx hy mx my W)
  have HN : Hid (∀ c : Bool, x.b = y.a → (c = true ↔ x.v = y.v) → ((!c) = true ↔ Pl.follows x y)) := Lib.hid fun c h hc => by
    unfold Pl.follows
    rw [Bool.not_eq_true', ← Bool.not_eq_true, hc]
    constructor
    · exact fun g => .inr ⟨h, g⟩
    · rintro (g | g)
      · omega
      · exact g.2
  have HL : Hid (¬ x.b = y.a → (decide (x.b < y.a) = true ↔ Pl.follows x y)) := Lib.hid fun h => by
    unfold Pl.follows
    simp [h]
  clear hx hy mx my
  obtain ⟨a, b, ⟨k, vb, n, f, s⟩⟩ := x
  obtain ⟨a', b', ⟨k', vb', n', f', s'⟩⟩ := y
  simp only at CS HN HL
  have hsf := store_float
  have HB := Lib.hid (((Below.refl w.heap.size w).alloc (Nat.le_refl _) (.cells #[.int .u64 a, .int .u64 b, .int .i64 k, .bool vb, .int .i64 n, .float .f64 f, .string s] 43)).alloc (by simp) (.cells #[.int .u64 a', .int .u64 b', .int .i64 k', .bool vb', .int .i64 n', .float .f64 f', .string s'] 43))
  by_cases h : b = a'
  · have HN2 := Lib.hid (fun c hc => HN.out c h hc)
    subst h
    clear HN HL
    go_enter Tryz.func76, Tryz.ntmps76
    go_wp2_with (go_at_call 35; (with_reducible refine (CS.out _).mono ?_); rintro e w1 ⟨c, rfl, hc, hb⟩; have HC := Lib.hid hc; have B1 := Lib.hid (HB.out.trans (hb.mono HB.out.size)); clear hc hb)
    go_ret
    exact ⟨!c, rfl, HN2.out c HC.out, B1.out⟩
  · have HL2 := Lib.hid (HL.out h)
    have t0 : (b == a') = false := by simpa using h
    clear HN HL h
    go_enter Tryz.func76, Tryz.ntmps76
    go_wp2
    go_ret
    exact ⟨_, rfl, HL2.out, HB.out⟩
end
end Go.Proofs.YtgmaompjhhomcaaGreat

