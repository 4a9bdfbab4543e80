/- PieceTwice's walk: what is set twice is set once; where two periods have no instant together the order does not matter; a period set in two parts is set. -/
import Derived.Test.YtaaekjmiapelgaaGreatmH7
import Derived.Test.YtaaekjmiapelgaaGreatmH3
namespace Go.Proofs.YtaaekjmiapelgaaGreat
open Go.RowKit
/-- The law's set: the line alone. -/
def SetL (l : List Pie) (c d : Int) (v : VP) (w : World) (e : Ending) (w' : World) : Prop := ∃ u R, e = .returned u ∧ OwnL w.heap.size w' u R ∧ Pl.SetR okV VP.none l c d v R ∧ Below w.heap.size w w'
namespace Pl
variable {V : Type} {ok : V → Prop} {z v u : V} {l R S T : List (PC V)} {c d e f m : Int}
theorem setMeans (h : SetR ok z l c d v R) (t : Int) : means z R t = if c ≤ t ∧ t < d then v else means z l t := by
  by_cases g : c ≤ t ∧ t < d
  · rw [if_pos g]; exact (h.means t).1 g
  · rw [if_neg g]; exact (h.means t).2 g
theorem set_again (hz : ¬ ok z) (h : SetR ok z l c d v R) (k : SetR ok z R c d v S) : R = S := Line.ext hz h.line k.line fun t => by
  rw [setMeans k, setMeans h]
  by_cases g : c ≤ t ∧ t < d
  · rw [if_pos g, if_pos g]
  · rw [if_neg g, if_neg g]
theorem set_over (hz : ¬ ok z) (h : SetR ok z l c d v R) (k : SetR ok z l c d u S) (g : SetR ok z S c d v T) : R = T := Line.ext hz h.line g.line fun t => by
  rw [setMeans g, setMeans k, setMeans h]
  by_cases q : c ≤ t ∧ t < d
  · rw [if_pos q, if_pos q]
  · rw [if_neg q, if_neg q, if_neg q]
theorem set_swap (hz : ¬ ok z) {A AB B BA : List (PC V)} (hd : ∀ t, ¬ ((c ≤ t ∧ t < d) ∧ e ≤ t ∧ t < f)) (h1 : SetR ok z l c d v A) (h2 : SetR ok z A e f u AB) (h3 : SetR ok z l e f u B) (h4 : SetR ok z B c d v BA) : AB = BA := Line.ext hz h2.line h4.line fun t => by
  rw [setMeans h2, setMeans h1, setMeans h4, setMeans h3]
  by_cases q : c ≤ t ∧ t < d
  · have : ¬ (e ≤ t ∧ t < f) := fun r => hd t ⟨q, r⟩
    rw [if_pos q, if_neg this, if_pos q]
  · rw [if_neg q, if_neg q]
theorem set_parts (hz : ¬ ok z) (hm : c ≤ m ∧ m ≤ d) (h : SetR ok z l c d v R) (k : SetR ok z l m d v S) (g : SetR ok z S c m v T) : R = T := Line.ext hz h.line g.line fun t => by
  rw [setMeans g, setMeans k, setMeans h]
  by_cases q : c ≤ t ∧ t < d
  · rw [if_pos q]
    by_cases r : c ≤ t ∧ t < m
    · rw [if_pos r]
    · rw [if_neg r, if_pos (by omega)]
  · rw [if_neg q, if_neg (by omega), if_neg (by omega)]
end Pl
section
set_option maxRecDepth 100000
set_option maxHeartbeats 8000000
theorem Twice1_any (sv : Value) (l : List Pie) (c d : Int) (v : VP) (w : World) (h : SL w sv l) (hL : Pl.Line okV l) (hp : c < d ∧ d ≤ 1099511627776) (hv : setP v) (hvw : v.wide) (hl : l.length ≤ 100000) :
    Calls Tryz.prog 36 #[sv, .agg #[.int .u64 c, .int .u64 d], v.val] w (SetL l c d v w) := by
  have C := Lib.hid (fun W (hb : Below w.heap.size w W) => Set_ok sv l c d v W (h.below hb) (line_w hL) hL hp hv hvw hl)
  have HB := Lib.hid (((Below.refl w.heap.size w).alloc (Nat.le_refl _) (.cells #[.int .u64 c, .int .u64 d] 25)).alloc (by simp) (.cells (VP.cells v) 28))
  have hsf := store_float
  clear h hL hp hv hvw hl
  obtain ⟨k, b, n, f, s⟩ := v
  go_enter Tryz.func36, Tryz.ntmps36
  go_wp2_with (go_at_call 9; (refine (C.out _ HB.out).mono ?_); rintro e w1 ⟨u, R, rfl, ho, hr, hb⟩; have HO := Lib.hid ho; have HR := Lib.hid hr; have B1 := Lib.hid (HB.out.trans (hb.mono HB.out.size)); clear ho hr hb)
  go_ret
  exact ⟨u, R, rfl, HO.out.mono HB.out.size, HR.out, B1.out⟩
/-- No instant together. -/
theorem meet_none {p q R : List (Int × Int)} (h : Se.Iset.Res Se.kAnd p q R) (h0 : R.length = 0) (t : Int) : ¬ (Se.Iset.has p t = true ∧ Se.Iset.has q t = true) := fun g => by
  have := h.has t
  rw [List.eq_nil_of_length_eq_zero h0, g.1, g.2] at this
  cases this
theorem meet_no {a b c d : Int} {R : List (Int × Int)} (h : Se.Iset.Res Se.kAnd [(a, b)] [(c, d)] R) (h0 : R.length = 0) (hb : b ≤ 1099511627776) (hd : d ≤ 1099511627776) (t : Int) : ¬ ((a ≤ t ∧ t < b) ∧ c ≤ t ∧ t < d) := fun g =>
  meet_none h h0 t ⟨(Se.Iset.has_iff _ _).2 ⟨(a, b), List.mem_singleton.2 rfl, (Se.Iset.hasP_iff _ _).2 ⟨⟨by show a < b; omega, hb⟩, g.1⟩⟩, (Se.Iset.has_iff _ _).2 ⟨(c, d), List.mem_singleton.2 rfl, (Se.Iset.hasP_iff _ _).2 ⟨⟨by show c < d; omega, hd⟩, g.2⟩⟩⟩
theorem Twice_walk (v : Value) (ps : List Pie) (x y : Pie) (at_ : Int) (w : World) (h : SL w v ps) (hw : ∀ p ∈ ps, p.v.wide) (wx : x.v.wide) (wy : y.v.wide) (hx : 0 ≤ x.a ∧ 0 ≤ x.b) (hy : 0 ≤ y.a ∧ 0 ≤ y.b) (h0 : 0 ≤ at_) :
    Calls Tryz.prog 6 #[v, Pie.val x, Pie.val y, .int .u64 at_] w fun e w' => e = .returned (.bool true) ∧ Below w.heap.size w w' := by
  have CB := Lib.hid (fun W (hb : Below w.heap.size w W) => built_any v ps W (h.below hb) hw)
  have CK := Lib.hid (fun W => wakes_any W)
  have GX := Lib.hid (fun W => good_any x wx W)
  have GY := Lib.hid (fun W => good_any y wy W)
  have HB0 := Lib.hid (((Below.refl w.heap.size w).alloc (Nat.le_refl _) (.cells (Pie.cells x) 64)).alloc (by simp) (.cells (Pie.cells y) 64))
  have X0 := Lib.hid ((Bx.new w (Pie.cells x) 64).below ((Below.refl _ _).alloc (Nat.le_refl _) (.cells (Pie.cells y) 64)))
  have Y0 := Lib.hid (Bx.new (w.alloc (.cells (Pie.cells x) 64)) (Pie.cells y) 64)
  rw [show (w.alloc (.cells (Pie.cells x) 64)).heap.size = w.heap.size + 1 by simp] at Y0
  have WX := Lib.hid (And.intro wx hx)
  have WY := Lib.hid (And.intro wy hy)
  have HAT := Lib.hid h0
  have hsf := store_float
  obtain ⟨A, c, rfl, _⟩ := h
  clear hw wx wy hx hy h0
  obtain ⟨a, b, ⟨kk, vb, n, f, s⟩⟩ := x
  obtain ⟨a', b', ⟨kk', vb', n', f', s'⟩⟩ := y
  go_enter Tryz.func6, Tryz.ntmps6
  go_upto_region 1 with fail
  obtain ⟨W0, hW0⟩ : ∃ W, (w.alloc (.cells (Pie.cells ⟨a, b, ⟨kk, vb, n, f, s⟩⟩) 64)).alloc (.cells (Pie.cells ⟨a', b', ⟨kk', vb', n', f', s'⟩⟩) 64) = W := ⟨_, rfl⟩
  rw [hW0] at HB0 X0 Y0
  try rw [hW0]
  clear hW0
  obtain ⟨pa, hpa⟩ : ∃ p, w.heap.size = p := ⟨_, rfl⟩
  obtain ⟨pb, hpb⟩ : ∃ p, w.heap.size + 1 = p := ⟨_, rfl⟩
  rw [hpa] at X0
  rw [hpb] at Y0
  have HPA := Lib.hid hpa
  try rw [hpb]
  go_upto_region 4 with (first
    | (go_at_call 29; (with_reducible refine (CB.out _ HB0.out).mono ?_); rintro e w1 ⟨ux, ud, R, D, rfl, ho, _, hr, _, hd, hb⟩; have HO1 := Lib.hid ho; have HR := Lib.hid hr; have HD := Lib.hid hd; have K1 := Lib.hid hb; clear ho hr hd hb)
    | (go_at_call 28; (with_reducible refine (CK.out _).mono ?_); rintro e w2 ⟨rfl, hb⟩; have K2 := Lib.hid hb; clear hb))
  have B2 := Lib.hid (K1.out.trans (K2.out.mono K1.out.size))
  have OX := Lib.hid ((HO1.out.below K2.out).at)
  have X2 := Lib.hid (X0.out.below B2.out)
  have Y2 := Lib.hid (Y0.out.below B2.out)
  have HB2 := Lib.hid (HB0.out.trans (B2.out.mono HB0.out.size))
  have x0 := X2.out.c
  have y0 := Y2.out.c
  have LNx := Lib.hid HR.out.line
  have LBx : Hid (R.length ≤ 60) := Lib.hid (by have := HR.out.len; have := HD.out; omega)
  have LEx : Hid (R.length ≤ 100000) := Lib.hid (by have := LBx.out; omega)
  by_cases ga : goodP ⟨a, b, ⟨kk, vb, n, f, s⟩⟩
  case neg =>
    have GX := Lib.hid (fun W => (GX.out W).mono fun _ _ h => h.no ga)
    clear ga
    go_wp2_with (go_at_call 35; (with_reducible refine (GX.out _).mono ?_); rintro e w3 ⟨rfl, hb⟩; have B3 := Lib.hid (HB2.out.trans (hb.mono HB2.out.size)); clear hb)
    go_ret
    exact ⟨rfl, B3.out⟩
  by_cases gb : goodP ⟨a', b', ⟨kk', vb', n', f', s'⟩⟩
  case neg =>
    have GX := Lib.hid (fun W => (GX.out W).mono fun _ _ h => h.yes ga)
    have GY := Lib.hid (fun W => (GY.out W).mono fun _ _ h => h.no gb)
    clear ga gb
    go_wp2_with (first
      | (go_at_call 35; (with_reducible refine (GX.out _).mono ?_); rintro e w3 ⟨rfl, hb⟩; have B3 := Lib.hid (HB2.out.trans (hb.mono HB2.out.size)); have y1 := (Y2.out.below hb).c; clear hb)
      | (go_at_call 35; (with_reducible refine (GY.out _).mono ?_); rintro e w4 ⟨rfl, hb⟩; have B4 := Lib.hid (B3.out.trans (hb.mono B3.out.size)); clear hb))
    go_ret
    exact ⟨rfl, B4.out⟩
  have GX := Lib.hid (fun W => (GX.out W).mono fun _ _ h => h.yes ga)
  have GY := Lib.hid (fun W => (GY.out W).mono fun _ _ h => h.yes gb)
  have Caa := Lib.hid (fun W sv l (h : SL W sv l) (hL : Pl.Line okV l) (hl : l.length ≤ 100000) => Twice1_any sv l a b ⟨kk, vb, n, f, s⟩ W h hL ga.1 ga.2 WX.out.1 hl)
  have Cab := Lib.hid (fun W sv l (h : SL W sv l) (hL : Pl.Line okV l) (hl : l.length ≤ 100000) => Twice1_any sv l a b ⟨kk', vb', n', f', s'⟩ W h hL ga.1 gb.2 WY.out.1 hl)
  have Cbb := Lib.hid (fun W sv l (h : SL W sv l) (hL : Pl.Line okV l) (hl : l.length ≤ 100000) => Twice1_any sv l a' b' ⟨kk', vb', n', f', s'⟩ W h hL gb.1 gb.2 WY.out.1 hl)
  have GA := Lib.hid ga
  have GB := Lib.hid gb
  clear ga gb
  go_upto_region 7 with (first
    | (go_at_call 35; (with_reducible refine (GX.out _).mono ?_); rintro e w3 ⟨rfl, hb⟩; have B3 := Lib.hid hb; have OX3 := Lib.hid (OX.out.below hb); have X3 := Lib.hid (X2.out.below hb); have Y3 := Lib.hid (Y2.out.below hb); have y1 := Y3.out.c; clear hb)
    | (go_at_call 35; (with_reducible refine (GY.out _).mono ?_); rintro e w4 ⟨rfl, hb⟩; have B4 := Lib.hid (B3.out.trans (hb.mono B3.out.size)); have OX4 := Lib.hid (OX3.out.below hb); clear hb))
  have X4 := Lib.hid (X2.out.below B4.out)
  have Y4 := Lib.hid (Y2.out.below B4.out)
  have HB4 := Lib.hid (HB2.out.trans (B4.out.mono HB2.out.size))
  clear x0 y0 y1
  have x0 := X4.out.c
  have y0 := Y4.out.c
  go_upto_region 8 with (go_at_call 36; (with_reducible refine (Caa.out _ ux R OX4.out LNx.out LEx.out).mono ?_); rintro e w5 ⟨u1, S1, rfl, ho, hr, hb0⟩; have hb : Below w4.heap.size w4 w5 := hb0; have Fx_5 := Lib.hid (OX4.out.below hb); have F1_5 := Lib.hid ho.at; have H1 := Lib.hid hr; have LN1 := Lib.hid hr.line; have LE1 : Hid (S1.length ≤ 100000) := Lib.hid (by have := hr.len; have := LBx.out; omega); have LB1 : Hid (S1.length ≤ 62) := Lib.hid (by have := hr.len; have := LBx.out; omega); have HU5 := Lib.hid (show Below w4.heap.size w4 w5 from hb); clear ho hr hb hb0)
  have X5 := Lib.hid (X4.out.below HU5.out)
  have Y5 := Lib.hid (Y4.out.below HU5.out)
  have HB5 := Lib.hid (HB4.out.trans (HU5.out.mono HB4.out.size))
  clear x0 y0
  have K0 : Hid (∀ w', Below w5.heap.size w5 w' → (∀ j, w'.cell? ⟨pa, j, none⟩ = #[Value.int .u64 a, .int .u64 b, .int .i64 kk, .bool vb, .int .i64 n, .float .f64 f, .string s][j]?) ∧ (∀ j, w'.cell? ⟨pb, j, none⟩ = #[Value.int .u64 a', .int .u64 b', .int .i64 kk', .bool vb', .int .i64 n', .float .f64 f', .string s'][j]?)) := Lib.hid fun w' hb => ⟨(X5.out.below hb).c, (Y5.out.below hb).c⟩
  go_region_held3 (fun w' => (∀ j, w'.cell? ⟨pa, j, none⟩ = #[Value.int .u64 a, .int .u64 b, .int .i64 kk, .bool vb, .int .i64 n, .float .f64 f, .string s][j]?) ∧ (∀ j, w'.cell? ⟨pb, j, none⟩ = #[Value.int .u64 a', .int .u64 b', .int .i64 kk', .bool vb', .int .i64 n', .float .f64 f', .string s'][j]?)) (first
        | exact K0.out _ (Below.refl _ _).drew
        | exact K0.out _ HU10.out
        | exact K0.out _ HU9.out
        | exact K0.out _ HU8.out
        | exact K0.out _ HU7.out
        | exact K0.out _ HU6.out
        | fail) (first
        | (go_at_call 36; (with_reducible refine (Caa.out _ u1 S1 (F1_5.out.below (Below.refl _ _).drew) LN1.out LE1.out).mono ?_); rintro e w6 ⟨u2, S2, rfl, ho, hr, hb0⟩; have hb : Below w5.heap.size w5 w6 := (Below.refl _ _).drew.trans hb0; have Fx_6 := Lib.hid (Fx_5.out.below hb); have F1_6 := Lib.hid (F1_5.out.below hb); have F2_6 := Lib.hid ho.at; have H2 := Lib.hid hr; have LN2 := Lib.hid hr.line; have LE2 : Hid (S2.length ≤ 100000) := Lib.hid (by have := hr.len; have := LB1.out; omega); have LB2 : Hid (S2.length ≤ 64) := Lib.hid (by have := hr.len; have := LB1.out; omega); have HU6 := Lib.hid (show Below w5.heap.size w5 w6 from hb); clear ho hr hb hb0)
        | (go_at_call 18; (with_reducible refine ((pSame_any u1 u2 S1 S2 _ F1_6.out F2_6.out (line_wm LN1.out) (line_wm LN2.out)).mono fun _ _ h => h.yes (Pl.set_again none_ok H1.out H2.out)).mono ?_); rintro e w7 ⟨rfl, hb⟩; have Fx_7 := Lib.hid (Fx_6.out.below hb); have F1_7 := Lib.hid (F1_6.out.below hb); have F2_7 := Lib.hid (F2_6.out.below hb); have HU7 := Lib.hid (show Below w5.heap.size w5 w7 from HU6.out.trans (hb.mono HU6.out.size)); clear hb)
        | (go_at_call 36; (with_reducible refine (Cab.out _ ux R Fx_7.out LNx.out LEx.out).mono ?_); rintro e w8 ⟨u3, S3, rfl, ho, hr, hb0⟩; have hb : Below w7.heap.size w7 w8 := hb0; have Fx_8 := Lib.hid (Fx_7.out.below hb); have F1_8 := Lib.hid (F1_7.out.below hb); have F2_8 := Lib.hid (F2_7.out.below hb); have F3_8 := Lib.hid ho.at; have H3 := Lib.hid hr; have LN3 := Lib.hid hr.line; have LE3 : Hid (S3.length ≤ 100000) := Lib.hid (by have := hr.len; have := LBx.out; omega); have LB3 : Hid (S3.length ≤ 62) := Lib.hid (by have := hr.len; have := LBx.out; omega); have HU8 := Lib.hid (show Below w5.heap.size w5 w8 from HU7.out.trans (hb.mono HU7.out.size)); clear ho hr hb hb0)
        | (go_at_call 36; (with_reducible refine (Caa.out _ u3 S3 F3_8.out LN3.out LE3.out).mono ?_); rintro e w9 ⟨u4, S4, rfl, ho, hr, hb0⟩; have hb : Below w8.heap.size w8 w9 := hb0; have Fx_9 := Lib.hid (Fx_8.out.below hb); have F1_9 := Lib.hid (F1_8.out.below hb); have F2_9 := Lib.hid (F2_8.out.below hb); have F3_9 := Lib.hid (F3_8.out.below hb); have F4_9 := Lib.hid ho.at; have H4 := Lib.hid hr; have LN4 := Lib.hid hr.line; have LE4 : Hid (S4.length ≤ 100000) := Lib.hid (by have := hr.len; have := LB3.out; omega); have LB4 : Hid (S4.length ≤ 64) := Lib.hid (by have := hr.len; have := LB3.out; omega); have HU9 := Lib.hid (show Below w5.heap.size w5 w9 from HU8.out.trans (hb.mono HU8.out.size)); clear ho hr hb hb0)
        | (go_at_call 18; (with_reducible refine ((pSame_any u1 u4 S1 S4 _ F1_9.out F4_9.out (line_wm LN1.out) (line_wm LN4.out)).mono fun _ _ h => h.yes (Pl.set_over none_ok H1.out H3.out H4.out)).mono ?_); rintro e w10 ⟨rfl, hb⟩; have Fx_10 := Lib.hid (Fx_9.out.below hb); have F1_10 := Lib.hid (F1_9.out.below hb); have F2_10 := Lib.hid (F2_9.out.below hb); have F3_10 := Lib.hid (F3_9.out.below hb); have F4_10 := Lib.hid (F4_9.out.below hb); have HU10 := Lib.hid (show Below w5.heap.size w5 w10 from HU9.out.trans (hb.mono HU9.out.size)); clear hb)
        | fail)
  go_upto_region 10 with fail
  have X10 := Lib.hid (X5.out.below HU10.out)
  have Y10 := Lib.hid (Y5.out.below HU10.out)
  have HB10 := Lib.hid (HB5.out.trans (HU10.out.mono HB5.out.size))
  clear K0
  have K0 : Hid (∀ w', Below w10.heap.size w10 w' → (∀ j, w'.cell? ⟨pa, j, none⟩ = #[Value.int .u64 a, .int .u64 b, .int .i64 kk, .bool vb, .int .i64 n, .float .f64 f, .string s][j]?) ∧ (∀ j, w'.cell? ⟨pb, j, none⟩ = #[Value.int .u64 a', .int .u64 b', .int .i64 kk', .bool vb', .int .i64 n', .float .f64 f', .string s'][j]?)) := Lib.hid fun w' hb => ⟨(X10.out.below hb).c, (Y10.out.below hb).c⟩
  go_region_held3 (fun w' => (∀ j, w'.cell? ⟨pa, j, none⟩ = #[Value.int .u64 a, .int .u64 b, .int .i64 kk, .bool vb, .int .i64 n, .float .f64 f, .string s][j]?) ∧ (∀ j, w'.cell? ⟨pb, j, none⟩ = #[Value.int .u64 a', .int .u64 b', .int .i64 kk', .bool vb', .int .i64 n', .float .f64 f', .string s'][j]?)) (first
        | exact K0.out _ (Below.refl _ _).drew
        | exact K0.out _ HU13.out
        | exact K0.out _ HU12.out
        | exact K0.out _ HU11.out
        | fail) (first
        | (go_at_call 36; (with_reducible refine (Cbb.out _ u1 S1 (F1_10.out.below (Below.refl _ _).drew) LN1.out LE1.out).mono ?_); rintro e w11 ⟨u5, S5, rfl, ho, hr, hb0⟩; have hb : Below w10.heap.size w10 w11 := (Below.refl _ _).drew.trans hb0; have Fx_11 := Lib.hid (Fx_10.out.below hb); have F1_11 := Lib.hid (F1_10.out.below hb); have F2_11 := Lib.hid (F2_10.out.below hb); have F3_11 := Lib.hid (F3_10.out.below hb); have F4_11 := Lib.hid (F4_10.out.below hb); have F5_11 := Lib.hid ho.at; have H5 := Lib.hid hr; have LN5 := Lib.hid hr.line; have LE5 : Hid (S5.length ≤ 100000) := Lib.hid (by have := hr.len; have := LB1.out; omega); have LB5 : Hid (S5.length ≤ 64) := Lib.hid (by have := hr.len; have := LB1.out; omega); have HU11 := Lib.hid (show Below w10.heap.size w10 w11 from hb); clear ho hr hb hb0)
        | (go_at_call 36; (with_reducible refine (Cbb.out _ ux R Fx_11.out LNx.out LEx.out).mono ?_); rintro e w12 ⟨u6, S6, rfl, ho, hr, hb0⟩; have hb : Below w11.heap.size w11 w12 := hb0; have Fx_12 := Lib.hid (Fx_11.out.below hb); have F1_12 := Lib.hid (F1_11.out.below hb); have F2_12 := Lib.hid (F2_11.out.below hb); have F3_12 := Lib.hid (F3_11.out.below hb); have F4_12 := Lib.hid (F4_11.out.below hb); have F5_12 := Lib.hid (F5_11.out.below hb); have F6_12 := Lib.hid ho.at; have H6 := Lib.hid hr; have LN6 := Lib.hid hr.line; have LE6 : Hid (S6.length ≤ 100000) := Lib.hid (by have := hr.len; have := LBx.out; omega); have LB6 : Hid (S6.length ≤ 62) := Lib.hid (by have := hr.len; have := LBx.out; omega); have HU12 := Lib.hid (show Below w10.heap.size w10 w12 from HU11.out.trans (hb.mono HU11.out.size)); clear ho hr hb hb0)
        | (go_at_call 36; (with_reducible refine (Caa.out _ u6 S6 F6_12.out LN6.out LE6.out).mono ?_); rintro e w13 ⟨u7, S7, rfl, ho, hr, hb0⟩; have hb : Below w12.heap.size w12 w13 := hb0; have Fx_13 := Lib.hid (Fx_12.out.below hb); have F1_13 := Lib.hid (F1_12.out.below hb); have F2_13 := Lib.hid (F2_12.out.below hb); have F3_13 := Lib.hid (F3_12.out.below hb); have F4_13 := Lib.hid (F4_12.out.below hb); have F5_13 := Lib.hid (F5_12.out.below hb); have F6_13 := Lib.hid (F6_12.out.below hb); have F7_13 := Lib.hid ho.at; have H7 := Lib.hid hr; have LN7 := Lib.hid hr.line; have LE7 : Hid (S7.length ≤ 100000) := Lib.hid (by have := hr.len; have := LB6.out; omega); have LB7 : Hid (S7.length ≤ 64) := Lib.hid (by have := hr.len; have := LB6.out; omega); have HU13 := Lib.hid (show Below w10.heap.size w10 w13 from HU12.out.trans (hb.mono HU12.out.size)); clear ho hr hb hb0)
        | fail)
  go_upto_region 11 with fail
  have X13 := Lib.hid (X10.out.below HU13.out)
  have Y13 := Lib.hid (Y10.out.below HU13.out)
  have HB13 := Lib.hid (HB10.out.trans (HU13.out.mono HB10.out.size))
  clear K0
  have x0 := X13.out.c
  have y0 := Y13.out.c
  have CM := Lib.hid (fun W va vb (h1 : Se.IsP W va [(a, b)]) (h2 : Se.IsP W vb [(a', b')]) => Se.Meet_any va vb [(a, b)] [(a', b')] W h1 h2 (fun p h => by rw [List.mem_singleton] at h; subst h; exact WX.out.2) (fun p h => by rw [List.mem_singleton] at h; subst h; exact WY.out.2) (by simp) (by simp))
  have P1 := Lib.hid (show Se.IsP (w13.alloc (.cells #[.int .u64 a, .int .u64 b] 25)) (.slice (some ⟨w13.heap.size, 0, none⟩) 1 1) [(a, b)] from isP_new w13 [(a, b)] 25 1 1 rfl)
  have A1 := Lib.hid (show Below w13.heap.size w13 (w13.alloc (.cells #[.int .u64 a, .int .u64 b] 25)) from Below.alloc (Below.refl _ _) (Nat.le_refl _) _)
  have y1 := (Y13.out.below A1.out).c
  have P2 := Lib.hid (show Se.IsP ((w13.alloc (.cells #[.int .u64 a, .int .u64 b] 25)).alloc (.cells #[.int .u64 a', .int .u64 b'] 25)) (.slice (some ⟨w13.heap.size + 1, 0, none⟩) 1 1) [(a', b')] from by
    have := isP_new (w13.alloc (.cells #[.int .u64 a, .int .u64 b] 25)) [(a', b')] 25 1 1 rfl
    rw [show (w13.alloc (.cells #[.int .u64 a, .int .u64 b] 25)).heap.size = w13.heap.size + 1 by simp] at this
    exact this)
  have A2 := Lib.hid (show Below w13.heap.size w13 ((w13.alloc (.cells #[.int .u64 a, .int .u64 b] 25)).alloc (.cells #[.int .u64 a', .int .u64 b'] 25)) from A1.out.alloc (by simp) _)
  have P1 := Lib.hid (P1.out.below ((Below.refl _ _).alloc (Nat.le_refl _) (.cells #[.int .u64 a', .int .u64 b'] 25)))
  go_wp2_with fail
  refine (CM.out _ _ _ P1.out P2.out).mono ?_
  rintro e w14 ⟨vM, RM, rfl, hm, ho, hb0⟩
  have hb : Below w13.heap.size w13 w14 := A2.out.trans (hb0.mono A2.out.size)
  have Fx_14 := Lib.hid (Fx_13.out.below hb)
  have F1_14 := Lib.hid (F1_13.out.below hb)
  have F2_14 := Lib.hid (F2_13.out.below hb)
  have F3_14 := Lib.hid (F3_13.out.below hb)
  have F4_14 := Lib.hid (F4_13.out.below hb)
  have F5_14 := Lib.hid (F5_13.out.below hb)
  have F6_14 := Lib.hid (F6_13.out.below hb)
  have F7_14 := Lib.hid (F7_13.out.below hb)
  have HU14 := Lib.hid hb
  have HM := Lib.hid hm
  obtain ⟨AM, cM, rfl, _⟩ := ho.at
  clear ho hm hb hb0 x0 y0 y1
  have HF := Lib.hid (⟨GA.out.1, GB.out.1⟩ : (a < b ∧ b ≤ 1099511627776) ∧ a' < b' ∧ b' ≤ 1099511627776)
  obtain ⟨nM, hnM⟩ : ∃ k, RM.length = k := ⟨_, rfl⟩
  rw [hnM]
  by_cases hz : nM = 0
  case neg =>
    go_wp2_with fail
    go_upto_region 13 with fail
    have X14 := Lib.hid (X13.out.below HU14.out)
    have Y14 := Lib.hid (Y13.out.below HU14.out)
    have HB14 := Lib.hid (HB13.out.trans (HU14.out.mono HB13.out.size))
    have x0 := X14.out.c
    have hab := HF.out.1.1
    have hb40 := HF.out.1.2
    have ha0 := WX.out.2.1
    have hat := HAT.out
    have hm0 : 0 ≤ at_.tmod (b - a) := Int.tmod_nonneg _ hat
    have hm1 : at_.tmod (b - a) < b - a := Int.tmod_lt_of_pos _ (by omega)
    have hw1 : IntKind.u64.wrap (b - a) = b - a := IntWalk.u64_in _ (by omega)
    have hw2 : IntKind.u64.wrap (at_.tmod (b - a)) = at_.tmod (b - a) := IntWalk.u64_in _ (by omega)
    have hw3 : IntKind.u64.wrap (a + at_.tmod (b - a)) = a + at_.tmod (b - a) := IntWalk.u64_in _ (by omega)
    have hne : ¬ b - a = 0 := by omega
    have hne2 : (b - a == 0) = false := by rw [beq_eq_false_iff_ne]; omega
    have K0 : Hid (∀ w', Below w14.heap.size w14 w' → (∀ j, w'.cell? ⟨pa, j, none⟩ = #[Value.int .u64 a, .int .u64 b, .int .i64 kk, .bool vb, .int .i64 n, .float .f64 f, .string s][j]?) ∧ (∀ j, w'.cell? ⟨pb, j, none⟩ = #[Value.int .u64 a', .int .u64 b', .int .i64 kk', .bool vb', .int .i64 n', .float .f64 f', .string s'][j]?)) := Lib.hid fun w' hb => ⟨(X14.out.below hb).c, (Y14.out.below hb).c⟩
    go_region_held3 (fun w' => (∀ j, w'.cell? ⟨pa, j, none⟩ = #[Value.int .u64 a, .int .u64 b, .int .i64 kk, .bool vb, .int .i64 n, .float .f64 f, .string s][j]?) ∧ (∀ j, w'.cell? ⟨pb, j, none⟩ = #[Value.int .u64 a', .int .u64 b', .int .i64 kk', .bool vb', .int .i64 n', .float .f64 f', .string s'][j]?)) (exact K0.out _ (Below.refl _ _).drew) (fail)
    go_upto_region 14 with fail
    have hD : Below w14.heap.size w14 w14.drew := (Below.refl _ _).drew
    obtain ⟨wd, hwd⟩ : ∃ W, w14.drew = W := ⟨_, rfl⟩
    rw [hwd] at hD
    try rw [hwd]
    clear hwd K0 x0
    have Xd := Lib.hid (X14.out.below hD)
    have Yd := Lib.hid (Y14.out.below hD)
    have HBd := Lib.hid (HB14.out.trans (hD.mono HB14.out.size))
    have Fx_90 := Lib.hid (Fx_14.out.below hD)
    have F1_90 := Lib.hid (F1_14.out.below hD)
    have F2_90 := Lib.hid (F2_14.out.below hD)
    have F3_90 := Lib.hid (F3_14.out.below hD)
    have F4_90 := Lib.hid (F4_14.out.below hD)
    have F5_90 := Lib.hid (F5_14.out.below hD)
    have F6_90 := Lib.hid (F6_14.out.below hD)
    have F7_90 := Lib.hid (F7_14.out.below hD)
    obtain ⟨m, hm⟩ : ∃ m, a + at_.tmod (b - a) = m := ⟨_, rfl⟩
    rw [hm]
    have hmb : a ≤ m ∧ m < b := by omega
    have hmN := Lib.hid hmb
    clear hm hm0 hm1 hw1 hw2 hw3 hne hne2 hab hb40 ha0 hat hD
    have x0 := Xd.out.c
    by_cases hma : m = a
    · clear hmb
      go_wp2_with fail
      go_ret
      exact ⟨rfl, HBd.out⟩
    · have Cma := Lib.hid (fun W sv l (h : SL W sv l) (hL : Pl.Line okV l) (hl : l.length ≤ 100000) => Twice1_any sv l m b ⟨kk, vb, n, f, s⟩ W h hL ⟨hmb.2, HF.out.1.2⟩ GA.out.2 WX.out.1 hl)
      have Cam := Lib.hid (fun W sv l (h : SL W sv l) (hL : Pl.Line okV l) (hl : l.length ≤ 100000) => Twice1_any sv l a m ⟨kk, vb, n, f, s⟩ W h hL ⟨by omega, by have := HF.out.1.2; omega⟩ GA.out.2 WX.out.1 hl)
      clear hmb
      go_upto_region 16 with fail
      clear hma x0
      have K0 : Hid (∀ w', Below wd.heap.size wd w' → (∀ j, w'.cell? ⟨pa, j, none⟩ = #[Value.int .u64 a, .int .u64 b, .int .i64 kk, .bool vb, .int .i64 n, .float .f64 f, .string s][j]?) ∧ (∀ j, w'.cell? ⟨pb, j, none⟩ = #[Value.int .u64 a', .int .u64 b', .int .i64 kk', .bool vb', .int .i64 n', .float .f64 f', .string s'][j]?)) := Lib.hid fun w' hb => ⟨(Xd.out.below hb).c, (Yd.out.below hb).c⟩
      go_region_held3 (fun w' => (∀ j, w'.cell? ⟨pa, j, none⟩ = #[Value.int .u64 a, .int .u64 b, .int .i64 kk, .bool vb, .int .i64 n, .float .f64 f, .string s][j]?) ∧ (∀ j, w'.cell? ⟨pb, j, none⟩ = #[Value.int .u64 a', .int .u64 b', .int .i64 kk', .bool vb', .int .i64 n', .float .f64 f', .string s'][j]?)) (first
          | exact K0.out _ (Below.refl _ _).drew
          | exact K0.out _ HU16.out
          | exact K0.out _ HU15.out
          | fail) (first
          | (go_at_call 36; (with_reducible refine (Cma.out _ ux R (Fx_90.out.below (Below.refl _ _).drew) LNx.out LEx.out).mono ?_); rintro e w15 ⟨u8, S8, rfl, ho, hr, hb0⟩; have hb : Below wd.heap.size wd w15 := (Below.refl _ _).drew.trans hb0; have Fx_15 := Lib.hid (Fx_90.out.below hb); have F1_15 := Lib.hid (F1_90.out.below hb); have F2_15 := Lib.hid (F2_90.out.below hb); have F3_15 := Lib.hid (F3_90.out.below hb); have F4_15 := Lib.hid (F4_90.out.below hb); have F5_15 := Lib.hid (F5_90.out.below hb); have F6_15 := Lib.hid (F6_90.out.below hb); have F7_15 := Lib.hid (F7_90.out.below hb); have F8_15 := Lib.hid ho.at; have H8 := Lib.hid hr; have LN8 := Lib.hid hr.line; have LE8 : Hid (S8.length ≤ 100000) := Lib.hid (by have := hr.len; have := LBx.out; omega); have LB8 : Hid (S8.length ≤ 62) := Lib.hid (by have := hr.len; have := LBx.out; omega); have HU15 := Lib.hid (show Below wd.heap.size wd w15 from hb); clear ho hr hb hb0)
          | (go_at_call 36; (with_reducible refine (Cam.out _ u8 S8 F8_15.out LN8.out LE8.out).mono ?_); rintro e w16 ⟨u9, S9, rfl, ho, hr, hb0⟩; have hb : Below w15.heap.size w15 w16 := hb0; have Fx_16 := Lib.hid (Fx_15.out.below hb); have F1_16 := Lib.hid (F1_15.out.below hb); have F2_16 := Lib.hid (F2_15.out.below hb); have F3_16 := Lib.hid (F3_15.out.below hb); have F4_16 := Lib.hid (F4_15.out.below hb); have F5_16 := Lib.hid (F5_15.out.below hb); have F6_16 := Lib.hid (F6_15.out.below hb); have F7_16 := Lib.hid (F7_15.out.below hb); have F8_16 := Lib.hid (F8_15.out.below hb); have F9_16 := Lib.hid ho.at; have H9 := Lib.hid hr; have LN9 := Lib.hid hr.line; have LE9 : Hid (S9.length ≤ 100000) := Lib.hid (by have := hr.len; have := LB8.out; omega); have LB9 : Hid (S9.length ≤ 64) := Lib.hid (by have := hr.len; have := LB8.out; omega); have HU16 := Lib.hid (show Below wd.heap.size wd w16 from HU15.out.trans (hb.mono HU15.out.size)); clear ho hr hb hb0)
          | fail)
      go_upto_region 17 with fail
      have HBe := Lib.hid (HBd.out.trans (HU16.out.mono HBd.out.size))
      go_wp2_with (go_at_call 18; (with_reducible refine ((pSame_any u1 u9 S1 S9 _ F1_16.out F9_16.out (line_wm LN1.out) (line_wm LN9.out)).mono fun _ _ h => h.yes (Pl.set_parts none_ok ⟨hmN.out.1, by have := hmN.out.2; omega⟩ H1.out H8.out H9.out)).mono ?_); rintro e w17 ⟨rfl, hb⟩; have Fx_17 := Lib.hid (Fx_16.out.below hb); have F1_17 := Lib.hid (F1_16.out.below hb); have F2_17 := Lib.hid (F2_16.out.below hb); have F3_17 := Lib.hid (F3_16.out.below hb); have F4_17 := Lib.hid (F4_16.out.below hb); have F5_17 := Lib.hid (F5_16.out.below hb); have F6_17 := Lib.hid (F6_16.out.below hb); have F7_17 := Lib.hid (F7_16.out.below hb); have F8_17 := Lib.hid (F8_16.out.below hb); have F9_17 := Lib.hid (F9_16.out.below hb); have HU17 := Lib.hid (show Below w16.heap.size w16 w17 from hb); clear hb)
      go_ret
      exact ⟨rfl, HBe.out.trans (HU17.out.mono HBe.out.size)⟩
  case pos =>
    subst hz
    have hd := Lib.hid (meet_no HM.out hnM HF.out.1.2 HF.out.2.2)
    go_wp2_with (go_at_call 18; (with_reducible refine ((pSame_any u5 u7 S5 S7 _ F5_14.out F7_14.out (line_wm LN5.out) (line_wm LN7.out)).mono fun _ _ h => h.yes (Pl.set_swap none_ok hd.out H1.out H5.out H6.out H7.out)).mono ?_); rintro e w15 ⟨rfl, hb⟩; have Fx_15 := Lib.hid (Fx_14.out.below hb); have F1_15 := Lib.hid (F1_14.out.below hb); have F2_15 := Lib.hid (F2_14.out.below hb); have F3_15 := Lib.hid (F3_14.out.below hb); have F4_15 := Lib.hid (F4_14.out.below hb); have F5_15 := Lib.hid (F5_14.out.below hb); have F6_15 := Lib.hid (F6_14.out.below hb); have F7_15 := Lib.hid (F7_14.out.below hb); have HU15 := Lib.hid (show Below w14.heap.size w14 w15 from hb); clear hb)
    have HU15 := Lib.hid (HU14.out.trans (HU15.out.mono HU14.out.size))
    go_upto_region 13 with fail
    have X15 := Lib.hid (X13.out.below HU15.out)
    have Y15 := Lib.hid (Y13.out.below HU15.out)
    have HB15 := Lib.hid (HB13.out.trans (HU15.out.mono HB13.out.size))
    have x0 := X15.out.c
    have hab := HF.out.1.1
    have hb40 := HF.out.1.2
    have ha0 := WX.out.2.1
    have hat := HAT.out
    have hm0 : 0 ≤ at_.tmod (b - a) := Int.tmod_nonneg _ hat
    have hm1 : at_.tmod (b - a) < b - a := Int.tmod_lt_of_pos _ (by omega)
    have hw1 : IntKind.u64.wrap (b - a) = b - a := IntWalk.u64_in _ (by omega)
    have hw2 : IntKind.u64.wrap (at_.tmod (b - a)) = at_.tmod (b - a) := IntWalk.u64_in _ (by omega)
    have hw3 : IntKind.u64.wrap (a + at_.tmod (b - a)) = a + at_.tmod (b - a) := IntWalk.u64_in _ (by omega)
    have hne : ¬ b - a = 0 := by omega
    have hne2 : (b - a == 0) = false := by rw [beq_eq_false_iff_ne]; omega
    have K0 : Hid (∀ w', Below w15.heap.size w15 w' → (∀ j, w'.cell? ⟨pa, j, none⟩ = #[Value.int .u64 a, .int .u64 b, .int .i64 kk, .bool vb, .int .i64 n, .float .f64 f, .string s][j]?) ∧ (∀ j, w'.cell? ⟨pb, j, none⟩ = #[Value.int .u64 a', .int .u64 b', .int .i64 kk', .bool vb', .int .i64 n', .float .f64 f', .string s'][j]?)) := Lib.hid fun w' hb => ⟨(X15.out.below hb).c, (Y15.out.below hb).c⟩
    go_region_held3 (fun w' => (∀ j, w'.cell? ⟨pa, j, none⟩ = #[Value.int .u64 a, .int .u64 b, .int .i64 kk, .bool vb, .int .i64 n, .float .f64 f, .string s][j]?) ∧ (∀ j, w'.cell? ⟨pb, j, none⟩ = #[Value.int .u64 a', .int .u64 b', .int .i64 kk', .bool vb', .int .i64 n', .float .f64 f', .string s'][j]?)) (exact K0.out _ (Below.refl _ _).drew) (fail)
    go_upto_region 14 with fail
    have hD : Below w15.heap.size w15 w15.drew := (Below.refl _ _).drew
    obtain ⟨wd, hwd⟩ : ∃ W, w15.drew = W := ⟨_, rfl⟩
    rw [hwd] at hD
    try rw [hwd]
    clear hwd K0 x0
    have Xd := Lib.hid (X15.out.below hD)
    have Yd := Lib.hid (Y15.out.below hD)
    have HBd := Lib.hid (HB15.out.trans (hD.mono HB15.out.size))
    have Fx_90 := Lib.hid (Fx_15.out.below hD)
    have F1_90 := Lib.hid (F1_15.out.below hD)
    have F2_90 := Lib.hid (F2_15.out.below hD)
    have F3_90 := Lib.hid (F3_15.out.below hD)
    have F4_90 := Lib.hid (F4_15.out.below hD)
    have F5_90 := Lib.hid (F5_15.out.below hD)
    have F6_90 := Lib.hid (F6_15.out.below hD)
    have F7_90 := Lib.hid (F7_15.out.below hD)
    obtain ⟨m, hm⟩ : ∃ m, a + at_.tmod (b - a) = m := ⟨_, rfl⟩
    rw [hm]
    have hmb : a ≤ m ∧ m < b := by omega
    have hmN := Lib.hid hmb
    clear hm hm0 hm1 hw1 hw2 hw3 hne hne2 hab hb40 ha0 hat hD
    have x0 := Xd.out.c
    by_cases hma : m = a
    · clear hmb
      go_wp2_with fail
      go_ret
      exact ⟨rfl, HBd.out⟩
    · have Cma := Lib.hid (fun W sv l (h : SL W sv l) (hL : Pl.Line okV l) (hl : l.length ≤ 100000) => Twice1_any sv l m b ⟨kk, vb, n, f, s⟩ W h hL ⟨hmb.2, HF.out.1.2⟩ GA.out.2 WX.out.1 hl)
      have Cam := Lib.hid (fun W sv l (h : SL W sv l) (hL : Pl.Line okV l) (hl : l.length ≤ 100000) => Twice1_any sv l a m ⟨kk, vb, n, f, s⟩ W h hL ⟨by omega, by have := HF.out.1.2; omega⟩ GA.out.2 WX.out.1 hl)
      clear hmb
      go_upto_region 16 with fail
      clear hma x0
      have K0 : Hid (∀ w', Below wd.heap.size wd w' → (∀ j, w'.cell? ⟨pa, j, none⟩ = #[Value.int .u64 a, .int .u64 b, .int .i64 kk, .bool vb, .int .i64 n, .float .f64 f, .string s][j]?) ∧ (∀ j, w'.cell? ⟨pb, j, none⟩ = #[Value.int .u64 a', .int .u64 b', .int .i64 kk', .bool vb', .int .i64 n', .float .f64 f', .string s'][j]?)) := Lib.hid fun w' hb => ⟨(Xd.out.below hb).c, (Yd.out.below hb).c⟩
      go_region_held3 (fun w' => (∀ j, w'.cell? ⟨pa, j, none⟩ = #[Value.int .u64 a, .int .u64 b, .int .i64 kk, .bool vb, .int .i64 n, .float .f64 f, .string s][j]?) ∧ (∀ j, w'.cell? ⟨pb, j, none⟩ = #[Value.int .u64 a', .int .u64 b', .int .i64 kk', .bool vb', .int .i64 n', .float .f64 f', .string s'][j]?)) (first
          | exact K0.out _ (Below.refl _ _).drew
          | exact K0.out _ HU17.out
          | exact K0.out _ HU16.out
          | fail) (first
          | (go_at_call 36; (with_reducible refine (Cma.out _ ux R (Fx_90.out.below (Below.refl _ _).drew) LNx.out LEx.out).mono ?_); rintro e w16 ⟨u8, S8, rfl, ho, hr, hb0⟩; have hb : Below wd.heap.size wd w16 := (Below.refl _ _).drew.trans hb0; have Fx_16 := Lib.hid (Fx_90.out.below hb); have F1_16 := Lib.hid (F1_90.out.below hb); have F2_16 := Lib.hid (F2_90.out.below hb); have F3_16 := Lib.hid (F3_90.out.below hb); have F4_16 := Lib.hid (F4_90.out.below hb); have F5_16 := Lib.hid (F5_90.out.below hb); have F6_16 := Lib.hid (F6_90.out.below hb); have F7_16 := Lib.hid (F7_90.out.below hb); have F8_16 := Lib.hid ho.at; have H8 := Lib.hid hr; have LN8 := Lib.hid hr.line; have LE8 : Hid (S8.length ≤ 100000) := Lib.hid (by have := hr.len; have := LBx.out; omega); have LB8 : Hid (S8.length ≤ 62) := Lib.hid (by have := hr.len; have := LBx.out; omega); have HU16 := Lib.hid (show Below wd.heap.size wd w16 from hb); clear ho hr hb hb0)
          | (go_at_call 36; (with_reducible refine (Cam.out _ u8 S8 F8_16.out LN8.out LE8.out).mono ?_); rintro e w17 ⟨u9, S9, rfl, ho, hr, hb0⟩; have hb : Below w16.heap.size w16 w17 := hb0; have Fx_17 := Lib.hid (Fx_16.out.below hb); have F1_17 := Lib.hid (F1_16.out.below hb); have F2_17 := Lib.hid (F2_16.out.below hb); have F3_17 := Lib.hid (F3_16.out.below hb); have F4_17 := Lib.hid (F4_16.out.below hb); have F5_17 := Lib.hid (F5_16.out.below hb); have F6_17 := Lib.hid (F6_16.out.below hb); have F7_17 := Lib.hid (F7_16.out.below hb); have F8_17 := Lib.hid (F8_16.out.below hb); have F9_17 := Lib.hid ho.at; have H9 := Lib.hid hr; have LN9 := Lib.hid hr.line; have LE9 : Hid (S9.length ≤ 100000) := Lib.hid (by have := hr.len; have := LB8.out; omega); have LB9 : Hid (S9.length ≤ 64) := Lib.hid (by have := hr.len; have := LB8.out; omega); have HU17 := Lib.hid (show Below wd.heap.size wd w17 from HU16.out.trans (hb.mono HU16.out.size)); clear ho hr hb hb0)
          | fail)
      go_upto_region 17 with fail
      have HBe := Lib.hid (HBd.out.trans (HU17.out.mono HBd.out.size))
      go_wp2_with (go_at_call 18; (with_reducible refine ((pSame_any u1 u9 S1 S9 _ F1_17.out F9_17.out (line_wm LN1.out) (line_wm LN9.out)).mono fun _ _ h => h.yes (Pl.set_parts none_ok ⟨hmN.out.1, by have := hmN.out.2; omega⟩ H1.out H8.out H9.out)).mono ?_); rintro e w18 ⟨rfl, hb⟩; have Fx_18 := Lib.hid (Fx_17.out.below hb); have F1_18 := Lib.hid (F1_17.out.below hb); have F2_18 := Lib.hid (F2_17.out.below hb); have F3_18 := Lib.hid (F3_17.out.below hb); have F4_18 := Lib.hid (F4_17.out.below hb); have F5_18 := Lib.hid (F5_17.out.below hb); have F6_18 := Lib.hid (F6_17.out.below hb); have F7_18 := Lib.hid (F7_17.out.below hb); have F8_18 := Lib.hid (F8_17.out.below hb); have F9_18 := Lib.hid (F9_17.out.below hb); have HU18 := Lib.hid (show Below w17.heap.size w17 w18 from hb); clear hb)
      go_ret
      exact ⟨rfl, HBe.out.trans (HU18.out.mono HBe.out.size)⟩
end
end Go.Proofs.YtaaekjmiapelgaaGreat

