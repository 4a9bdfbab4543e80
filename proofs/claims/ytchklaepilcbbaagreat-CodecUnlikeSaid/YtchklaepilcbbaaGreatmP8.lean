/- TakeOp. -/
import Derived.Test.YtchklaepilcbbaaGreatmP5
import Derived.Test.YtchklaepilcbbaaGreatmP7
namespace Go.Proofs.YtchklaepilcbbaaGreat
open Go.RowKit
abbrev OP.zero : OP := ⟨0, false, 0, ⟨#[]⟩, 0, 0, ⟨#[]⟩, VP.zero, 0, 0⟩
theorem oset {w : World} {p : Nat} (u v : OP) (hx : Bx w p u.cells) :
    ∃ W, w.setCells p 0 v.cells.toList = W ∧ Bx W p v.cells ∧ ∀ (B : Nat) (w0 : World), Below B w0 w → B ≤ p → Below B w0 W := by
  refine ⟨_, rfl, hx.setAll v.cells rfl, fun B w0 hb hp => ?_⟩
  obtain ⟨h1, h2, h3, h4, h5⟩ := Keeps.setAll p 0 v.cells.toList w
  have hs := hb.size
  exact ⟨h1.trans hb.os, h2.trans hb.tape, h3.trans hb.output, Nat.le_trans hs h4, fun b hlt => (h5 b (by have := hx.lt; omega) (by omega)).trans (hb.block b hlt)⟩
section
set_option maxRecDepth 100000
set_option maxHeartbeats 4000000
theorem takeOp_any (v0 : Value) (l : List UInt8) (w : World) (hv : GS w v0 l) (hl : l.length ≤ 140737488355328) :
    Calls Tryz.prog 58 #[v0, .func (.func 59) #[] #[], .func (.func 25) #[] #[]] w fun e w' => ∃ E o, e = .returned (.tuple #[OP.val o, .int .i64 (E : Nat)]) ∧ Took OP.enc (fun o => o.may ∧ o.wide) l OP.zero E o ∧ Below w.heap.size w w' := by
  obtain ⟨A0, c0, rfl, hA, hz⟩ := hv
  have hsf := store_float
  have C := Lib.hid (fun W (hb : Below w.heap.size w W) => NewL A0 l l.length c0 W (hA.below hb) hz hl rfl)
  clear hA hz hl
  go_enter Tryz.func58, Tryz.ntmps58
  go_upto_region 1 with fail
  have X0 := Lib.hid (Bx.new w OP.zero.cells 43)
  have B0 := Lib.hid ((Below.refl w.heap.size w).alloc (Nat.le_refl _) (.cells OP.zero.cells 43))
  go_upto_region 2 with (go_at_call 89; (refine (C.out _ B0.out).mono ?_); rintro e w1 ⟨g, P, c, rfl, hg, hr, hb⟩; have HG := Lib.hid hg; have R1 := Lib.hid hr; have X1 := Lib.hid (X0.out.below hb); have B1 := Lib.hid (B0.out.trans (hb.mono B0.out.size)); clear hg hr hb)
  have S2 := Lib.hid (Src.new R1.out)
  have XX := Lib.hid (X1.out.below ((Below.refl w1.heap.size w1).alloc (Nat.le_refl _) (.cells #[.pointer (some ⟨g, 0, none⟩), .bool false] 120)))
  have B2 := Lib.hid (B1.out.alloc B1.out.size (.cells #[.pointer (some ⟨g, 0, none⟩), .bool false] 120))
  have N1 := Lib.hid (show w.heap.size ≠ w1.heap.size ∧ w.heap.size ≠ g ∧ w.heap.size < w1.heap.size ∧ w.heap.size < g by have := X1.out.lt; have := HG.out; simp at this; omega)
  clear R1 X1 X0 C
  go_upto_region 3 with (go_at_call 59; (refine (source_op w1.heap.size g c 0 P l false _ S2.out).mono ?_); rintro e w2 ⟨⟨kind, edge, id, label, fr, til, key, ⟨k, b, n, f, s⟩, pf, pt⟩, rfl, hw, k2, b2, h1, h2, h3⟩; have S3 := Lib.hid h1; have F3 := Lib.hid h2; have RR := Lib.hid h3; have HW := Lib.hid hw; clear h1 h2 h3 hw)
  have X3 := Lib.hid ((XX.out.far F3.out N1.out.1 N1.out.2.1).below ((Below.refl w2.heap.size w2).alloc (Nat.le_refl _) (.cells (OP.cells ⟨kind, edge, id, label, fr, til, key, ⟨k, b, n, f, s⟩, pf, pt⟩) 43)))
  have V3 := Lib.hid (Bx.new w2 (OP.cells ⟨kind, edge, id, label, fr, til, key, ⟨k, b, n, f, s⟩, pf, pt⟩) 43)
  have S4 := Lib.hid (S3.out.below ((Below.refl w2.heap.size w2).alloc (Nat.le_refl _) (.cells (OP.cells ⟨kind, edge, id, label, fr, til, key, ⟨k, b, n, f, s⟩, pf, pt⟩) 43)))
  have B3 := Lib.hid (B2.out.trans ((F3.out.below (B := w.heap.size) (Nat.le_of_lt N1.out.2.2.1) (Nat.le_of_lt N1.out.2.2.2) B2.out.size).alloc (Nat.le_trans B2.out.size F3.out.size) (.cells (OP.cells ⟨kind, edge, id, label, fr, til, key, ⟨k, b, n, f, s⟩, pf, pt⟩) 43)))
  have N2 := Lib.hid (show w2.heap.size ≠ w1.heap.size ∧ w2.heap.size ≠ g by have := S3.out.lt; have := S3.out.ltg; omega)
  have q0 := S4.out.c0
  go_upto_region 4 with (first
    | (go_at_call 91; (refine (End_any g k2 c P l _ S4.out.rd).mono ?_); rintro e w3 ⟨E1, rfl, hE, hb⟩; have HE := Lib.hid hE; have B4 := Lib.hid hb; have S5 := Lib.hid (S4.out.below hb); clear hE hb)
    | (go_at_call 90; (refine (note_any w1.heap.size g c k2 P l b2 E1 _ S5.out).mono ?_); rintro e w4 ⟨rfl, h2, h3⟩; have S6 := Lib.hid h2; have F6 := Lib.hid h3; clear h2 h3))
  have X4 := Lib.hid ((X3.out.below B4.out).far F6.out N1.out.1 N1.out.2.1)
  have V4 := Lib.hid ((V3.out.below B4.out).far F6.out N2.out.1 N2.out.2)
  have B5 : Hid (Below w.heap.size w w4) := Lib.hid (B3.out.trans ((B4.out.mono B3.out.size).trans (F6.out.below (Nat.le_of_lt N1.out.2.2.1) (Nat.le_of_lt N1.out.2.2.2) (Nat.le_trans B3.out.size B4.out.size))))
  have CM := Lib.hid (fun W => MayOp_any ⟨kind, edge, id, label, fr, til, key, ⟨k, b, n, f, s⟩, pf, pt⟩ HW.out.2.2.2.2.2.2.1.2.2.1 W)
  have q1 := S6.out.c1
  generalize hq : badE b2 E1 = q at *
  have HQ := Lib.hid hq
  clear q0 hq XX X3 V3 S2 S3 S4 S5
  cases q
  case true =>
    have X5 := Lib.hid (X4.out.below ((Below.refl w4.heap.size w4).alloc (Nat.le_refl _) (.cells OP.zero.cells 43)))
    have Z5 := Lib.hid (Bx.new w4 OP.zero.cells 43)
    have B6 := Lib.hid (B5.out.alloc B5.out.size (.cells OP.zero.cells 43))
    as_aux_lemma =>
    go_upto_region 6 with fail
    generalize hW : w4.alloc (.cells #[.int .i64 0, .bool false, .int .u64 0, .string ⟨#[]⟩, .int .u64 0, .int .u64 0, .string ⟨#[]⟩, .int .i64 0, .bool false, .int .i64 0, .float .f64 0, .string ⟨#[]⟩, .int .u64 0, .int .u64 0] 43) = W5
    replace X5 : Hid (Bx W5 w.heap.size OP.zero.cells) := by rw [← hW]; exact X5
    replace Z5 : Hid (Bx W5 w4.heap.size OP.zero.cells) := by rw [← hW]; exact Z5
    replace B6 : Hid (Below w.heap.size w W5) := by rw [← hW]; exact B6
    clear hW
    have t5 : W5.there w.heap.size 0 14 := X5.out.there
    have r5 : W5.rangeAt w4.heap.size 0 [.int .i64 0, .bool false, .int .u64 0, .string ⟨#[]⟩, .int .u64 0, .int .u64 0, .string ⟨#[]⟩, .int .i64 0, .bool false, .int .i64 0, .float .f64 0, .string ⟨#[]⟩, .int .u64 0, .int .u64 0] := Z5.out.range
    have O5 := Lib.hid (oset _ OP.zero X5.out)
    go_wp2_with (first
      | refine wpList_load_mid rfl 43 (.tmp 10) rfl w4.heap.size 0 rfl _ _ r5 Tryz.underlying43 rfl isRowOp ?_
      | (refine wpList_store_mid rfl 43 (.tmp 6) (.tmp 35) rfl w.heap.size 0 #[.int .i64 0, .bool false, .int .u64 0, .string ⟨#[]⟩, .int .u64 0, .int .u64 0, .string ⟨#[]⟩, .int .i64 0, .bool false, .int .i64 0, .float .f64 0, .string ⟨#[]⟩, .int .u64 0, .int .u64 0] rfl rfl t5 isRowOp (by kernel_rfl) ?_; obtain ⟨W6, hW, x6, b6⟩ := O5.out; replace hW : W5.setCells w.heap.size 0 (#[.int .i64 0, .bool false, .int .u64 0, .string ⟨#[]⟩, .int .u64 0, .int .u64 0, .string ⟨#[]⟩, .int .i64 0, .bool false, .int .i64 0, .float .f64 0, .string ⟨#[]⟩, .int .u64 0, .int .u64 0] : Array Value).toList = W6 := hW; rw [hW]; have X7 := Lib.hid x6; have B9 := Lib.hid b6; clear hW x6 b6 t5 r5))
    refine bodyPost_ret (v := .tuple #[OP.val OP.zero, .int .i64 5]) (by simp [results, Tryz.results58, go_sem, X7.out.c]) rfl ?_
    exact ⟨5, _, rfl, Took.bad RR.out HE.out HQ.out, B9.out _ _ B6.out (Nat.le_refl _)⟩
  have q4 := V4.out.c
  go_upto_if 34 with ((go_at_call 25; (with_reducible refine (CM.out _).mono ?_); rintro e w5 ⟨m, rfl, hm, hb⟩; have HM := Lib.hid hm; have B6 := Lib.hid hb; have X5 := Lib.hid (X4.out.below hb); have V5 := Lib.hid (V4.out.below hb); clear hm hb q4))
  cases m
  case false =>
    as_aux_lemma =>
    have B7 := Lib.hid (B5.out.trans (B6.out.mono B5.out.size))
    have X6 := Lib.hid (X5.out.below ((Below.refl w5.heap.size w5).alloc (Nat.le_refl _) (.cells OP.zero.cells 43)))
    have Z5 := Lib.hid (Bx.new w5 OP.zero.cells 43)
    have B8 := Lib.hid (B7.out.alloc B7.out.size (.cells OP.zero.cells 43))
    go_upto_region 6 with fail
    generalize hW : w5.alloc (.cells #[.int .i64 0, .bool false, .int .u64 0, .string ⟨#[]⟩, .int .u64 0, .int .u64 0, .string ⟨#[]⟩, .int .i64 0, .bool false, .int .i64 0, .float .f64 0, .string ⟨#[]⟩, .int .u64 0, .int .u64 0] 43) = W5
    replace X6 : Hid (Bx W5 w.heap.size OP.zero.cells) := by rw [← hW]; exact X6
    replace Z5 : Hid (Bx W5 w5.heap.size OP.zero.cells) := by rw [← hW]; exact Z5
    replace B8 : Hid (Below w.heap.size w W5) := by rw [← hW]; exact B8
    clear hW
    have t5 : W5.there w.heap.size 0 14 := X6.out.there
    have r5 : W5.rangeAt w5.heap.size 0 [.int .i64 0, .bool false, .int .u64 0, .string ⟨#[]⟩, .int .u64 0, .int .u64 0, .string ⟨#[]⟩, .int .i64 0, .bool false, .int .i64 0, .float .f64 0, .string ⟨#[]⟩, .int .u64 0, .int .u64 0] := Z5.out.range
    have O5 := Lib.hid (oset _ OP.zero X6.out)
    go_wp2_with (first
      | refine wpList_load_mid rfl 43 (.tmp 10) rfl w5.heap.size 0 rfl _ _ r5 Tryz.underlying43 rfl isRowOp ?_
      | (refine wpList_store_mid rfl 43 (.tmp 6) (.tmp 35) rfl w.heap.size 0 #[.int .i64 0, .bool false, .int .u64 0, .string ⟨#[]⟩, .int .u64 0, .int .u64 0, .string ⟨#[]⟩, .int .i64 0, .bool false, .int .i64 0, .float .f64 0, .string ⟨#[]⟩, .int .u64 0, .int .u64 0] rfl rfl t5 isRowOp (by kernel_rfl) ?_; obtain ⟨W6, hW, x6, b6⟩ := O5.out; replace hW : W5.setCells w.heap.size 0 (#[.int .i64 0, .bool false, .int .u64 0, .string ⟨#[]⟩, .int .u64 0, .int .u64 0, .string ⟨#[]⟩, .int .i64 0, .bool false, .int .i64 0, .float .f64 0, .string ⟨#[]⟩, .int .u64 0, .int .u64 0] : Array Value).toList = W6 := hW; rw [hW]; have X7 := Lib.hid x6; have B9 := Lib.hid b6; clear hW x6 b6 t5 r5))
    refine bodyPost_ret (v := .tuple #[OP.val OP.zero, .int .i64 5]) (by simp [results, Tryz.results58, go_sem, X7.out.c]) rfl ?_
    exact ⟨5, _, rfl, Took.no RR.out (fun h => (by have := HM.out.2 h.1; cases this)), B9.out _ _ B8.out (Nat.le_refl _)⟩
  as_aux_lemma =>
  have t5 : w5.there w.heap.size 0 14 := X5.out.there
  have r5 : w5.rangeAt w2.heap.size 0 [.int .i64 kind, .bool edge, .int .u64 (id : Int), .string label, .int .u64 (fr : Int), .int .u64 (til : Int), .string key, .int .i64 k, .bool b, .int .i64 n, .float .f64 f, .string s, .int .u64 (pf : Int), .int .u64 (pt : Int)] := V5.out.range
  have O5 := Lib.hid (oset _ (OP.mk kind edge id label fr til key ⟨k, b, n, f, s⟩ pf pt) X5.out)
  go_wp2_with (first
    | refine wpList_load_mid rfl 43 (.tmp 9) rfl w2.heap.size 0 rfl _ _ r5 Tryz.underlying43 rfl isRowOp ?_
    | (refine wpList_store_mid rfl 43 (.tmp 6) (.tmp 36) rfl w.heap.size 0 #[.int .i64 kind, .bool edge, .int .u64 (id : Int), .string label, .int .u64 (fr : Int), .int .u64 (til : Int), .string key, .int .i64 k, .bool b, .int .i64 n, .float .f64 f, .string s, .int .u64 (pf : Int), .int .u64 (pt : Int)] rfl rfl t5 isRowOp (by kernel_rfl) ?_; obtain ⟨W6, hW, x6, b6⟩ := O5.out; replace hW : w5.setCells w.heap.size 0 (#[.int .i64 kind, .bool edge, .int .u64 (id : Int), .string label, .int .u64 (fr : Int), .int .u64 (til : Int), .string key, .int .i64 k, .bool b, .int .i64 n, .float .f64 f, .string s, .int .u64 (pf : Int), .int .u64 (pt : Int)] : Array Value).toList = W6 := hW; rw [hW]; have X7 := Lib.hid x6; have B9 := Lib.hid b6; clear hW x6 b6 t5 r5))
  refine bodyPost_ret (v := .tuple #[OP.val (OP.mk kind edge id label fr til key ⟨k, b, n, f, s⟩ pf pt), .int .i64 0]) (by simp [results, Tryz.results58, go_sem, X7.out.c]) rfl ?_
  exact ⟨0, _, rfl, Took.ok RR.out HE.out HQ.out ⟨HM.out.1 (by simp), HW.out⟩, B9.out _ _ (B5.out.trans (B6.out.mono B5.out.size)) (Nat.le_refl _)⟩
theorem TakeOp_any (v0 : Value) (l : List UInt8) (w : World) (hv : GS w v0 l) (hl : l.length ≤ 140737488355328) :
    Calls Tryz.prog 20 #[v0] w fun e w' => ∃ E o, e = .returned (.tuple #[OP.val o, .int .i64 (E : Nat)]) ∧ Took OP.enc (fun o => o.may ∧ o.wide) l OP.zero E o ∧ Below w.heap.size w w' := by
  have hsf := store_float
  have C := Lib.hid (fun W (hb : Below w.heap.size w W) => takeOp_any v0 l W (hv.below hb) hl)
  clear hv hl
  go_enter Tryz.func20, Tryz.ntmps20
  have X0 := Lib.hid (Bx.new w OP.zero.cells 43)
  have B0 := Lib.hid ((Below.refl w.heap.size w).alloc (Nat.le_refl _) (.cells OP.zero.cells 43))
  go_wp2_with (first
    | (go_at_call 58; (refine (C.out _ B0.out).mono ?_); rintro e w1 ⟨E, ⟨kind, edge, id, label, fr, til, key, ⟨k, b, n, f, s⟩, pf, pt⟩, rfl, ht, hb⟩; have HT := Lib.hid ht; have X1 := Lib.hid (X0.out.below hb); have B1 := Lib.hid (B0.out.trans (hb.mono B0.out.size)); have O5 := Lib.hid (oset _ (OP.mk kind edge id label fr til key ⟨k, b, n, f, s⟩ pf pt) X1.out); have t5 : w1.there w.heap.size 0 14 := X1.out.there; clear ht hb)
    | (refine wpList_store_mid rfl 43 (.tmp 2) (.tmp 6) rfl w.heap.size 0 #[.int .i64 kind, .bool edge, .int .u64 (id : Int), .string label, .int .u64 (fr : Int), .int .u64 (til : Int), .string key, .int .i64 k, .bool b, .int .i64 n, .float .f64 f, .string s, .int .u64 (pf : Int), .int .u64 (pt : Int)] rfl rfl t5 isRowOp (by kernel_rfl) ?_; obtain ⟨W6, hW, x6, b6⟩ := O5.out; replace hW : w1.setCells w.heap.size 0 (#[.int .i64 kind, .bool edge, .int .u64 (id : Int), .string label, .int .u64 (fr : Int), .int .u64 (til : Int), .string key, .int .i64 k, .bool b, .int .i64 n, .float .f64 f, .string s, .int .u64 (pf : Int), .int .u64 (pt : Int)] : Array Value).toList = W6 := hW; rw [hW]; have X7 := Lib.hid x6; have B9 := Lib.hid b6; clear hW x6 b6 t5))
  refine bodyPost_ret (v := .tuple #[OP.val (OP.mk kind edge id label fr til key ⟨k, b, n, f, s⟩ pf pt), .int .i64 (E : Nat)]) (by simp [results, Tryz.results20, go_sem, X7.out.c]) rfl ?_
  exact ⟨E, _, rfl, HT.out, B9.out _ _ B1.out (Nat.le_refl _)⟩
end
end Go.Proofs.YtchklaepilcbbaaGreat
