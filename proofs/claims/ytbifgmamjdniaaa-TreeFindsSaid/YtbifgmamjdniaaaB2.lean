/- refresh. -/
import Derived.Test.YtbifgmamjdniaaaB1
import Derived.BigRegion
namespace Go.Proofs.Ytbifgmamjdniaaa
open Go.RowKit
open Itree (E T dep endT bs ord sz nodes lean rotL rotR bal ins del hasT first AVL Srt eachL over)
def mxI (a b : Int) : Int := if a < b then b else a
theorem index_0 (c0 c1 : Value) (w : World) : (Instr.index 94 (.agg #[c0, c1]) (.int .i64 0)).run Try.prog w = .ok c0 w := by kernel_rfl
theorem index_1 (c0 c1 : Value) (w : World) : (Instr.index 94 (.agg #[c0, c1]) (.int .i64 1)).run Try.prog w = .ok c1 w := by kernel_rfl
set_option maxRecDepth 100000 in
set_option maxHeartbeats 1000000 in
theorem refresh_none (k : Nat) (e : E) (lv en : Int) (w : World) (hn : NodeAt w k e none none lv en) :
    Calls Try.prog 59 #[.pointer (some ⟨k, 0, none⟩)] w fun e' w' => (∃ v, e' = .returned v) ∧ NodeAt w' k e none none 1 e.b ∧ But [k] w w' := by
  have c1 := hn.c1
  have c5 := hn.c5
  have c6 := hn.c6
  have fr := hn.fr
  have N1 := (hn.set5 1).set6 e.b
  have B1 : But [k] w ((w.setCell ⟨k, 5, none⟩ (.int .i64 1)).setCell ⟨k, 6, none⟩ (.int .u64 e.b)) := ((But.refl _ _).set (by simp) _).set (by simp) _
  obtain ⟨W, hW⟩ : ∃ W, (w.setCell ⟨k, 5, none⟩ (.int .i64 1)).setCell ⟨k, 6, none⟩ (.int .u64 e.b) = W := ⟨_, rfl⟩
  rw [hW] at N1 B1
  have d3 := N1.c3
  have d4 := N1.c4
  have G := Lib.hid (And.intro N1 B1)
  clear hn N1 B1
  have hi0 := index_0
  have hi1 := index_1
  go_enter Try.func59, Try.ntmps59
  go_upto_region 1 with fail
  try rw [hW]
  clear hW
  clear c1 c5 c6 fr
  go_region
  all_goals (
    obtain ⟨N2, B2⟩ := G.out
    clear G
    replace N2 : NodeAt W.drew k e none none 1 e.b := N2.below (Below.refl _ _).drew
    replace B2 := B2.drew
    clear d3 d4
    generalize W.drew = V at *
    clear W
    go_wp2
    refine wp_loop_rounds 3 ?_
    rw [rounds_succ]
    go_wp2
    rw [rounds_succ]
    go_wp2
    rw [rounds_succ]
    go_wp2
    go_end0
    exact ⟨⟨_, rfl⟩, N2, B2⟩)
set_option maxRecDepth 100000 in
set_option maxHeartbeats 1000000 in
theorem refresh_left (k : Nat) (e : E) (lv en : Int) (w : World) (a : Nat) (hn : NodeAt w k e (some ⟨a, 0, none⟩) none lv en) (d x : Int) (ha : a ≠ k) (hal : a < w.heap.size) (a5 : w.cell? ⟨a, 5, none⟩ = some (.int .i64 d)) (a6 : w.cell? ⟨a, 6, none⟩ = some (.int .u64 x)) (hd : 0 ≤ d ∧ d ≤ 1000000) :
    Calls Try.prog 59 #[.pointer (some ⟨k, 0, none⟩)] w fun e' w' => (∃ v, e' = .returned v) ∧ NodeAt w' k e (some ⟨a, 0, none⟩) none (mxI 1 (d + 1)) (mxI e.b x) ∧ But [k] w w' := by
  have c1 := hn.c1
  have c5 := hn.c5
  have c6 := hn.c6
  have fr := hn.fr
  have N1 := (hn.set5 1).set6 e.b
  have B1 : But [k] w ((w.setCell ⟨k, 5, none⟩ (.int .i64 1)).setCell ⟨k, 6, none⟩ (.int .u64 e.b)) := ((But.refl _ _).set (by simp) _).set (by simp) _
  obtain ⟨W, hW⟩ : ∃ W, (w.setCell ⟨k, 5, none⟩ (.int .i64 1)).setCell ⟨k, 6, none⟩ (.int .u64 e.b) = W := ⟨_, rfl⟩
  rw [hW] at N1 B1
  have d3 := N1.c3
  have d4 := N1.c4
  have a5w := (B1.cell a 5 hal (by simpa using ha)).trans a5
  have a6w := (B1.cell a 6 hal (by simpa using ha)).trans a6
  have G := Lib.hid (And.intro N1 B1)
  clear hn N1 B1
  clear a5 a6
  have hi0 := index_0
  have hi1 := index_1
  go_enter Try.func59, Try.ntmps59
  go_upto_region 1 with fail
  try rw [hW]
  clear hW
  clear c1 c5 c6 fr
  go_region
  all_goals (
    obtain ⟨N2, B2⟩ := G.out
    clear G
    replace N2 : NodeAt W.drew k e (some ⟨a, 0, none⟩) none 1 e.b := N2.below (Below.refl _ _).drew
    replace B2 := B2.drew
    have a5v : W.drew.cell? ⟨a, 5, none⟩ = _ := a5w
    have a6v : W.drew.cell? ⟨a, 6, none⟩ = _ := a6w
    clear a5w a6w
    clear d3 d4
    generalize W.drew = V at *
    clear W
    go_wp2
    refine wp_loop_rounds 3 ?_
    rw [rounds_succ]
    have f5 := N2.c5
    have f6 := N2.c6
    have fr := N2.fr
    have hw : IntKind.i64.wrap (d + 1) = d + 1 := by rw [IntKind.wrap_i64]; omega
    have N3 := (N2.set5 (if 1 < d + 1 then d + 1 else 1)).set6 (if e.b < x then x else e.b)
    have B3 := (B2.set (p := ⟨k, 5, none⟩) (by simp) (.int .i64 (if 1 < d + 1 then d + 1 else 1))).set (p := ⟨k, 6, none⟩) (by simp) (.int .u64 (if e.b < x then x else e.b))
    obtain ⟨V2, hV2⟩ : ∃ V2, (V.setCell ⟨k, 5, none⟩ (.int .i64 (if 1 < d + 1 then d + 1 else 1))).setCell ⟨k, 6, none⟩ (.int .u64 (if e.b < x then x else e.b)) = V2 := ⟨_, rfl⟩
    rw [hV2] at N3 B3
    have G := Lib.hid (And.intro N3 B3)
    clear N2 N3 B2 B3
    go_upto_region 5 with fail
    go_region
    all_goals (
    try rw [hV2]
    obtain ⟨N2, B2⟩ := G.out
    clear G hV2 f5 f6 fr a5v a6v
    replace N2 := N2.below (Below.refl _ _).drew
    replace B2 := B2.drew
    generalize V2.drew = Ua at *
    clear V2
    clear hw
    try clear V
    obtain ⟨ma, hm⟩ : ∃ m, (if 1 < d + 1 then d + 1 else 1) = m := ⟨_, rfl⟩
    obtain ⟨na, hn⟩ : ∃ n, (if e.b < x then x else e.b) = n := ⟨_, rfl⟩
    rw [hm, hn] at N2 ⊢
    have Ma := Lib.hid (And.intro hm hn)
    clear hm hn
    go_wp2
    rw [rounds_succ]
    go_wp2
    rw [rounds_succ]
    go_wp2
    go_end0
    obtain ⟨rfl, rfl⟩ := Ma.out
    exact ⟨⟨_, rfl⟩, N2, B2⟩))
set_option maxRecDepth 100000 in
set_option maxHeartbeats 1000000 in
theorem refresh_right (k : Nat) (e : E) (lv en : Int) (w : World) (b : Nat) (hn : NodeAt w k e none (some ⟨b, 0, none⟩) lv en) (d2 x2 : Int) (hb : b ≠ k) (hbl : b < w.heap.size) (b5 : w.cell? ⟨b, 5, none⟩ = some (.int .i64 d2)) (b6 : w.cell? ⟨b, 6, none⟩ = some (.int .u64 x2)) (hd2 : 0 ≤ d2 ∧ d2 ≤ 1000000) :
    Calls Try.prog 59 #[.pointer (some ⟨k, 0, none⟩)] w fun e' w' => (∃ v, e' = .returned v) ∧ NodeAt w' k e none (some ⟨b, 0, none⟩) (mxI 1 (d2 + 1)) (mxI e.b x2) ∧ But [k] w w' := by
  have c1 := hn.c1
  have c5 := hn.c5
  have c6 := hn.c6
  have fr := hn.fr
  have N1 := (hn.set5 1).set6 e.b
  have B1 : But [k] w ((w.setCell ⟨k, 5, none⟩ (.int .i64 1)).setCell ⟨k, 6, none⟩ (.int .u64 e.b)) := ((But.refl _ _).set (by simp) _).set (by simp) _
  obtain ⟨W, hW⟩ : ∃ W, (w.setCell ⟨k, 5, none⟩ (.int .i64 1)).setCell ⟨k, 6, none⟩ (.int .u64 e.b) = W := ⟨_, rfl⟩
  rw [hW] at N1 B1
  have d3 := N1.c3
  have d4 := N1.c4
  have b5w := (B1.cell b 5 hbl (by simpa using hb)).trans b5
  have b6w := (B1.cell b 6 hbl (by simpa using hb)).trans b6
  have G := Lib.hid (And.intro N1 B1)
  clear hn N1 B1
  clear b5 b6
  have hi0 := index_0
  have hi1 := index_1
  go_enter Try.func59, Try.ntmps59
  go_upto_region 1 with fail
  try rw [hW]
  clear hW
  clear c1 c5 c6 fr
  go_region
  all_goals (
    obtain ⟨N2, B2⟩ := G.out
    clear G
    replace N2 : NodeAt W.drew k e none (some ⟨b, 0, none⟩) 1 e.b := N2.below (Below.refl _ _).drew
    replace B2 := B2.drew
    have b5v : W.drew.cell? ⟨b, 5, none⟩ = _ := b5w
    have b6v : W.drew.cell? ⟨b, 6, none⟩ = _ := b6w
    clear b5w b6w
    clear d3 d4
    generalize W.drew = V at *
    clear W
    go_wp2
    refine wp_loop_rounds 3 ?_
    rw [rounds_succ]
    go_wp2
    rw [rounds_succ]
    have f5 := N2.c5
    have f6 := N2.c6
    have fr := N2.fr
    have hw : IntKind.i64.wrap (d2 + 1) = d2 + 1 := by rw [IntKind.wrap_i64]; omega
    have N3 := (N2.set5 (if 1 < d2 + 1 then d2 + 1 else 1)).set6 (if e.b < x2 then x2 else e.b)
    have B3 := (B2.set (p := ⟨k, 5, none⟩) (by simp) (.int .i64 (if 1 < d2 + 1 then d2 + 1 else 1))).set (p := ⟨k, 6, none⟩) (by simp) (.int .u64 (if e.b < x2 then x2 else e.b))
    obtain ⟨V2, hV2⟩ : ∃ V2, (V.setCell ⟨k, 5, none⟩ (.int .i64 (if 1 < d2 + 1 then d2 + 1 else 1))).setCell ⟨k, 6, none⟩ (.int .u64 (if e.b < x2 then x2 else e.b)) = V2 := ⟨_, rfl⟩
    rw [hV2] at N3 B3
    have G := Lib.hid (And.intro N3 B3)
    clear N2 N3 B2 B3
    go_upto_region 5 with fail
    go_region
    all_goals (
    try rw [hV2]
    obtain ⟨N2, B2⟩ := G.out
    clear G hV2 f5 f6 fr b5v b6v
    replace N2 := N2.below (Below.refl _ _).drew
    replace B2 := B2.drew
    generalize V2.drew = Ub at *
    clear V2
    clear hw
    try clear V
    obtain ⟨mb, hm⟩ : ∃ m, (if 1 < d2 + 1 then d2 + 1 else 1) = m := ⟨_, rfl⟩
    obtain ⟨nb, hn⟩ : ∃ n, (if e.b < x2 then x2 else e.b) = n := ⟨_, rfl⟩
    rw [hm, hn] at N2 ⊢
    have Mb := Lib.hid (And.intro hm hn)
    clear hm hn
    go_wp2
    rw [rounds_succ]
    go_wp2
    go_end0
    obtain ⟨rfl, rfl⟩ := Mb.out
    exact ⟨⟨_, rfl⟩, N2, B2⟩))
set_option maxRecDepth 100000 in
set_option maxHeartbeats 1000000 in
theorem refresh_both (k : Nat) (e : E) (lv en : Int) (w : World) (a : Nat) (b : Nat) (hn : NodeAt w k e (some ⟨a, 0, none⟩) (some ⟨b, 0, none⟩) lv en) (d x : Int) (ha : a ≠ k) (hal : a < w.heap.size) (a5 : w.cell? ⟨a, 5, none⟩ = some (.int .i64 d)) (a6 : w.cell? ⟨a, 6, none⟩ = some (.int .u64 x)) (hd : 0 ≤ d ∧ d ≤ 1000000) (d2 x2 : Int) (hb : b ≠ k) (hbl : b < w.heap.size) (b5 : w.cell? ⟨b, 5, none⟩ = some (.int .i64 d2)) (b6 : w.cell? ⟨b, 6, none⟩ = some (.int .u64 x2)) (hd2 : 0 ≤ d2 ∧ d2 ≤ 1000000) :
    Calls Try.prog 59 #[.pointer (some ⟨k, 0, none⟩)] w fun e' w' => (∃ v, e' = .returned v) ∧ NodeAt w' k e (some ⟨a, 0, none⟩) (some ⟨b, 0, none⟩) (mxI (mxI 1 (d + 1)) (d2 + 1)) (mxI (mxI e.b x) x2) ∧ But [k] w w' := by
  have c1 := hn.c1
  have c5 := hn.c5
  have c6 := hn.c6
  have fr := hn.fr
  have N1 := (hn.set5 1).set6 e.b
  have B1 : But [k] w ((w.setCell ⟨k, 5, none⟩ (.int .i64 1)).setCell ⟨k, 6, none⟩ (.int .u64 e.b)) := ((But.refl _ _).set (by simp) _).set (by simp) _
  obtain ⟨W, hW⟩ : ∃ W, (w.setCell ⟨k, 5, none⟩ (.int .i64 1)).setCell ⟨k, 6, none⟩ (.int .u64 e.b) = W := ⟨_, rfl⟩
  rw [hW] at N1 B1
  have d3 := N1.c3
  have d4 := N1.c4
  have a5w := (B1.cell a 5 hal (by simpa using ha)).trans a5
  have a6w := (B1.cell a 6 hal (by simpa using ha)).trans a6
  have b5w := (B1.cell b 5 hbl (by simpa using hb)).trans b5
  have b6w := (B1.cell b 6 hbl (by simpa using hb)).trans b6
  have G := Lib.hid (And.intro N1 B1)
  clear hn N1 B1
  clear a5 a6 b5 b6
  have hi0 := index_0
  have hi1 := index_1
  go_enter Try.func59, Try.ntmps59
  go_upto_region 1 with fail
  try rw [hW]
  clear hW
  clear c1 c5 c6 fr
  go_region
  all_goals (
    obtain ⟨N2, B2⟩ := G.out
    clear G
    replace N2 : NodeAt W.drew k e (some ⟨a, 0, none⟩) (some ⟨b, 0, none⟩) 1 e.b := N2.below (Below.refl _ _).drew
    replace B2 := B2.drew
    have a5v : W.drew.cell? ⟨a, 5, none⟩ = _ := a5w
    have a6v : W.drew.cell? ⟨a, 6, none⟩ = _ := a6w
    clear a5w a6w
    have b5v : W.drew.cell? ⟨b, 5, none⟩ = _ := b5w
    have b6v : W.drew.cell? ⟨b, 6, none⟩ = _ := b6w
    clear b5w b6w
    clear d3 d4
    generalize W.drew = V at *
    clear W
    go_wp2
    refine wp_loop_rounds 3 ?_
    rw [rounds_succ]
    have f5 := N2.c5
    have f6 := N2.c6
    have fr := N2.fr
    have hw : IntKind.i64.wrap (d + 1) = d + 1 := by rw [IntKind.wrap_i64]; omega
    have N3 := (N2.set5 (if 1 < d + 1 then d + 1 else 1)).set6 (if e.b < x then x else e.b)
    have B3 := (B2.set (p := ⟨k, 5, none⟩) (by simp) (.int .i64 (if 1 < d + 1 then d + 1 else 1))).set (p := ⟨k, 6, none⟩) (by simp) (.int .u64 (if e.b < x then x else e.b))
    have bb : But [k] V ((V.setCell ⟨k, 5, none⟩ (.int .i64 (if 1 < d + 1 then d + 1 else 1))).setCell ⟨k, 6, none⟩ (.int .u64 (if e.b < x then x else e.b))) := ((But.refl _ _).set (by simp) _).set (by simp) _
    have b5x := (bb.cell b 5 (Nat.lt_of_lt_of_le hbl B2.size) (by simpa using hb)).trans b5v
    have b6x := (bb.cell b 6 (Nat.lt_of_lt_of_le hbl B2.size) (by simpa using hb)).trans b6v
    clear bb
    obtain ⟨V2, hV2⟩ : ∃ V2, (V.setCell ⟨k, 5, none⟩ (.int .i64 (if 1 < d + 1 then d + 1 else 1))).setCell ⟨k, 6, none⟩ (.int .u64 (if e.b < x then x else e.b)) = V2 := ⟨_, rfl⟩
    rw [hV2] at N3 B3 b5x b6x
    have G := Lib.hid (And.intro N3 B3)
    clear N2 N3 B2 B3
    have G2 := Lib.hid (And.intro b5x b6x)
    clear b5x b6x b5v b6v
    go_upto_region 5 with fail
    go_region
    all_goals (
    try rw [hV2]
    obtain ⟨N2, B2⟩ := G.out
    clear G hV2 f5 f6 fr a5v a6v
    obtain ⟨b5v, b6v⟩ := G2.out
    clear G2
    replace b5v : V2.drew.cell? ⟨b, 5, none⟩ = _ := b5v
    replace b6v : V2.drew.cell? ⟨b, 6, none⟩ = _ := b6v
    replace N2 := N2.below (Below.refl _ _).drew
    replace B2 := B2.drew
    generalize V2.drew = Ua at *
    clear V2
    clear hw
    try clear V
    obtain ⟨ma, hm⟩ : ∃ m, (if 1 < d + 1 then d + 1 else 1) = m := ⟨_, rfl⟩
    obtain ⟨na, hn⟩ : ∃ n, (if e.b < x then x else e.b) = n := ⟨_, rfl⟩
    rw [hm, hn] at N2 ⊢
    have Ma := Lib.hid (And.intro hm hn)
    clear hm hn
    go_wp2
    rw [rounds_succ]
    have f5 := N2.c5
    have f6 := N2.c6
    have fr := N2.fr
    have hw : IntKind.i64.wrap (d2 + 1) = d2 + 1 := by rw [IntKind.wrap_i64]; omega
    have N3 := (N2.set5 (if ma < d2 + 1 then d2 + 1 else ma)).set6 (if na < x2 then x2 else na)
    have B3 := (B2.set (p := ⟨k, 5, none⟩) (by simp) (.int .i64 (if ma < d2 + 1 then d2 + 1 else ma))).set (p := ⟨k, 6, none⟩) (by simp) (.int .u64 (if na < x2 then x2 else na))
    obtain ⟨V2, hV2⟩ : ∃ V2, (Ua.setCell ⟨k, 5, none⟩ (.int .i64 (if ma < d2 + 1 then d2 + 1 else ma))).setCell ⟨k, 6, none⟩ (.int .u64 (if na < x2 then x2 else na)) = V2 := ⟨_, rfl⟩
    rw [hV2] at N3 B3
    have G := Lib.hid (And.intro N3 B3)
    clear N2 N3 B2 B3
    go_upto_region 5 with fail
    go_region
    all_goals (
    try rw [hV2]
    obtain ⟨N2, B2⟩ := G.out
    clear G hV2 f5 f6 fr b5v b6v
    replace N2 := N2.below (Below.refl _ _).drew
    replace B2 := B2.drew
    generalize V2.drew = Ub at *
    clear V2
    clear hw
    try clear Ua
    obtain ⟨mb, hm⟩ : ∃ m, (if ma < d2 + 1 then d2 + 1 else ma) = m := ⟨_, rfl⟩
    obtain ⟨nb, hn⟩ : ∃ n, (if na < x2 then x2 else na) = n := ⟨_, rfl⟩
    rw [hm, hn] at N2 ⊢
    have Mb := Lib.hid (And.intro hm hn)
    clear hm hn
    go_wp2
    rw [rounds_succ]
    go_wp2
    go_end0
    obtain ⟨rfl, rfl⟩ := Mb.out
    obtain ⟨rfl, rfl⟩ := Ma.out
    exact ⟨⟨_, rfl⟩, N2, B2⟩)))
end Go.Proofs.Ytbifgmamjdniaaa
