/- The chapter's rows. -/
/- Puts, and the line that they build. -/
/- The line of puts, one behind the other. -/
/- Same, of two lists of pieces. -/
import Derived.Test.YtflgdhhgnbdofaaGreatmG25
import Derived.Test.YtflgdhhgnbdofaaGreatmG17
namespace Go.Proofs.YtflgdhhgnbdofaaGreat
open Go.RowKit
/-- What is set, where the line that comes of it is known. -/
def SetTo (L : List Pie) (w : World) (e : Ending) (w' : World) : Prop := ∃ u, e = .returned (.tuple #[u, .int .i64 0]) ∧ OwnL w.heap.size w' u L ∧ Below w.heap.size w w'
theorem setTo {l L : List Pie} {c d : Int} {v : VP} {w w' : World} {e : Ending} (h : SetAns l c d v w e w') (hL : Pl.Line okV L) (hm : ∀ t, Pl.means VP.none L t = if c ≤ t ∧ t < d then v else Pl.means VP.none l t) : SetTo L w e w' := by
  obtain ⟨u, R, he, ho, hr, hb⟩ := h
  have : R = L := Pl.Line.ext none_ok hr.line hL fun t => by
    rw [hm]
    by_cases c : c ≤ t ∧ t < d
    · rw [if_pos c]; exact (hr.means t).1 c
    · rw [if_neg c]; exact (hr.means t).2 c
  subst this
  exact ⟨u, he, ho, hb⟩
theorem withinTo {l L : List Pie} {S : List (Int × Int)} {w w' : World} {e : Ending} (h : WithinAns l S w e w') (hL : Pl.Line okV L) (hm : ∀ t, Pl.means VP.none L t = if Se.Iset.has S t = true then Pl.means VP.none l t else VP.none) : SetTo L w e w' := by
  obtain ⟨u, R, he, ho, hr, hb⟩ := h
  have : R = L := Pl.Line.ext none_ok hr.line hL fun t => by rw [hm, hr.means]
  subst this
  exact ⟨u, he, ho, hb⟩
theorem numV_ok (n : Int) (h : fits n) : okV (numV n) := by
  refine ⟨⟨by unfold numV fits; simp, h, by simp [numV], by simp [numV]⟩, numV_may n, ?_⟩
  simp [numV]
theorem line3_line (T : List T3) (h : ∀ t ∈ T, t.1 < t.2.1 ∧ t.2.1 ≤ 1099511627776 ∧ fits t.2.2) (hc : Pl.Chain (line3 T)) : Pl.Line okV (line3 T) := by
  refine ⟨fun x hx => ?_, hc⟩
  obtain ⟨t, ht, rfl⟩ := List.mem_map.1 hx
  obtain ⟨h1, h2, h3⟩ := h t ht
  exact ⟨h1, h2, numV_ok _ h3⟩
theorem line_wm {l : List Pie} (h : Pl.Line okV l) : ∀ x ∈ l, x.v.wide ∧ x.v.may := fun x hx => ⟨(h.good x hx).2.2.1, (h.good x hx).2.2.2.1⟩
theorem line_w {l : List Pie} (h : Pl.Line okV l) : ∀ x ∈ l, x.v.wide := fun x hx => (h.good x hx).2.2.1
theorem ul_new (w : World) (U : List Int) (t : TypeId) (n : Nat) (hn : U.length = n) : UL (w.alloc (.cells (U.map (Value.int .u64)).toArray t)) (.slice (some ⟨w.heap.size, 0, none⟩) n n) U := by
  subst hn
  refine ⟨_, _, rfl, fun _ => ⟨w.heap.size, 0, rfl, by simp, fun i hi => ?_⟩⟩
  rw [Nat.zero_add, cell_of_row _ _ _ _ _ _ (heap_alloc_new w _)]
  simp [hi]
def TA : List T3 := [(2, 6, 1)]
theorem TA_line : Pl.Line okV (line3 TA) := line3_line _ (by simp [TA, fits]) (by simp [TA, line3, Pl.Chain])
def TB : List T3 := [(2, 4, 1), (4, 9, 2)]
theorem TB_line : Pl.Line okV (line3 TB) := line3_line _ (by simp [TB, fits]) (by simp [TB, line3, Pl.Chain, Pl.follows, numV])
def TC : List T3 := [(2, 5, 1), (5, 9, 2)]
theorem TC_line : Pl.Line okV (line3 TC) := line3_line _ (by simp [TC, fits]) (by simp [TC, line3, Pl.Chain, Pl.follows, numV])
def TD : List T3 := [(7, 9, 2)]
theorem TD_line : Pl.Line okV (line3 TD) := line3_line _ (by simp [TD, fits]) (by simp [TD, line3, Pl.Chain])
def TW : List T3 := [(4, 5, 1), (5, 6, 2), (8, 9, 2)]
theorem TW_line : Pl.Line okV (line3 TW) := line3_line _ (by simp [TW, fits]) (by simp [TW, line3, Pl.Chain, Pl.follows, numV])
theorem mA (t : Int) : Pl.means VP.none (line3 TA) t = if 2 ≤ t ∧ t < 6 then numV 1 else Pl.means VP.none ([]) t := by
  simp only [line3, TA, List.map_cons, List.map_nil, Pl.means]
  all_goals ((repeat' split) <;> first | rfl | omega)
theorem mB (t : Int) : Pl.means VP.none (line3 TB) t = if 4 ≤ t ∧ t < 9 then numV 2 else Pl.means VP.none (line3 TA) t := by
  simp only [line3, TB, TA, List.map_cons, List.map_nil, Pl.means]
  all_goals ((repeat' split) <;> first | rfl | omega)
theorem mC (t : Int) : Pl.means VP.none (line3 TC) t = if 3 ≤ t ∧ t < 5 then numV 1 else Pl.means VP.none (line3 TB) t := by
  simp only [line3, TC, TB, List.map_cons, List.map_nil, Pl.means]
  all_goals ((repeat' split) <;> first | rfl | omega)
theorem mD (t : Int) : Pl.means VP.none (line3 TD) t = if 0 ≤ t ∧ t < 7 then VP.none else Pl.means VP.none (line3 TC) t := by
  simp only [line3, TD, TC, List.map_cons, List.map_nil, Pl.means]
  all_goals ((repeat' split) <;> first | rfl | omega)
theorem mW (t : Int) : Pl.means VP.none (line3 TW) t = if Se.Iset.has [(4, 6), (8, 20)] t = true then Pl.means VP.none (line3 TC) t else VP.none := by
  have e : Se.Iset.has [(4, 6), (8, 20)] t = true ↔ (4 ≤ t ∧ t < 6) ∨ (8 ≤ t ∧ t < 20) := by
    simp [Se.Iset.has, Se.Iset.hasP, Se.Iset.mayP]
  simp only [e, line3, TW, TC, List.map_cons, List.map_nil, Pl.means]
  all_goals ((repeat' split) <;> first | rfl | omega)
theorem isP_new (w : World) (L : List (Int × Int)) (t : TypeId) (n c : Nat) (hn : L.length = n) : Se.IsP (w.alloc (.cells (Se.cellsP L).toArray t)) (.slice (some ⟨w.heap.size, 0, none⟩) n c) L := by
  subst hn
  refine ⟨_, c, rfl, fun _ => ⟨w.heap.size, 0, rfl, by simp, fun i hi => ?_⟩⟩
  rw [Nat.zero_add, cell_of_row _ _ _ _ _ _ (heap_alloc_new w _), cell_of_row _ _ _ _ _ _ (heap_alloc_new w _)]
  have := Se.cellsP_get L i hi
  simpa using this
theorem sl_new (w : World) (x : Pie) (t : TypeId) (c : Nat) : SL (w.alloc (.cells (Pie.cells x) t)) (.slice (some ⟨w.heap.size, 0, none⟩) 1 c) [x] := by
  refine ⟨_, c, rfl, fun _ => ⟨w.heap.size, 0, rfl, by simp, fun i hi => ?_⟩, by simp⟩
  have : i = 0 := by simp at hi; omega
  subst this
  simpa using Bx.range (Bx.new w (Pie.cells x) t)
section
set_option maxRecDepth 100000
set_option maxHeartbeats 8000000
theorem SetA (sv : Value) (w : World) (h : SL w sv ([])) : Calls Tryz.prog 47 #[sv, .agg #[.int .u64 2, .int .u64 6], (numV 1).val] w (SetTo (line3 TA) w) :=
  (Set_ok sv _ 2 6 (numV 1) w h (line_w (Pl.Line.nil okV)) (Pl.Line.nil okV) (by omega) ⟨numV_may _, by simp [numV]⟩ (numV_ok _ (by unfold fits; omega)).1 (by simp)).mono fun _ _ h => setTo h TA_line mA
theorem SetB (sv : Value) (w : World) (h : SL w sv (line3 TA)) : Calls Tryz.prog 47 #[sv, .agg #[.int .u64 4, .int .u64 9], (numV 2).val] w (SetTo (line3 TB) w) :=
  (Set_ok sv _ 4 9 (numV 2) w h (line_w TA_line) TA_line (by omega) ⟨numV_may _, by simp [numV]⟩ (numV_ok _ (by unfold fits; omega)).1 (by simp [line3, TA])).mono fun _ _ h => setTo h TB_line mB
theorem SetC (sv : Value) (w : World) (h : SL w sv (line3 TB)) : Calls Tryz.prog 47 #[sv, .agg #[.int .u64 3, .int .u64 5], (numV 1).val] w (SetTo (line3 TC) w) :=
  (Set_ok sv _ 3 5 (numV 1) w h (line_w TB_line) TB_line (by omega) ⟨numV_may _, by simp [numV]⟩ (numV_ok _ (by unfold fits; omega)).1 (by simp [line3, TB])).mono fun _ _ h => setTo h TC_line mC
theorem SetD (sv : Value) (w : World) (h : SL w sv (line3 TC)) : Calls Tryz.prog 47 #[sv, .agg #[.int .u64 0, .int .u64 7], (VP.none).val] w (SetTo (line3 TD) w) :=
  (Set_ok sv _ 0 7 (VP.none) w h (line_w TC_line) TC_line (by omega) ⟨none_may, by simp [VP.none]⟩ none_wide (by simp [line3, TC])).mono fun _ _ h => setTo h TD_line mD
theorem WithinW (sv tv : Value) (w : World) (h : SL w sv (line3 TC)) (hS : Se.IsP w tv [(4, 6), (8, 20)]) : Calls Tryz.prog 49 #[sv, tv] w (SetTo (line3 TW) w) :=
  (Within_ok sv tv _ _ w h hS (line_w TC_line) TC_line (by simp [line3, TC]) (by simp)).mono fun _ _ h => withinTo h TW_line mW
theorem SetEmp (w : World) : Calls Tryz.prog 47 #[.slice none 0 0, .agg #[.int .u64 3, .int .u64 3], (numV 1).val] w (Refused 32 w) :=
  Set_empty _ [] 3 3 (numV 1) w (SL.nil w) (by simp) (Pl.Line.nil okV) (by omega)
theorem SetFrm (sv : Value) (w : World) (h : SL w sv [⟨1, 2, VP.none⟩]) : Calls Tryz.prog 47 #[sv, .agg #[.int .u64 1, .int .u64 2], VP.none.val] w (Refused 5 w) :=
  Set_form sv [⟨1, 2, VP.none⟩] 1 2 VP.none w h (by simpa using none_wide) (fun h => none_ok (h.good ⟨1, 2, VP.none⟩ (by simp)).2.2)
theorem wakes_any (w : World) : Calls Tryz.prog 66 #[] w fun e w' => e = .returned (.bool true) ∧ Below w.heap.size w w' := by
  have N1 := Lib.hid (fun W => Number_any 1 W)
  have N2 := Lib.hid (fun W => Number_any 2 W)
  have CA := Lib.hid SetA
  have CB := Lib.hid SetB
  have CC := Lib.hid SetC
  have CD := Lib.hid SetD
  have CW := Lib.hid WithinW
  have CE := Lib.hid SetEmp
  have CF := Lib.hid SetFrm
  have hsf := store_float
  obtain ⟨n1, hn1⟩ : ∃ n, (numV 1).val = n := ⟨_, rfl⟩
  obtain ⟨n2, hn2⟩ : ∃ n, (numV 2).val = n := ⟨_, rfl⟩
  rw [hn1] at N1 CA CC CE
  rw [hn2] at N2 CB
  clear hn1 hn2
  go_enter Tryz.func66, Tryz.ntmps66
  go_wp2_with fail
  refine (N1.out _).mono ?_
  rintro e w1 ⟨rfl, hb⟩
  have B1 := Lib.hid ((Below.refl w.heap.size w).trans (hb.mono (Below.refl w.heap.size w).size))
  have K1 := Lib.hid hb
  clear hb
  go_wp2_with fail
  refine (CA.out _ _ (SL.nil _)).mono ?_
  rintro e w2 ⟨uA, rfl, ho, hb⟩
  have B2 := Lib.hid (B1.out.trans (hb.mono B1.out.size))
  have K2 := Lib.hid hb
  have OA := Lib.hid ho.at
  clear ho
  clear hb
  go_wp2_with fail
  refine (N2.out _).mono ?_
  rintro e w3 ⟨rfl, hb⟩
  have B3 := Lib.hid (B2.out.trans (hb.mono B2.out.size))
  have K3 := Lib.hid hb
  have OA2 := Lib.hid (OA.out.below hb)
  clear hb
  go_wp2_with fail
  refine (CB.out _ _ OA2.out).mono ?_
  rintro e w4 ⟨uB, rfl, ho, hb⟩
  have B4 := Lib.hid (B3.out.trans (hb.mono B3.out.size))
  have K4 := Lib.hid hb
  have OB := Lib.hid ho.at
  clear ho
  clear hb
  go_wp2_with fail
  refine (N1.out _).mono ?_
  rintro e w5 ⟨rfl, hb⟩
  have B5 := Lib.hid (B4.out.trans (hb.mono B4.out.size))
  have K5 := Lib.hid hb
  have OB2 := Lib.hid (OB.out.below hb)
  clear hb
  go_wp2_with fail
  refine (CC.out _ _ OB2.out).mono ?_
  rintro e w6 ⟨uC, rfl, ho, hb⟩
  have B6 := Lib.hid (B5.out.trans (hb.mono B5.out.size))
  have K6 := Lib.hid hb
  have OC := Lib.hid ho.at
  clear ho
  clear hb
  go_wp2_with fail
  refine (CD.out _ _ OC.out).mono ?_
  rintro e w7 ⟨uD, rfl, ho, hb⟩
  have B7 := Lib.hid (B6.out.trans (hb.mono B6.out.size))
  have K7 := Lib.hid hb
  have OD := Lib.hid ho.at
  have OC2 := Lib.hid (OC.out.below hb)
  clear ho
  clear hb
  have A7 := Lib.hid ((Below.refl w7.heap.size w7).alloc (Nat.le_refl _) (.cells #[.int .u64 4, .int .u64 6, .int .u64 8, .int .u64 20] 33))
  have IP := Lib.hid (isP_new w7 [(4, 6), (8, 20)] 33 2 2 rfl)
  have BB := Lib.hid (B7.out.trans (A7.out.mono B7.out.size))
  go_wp2_with fail
  refine (CW.out _ _ _ (OC2.out.below A7.out) IP.out).mono ?_
  rintro e w8 ⟨uW, rfl, ho, hb⟩
  have B8 := Lib.hid (BB.out.trans (hb.mono BB.out.size))
  have K8 := Lib.hid hb
  have OW := Lib.hid ho.at
  have OC3 := Lib.hid ((OC2.out.below A7.out).below hb)
  have OD3 := Lib.hid ((OD.out.below A7.out).below hb)
  clear ho
  clear hb
  go_wp2_with fail
  refine (N1.out _).mono ?_
  rintro e w9 ⟨rfl, hb⟩
  have B9 := Lib.hid (B8.out.trans (hb.mono B8.out.size))
  have K9 := Lib.hid hb
  clear hb
  go_wp2_with fail
  refine (CE.out _).mono ?_
  rintro e w10 ⟨rfl, hb⟩
  have B10 := Lib.hid (B9.out.trans (hb.mono B9.out.size))
  have K10 := Lib.hid hb
  clear hb
  have A10 := Lib.hid ((Below.refl w10.heap.size w10).alloc (Nat.le_refl _) (.cells (Pie.cells ⟨1, 2, VP.none⟩) 71))
  have BB := Lib.hid (B10.out.trans (A10.out.mono B10.out.size))
  go_wp2_with fail
  refine (CF.out _ _ (sl_new w10 ⟨1, 2, VP.none⟩ 71 1)).mono ?_
  rintro e w11 ⟨rfl, hb⟩
  have B11 := Lib.hid (BB.out.trans (hb.mono BB.out.size))
  have K11 := Lib.hid hb
  clear hb
  go_wp2_with fail
  have LC := Lib.hid (fun W tv (h : SL W uC (line3 TC)) (ht : UL W tv (flat3 TC)) => (like_any uC tv (line3 TC) TC W h ht (by simp [line3, TC]) (line_wm TC_line) (by simp [TC]) (by simp [TC])).mono fun _ _ h => h.yes rfl)
  have LD := Lib.hid (fun W tv (h : SL W uD (line3 TD)) (ht : UL W tv (flat3 TD)) => (like_any uD tv (line3 TD) TD W h ht (by simp [line3, TD]) (line_wm TD_line) (by simp [TD]) (by simp [TD])).mono fun _ _ h => h.yes rfl)
  have LW := Lib.hid (fun W tv (h : SL W uW (line3 TW)) (ht : UL W tv (flat3 TW)) => (like_any uW tv (line3 TW) TW W h ht (by simp [line3, TW]) (line_wm TW_line) (by simp [TW]) (by simp [TW])).mono fun _ _ h => h.yes rfl)
  have XC := Lib.hid ((((OC3.out.below K9.out).below K10.out).below A10.out).below K11.out)
  have XD := Lib.hid ((((OD3.out.below K9.out).below K10.out).below A10.out).below K11.out)
  have XW := Lib.hid ((((OW.out.below K9.out).below K10.out).below A10.out).below K11.out)
  have A11 := Lib.hid ((Below.refl w11.heap.size w11).alloc (Nat.le_refl _) (.cells #[.int .u64 2, .int .u64 5, .int .u64 1, .int .u64 5, .int .u64 9, .int .u64 2] 22))
  have U11 := Lib.hid (show UL (w11.alloc (.cells #[.int .u64 2, .int .u64 5, .int .u64 1, .int .u64 5, .int .u64 9, .int .u64 2] 22)) (.slice (some ⟨w11.heap.size, 0, none⟩) 6 6) (flat3 TC) from ul_new w11 (flat3 TC) 22 6 rfl)
  refine (LC.out _ _ (XC.out.below A11.out) U11.out).mono ?_
  rintro e w12 ⟨rfl, hb⟩
  have B12 := Lib.hid (B11.out.trans ((A11.out.trans (hb.mono A11.out.size)).mono B11.out.size))
  have XD := Lib.hid ((XD.out.below A11.out).below hb)
  have XW := Lib.hid ((XW.out.below A11.out).below hb)
  clear hb
  go_wp2_with fail
  have A12 := Lib.hid ((Below.refl w12.heap.size w12).alloc (Nat.le_refl _) (.cells #[.int .u64 7, .int .u64 9, .int .u64 2] 22))
  have U12 := Lib.hid (show UL (w12.alloc (.cells #[.int .u64 7, .int .u64 9, .int .u64 2] 22)) (.slice (some ⟨w12.heap.size, 0, none⟩) 3 3) (flat3 TD) from ul_new w12 (flat3 TD) 22 3 rfl)
  refine (LD.out _ _ (XD.out.below A12.out) U12.out).mono ?_
  rintro e w13 ⟨rfl, hb⟩
  have B13 := Lib.hid (B12.out.trans ((A12.out.trans (hb.mono A12.out.size)).mono B12.out.size))
  have XW := Lib.hid ((XW.out.below A12.out).below hb)
  clear hb
  go_wp2_with fail
  have A13 := Lib.hid ((Below.refl w13.heap.size w13).alloc (Nat.le_refl _) (.cells #[.int .u64 4, .int .u64 5, .int .u64 1, .int .u64 5, .int .u64 6, .int .u64 2, .int .u64 8, .int .u64 9, .int .u64 2] 22))
  have U13 := Lib.hid (show UL (w13.alloc (.cells #[.int .u64 4, .int .u64 5, .int .u64 1, .int .u64 5, .int .u64 6, .int .u64 2, .int .u64 8, .int .u64 9, .int .u64 2] 22)) (.slice (some ⟨w13.heap.size, 0, none⟩) 9 9) (flat3 TW) from ul_new w13 (flat3 TW) 22 9 rfl)
  refine (LW.out _ _ (XW.out.below A13.out) U13.out).mono ?_
  rintro e w14 ⟨rfl, hb⟩
  have B14 := Lib.hid (B13.out.trans ((A13.out.trans (hb.mono A13.out.size)).mono B13.out.size))
  clear hb
  go_wp2_with fail
  go_ret
  exact ⟨rfl, B14.out⟩
end
end Go.Proofs.YtflgdhhgnbdofaaGreat

namespace Go.Proofs.YtflgdhhgnbdofaaGreat
open Go.RowKit
def goodP (x : Pie) : Prop := (x.a < x.b ∧ x.b ≤ 1099511627776) ∧ setP x.v
open Classical in
/-- What puts say of an instant: the last one that reaches it. -/
noncomputable def lastV (D : List Pie) (t : Int) : VP := D.foldl (fun acc p => if p.a ≤ t ∧ t < p.b then p.v else acc) VP.none
theorem lastV_snoc (D : List Pie) (p : Pie) (t : Int) : (p.a ≤ t ∧ t < p.b → lastV (D ++ [p]) t = p.v) ∧ (¬ (p.a ≤ t ∧ t < p.b) → lastV (D ++ [p]) t = lastV D t) := by
  unfold lastV
  rw [List.foldl_append]
  constructor
  · intro h; simp [h]
  · intro h
    simp only [List.foldl_cons, List.foldl_nil]
    rw [if_neg h]
/-- The line that puts build. -/
structure PutsR (D R : List Pie) : Prop where
  line : Pl.Line okV R
  means : ∀ t, Pl.means VP.none R t = lastV D t
  len : R.length ≤ 2 * D.length
theorem PutsR.nil : PutsR [] [] := ⟨Pl.Line.nil _, fun _ => rfl, by simp⟩
theorem PutsR.snoc {D R S : List Pie} {p : Pie} (h : PutsR D R) (hs : Pl.SetR okV VP.none R p.a p.b p.v S) : PutsR (D ++ [p]) S := by
  refine ⟨hs.line, fun t => ?_, by have := hs.len; have := h.len; simp; omega⟩
  by_cases c : p.a ≤ t ∧ t < p.b
  · rw [(hs.means t).1 c, (lastV_snoc D p t).1 c]
  · rw [(hs.means t).2 c, (lastV_snoc D p t).2 c, h.means]
section
set_option maxRecDepth 100000
set_option maxHeartbeats 8000000
/-- What Set answers to a put that may not be. -/
def NotOk (w : World) (e : Ending) (w' : World) : Prop := ∃ n : Int, n ≠ 0 ∧ e = .returned (.tuple #[.slice none 0 0, .int .i64 n]) ∧ Below w.heap.size w w'
theorem Set_not (sv : Value) (l : List Pie) (x : Pie) (w : World) (h : SL w sv l) (hL : Pl.Line okV l) (hx : ¬ goodP x) (hw : x.v.wide) :
    Calls Tryz.prog 47 #[sv, .agg #[.int .u64 x.a, .int .u64 x.b], x.v.val] w (NotOk w) := by
  by_cases hp : x.a < x.b ∧ x.b ≤ 1099511627776
  · exact (Set_arg sv l x.a x.b x.v w h (line_w hL) hL hp (fun g => hx ⟨hp, g⟩) hw).mono fun _ _ h => ⟨1, by decide, h.1, h.2⟩
  · exact (Set_empty sv l x.a x.b x.v w h (line_w hL) hL hp).mono fun _ _ h => ⟨32, by decide, h.1, h.2⟩
end
end Go.Proofs.YtflgdhhgnbdofaaGreat

namespace Go.Proofs.YtflgdhhgnbdofaaGreat
open Go.RowKit
section
set_option maxRecDepth 100000
set_option maxHeartbeats 8000000
end
end Go.Proofs.YtflgdhhgnbdofaaGreat

namespace Go.Proofs.YtflgdhhgnbdofaaGreat
open Go.RowKit
section
set_option maxRecDepth 100000
set_option maxHeartbeats 8000000
theorem Same1_any (x y : Pie) (hx : x.v.wide ∧ x.v.may) (hy : y.v.wide ∧ y.v.may) (w : World) :
    Calls Tryz.prog 124 #[Pie.val x, Pie.val y] w (Says (x = y) w) := by
  have CS := Lib.hid (fun W => valSame_any x.v y.v hx.1 hy.1 hx.2 hy.2 W)
  have HB := Lib.hid (((Below.refl w.heap.size w).alloc (Nat.le_refl _) (.cells (Pie.cells x) 71)).alloc (by simp) (.cells (Pie.cells y) 71))
  have hsf := store_float
  clear hx hy
  obtain ⟨a, b, ⟨k, vb, n, f, s⟩⟩ := x
  obtain ⟨a', b', ⟨k', vb', n', f', s'⟩⟩ := y
  simp only at CS
  by_cases ha : a = a'
  · subst ha
    by_cases hb : b = b'
    · subst hb
      have HE : Hid (∀ c : Bool, (c = true ↔ (⟨k, vb, n, f, s⟩ : VP) = ⟨k', vb', n', f', s'⟩) → (c = true ↔ (⟨a, b, ⟨k, vb, n, f, s⟩⟩ : Pie) = ⟨a, b, ⟨k', vb', n', f', s'⟩⟩)) := Lib.hid fun c h => h.trans ⟨fun e => by rw [e], fun e => by injection e⟩
      go_enter Tryz.func124, Tryz.ntmps124
      go_wp2_with (go_at_call 28; (with_reducible refine (CS.out _).mono ?_); rintro e w1 ⟨c, rfl, hc, hb⟩; have HC := Lib.hid (HE.out c hc); have B1 := Lib.hid (HB.out.trans (hb.mono HB.out.size)); clear hc hb)
      go_ret
      exact ⟨c, rfl, HC.out, B1.out⟩
    · have HN : Hid (¬ (⟨a, b, ⟨k, vb, n, f, s⟩⟩ : Pie) = ⟨a, b', ⟨k', vb', n', f', s'⟩⟩) := Lib.hid fun e => hb (by injection e)
      have t0 : (b == b') = false := by simpa using hb
      clear hb
      go_enter Tryz.func124, Tryz.ntmps124
      go_wp2
      go_ret
      exact ⟨false, rfl, by simp only [HN.out, Bool.false_eq_true], HB.out⟩
  · have HN : Hid (¬ (⟨a, b, ⟨k, vb, n, f, s⟩⟩ : Pie) = ⟨a', b', ⟨k', vb', n', f', s'⟩⟩) := Lib.hid fun e => ha (by injection e)
    have t0 : (a == a') = false := by simpa using ha
    clear ha
    go_enter Tryz.func124, Tryz.ntmps124
    go_wp2
    go_ret
    exact ⟨false, rfl, by simp only [HN.out, Bool.false_eq_true], HB.out⟩
theorem EqualFunc_any (va vb : Value) (l m : List Pie) (w : World) (ha : SL w va l) (hb : SL w vb m) (hl : ∀ x ∈ l, x.v.wide ∧ x.v.may) (hm : ∀ x ∈ m, x.v.wide ∧ x.v.may) :
    Calls Tryz.prog 123 #[va, vb, .func (.func 124) #[] #[]] w (Says (l = m) w) := by
  obtain ⟨A, c, rfl, hA, ha⟩ := ha
  obtain ⟨B, d, rfl, hB, hb⟩ := hb
  have HA := Lib.hid hA
  have HB := Lib.hid hB
  have HL := Lib.hid hl
  have HM := Lib.hid hm
  have hsf := store_float
  clear hA hB hl hm
  by_cases hne : l.length = m.length
  case neg =>
    have HN : Hid (¬ l = m) := Lib.hid fun e => hne (by rw [e])
    have hne' : ((l.length : Int) != (m.length : Int)) = true := by simp; omega
    clear hne
    go_enter Tryz.func123, Tryz.ntmps123
    go_wp2
    go_ret
    exact ⟨false, rfl, by simp [HN.out], Below.refl _ _⟩
  have HE := Lib.hid hne
  have hne' : ((l.length : Int) != (m.length : Int)) = false := by simp [hne]
  clear hne
  go_enter Tryz.func123, Tryz.ntmps123
  go_wp2
  clear hne'
  go_loopw [17] (fun i wr => ∃ k : Nat, k ≤ l.length ∧ i = .int .i64 k ∧ (∀ j (h : j < l.length) (g : j < m.length), j < k → l[j] = m[j]) ∧ Below w.heap.size w wr) (fun i _ => l.length - (intOf i).toNat)
  case atStart => exact ⟨0, Nat.zero_le _, rfl, fun j _ _ h => absurd h (Nat.not_lt_zero j), Below.refl _ _⟩
  case round =>
    obtain ⟨k, hk, rfl, hp, hbl⟩ := hrel
    have HP := Lib.hid hp
    have HBl := Lib.hid hbl
    clear hp hbl
    by_cases hlt : k < l.length
    · have hlt2 : k < m.length := by have := HE.out; omega
      obtain ⟨g, og, rfl, lg, cg⟩ := (HA.out.below HBl.out) (by omega)
      obtain ⟨q, oq, rfl, lq, cq⟩ := (HB.out.below HBl.out) (by omega)
      have r := cg k hlt
      have r2 := cq k hlt2
      have CS := Lib.hid (fun W => Same1_any l[k] m[k] (HL.out _ (List.getElem_mem hlt)) (HM.out _ (List.getElem_mem hlt2)) W)
      have HK : Hid (l[k] = m[k] → ∀ j (h : j < l.length) (g : j < m.length), j < k + 1 → l[j] = m[j]) := Lib.hid fun h j h1 g1 h2 => if e : j = k then (by subst e; exact h) else HP.out j h1 g1 (by omega)
      have HN : Hid (¬ l[k] = m[k] → ¬ l = m) := Lib.hid fun h e => h (by subst e; rfl)
      generalize l[k] = x at *
      generalize m[k] = y at *
      have i0 : (k : Int) < (l.length : Int) := by omega
      have i3 : (k : Int) < (m.length : Int) := by omega
      have i1 : (0 : Int) ≤ (k : Int) := by omega
      clear cg cq HA HB HL HM HP
      obtain ⟨a, b, ⟨kk, vb, n, f, s⟩⟩ := x
      obtain ⟨a', b', ⟨kk', vb', n', f', s'⟩⟩ := y
      have b1 := Lib.hid ((Below.refl wr.heap.size wr).alloc (Nat.le_refl _) (.cells (Pie.cells ⟨a, b, ⟨kk, vb, n, f, s⟩⟩) 71))
      have r3 : (wr.alloc (.cells (Pie.cells ⟨a, b, ⟨kk, vb, n, f, s⟩⟩) 71)).rangeAt q (oq + k * 7) (Pie.cells ⟨a', b', ⟨kk', vb', n', f', s'⟩⟩).toList := fun j v hv => (b1.out.cell (p := ⟨q, oq + k * 7 + j, none⟩) lq).trans (r2 j v hv)
      go_upto_region 6 with (refine wpList_load_mid rfl 71 (.tmp 20) rfl g (og + k * 7) rfl _ _ r Tryz.underlying71 rfl rowL ?_)
      clear r r2
      go_upto_region 7 with (refine wpList_load_mid rfl 71 (.tmp 24) rfl q (oq + k * 7) rfl _ _ r3 Tryz.underlying71 rfl rowL ?_)
      clear r3
      go_upto_if 30 with (go_at_call 124; (with_reducible refine (CS.out _).mono ?_); rintro e w1 ⟨c1, rfl, hc, hb⟩; have HC := Lib.hid hc; have B1 := Lib.hid hb; clear hc hb)
      have B2 : Hid (Below w.heap.size w w1) := Lib.hid (HBl.out.trans ((((Below.refl wr.heap.size wr).alloc (Nat.le_refl _) _).alloc (by simp) _).trans (B1.out.mono (by simp; omega)) |>.mono HBl.out.size))
      cases c1
      · go_wp2
        go_ret
        exact ⟨false, rfl, by have := HN.out (fun e => by have := HC.out.2 e; cases this); simp [this], B2.out⟩
      · have HK2 := Lib.hid (HK.out (HC.out.1 rfl))
        clear HK HN
        go_wp2
        exact ⟨⟨k + 1, by omega, by go_num, HK2.out, B2.out⟩, by simp [intOf]; omega⟩
    · have HT : Hid (l = m) := Lib.hid (List.ext_getElem HE.out fun j h1 h2 => HP.out j h1 h2 (by omega))
      clear HP
      go_wp2
      go_ret
      exact ⟨true, rfl, by simp [HT.out], HBl.out⟩
theorem pSame_any (va vb : Value) (l m : List Pie) (w : World) (ha : SL w va l) (hb : SL w vb m) (hl : ∀ x ∈ l, x.v.wide ∧ x.v.may) (hm : ∀ x ∈ m, x.v.wide ∧ x.v.may) :
    Calls Tryz.prog 56 #[va, vb] w (Says (l = m) w) := by
  have C := Lib.hid (EqualFunc_any va vb l m w ha hb hl hm)
  clear ha hb hl hm
  go_enter Tryz.func56, Tryz.ntmps56
  go_wp2_with (go_at_call 123; ((with_reducible refine (C.out).mono ?_); rintro e w1 ⟨c, rfl, hc, hb⟩; have HC := Lib.hid (And.intro hc hb); clear hc hb))
  go_ret
  exact ⟨c, rfl, HC.out.1, HC.out.2⟩
end
end Go.Proofs.YtflgdhhgnbdofaaGreat

