/- The library's Insert, of one piece into a slice of the call's own: at the end; where there is room; where there is none. -/
import Derived.Test.YtflgdhhgnbdofaaGreatmB7
import Derived.Lib.Overlaps
import Derived.Lib.AppendZerosOnto
import Derived.Laws.CopyRow
namespace Go.Proofs.YtflgdhhgnbdofaaGreat
open Go.RowKit
/-- copy of pieces onto a row whose cells are known. -/
theorem run_copy7 (w : World) (ty : TypeId) (g o dLen dCap : Nat) (a : Addr) (sLen sCap : Nat) (cur : Array Value) (t : TypeId) (cs : List Value) (n : Nat) (hg : w.heap[g]? = some (.cells cur t (0, 0))) (hn : Nat.min sLen dLen = n)
    (hcs : cs.length = n * 7) (hsrc : ∀ j v, cs[j]? = some v → w.cell? (a.add j) = some v) (hfit : o + cs.length ≤ cur.size) (h1 : ∀ v ∈ cs, v.oneCell' = true) :
    (Builtin.copy_ #[60, 60] ty #[.slice (some ⟨g, o, none⟩) dLen dCap, .slice (some a) sLen sCap]).run Tryz.prog w = .ok (goInt n) (w.setRow g (cur.toList.take o ++ cs ++ cur.toList.drop (o + cs.length)).toArray) := by
  obtain ⟨i0, hi, hz0, hz1, hz2⟩ := info_parts infoL
  have hl := run_firstCells_some (P := Tryz.prog) (w := w) 7 n a sLen sCap cs hcs hsrc
  have hst := run_storeCells_at Tryz.prog g o t cs 0 cur w hg (by simpa using hfit) h1
  simp [Builtin.copy_, run_underlying Tryz.underlying60, Builtin.lenOf, sizeOf, typeInfo, hi, hz1, hn, hl, hst]
section
variable {ops : Array Oper} {o : Oper} {a : Act} {K : Act → World → Prop} {Q : Exit → Act → World → Prop} {E : Prop} {w : World}
theorem step_copy7 (hw : Region.wanted o (yielded ops a.tmps) = true) (d s : Operand) (ho : o.op = .call { callee := .builtin .copy, args := #[d, s], argTypes := #[60, 60] })
    (v u : Value) (hd : a.eval d = v) (hs : a.eval s = u) {v' : Value} {w' : World} (hr : (Builtin.copy_ #[60, 60] o.type #[v, u]).run Tryz.prog w = .ok v' w') (hK : K (a.put o.dst v') w') :
    if Region.wanted o (yielded ops a.tmps) = true then Oper.wp Tryz.prog o a w K Q else E := by
  rw [if_pos hw]
  unfold Oper.wp execOp
  simp only [ho, resolve, invoke, builtin, Sem.run_bind, Sem.run_pure, Result.andThen_ok, List.map_toArray, List.map_cons, List.map_nil, hd, hs, hr]
  exact hK
theorem wpList_copy7 {rest : List Oper} (hg : o.guard = none) (d s : Operand) (ho : o.op = .call { callee := .builtin .copy, args := #[d, s], argTypes := #[60, 60] })
    (v u : Value) (hd : a.eval d = v) (hs : a.eval s = u) {v' : Value} {w' : World} (hr : (Builtin.copy_ #[60, 60] o.type #[v, u]).run Tryz.prog w = .ok v' w')
    (hK : wpList Tryz.prog ops Q rest (a.put o.dst v') w') : wpList Tryz.prog ops Q (o :: rest) a w := by
  refine wpList_plain hg fun K' hK' => ?_
  unfold Oper.wp execOp
  simp only [ho, resolve, invoke, builtin, Sem.run_bind, Sem.run_pure, Result.andThen_ok, List.map_toArray, List.map_cons, List.map_nil, hd, hs, hr]
  exact hK' _ _ hK
end
theorem cellsL_take (l : List Pie) (i : Nat) : (cellsL l).take (i * 7) = cellsL (l.take i) := by
  rcases Nat.lt_or_ge l.length i with h | h
  · rw [List.take_of_length_le (by rw [cellsL_length]; omega), List.take_of_length_le (by omega)]
  · conv => lhs; rw [← List.take_append_drop i l, cellsL_append]
    rw [List.take_append_of_le_length (by rw [cellsL_length, List.length_take]; omega), List.take_of_length_le (by rw [cellsL_length, List.length_take]; omega)]
theorem cellsL_drop (l : List Pie) (i : Nat) : (cellsL l).drop (i * 7) = cellsL (l.drop i) := by
  rcases Nat.lt_or_ge l.length i with h | h
  · rw [List.drop_eq_nil_of_le (by rw [cellsL_length]; omega), List.drop_eq_nil_of_le (by omega)]; rfl
  · conv => lhs; rw [← List.take_append_drop i l, cellsL_append]
    rw [List.drop_append_of_le_length (by rw [cellsL_length, List.length_take]; omega), List.drop_eq_nil_of_le (by rw [cellsL_length, List.length_take]; omega), List.nil_append]
theorem oneL (l : List Pie) : ∀ v ∈ cellsL l, v.oneCell' = true := fun v hv => by
  obtain ⟨x, _, hx⟩ := List.mem_flatMap.1 hv
  exact Array.all_eq_true_iff_forall_mem.1 (one7 x) v (by simpa using hx)
/-- The row behind the two copies. -/
theorem row_put (C : List Value) (A X D R : List Value) (h : C = A ++ X ++ R) (k : Nat) (hA : A.length = k) (hX : X.length = D.length) (x : List Value) (hx : x.length = 7) (hR : 7 ≤ R.length) :
    let C1 := C.take (k + 7) ++ D ++ C.drop (k + 7 + D.length)
    (C1.take k ++ x ++ C1.drop (k + 7)).take (k + 7 + D.length) = A ++ x ++ D := by
  intro C1
  have e1 : C1.take k = A := by
    have : C1 = A ++ ((X ++ R).take 7 ++ D ++ C.drop (k + 7 + D.length)) := by
      show C.take (k + 7) ++ D ++ _ = _
      rw [h, List.append_assoc A X R, show k + 7 = A.length + 7 by omega, List.take_length_add_append]
      simp
    rw [this, List.take_append_of_le_length (by omega), List.take_of_length_le (by omega)]
  have e2 : C1.drop (k + 7) = D ++ C.drop (k + 7 + D.length) := by
    show (C.take (k + 7) ++ D ++ _).drop (k + 7) = _
    have hl : (C.take (k + 7)).length = k + 7 := by
      rw [List.length_take, h]; simp; omega
    rw [List.append_assoc, List.drop_append_of_le_length (by omega), List.drop_eq_nil_of_le (by omega), List.nil_append]
  rw [e1, e2, ← List.append_assoc, List.take_append_of_le_length (by simp; omega), List.take_of_length_le (by simp; omega)]
theorem setRow_below {base : Nat} {w : World} (g : Nat) (cur : Array Value) (hb : base ≤ g) : Below base w (w.setRow g cur) := ⟨rfl, rfl, rfl, by simp, fun k hk => setRow_other _ _ _ _ (by omega)⟩
theorem overlaps_no (w : World) (gv vc gs off lb cb : Nat) (x : Pie) (cur : Array Value) (hv : w.heap[gv]? = some (.cells (Pie.cells x) 71 (0, 0))) (hs : w.heap[gs]? = some (.cells cur 71 (0, 0))) (hne : gv ≠ gs) (h0 : cur.size ≠ 0) :
    (callFunc 209 #[.slice (some ⟨gv, 0, none⟩) 1 vc, .slice (some ⟨gs, off, none⟩) lb cb]).run Tryz.prog w = .ok (.value (.bool false)) w := by
  have hsa : w.shape? gv = some (71, 7) := by unfold World.shape?; rw [hv]; rfl
  have hsb : w.shape? gs = some (71, cur.size) := by unfold World.shape?; rw [hs]
  have hf : ∀ o, w.frozen? ⟨gv, o, none⟩ = false := fun o => by simp [World.frozen?, hv]
  rw [run_callFunc_extern Tryz.func209 (by kernel_rfl) (by kernel_rfl) (by kernel_rfl) (e := Extern.SlicesOverlaps.overlaps #[60, 60] #[4]) (by kernel_rfl),
    Lib.run_overlaps_apart w 60 4 71 Tryz.underlying60 7 (fun w => Tryz.sizeOf71 w) ⟨gv, 0, none⟩ ⟨gs, off, none⟩ 1 vc lb cb hne _ _ 7 cur.size hsa hsb h0 (hf _) (hf _)]
  rfl
section
set_option maxRecDepth 100000
set_option maxHeartbeats 8000000
/-- There is room. -/
theorem Insert_room (base : Nat) (g c gv vc i : Nat) (l : List Pie) (x : Pie) (w : World) (h : OwnL base w (.slice (some ⟨g, 0, none⟩) l.length c) l) (hi : i < l.length) (hc : l.length + 1 ≤ c) (hc2 : c ≤ 9223372036854775807)
    (hv : w.heap[gv]? = some (.cells (Pie.cells x) 71 (0, 0))) (hne : gv ≠ g) :
    Calls Tryz.prog 170 #[.slice (some ⟨g, 0, none⟩) l.length c, .int .i64 i, .slice (some ⟨gv, 0, none⟩) 1 vc] w fun e w' => ∃ u, e = .returned u ∧ OwnL base w' u (l.take i ++ x :: l.drop i) ∧ Below base w w' := by
  rcases h.2 with ⟨h0, _⟩ | ⟨g', cap, cur, h0, hb, hg, hn, hm, hs, ht⟩
  · cases h0
  injection h0 with e1 e2 e3
  injection e1 with e1
  injection e1 with e4
  subst e3 e4
  have hcells : ∀ j v, (cellsL l)[j]? = some v → w.cell? ⟨g, j, none⟩ = some v := fun j v hj => by
    rw [cell_of_row w g j cur _ _ hg, ← Array.getElem?_toList]
    rw [← ht, List.getElem?_take] at hj
    split at hj
    · exact hj
    · cases hj
  have hD : (cellsL (l.drop i)).length = (l.length - i) * 7 := by rw [cellsL_length, List.length_drop]
  obtain ⟨cur1, hcur1⟩ : ∃ cur1, (cur.toList.take ((i + 1) * 7) ++ cellsL (l.drop i) ++ cur.toList.drop ((i + 1) * 7 + (cellsL (l.drop i)).length)).toArray = cur1 := ⟨_, rfl⟩
  have hsz1 : cur1.size = c * 7 := by rw [← hcur1]; simp; omega
  obtain ⟨cur2, hcur2⟩ : ∃ cur2, (cur1.toList.take (i * 7) ++ (Pie.cells x).toList ++ cur1.toList.drop (i * 7 + (Pie.cells x).toList.length)).toArray = cur2 := ⟨_, rfl⟩
  have hcp1 : ∀ ty dc sc, (Builtin.copy_ #[60, 60] ty #[.slice (some ⟨g, (i + 1) * 7, none⟩) (l.length - i) dc, .slice (some ⟨g, i * 7, none⟩) (l.length + 1 - i) sc]).run Tryz.prog w.drew = .ok (goInt ((l.length - i : Nat) : Int)) (w.drew.setRow g cur1) := fun ty dc sc => by
    rw [← hcur1]
    exact run_copy7 w.drew ty g ((i + 1) * 7) (l.length - i) dc ⟨g, i * 7, none⟩ (l.length + 1 - i) sc cur _ (cellsL (l.drop i)) (l.length - i) hg (by simp only [Nat.min_def]; split <;> omega) hD
      (fun j v hj => by
        rw [add_off]
        show w.cell? _ = _
        exact hcells (i * 7 + j) v (by rw [← cellsL_drop, List.getElem?_drop] at hj; exact hj)) (by omega) (oneL _)
  have hcp2 : ∀ ty dc, (Builtin.copy_ #[60, 60] ty #[.slice (some ⟨g, i * 7, none⟩) (l.length + 1 - i) dc, .slice (some ⟨gv, 0, none⟩) 1 vc]).run Tryz.prog (w.drew.setRow g cur1) = .ok (goInt 1) ((w.drew.setRow g cur1).setRow g cur2) := fun ty dc => by
    rw [← hcur2]
    exact run_copy7 (w.drew.setRow g cur1) ty g (i * 7) (l.length + 1 - i) dc ⟨gv, 0, none⟩ 1 vc cur1 71 (Pie.cells x).toList 1 (setRow_heap _ _ cur _ _ _ hg) (by simp only [Nat.min_def]; split <;> omega) rfl
      (fun j v hj => by
        rw [add_off, Nat.zero_add]
        have : (w.drew.setRow g cur1).heap[gv]? = some (.cells (Pie.cells x) 71 (0, 0)) := (setRow_other _ _ _ _ (by omega)).trans hv
        rw [cell_of_row _ gv j _ _ _ this, ← Array.getElem?_toList]; exact hj) (by rw [hsz1, pie_len]; omega) (fun v hv => Array.all_eq_true_iff_forall_mem.1 (one7 x) v (by simpa using hv))
  have hfin : OwnL base ((w.drew.setRow g cur1).setRow g cur2) (.slice (some ⟨g, 0, none⟩) (l.length + 1) c) (l.take i ++ x :: l.drop i) := by
    have hlen : (l.take i ++ x :: l.drop i).length = l.length + 1 := by simp; omega
    have hsz2 : cur2.size = c * 7 := by rw [← hcur2]; simp; omega
    have htk : cur2.toList.take ((l.length + 1) * 7) = cellsL (l.take i ++ x :: l.drop i) := by
      have hrow := row_put cur.toList (cellsL (l.take i)) (cellsL (l.drop i)) (cellsL (l.drop i)) (cur.toList.drop (l.length * 7)) (by
        rw [← cellsL_append, List.take_append_drop, ← ht, List.take_append_drop]) (i * 7) (by rw [cellsL_length, List.length_take]; omega) rfl (Pie.cells x).toList rfl (by simp; omega)
      rw [← hcur2, ← hcur1]
      rw [show (i + 1) * 7 = i * 7 + 7 by omega, show (l.length + 1) * 7 = i * 7 + 7 + (cellsL (l.drop i)).length by omega]
      have e : cellsL (l.take i ++ x :: l.drop i) = cellsL (l.take i) ++ (Pie.cells x).toList ++ cellsL (l.drop i) := by
        rw [cellsL_append, show x :: l.drop i = [x] ++ l.drop i from rfl, cellsL_append, cellsL_one, List.append_assoc]
      rw [e]
      exact hrow
    exact ⟨by rw [cellsL_length, hlen], .inr ⟨g, c, cur2, by rw [hlen], hb, setRow_heap _ _ cur1 _ _ _ (setRow_heap _ _ cur _ _ _ hg), by omega, hm, hsz2, by rw [hlen]; exact htk⟩⟩
  have hbel : Below base w ((w.drew.setRow g cur1).setRow g cur2) := ((Below.refl base w).drew.trans (setRow_below g cur1 hb)).trans (setRow_below g cur2 hb)
  have hov : ∀ lb cb, (callFunc 209 #[.slice (some ⟨gv, 0, none⟩) 1 vc, .slice (some ⟨g, (i + 1) * 7, none⟩) lb cb]).run Tryz.prog w = .ok (.value (.bool false)) w := fun lb cb => overlaps_no w gv vc g _ lb cb x cur hv hg hne (by omega)
  have HF := Lib.hid hfin
  have HB := Lib.hid hbel
  have C1 := Lib.hid hcp1
  have C2 := Lib.hid hcp2
  clear hfin hbel hcp1 hcp2 hcells hD hcur1 hcur2 hsz1 ht hs hg hv h hm
  have b1 : ¬ (c = i + 1) := by omega
  have b2 : ¬ (c = i) := by omega
  have b3 : ¬ ((i : Int) = (l.length : Int)) := by omega
  have b4 : ¬ ((c : Int) < (l.length : Int) + 1) := by omega
  have b5 : (i : Int) ≤ (l.length : Int) := by omega
  have b6 : (0 : Int) ≤ (i : Int) := by omega
  have b7 : (l.length : Int) + 1 ≤ (c : Int) := by omega
  have b8 : (i : Int) + 1 ≤ (l.length : Int) + 1 := by omega
  have b9 : (i : Int) ≤ (l.length : Int) + 1 := by omega
  have w1 : IntKind.i64.wrap ((i : Int) + 1) = (i : Int) + 1 := by rw [IntKind.wrap_i64]; omega
  have w2 : (0 : Int) ≤ (i : Int) + 1 := by omega
  have w3 : ((i : Int) + 1).toNat = i + 1 := by omega
  go_enter Tryz.func170, Tryz.ntmps170
  go_wp2_with (simp only [hov])
  go_region_law (refine step_copy7 rfl (.tmp 73) (.tmp 76) rfl (.slice (some ⟨g, (i + 1) * 7, none⟩) (l.length - i) (c - (i + 1))) (.slice (some ⟨g, i * 7, none⟩) (l.length + 1 - i) (c - i)) (by simp [Act.eval, Act.put]) (by simp [Act.eval, Act.put]) (C1.out 3 (c - (i + 1)) (c - i)) ?_)
  go_wp2_with (refine wpList_copy7 rfl (.tmp 80) (.tmp 81) rfl (.slice (some ⟨g, i * 7, none⟩) (l.length + 1 - i) (c - i)) (.slice (some ⟨gv, 0, none⟩) 1 vc) rfl rfl (C2.out 3 (c - i)) ?_)
  go_ret
  exact ⟨_, rfl, HF.out, HB.out⟩
theorem wpList_app7z {ops : Array Oper} {o : Oper} {a : Act} {Q : Exit → Act → World → Prop} {w : World} {rest : List Oper} (hg : o.guard = none) (d s : Operand) (ho : o.op = .call { callee := .builtin .append, args := #[d, s], argTypes := #[60, 3] })
    (v u : Value) (hd : a.eval d = v) (hs : a.eval s = u) {v' : Value} {w' : World} (hr : (Builtin.append_ #[60, 3] o.type #[v, u]).run Tryz.prog w = .ok v' w')
    (hK : wpList Tryz.prog ops Q rest (a.put o.dst v') w') : wpList Tryz.prog ops Q (o :: rest) a w := by
  refine wpList_plain hg fun K' hK' => ?_
  unfold Oper.wp execOp
  simp only [ho, resolve, invoke, builtin, Sem.run_bind, Sem.run_pure, Result.andThen_ok, List.map_toArray, List.map_cons, List.map_nil, hd, hs, hr]
  exact hK' _ _ hK
/-- There is no room: a new row. -/
theorem Insert_grow (base : Nat) (g c gv vc i : Nat) (l : List Pie) (x : Pie) (w : World) (h : OwnL base w (.slice (some ⟨g, 0, none⟩) l.length c) l) (hi : i < l.length) (hc : c < l.length + 1) (hl : l.length ≤ 1000000000000)
    (hv : w.heap[gv]? = some (.cells (Pie.cells x) 71 (0, 0))) (hbase : base ≤ w.heap.size) :
    Calls Tryz.prog 170 #[.slice (some ⟨g, 0, none⟩) l.length c, .int .i64 i, .slice (some ⟨gv, 0, none⟩) 1 vc] w fun e w' => ∃ u, e = .returned u ∧ OwnL base w' u (l.take i ++ x :: l.drop i) ∧ Below base w w' := by
  rcases h.2 with ⟨h0, _⟩ | ⟨g', cap, cur, h0, hb, hg, hn, hm, hs, ht⟩
  · cases h0
  injection h0 with e1 e2 e3
  injection e1 with e1
  injection e1 with e4
  subst e3 e4
  have hcells : ∀ j v, (cellsL l)[j]? = some v → w.cell? ⟨g, j, none⟩ = some v := fun j v hj => by
    rw [cell_of_row w g j cur _ _ hg, ← Array.getElem?_toList]
    rw [← ht, List.getElem?_take] at hj
    split at hj
    · exact hj
    · cases hj
  have hgN := lt_heap hg
  have hvN := lt_heap hv
  obtain ⟨i0, hi0, hz0, hz1, hz2⟩ := info_parts infoL
  have hold : (Builtin.firstCells i0.size i (.slice (some ⟨g, 0, none⟩) i c)).run Tryz.prog w.drew = .ok (cellsL (l.take i)).toArray w.drew := by
    rw [hz1]
    exact run_firstCells_some (P := Tryz.prog) (w := w.drew) 7 i ⟨g, 0, none⟩ i c (cellsL (l.take i)) (by rw [cellsL_length, List.length_take]; omega) (fun j v hj => by
      rw [add_off, Nat.zero_add]
      show w.cell? _ = _
      rw [← cellsL_take, List.getElem?_take] at hj
      split at hj
      · exact hcells j v hj
      · cases hj)
  obtain ⟨G, hG⟩ : ∃ G, grownCap w (l.length + 1) c 71 = G := ⟨_, rfl⟩
  have hGn : l.length + 1 ≤ G := by rw [← hG]; exact grownCap_ge w _ _ _
  have hGm : G ≤ maxLen := by rw [← hG]; exact grownCap_le_maxLen w _ _ _ (by unfold maxLen; omega)
  obtain ⟨ROW, hROW⟩ : ∃ ROW : Array Value, (cellsL (l.take i)).toArray ++ Builtin.zeroCells (Value.agg #[.int .u64 0, .int .u64 0, .int .i64 0, .bool false, .int .i64 0, .float .f64 0, .string ⟨#[]⟩]).cells (l.length + 1 - i) ++ Builtin.zeroCells (Value.agg #[.int .u64 0, .int .u64 0, .int .i64 0, .bool false, .int .i64 0, .float .f64 0, .string ⟨#[]⟩]).cells (G - (l.length + 1)) = ROW := ⟨_, rfl⟩
  have hT : (cellsL (l.take i)).length = i * 7 := by rw [cellsL_length, List.length_take]; omega
  have hD : (cellsL (l.drop i)).length = (l.length - i) * 7 := by rw [cellsL_length, List.length_drop]
  have hRs : ROW.size = G * 7 := by
    rw [← hROW]
    simp [Builtin.zeroCells, Value.cells, hT]
    omega
  have hRt : ROW.toList.take (i * 7) = cellsL (l.take i) := by
    rw [← hROW]
    simp only [Array.toList_append, List.append_assoc]
    rw [List.take_append_of_le_length (by omega), List.take_of_length_le (by omega)]
  have hrz : ∀ ty, (Builtin.append_ #[60, 3] ty #[.slice (some ⟨g, 0, none⟩) i c, .int .i64 ((l.length : Int) + 1 - (i : Int))]).run Tryz.prog w = .ok (.slice (some ⟨w.heap.size, 0, none⟩) (l.length + 1) G) (w.drew.alloc (.cells ROW 71)) := fun ty => by
    have h := Lib.run_append_grow_zeros w 60 3 ty 71 i0 _ .i64 .i64 Tryz.underlying60 Tryz.underlying3 hi0 hz0 (some ⟨g, 0, none⟩) i c (cellsL (l.take i)) hold (l.length + 1 - i) (by omega) (by rw [hz1]; omega) (by omega) (by omega) (by rw [hz2]; omega) (by rw [hz2, show i + (l.length + 1 - i) = l.length + 1 by omega]; exact growslice_fits hc (by omega))
    rw [show i + (l.length + 1 - i) = l.length + 1 by omega, hG, hROW] at h
    rw [show (l.length : Int) + 1 - (i : Int) = ((l.length + 1 - i : Nat) : Int) by omega]
    exact h
  obtain ⟨N, hN⟩ : ∃ N, w.heap.size = N := ⟨_, rfl⟩
  obtain ⟨rowA, hrowA⟩ : ∃ r, (ROW.toList.take (i * 7) ++ (Pie.cells x).toList ++ ROW.toList.drop (i * 7 + (Pie.cells x).toList.length)).toArray = r := ⟨_, rfl⟩
  have hAs : rowA.size = G * 7 := by rw [← hrowA]; simp; omega
  obtain ⟨rowB, hrowB⟩ : ∃ r, (rowA.toList.take ((i + 1) * 7) ++ cellsL (l.drop i) ++ rowA.toList.drop ((i + 1) * 7 + (cellsL (l.drop i)).length)).toArray = r := ⟨_, rfl⟩
  have hBs : rowB.size = G * 7 := by rw [← hrowB]; simp; omega
  have hcpA : ∀ (W : World), W.heap[N]? = some (.cells ROW 71 (0, 0)) → W.heap[gv]? = some (.cells (Pie.cells x) 71 (0, 0)) → ∀ ty dc, (Builtin.copy_ #[60, 60] ty #[.slice (some ⟨N, i * 7, none⟩) (l.length + 1 - i) dc, .slice (some ⟨gv, 0, none⟩) 1 vc]).run Tryz.prog W = .ok (goInt 1) (W.setRow N rowA) := fun W hW hW2 ty dc => by
    rw [← hrowA]
    exact run_copy7 W ty N (i * 7) (l.length + 1 - i) dc ⟨gv, 0, none⟩ 1 vc ROW 71 (Pie.cells x).toList 1 hW (by simp only [Nat.min_def]; split <;> omega) rfl
      (fun j v hj => by
        rw [add_off, Nat.zero_add, cell_of_row _ gv j _ _ _ hW2, ← Array.getElem?_toList]; exact hj) (by rw [hRs, pie_len]; omega) (fun v hv => Array.all_eq_true_iff_forall_mem.1 (one7 x) v (by simpa using hv))
  have hcpB : ∀ (W : World), W.heap[N]? = some (.cells rowA 71 (0, 0)) → W.heap[g]? = w.heap[g]? → ∀ ty dc sc, (Builtin.copy_ #[60, 60] ty #[.slice (some ⟨N, (i + 1) * 7, none⟩) (l.length - i) dc, .slice (some ⟨g, i * 7, none⟩) (l.length - i) sc]).run Tryz.prog W = .ok (goInt ((l.length - i : Nat) : Int)) (W.setRow N rowB) := fun W hW hW2 ty dc sc => by
    rw [← hrowB]
    exact run_copy7 W ty N ((i + 1) * 7) (l.length - i) dc ⟨g, i * 7, none⟩ (l.length - i) sc rowA 71 (cellsL (l.drop i)) (l.length - i) hW (Nat.min_self _) hD
      (fun j v hj => by
        rw [add_off, World.cell?_of_block (a := ⟨g, i * 7 + j, none⟩) hW2]
        exact hcells (i * 7 + j) v (by rw [← cellsL_drop, List.getElem?_drop] at hj; exact hj)) (by omega) (oneL _)
  have hfin : ∀ W : World, W.heap[N]? = some (.cells rowB 71 (0, 0)) → OwnL base W (.slice (some ⟨N, 0, none⟩) (l.length + 1) G) (l.take i ++ x :: l.drop i) := fun W hW => by
    have hlen : (l.take i ++ x :: l.drop i).length = l.length + 1 := by simp; omega
    have htk : rowB.toList.take ((l.length + 1) * 7) = cellsL (l.take i ++ x :: l.drop i) := by
      have e : cellsL (l.take i ++ x :: l.drop i) = cellsL (l.take i) ++ (Pie.cells x).toList ++ cellsL (l.drop i) := by
        rw [cellsL_append, show x :: l.drop i = [x] ++ l.drop i from rfl, cellsL_append, cellsL_one, List.append_assoc]
      have eA : rowA.toList.take ((i + 1) * 7) = cellsL (l.take i) ++ (Pie.cells x).toList := by
        rw [← hrowA, hRt]
        rw [List.take_append_of_le_length (by simp [hT]; omega), List.take_of_length_le (by simp [hT]; omega)]
      rw [e, ← hrowB, eA, List.take_append_of_le_length (by simp [hT, hD]; omega), List.take_of_length_le (by simp [hT, hD]; omega)]
    exact ⟨by rw [cellsL_length, hlen], .inr ⟨N, G, rowB, by rw [hlen], by omega, hW, by omega, hGm, hBs, by rw [hlen]; exact htk⟩⟩
  have CZ := Lib.hid hrz
  have CA := Lib.hid hcpA
  have CB := Lib.hid hcpB
  have HF := Lib.hid hfin
  have HG := Lib.hid hg
  have HV := Lib.hid hv
  have HB := Lib.hid hbase
  have hGm2 : G ≤ 9223372036854775807 := by unfold maxLen at hGm; omega
  have hm2 : c ≤ 9223372036854775807 := by unfold maxLen at hm; omega
  clear hrz hcpA hcpB hfin hcells hT hD hRs hRt hROW hAs hrowA hBs hrowB hold hG hGm hm hs ht hg hv h hi0 hz0 hz1 hz2 hbase
  have b1 : ¬ (G = i + 1) := by omega
  have b2 : ¬ (c = i) := by omega
  have b3 : ¬ ((i : Int) = (l.length : Int)) := by omega
  have b4 : (c : Int) < (l.length : Int) + 1 := by omega
  have b5 : (i : Int) ≤ (l.length : Int) := by omega
  have b6 : (0 : Int) ≤ (i : Int) := by omega
  have b7 : ¬ (G = i) := by omega
  have b8 : (i : Int) + 1 ≤ (l.length : Int) + 1 := by omega
  have b9 : (i : Int) ≤ (l.length : Int) + 1 := by omega
  have b10 : (i : Int) ≤ (c : Int) := by omega
  have w1 : IntKind.i64.wrap ((i : Int) + 1) = (i : Int) + 1 := by rw [IntKind.wrap_i64]; omega
  have w2 : (0 : Int) ≤ (i : Int) + 1 := by omega
  have w3 : ((i : Int) + 1).toNat = i + 1 := by omega
  rw [hN] at CZ hgN hvN
  go_enter Tryz.func170, Tryz.ntmps170
  go_upto_region 10 with (refine wpList_app7z rfl (.tmp 34) (.tmp 39) rfl (.slice (some ⟨g, 0, none⟩) i c) (.int .i64 ((l.length : Int) + 1 - (i : Int))) rfl rfl (CZ.out _) ?_)
  have Z : Hid ((w.alloc (.cells ROW 71)).drew.heap[N]? = some (.cells ROW 71 (0, 0)) ∧ (w.alloc (.cells ROW 71)).drew.heap[gv]? = w.heap[gv]? ∧ (w.alloc (.cells ROW 71)).drew.heap[g]? = w.heap[g]? ∧ Below w.heap.size w (w.alloc (.cells ROW 71)).drew) := Lib.hid (by
    have hb := ((Below.refl w.heap.size w).alloc (Nat.le_refl _) (.cells ROW 71)).drew
    refine ⟨?_, hb.block gv (by omega), hb.block g (by omega), hb⟩
    rw [← hN]; exact heap_alloc_new w _)
  obtain ⟨W, hW⟩ : ∃ W, (w.alloc (.cells ROW 71)).drew = W := ⟨_, rfl⟩
  rw [hW] at Z ⊢
  clear hW
  have Z2 : Hid ((W.setRow N rowA).drew.heap[N]? = some (.cells rowA 71 (0, 0)) ∧ (W.setRow N rowA).drew.heap[g]? = w.heap[g]? ∧ Below w.heap.size w (W.setRow N rowA).drew) := Lib.hid
    ⟨setRow_heap W N ROW rowA _ _ Z.out.1, (setRow_other _ _ _ _ (by omega)).trans Z.out.2.2.1, Z.out.2.2.2.trans ((setRow_below N rowA (by omega)).drew)⟩
  have KA := Lib.hid (CA.out W Z.out.1 (Z.out.2.1.trans HV.out))
  have KB := Lib.hid (CB.out (W.setRow N rowA).drew Z2.out.1 Z2.out.2.1)
  go_upto_region 11 with (refine wpList_copy7 rfl (.tmp 43) (.tmp 44) rfl (.slice (some ⟨N, i * 7, none⟩) (l.length + 1 - i) (G - i)) (.slice (some ⟨gv, 0, none⟩) 1 vc) rfl rfl (KA.out 3 (G - i)) ?_)
  go_region_law (refine step_copy7 rfl (.tmp 50) (.tmp 53) rfl (.slice (some ⟨N, (i + 1) * 7, none⟩) (l.length - i) (G - (i + 1))) (.slice (some ⟨g, i * 7, none⟩) (l.length - i) (c - i)) (by simp [Act.eval, Act.put]) (by simp [Act.eval, Act.put]) (KB.out 3 (G - (i + 1)) (c - i)) ?_)
  go_wp2
  go_ret
  exact ⟨_, rfl, HF.out _ (setRow_heap _ N rowA rowB _ _ Z2.out.1), (Z2.out.2.2.trans (setRow_below N rowB (by omega))).mono HB.out⟩
end
end Go.Proofs.YtflgdhhgnbdofaaGreat

