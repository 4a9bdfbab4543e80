/- The library's Insert, of one piece into a slice of the call's own: at the end; where there is room; where there is none. -/
/- A piece put among others. -/
/- Set. -/
import Derived.Test.YtmolpogehgeebaaGreatbB7
import Derived.Lib.Overlaps
import Derived.Lib.AppendZerosOnto
import Derived.Laws.CopyRow
import Derived.Test.YtmolpogehgeebaaGreatbB6
namespace Go.Proofs.YtmolpogehgeebaaGreat
open Go.RowKit
/-- copy of pieces onto a row whose cells are known. -/
theorem run_copy7 (w : World) (ty : TypeId) (g o dLen dCap : Nat) (a : Addr) (sLen sCap : Nat) (cur : Array Value) (t : TypeId) (cs : List Value) (n : Nat) (hg : w.heap[g]? = some (.cells cur t (0, 0))) (hn : Nat.min sLen dLen = n)
    (hcs : cs.length = n * 7) (hsrc : ∀ j v, cs[j]? = some v → w.cell? (a.add j) = some v) (hfit : o + cs.length ≤ cur.size) (h1 : ∀ v ∈ cs, v.oneCell' = true) :
    (Builtin.copy_ #[60, 60] ty #[.slice (some ⟨g, o, none⟩) dLen dCap, .slice (some a) sLen sCap]).run Tryz.prog w = .ok (goInt n) (w.setRow g (cur.toList.take o ++ cs ++ cur.toList.drop (o + cs.length)).toArray) := by
  obtain ⟨i0, hi, hz0, hz1, hz2⟩ := info_parts infoL
  have hl := run_firstCells_some (P := Tryz.prog) (w := w) 7 n a sLen sCap cs hcs hsrc
  have hst := run_storeCells_at Tryz.prog g o t cs 0 cur w hg (by simpa using hfit) h1
  simp [Builtin.copy_, run_underlying Tryz.underlying60, Builtin.lenOf, sizeOf, typeInfo, hi, hz1, hn, hl, hst]
section
variable {ops : Array Oper} {o : Oper} {a : Act} {K : Act → World → Prop} {Q : Exit → Act → World → Prop} {E : Prop} {w : World}
theorem step_copy7 (hw : Region.wanted o (yielded ops a.tmps) = true) (d s : Operand) (ho : o.op = .call { callee := .builtin .copy, args := #[d, s], argTypes := #[60, 60] })
    (v u : Value) (hd : a.eval d = v) (hs : a.eval s = u) {v' : Value} {w' : World} (hr : (Builtin.copy_ #[60, 60] o.type #[v, u]).run Tryz.prog w = .ok v' w') (hK : K (a.put o.dst v') w') :
    if Region.wanted o (yielded ops a.tmps) = true then Oper.wp Tryz.prog o a w K Q else E := by
  rw [if_pos hw]
  unfold Oper.wp execOp
  simp only [ho, resolve, invoke, builtin, Sem.run_bind, Sem.run_pure, Result.andThen_ok, List.map_toArray, List.map_cons, List.map_nil, hd, hs, hr]
  exact hK
theorem wpList_copy7 {rest : List Oper} (hg : o.guard = none) (d s : Operand) (ho : o.op = .call { callee := .builtin .copy, args := #[d, s], argTypes := #[60, 60] })
    (v u : Value) (hd : a.eval d = v) (hs : a.eval s = u) {v' : Value} {w' : World} (hr : (Builtin.copy_ #[60, 60] o.type #[v, u]).run Tryz.prog w = .ok v' w')
    (hK : wpList Tryz.prog ops Q rest (a.put o.dst v') w') : wpList Tryz.prog ops Q (o :: rest) a w := by
  refine wpList_plain hg fun K' hK' => ?_
  unfold Oper.wp execOp
  simp only [ho, resolve, invoke, builtin, Sem.run_bind, Sem.run_pure, Result.andThen_ok, List.map_toArray, List.map_cons, List.map_nil, hd, hs, hr]
  exact hK' _ _ hK
end
theorem cellsL_take (l : List Pie) (i : Nat) : (cellsL l).take (i * 7) = cellsL (l.take i) := by
  rcases Nat.lt_or_ge l.length i with h | h
  · rw [List.take_of_length_le (by rw [cellsL_length]; omega), List.take_of_length_le (by omega)]
  · conv => lhs; rw [← List.take_append_drop i l, cellsL_append]
    rw [List.take_append_of_le_length (by rw [cellsL_length, List.length_take]; omega), List.take_of_length_le (by rw [cellsL_length, List.length_take]; omega)]
theorem cellsL_drop (l : List Pie) (i : Nat) : (cellsL l).drop (i * 7) = cellsL (l.drop i) := by
  rcases Nat.lt_or_ge l.length i with h | h
  · rw [List.drop_eq_nil_of_le (by rw [cellsL_length]; omega), List.drop_eq_nil_of_le (by omega)]; rfl
  · conv => lhs; rw [← List.take_append_drop i l, cellsL_append]
    rw [List.drop_append_of_le_length (by rw [cellsL_length, List.length_take]; omega), List.drop_eq_nil_of_le (by rw [cellsL_length, List.length_take]; omega), List.nil_append]
theorem oneL (l : List Pie) : ∀ v ∈ cellsL l, v.oneCell' = true := fun v hv => by
  obtain ⟨x, _, hx⟩ := List.mem_flatMap.1 hv
  exact Array.all_eq_true_iff_forall_mem.1 (one7 x) v (by simpa using hx)
/-- The row behind the two copies. -/
theorem row_put (C : List Value) (A X D R : List Value) (h : C = A ++ X ++ R) (k : Nat) (hA : A.length = k) (hX : X.length = D.length) (x : List Value) (hx : x.length = 7) (hR : 7 ≤ R.length) :
    let C1 := C.take (k + 7) ++ D ++ C.drop (k + 7 + D.length)
    (C1.take k ++ x ++ C1.drop (k + 7)).take (k + 7 + D.length) = A ++ x ++ D := by
  intro C1
  have e1 : C1.take k = A := by
    have : C1 = A ++ ((X ++ R).take 7 ++ D ++ C.drop (k + 7 + D.length)) := by
      show C.take (k + 7) ++ D ++ _ = _
      rw [h, List.append_assoc A X R, show k + 7 = A.length + 7 by omega, List.take_length_add_append]
      simp
    rw [this, List.take_append_of_le_length (by omega), List.take_of_length_le (by omega)]
  have e2 : C1.drop (k + 7) = D ++ C.drop (k + 7 + D.length) := by
    show (C.take (k + 7) ++ D ++ _).drop (k + 7) = _
    have hl : (C.take (k + 7)).length = k + 7 := by
      rw [List.length_take, h]; simp; omega
    rw [List.append_assoc, List.drop_append_of_le_length (by omega), List.drop_eq_nil_of_le (by omega), List.nil_append]
  rw [e1, e2, ← List.append_assoc, List.take_append_of_le_length (by simp; omega), List.take_of_length_le (by simp; omega)]
theorem setRow_below {base : Nat} {w : World} (g : Nat) (cur : Array Value) (hb : base ≤ g) : Below base w (w.setRow g cur) := ⟨rfl, rfl, rfl, by simp, fun k hk => setRow_other _ _ _ _ (by omega)⟩
theorem overlaps_no (w : World) (gv vc gs off lb cb : Nat) (x : Pie) (cur : Array Value) (hv : w.heap[gv]? = some (.cells (Pie.cells x) 148 (0, 0))) (hs : w.heap[gs]? = some (.cells cur 148 (0, 0))) (hne : gv ≠ gs) (h0 : cur.size ≠ 0) :
    (callFunc 291 #[.slice (some ⟨gv, 0, none⟩) 1 vc, .slice (some ⟨gs, off, none⟩) lb cb]).run Tryz.prog w = .ok (.value (.bool false)) w := by
  have hsa : w.shape? gv = some (148, 7) := by unfold World.shape?; rw [hv]; rfl
  have hsb : w.shape? gs = some (148, cur.size) := by unfold World.shape?; rw [hs]
  have hf : ∀ o, w.frozen? ⟨gv, o, none⟩ = false := fun o => by simp [World.frozen?, hv]
  rw [run_callFunc_extern Tryz.func291 (by kernel_rfl) (by kernel_rfl) (by kernel_rfl) (e := Extern.SlicesOverlaps.overlaps #[60, 60] #[4]) (by kernel_rfl),
    Lib.run_overlaps_apart w 60 4 148 Tryz.underlying60 7 (fun w => Tryz.sizeOf148 w) ⟨gv, 0, none⟩ ⟨gs, off, none⟩ 1 vc lb cb hne _ _ 7 cur.size hsa hsb h0 (hf _) (hf _)]
  rfl
section
set_option maxRecDepth 100000
set_option maxHeartbeats 8000000
/-- There is room. -/
theorem Insert_room (base : Nat) (g c gv vc i : Nat) (l : List Pie) (x : Pie) (w : World) (h : OwnL base w (.slice (some ⟨g, 0, none⟩) l.length c) l) (hi : i < l.length) (hc : l.length + 1 ≤ c) (hc2 : c ≤ 9223372036854775807)
    (hv : w.heap[gv]? = some (.cells (Pie.cells x) 148 (0, 0))) (hne : gv ≠ g) :
    Calls Tryz.prog 274 #[.slice (some ⟨g, 0, none⟩) l.length c, .int .i64 i, .slice (some ⟨gv, 0, none⟩) 1 vc] w fun e w' => ∃ u, e = .returned u ∧ OwnL base w' u (l.take i ++ x :: l.drop i) ∧ Below base w w' := by
  rcases h.2 with ⟨h0, _⟩ | ⟨g', cap, cur, h0, hb, hg, hn, hm, hs, ht⟩
  · cases h0
  injection h0 with e1 e2 e3
  injection e1 with e1
  injection e1 with e4
  subst e3 e4
  have hcells : ∀ j v, (cellsL l)[j]? = some v → w.cell? ⟨g, j, none⟩ = some v := fun j v hj => by
    rw [cell_of_row w g j cur _ _ hg, ← Array.getElem?_toList]
    rw [← ht, List.getElem?_take] at hj
    split at hj
    · exact hj
    · cases hj
  have hD : (cellsL (l.drop i)).length = (l.length - i) * 7 := by rw [cellsL_length, List.length_drop]
  obtain ⟨cur1, hcur1⟩ : ∃ cur1, (cur.toList.take ((i + 1) * 7) ++ cellsL (l.drop i) ++ cur.toList.drop ((i + 1) * 7 + (cellsL (l.drop i)).length)).toArray = cur1 := ⟨_, rfl⟩
  have hsz1 : cur1.size = c * 7 := by rw [← hcur1]; simp; omega
  obtain ⟨cur2, hcur2⟩ : ∃ cur2, (cur1.toList.take (i * 7) ++ (Pie.cells x).toList ++ cur1.toList.drop (i * 7 + (Pie.cells x).toList.length)).toArray = cur2 := ⟨_, rfl⟩
  have hcp1 : ∀ ty dc sc, (Builtin.copy_ #[60, 60] ty #[.slice (some ⟨g, (i + 1) * 7, none⟩) (l.length - i) dc, .slice (some ⟨g, i * 7, none⟩) (l.length + 1 - i) sc]).run Tryz.prog w.drew = .ok (goInt ((l.length - i : Nat) : Int)) (w.drew.setRow g cur1) := fun ty dc sc => by
    rw [← hcur1]
    exact run_copy7 w.drew ty g ((i + 1) * 7) (l.length - i) dc ⟨g, i * 7, none⟩ (l.length + 1 - i) sc cur _ (cellsL (l.drop i)) (l.length - i) hg (by simp only [Nat.min_def]; split <;> omega) hD
      (fun j v hj => by
        rw [add_off]
        show w.cell? _ = _
        exact hcells (i * 7 + j) v (by rw [← cellsL_drop, List.getElem?_drop] at hj; exact hj)) (by omega) (oneL _)
  have hcp2 : ∀ ty dc, (Builtin.copy_ #[60, 60] ty #[.slice (some ⟨g, i * 7, none⟩) (l.length + 1 - i) dc, .slice (some ⟨gv, 0, none⟩) 1 vc]).run Tryz.prog (w.drew.setRow g cur1) = .ok (goInt 1) ((w.drew.setRow g cur1).setRow g cur2) := fun ty dc => by
    rw [← hcur2]
    exact run_copy7 (w.drew.setRow g cur1) ty g (i * 7) (l.length + 1 - i) dc ⟨gv, 0, none⟩ 1 vc cur1 148 (Pie.cells x).toList 1 (setRow_heap _ _ cur _ _ _ hg) (by simp only [Nat.min_def]; split <;> omega) rfl
      (fun j v hj => by
        rw [add_off, Nat.zero_add]
        have : (w.drew.setRow g cur1).heap[gv]? = some (.cells (Pie.cells x) 148 (0, 0)) := (setRow_other _ _ _ _ (by omega)).trans hv
        rw [cell_of_row _ gv j _ _ _ this, ← Array.getElem?_toList]; exact hj) (by rw [hsz1, pie_len]; omega) (fun v hv => Array.all_eq_true_iff_forall_mem.1 (one7 x) v (by simpa using hv))
  have hfin : OwnL base ((w.drew.setRow g cur1).setRow g cur2) (.slice (some ⟨g, 0, none⟩) (l.length + 1) c) (l.take i ++ x :: l.drop i) := by
    have hlen : (l.take i ++ x :: l.drop i).length = l.length + 1 := by simp; omega
    have hsz2 : cur2.size = c * 7 := by rw [← hcur2]; simp; omega
    have htk : cur2.toList.take ((l.length + 1) * 7) = cellsL (l.take i ++ x :: l.drop i) := by
      have hrow := row_put cur.toList (cellsL (l.take i)) (cellsL (l.drop i)) (cellsL (l.drop i)) (cur.toList.drop (l.length * 7)) (by
        rw [← cellsL_append, List.take_append_drop, ← ht, List.take_append_drop]) (i * 7) (by rw [cellsL_length, List.length_take]; omega) rfl (Pie.cells x).toList rfl (by simp; omega)
      rw [← hcur2, ← hcur1]
      rw [show (i + 1) * 7 = i * 7 + 7 by omega, show (l.length + 1) * 7 = i * 7 + 7 + (cellsL (l.drop i)).length by omega]
      have e : cellsL (l.take i ++ x :: l.drop i) = cellsL (l.take i) ++ (Pie.cells x).toList ++ cellsL (l.drop i) := by
        rw [cellsL_append, show x :: l.drop i = [x] ++ l.drop i from rfl, cellsL_append, cellsL_one, List.append_assoc]
      rw [e]
      exact hrow
    exact ⟨by rw [cellsL_length, hlen], .inr ⟨g, c, cur2, by rw [hlen], hb, setRow_heap _ _ cur1 _ _ _ (setRow_heap _ _ cur _ _ _ hg), by omega, hm, hsz2, by rw [hlen]; exact htk⟩⟩
  have hbel : Below base w ((w.drew.setRow g cur1).setRow g cur2) := ((Below.refl base w).drew.trans (setRow_below g cur1 hb)).trans (setRow_below g cur2 hb)
  have hov : ∀ lb cb, (callFunc 291 #[.slice (some ⟨gv, 0, none⟩) 1 vc, .slice (some ⟨g, (i + 1) * 7, none⟩) lb cb]).run Tryz.prog w = .ok (.value (.bool false)) w := fun lb cb => overlaps_no w gv vc g _ lb cb x cur hv hg hne (by omega)
  have HF := Lib.hid hfin
  have HB := Lib.hid hbel
  have C1 := Lib.hid hcp1
  have C2 := Lib.hid hcp2
  clear hfin hbel hcp1 hcp2 hcells hD hcur1 hcur2 hsz1 ht hs hg hv h hm
  have b1 : ¬ (c = i + 1) := by omega
  have b2 : ¬ (c = i) := by omega
  have b3 : ¬ ((i : Int) = (l.length : Int)) := by omega
  have b4 : ¬ ((c : Int) < (l.length : Int) + 1) := by omega
  have b5 : (i : Int) ≤ (l.length : Int) := by omega
  have b6 : (0 : Int) ≤ (i : Int) := by omega
  have b7 : (l.length : Int) + 1 ≤ (c : Int) := by omega
  have b8 : (i : Int) + 1 ≤ (l.length : Int) + 1 := by omega
  have b9 : (i : Int) ≤ (l.length : Int) + 1 := by omega
  have w1 : IntKind.i64.wrap ((i : Int) + 1) = (i : Int) + 1 := by rw [IntKind.wrap_i64]; omega
  have w2 : (0 : Int) ≤ (i : Int) + 1 := by omega
  have w3 : ((i : Int) + 1).toNat = i + 1 := by omega
  go_enter Tryz.func274, Tryz.ntmps274
  go_wp2_with (simp only [hov])
  go_region_law (refine step_copy7 rfl (.tmp 73) (.tmp 76) rfl (.slice (some ⟨g, (i + 1) * 7, none⟩) (l.length - i) (c - (i + 1))) (.slice (some ⟨g, i * 7, none⟩) (l.length + 1 - i) (c - i)) (by simp [Act.eval, Act.put]) (by simp [Act.eval, Act.put]) (C1.out 3 (c - (i + 1)) (c - i)) ?_)
  go_wp2_with (refine wpList_copy7 rfl (.tmp 80) (.tmp 81) rfl (.slice (some ⟨g, i * 7, none⟩) (l.length + 1 - i) (c - i)) (.slice (some ⟨gv, 0, none⟩) 1 vc) rfl rfl (C2.out 3 (c - i)) ?_)
  go_ret
  exact ⟨_, rfl, HF.out, HB.out⟩
theorem wpList_app7z {ops : Array Oper} {o : Oper} {a : Act} {Q : Exit → Act → World → Prop} {w : World} {rest : List Oper} (hg : o.guard = none) (d s : Operand) (ho : o.op = .call { callee := .builtin .append, args := #[d, s], argTypes := #[60, 3] })
    (v u : Value) (hd : a.eval d = v) (hs : a.eval s = u) {v' : Value} {w' : World} (hr : (Builtin.append_ #[60, 3] o.type #[v, u]).run Tryz.prog w = .ok v' w')
    (hK : wpList Tryz.prog ops Q rest (a.put o.dst v') w') : wpList Tryz.prog ops Q (o :: rest) a w := by
  refine wpList_plain hg fun K' hK' => ?_
  unfold Oper.wp execOp
  simp only [ho, resolve, invoke, builtin, Sem.run_bind, Sem.run_pure, Result.andThen_ok, List.map_toArray, List.map_cons, List.map_nil, hd, hs, hr]
  exact hK' _ _ hK
/-- There is no room: a new row. -/
theorem Insert_grow (base : Nat) (g c gv vc i : Nat) (l : List Pie) (x : Pie) (w : World) (h : OwnL base w (.slice (some ⟨g, 0, none⟩) l.length c) l) (hi : i < l.length) (hc : c < l.length + 1) (hl : l.length ≤ 1000000000000)
    (hv : w.heap[gv]? = some (.cells (Pie.cells x) 148 (0, 0))) (hbase : base ≤ w.heap.size) :
    Calls Tryz.prog 274 #[.slice (some ⟨g, 0, none⟩) l.length c, .int .i64 i, .slice (some ⟨gv, 0, none⟩) 1 vc] w fun e w' => ∃ u, e = .returned u ∧ OwnL base w' u (l.take i ++ x :: l.drop i) ∧ Below base w w' := by
  rcases h.2 with ⟨h0, _⟩ | ⟨g', cap, cur, h0, hb, hg, hn, hm, hs, ht⟩
  · cases h0
  injection h0 with e1 e2 e3
  injection e1 with e1
  injection e1 with e4
  subst e3 e4
  have hcells : ∀ j v, (cellsL l)[j]? = some v → w.cell? ⟨g, j, none⟩ = some v := fun j v hj => by
    rw [cell_of_row w g j cur _ _ hg, ← Array.getElem?_toList]
    rw [← ht, List.getElem?_take] at hj
    split at hj
    · exact hj
    · cases hj
  have hgN := lt_heap hg
  have hvN := lt_heap hv
  obtain ⟨i0, hi0, hz0, hz1, hz2⟩ := info_parts infoL
  have hold : (Builtin.firstCells i0.size i (.slice (some ⟨g, 0, none⟩) i c)).run Tryz.prog w.drew = .ok (cellsL (l.take i)).toArray w.drew := by
    rw [hz1]
    exact run_firstCells_some (P := Tryz.prog) (w := w.drew) 7 i ⟨g, 0, none⟩ i c (cellsL (l.take i)) (by rw [cellsL_length, List.length_take]; omega) (fun j v hj => by
      rw [add_off, Nat.zero_add]
      show w.cell? _ = _
      rw [← cellsL_take, List.getElem?_take] at hj
      split at hj
      · exact hcells j v hj
      · cases hj)
  obtain ⟨G, hG⟩ : ∃ G, grownCap w (l.length + 1) c 148 = G := ⟨_, rfl⟩
  have hGn : l.length + 1 ≤ G := by rw [← hG]; exact grownCap_ge w _ _ _
  have hGm : G ≤ maxLen := by rw [← hG]; exact grownCap_le_maxLen w _ _ _ (by unfold maxLen; omega)
  obtain ⟨ROW, hROW⟩ : ∃ ROW : Array Value, (cellsL (l.take i)).toArray ++ Builtin.zeroCells (Value.agg #[.int .u64 0, .int .u64 0, .int .i64 0, .bool false, .int .i64 0, .float .f64 0, .string ⟨#[]⟩]).cells (l.length + 1 - i) ++ Builtin.zeroCells (Value.agg #[.int .u64 0, .int .u64 0, .int .i64 0, .bool false, .int .i64 0, .float .f64 0, .string ⟨#[]⟩]).cells (G - (l.length + 1)) = ROW := ⟨_, rfl⟩
  have hT : (cellsL (l.take i)).length = i * 7 := by rw [cellsL_length, List.length_take]; omega
  have hD : (cellsL (l.drop i)).length = (l.length - i) * 7 := by rw [cellsL_length, List.length_drop]
  have hRs : ROW.size = G * 7 := by
    rw [← hROW]
    simp [Builtin.zeroCells, Value.cells, hT]
    omega
  have hRt : ROW.toList.take (i * 7) = cellsL (l.take i) := by
    rw [← hROW]
    simp only [Array.toList_append, List.append_assoc]
    rw [List.take_append_of_le_length (by omega), List.take_of_length_le (by omega)]
  have hrz : ∀ ty, (Builtin.append_ #[60, 3] ty #[.slice (some ⟨g, 0, none⟩) i c, .int .i64 ((l.length : Int) + 1 - (i : Int))]).run Tryz.prog w = .ok (.slice (some ⟨w.heap.size, 0, none⟩) (l.length + 1) G) (w.drew.alloc (.cells ROW 148)) := fun ty => by
    have h := Lib.run_append_grow_zeros w 60 3 ty 148 i0 _ .i64 .i64 Tryz.underlying60 Tryz.underlying3 hi0 hz0 (some ⟨g, 0, none⟩) i c (cellsL (l.take i)) hold (l.length + 1 - i) (by omega) (by rw [hz1]; omega) (by omega) (by omega) (by rw [hz2]; omega) (by rw [hz2, show i + (l.length + 1 - i) = l.length + 1 by omega]; exact growslice_fits hc (by omega))
    rw [show i + (l.length + 1 - i) = l.length + 1 by omega, hG, hROW] at h
    rw [show (l.length : Int) + 1 - (i : Int) = ((l.length + 1 - i : Nat) : Int) by omega]
    exact h
  obtain ⟨N, hN⟩ : ∃ N, w.heap.size = N := ⟨_, rfl⟩
  obtain ⟨rowA, hrowA⟩ : ∃ r, (ROW.toList.take (i * 7) ++ (Pie.cells x).toList ++ ROW.toList.drop (i * 7 + (Pie.cells x).toList.length)).toArray = r := ⟨_, rfl⟩
  have hAs : rowA.size = G * 7 := by rw [← hrowA]; simp; omega
  obtain ⟨rowB, hrowB⟩ : ∃ r, (rowA.toList.take ((i + 1) * 7) ++ cellsL (l.drop i) ++ rowA.toList.drop ((i + 1) * 7 + (cellsL (l.drop i)).length)).toArray = r := ⟨_, rfl⟩
  have hBs : rowB.size = G * 7 := by rw [← hrowB]; simp; omega
  have hcpA : ∀ (W : World), W.heap[N]? = some (.cells ROW 148 (0, 0)) → W.heap[gv]? = some (.cells (Pie.cells x) 148 (0, 0)) → ∀ ty dc, (Builtin.copy_ #[60, 60] ty #[.slice (some ⟨N, i * 7, none⟩) (l.length + 1 - i) dc, .slice (some ⟨gv, 0, none⟩) 1 vc]).run Tryz.prog W = .ok (goInt 1) (W.setRow N rowA) := fun W hW hW2 ty dc => by
    rw [← hrowA]
    exact run_copy7 W ty N (i * 7) (l.length + 1 - i) dc ⟨gv, 0, none⟩ 1 vc ROW 148 (Pie.cells x).toList 1 hW (by simp only [Nat.min_def]; split <;> omega) rfl
      (fun j v hj => by
        rw [add_off, Nat.zero_add, cell_of_row _ gv j _ _ _ hW2, ← Array.getElem?_toList]; exact hj) (by rw [hRs, pie_len]; omega) (fun v hv => Array.all_eq_true_iff_forall_mem.1 (one7 x) v (by simpa using hv))
  have hcpB : ∀ (W : World), W.heap[N]? = some (.cells rowA 148 (0, 0)) → W.heap[g]? = w.heap[g]? → ∀ ty dc sc, (Builtin.copy_ #[60, 60] ty #[.slice (some ⟨N, (i + 1) * 7, none⟩) (l.length - i) dc, .slice (some ⟨g, i * 7, none⟩) (l.length - i) sc]).run Tryz.prog W = .ok (goInt ((l.length - i : Nat) : Int)) (W.setRow N rowB) := fun W hW hW2 ty dc sc => by
    rw [← hrowB]
    exact run_copy7 W ty N ((i + 1) * 7) (l.length - i) dc ⟨g, i * 7, none⟩ (l.length - i) sc rowA 148 (cellsL (l.drop i)) (l.length - i) hW (Nat.min_self _) hD
      (fun j v hj => by
        rw [add_off, World.cell?_of_block (a := ⟨g, i * 7 + j, none⟩) hW2]
        exact hcells (i * 7 + j) v (by rw [← cellsL_drop, List.getElem?_drop] at hj; exact hj)) (by omega) (oneL _)
  have hfin : ∀ W : World, W.heap[N]? = some (.cells rowB 148 (0, 0)) → OwnL base W (.slice (some ⟨N, 0, none⟩) (l.length + 1) G) (l.take i ++ x :: l.drop i) := fun W hW => by
    have hlen : (l.take i ++ x :: l.drop i).length = l.length + 1 := by simp; omega
    have htk : rowB.toList.take ((l.length + 1) * 7) = cellsL (l.take i ++ x :: l.drop i) := by
      have e : cellsL (l.take i ++ x :: l.drop i) = cellsL (l.take i) ++ (Pie.cells x).toList ++ cellsL (l.drop i) := by
        rw [cellsL_append, show x :: l.drop i = [x] ++ l.drop i from rfl, cellsL_append, cellsL_one, List.append_assoc]
      have eA : rowA.toList.take ((i + 1) * 7) = cellsL (l.take i) ++ (Pie.cells x).toList := by
        rw [← hrowA, hRt]
        rw [List.take_append_of_le_length (by simp [hT]; omega), List.take_of_length_le (by simp [hT]; omega)]
      rw [e, ← hrowB, eA, List.take_append_of_le_length (by simp [hT, hD]; omega), List.take_of_length_le (by simp [hT, hD]; omega)]
    exact ⟨by rw [cellsL_length, hlen], .inr ⟨N, G, rowB, by rw [hlen], by omega, hW, by omega, hGm, hBs, by rw [hlen]; exact htk⟩⟩
  have CZ := Lib.hid hrz
  have CA := Lib.hid hcpA
  have CB := Lib.hid hcpB
  have HF := Lib.hid hfin
  have HG := Lib.hid hg
  have HV := Lib.hid hv
  have HB := Lib.hid hbase
  have hGm2 : G ≤ 9223372036854775807 := by unfold maxLen at hGm; omega
  have hm2 : c ≤ 9223372036854775807 := by unfold maxLen at hm; omega
  clear hrz hcpA hcpB hfin hcells hT hD hRs hRt hROW hAs hrowA hBs hrowB hold hG hGm hm hs ht hg hv h hi0 hz0 hz1 hz2 hbase
  have b1 : ¬ (G = i + 1) := by omega
  have b2 : ¬ (c = i) := by omega
  have b3 : ¬ ((i : Int) = (l.length : Int)) := by omega
  have b4 : (c : Int) < (l.length : Int) + 1 := by omega
  have b5 : (i : Int) ≤ (l.length : Int) := by omega
  have b6 : (0 : Int) ≤ (i : Int) := by omega
  have b7 : ¬ (G = i) := by omega
  have b8 : (i : Int) + 1 ≤ (l.length : Int) + 1 := by omega
  have b9 : (i : Int) ≤ (l.length : Int) + 1 := by omega
  have b10 : (i : Int) ≤ (c : Int) := by omega
  have w1 : IntKind.i64.wrap ((i : Int) + 1) = (i : Int) + 1 := by rw [IntKind.wrap_i64]; omega
  have w2 : (0 : Int) ≤ (i : Int) + 1 := by omega
  have w3 : ((i : Int) + 1).toNat = i + 1 := by omega
  rw [hN] at CZ hgN hvN
  go_enter Tryz.func274, Tryz.ntmps274
  go_upto_region 10 with (refine wpList_app7z rfl (.tmp 34) (.tmp 39) rfl (.slice (some ⟨g, 0, none⟩) i c) (.int .i64 ((l.length : Int) + 1 - (i : Int))) rfl rfl (CZ.out _) ?_)
  have Z : Hid ((w.alloc (.cells ROW 148)).drew.heap[N]? = some (.cells ROW 148 (0, 0)) ∧ (w.alloc (.cells ROW 148)).drew.heap[gv]? = w.heap[gv]? ∧ (w.alloc (.cells ROW 148)).drew.heap[g]? = w.heap[g]? ∧ Below w.heap.size w (w.alloc (.cells ROW 148)).drew) := Lib.hid (by
    have hb := ((Below.refl w.heap.size w).alloc (Nat.le_refl _) (.cells ROW 148)).drew
    refine ⟨?_, hb.block gv (by omega), hb.block g (by omega), hb⟩
    rw [← hN]; exact heap_alloc_new w _)
  obtain ⟨W, hW⟩ : ∃ W, (w.alloc (.cells ROW 148)).drew = W := ⟨_, rfl⟩
  rw [hW] at Z ⊢
  clear hW
  have Z2 : Hid ((W.setRow N rowA).drew.heap[N]? = some (.cells rowA 148 (0, 0)) ∧ (W.setRow N rowA).drew.heap[g]? = w.heap[g]? ∧ Below w.heap.size w (W.setRow N rowA).drew) := Lib.hid
    ⟨setRow_heap W N ROW rowA _ _ Z.out.1, (setRow_other _ _ _ _ (by omega)).trans Z.out.2.2.1, Z.out.2.2.2.trans ((setRow_below N rowA (by omega)).drew)⟩
  have KA := Lib.hid (CA.out W Z.out.1 (Z.out.2.1.trans HV.out))
  have KB := Lib.hid (CB.out (W.setRow N rowA).drew Z2.out.1 Z2.out.2.1)
  go_upto_region 11 with (refine wpList_copy7 rfl (.tmp 43) (.tmp 44) rfl (.slice (some ⟨N, i * 7, none⟩) (l.length + 1 - i) (G - i)) (.slice (some ⟨gv, 0, none⟩) 1 vc) rfl rfl (KA.out 3 (G - i)) ?_)
  go_region_law (refine step_copy7 rfl (.tmp 50) (.tmp 53) rfl (.slice (some ⟨N, (i + 1) * 7, none⟩) (l.length - i) (G - (i + 1))) (.slice (some ⟨g, i * 7, none⟩) (l.length - i) (c - i)) (by simp [Act.eval, Act.put]) (by simp [Act.eval, Act.put]) (KB.out 3 (G - (i + 1)) (c - i)) ?_)
  go_wp2
  go_ret
  exact ⟨_, rfl, HF.out _ (setRow_heap _ N rowA rowB _ _ Z2.out.1), (Z2.out.2.2.trans (setRow_below N rowB (by omega))).mono HB.out⟩
end
end Go.Proofs.YtmolpogehgeebaaGreat


namespace Go.Proofs.YtmolpogehgeebaaGreat
open Go.RowKit
theorem cmpP_neg (a b c d : Int) : Se.cmpP a b c d < 0 ↔ a < c ∨ (a = c ∧ b < d) := by
  unfold Se.cmpP Se.orI Se.cmpI
  (repeat' split) <;> omega
section
set_option maxRecDepth 100000
set_option maxHeartbeats 8000000
theorem Insert_end (base : Nat) (gv : Nat) (v : Value) (l : List Pie) (x : Pie) (w : World) (h : OwnL base w v l) (hl : l.length ≤ 1000000000)
    (hv : w.heap[gv]? = some (.cells (Pie.cells x) 148 (0, 0))) (hbase : base ≤ w.heap.size) :
    Calls Tryz.prog 274 #[v, .int .i64 l.length, .slice (some ⟨gv, 0, none⟩) 1 1] w fun e w' => ∃ u, e = .returned u ∧ OwnL base w' u (l ++ [x]) ∧ Below base w w' := by
  have HO := Lib.hid h
  have HC := Lib.hid (show ∀ j u, (Pie.cells x).toList[j]? = some u → w.cell? ⟨gv, j, none⟩ = some u from fun j u hj => by rw [cell_of_row _ gv j _ _ _ hv, ← Array.getElem?_toList]; exact hj)
  have HB := Lib.hid hbase
  obtain ⟨A, c, rfl, hA, _⟩ := h.at
  clear h hv hbase hA
  have b1 : (0 : Int) ≤ (l.length : Int) := by omega
  go_enter Tryz.func274, Tryz.ntmps274
  go_wp2_with (at_builtin; refine wpList_appL rfl (.tmp 23) (.tmp 24) rfl base _ l rfl HO.out gv x rfl HC.out (by omega) HB.out ?_; intro v2 w2 ho2 hb2; have HO2 := Lib.hid ho2; have HB2 := Lib.hid hb2; clear ho2 hb2)
  all_goals
    go_ret
    exact ⟨_, rfl, HO2.out, HB2.out⟩
theorem Insert_any (base : Nat) (gv i : Nat) (v : Value) (l : List Pie) (x : Pie) (w : World) (h : OwnL base w v l) (hi : i ≤ l.length) (hl : l.length ≤ 1000000000)
    (hv : w.heap[gv]? = some (.cells (Pie.cells x) 148 (0, 0))) (hbase : base ≤ w.heap.size) (hne : v.ownBlock ≠ some gv) :
    Calls Tryz.prog 274 #[v, .int .i64 i, .slice (some ⟨gv, 0, none⟩) 1 1] w fun e w' => ∃ u, e = .returned u ∧ OwnL base w' u (l.take i ++ x :: l.drop i) ∧ Below base w w' := by
  rcases Nat.lt_or_ge i l.length with hlt | hge
  · obtain ⟨g, c, rfl, _⟩ := h.form (by omega)
    rcases Nat.lt_or_ge c (l.length + 1) with hc | hc
    · exact Insert_grow base g c gv 1 i l x w h hlt hc (by omega) hv hbase
    · refine Insert_room base g c gv 1 i l x w h hlt hc ?_ hv (fun e => hne (by rw [e]; rfl))
      rcases h.2 with ⟨h0, _⟩ | ⟨g', cap, cur, h0, hb, hg, hn, hm, hs, ht⟩
      · cases h0
      · injection h0 with e1 e2 e3
        subst e3
        unfold maxLen at hm; omega
  · obtain rfl : i = l.length := by omega
    rw [List.take_length, List.drop_length]
    exact Insert_end base gv v l x w h hl hv hbase
/-- insert: x among pieces that stand apart from it. -/
theorem insert_any (base : Nat) (v : Value) (l : List Pie) (x : Pie) (w : World) (h : OwnL base w v l) (hl : l.length ≤ 1000000000) (hbase : base ≤ w.heap.size) (hp : Pl.Par okV l) (hx : x.a < x.b) (ha : ∀ y ∈ l, y.b ≤ x.a ∨ x.b ≤ y.a) :
    Calls Tryz.prog 252 #[v, Pie.val x] w fun e w' => ∃ (u : Value) (i : Nat), e = .returned u ∧ OwnL base w' u (l.take i ++ x :: l.drop i) ∧ (∀ y ∈ l.take i, y.b ≤ x.a) ∧ (∀ y ∈ l.drop i, x.b ≤ y.a) ∧ Below base w w' := by
  have HS := Lib.hid (fun W (hb : Below w.heap.size w W) => Search_any v l x.a x.b W ((h.below hb).at) (by omega) (fun i j hi hj hij hc => by
    rw [cmpP_neg] at hc ⊢
    rcases Nat.lt_or_ge i j with hlt | hge
    · have := (List.pairwise_iff_getElem.1 hp.row) i j hi hj hlt
      have h1 := (hp.good _ (List.getElem_mem hi)).1
      have h2 := (hp.good _ (List.getElem_mem hj)).1
      omega
    · obtain rfl : i = j := by omega
      exact hc))
  have HP := Lib.hid (show ∀ i, i ≤ l.length → (∀ j (hj : j < l.length), j < i → Se.cmpP l[j].a l[j].b x.a x.b < 0) → (∀ j (hj : j < l.length), i ≤ j → 0 ≤ Se.cmpP l[j].a l[j].b x.a x.b) → (∀ y ∈ l.take i, y.b ≤ x.a) ∧ (∀ y ∈ l.drop i, x.b ≤ y.a) from fun i _ h1 h2 => by
    constructor
    · intro y hy
      obtain ⟨j, hj, rfl⟩ := List.mem_take_iff_getElem.1 hy
      have hj' : j < l.length := by omega
      have c := (cmpP_neg _ _ _ _).1 (h1 j hj' (by omega))
      have := (hp.good _ (List.getElem_mem hj')).1
      rcases ha _ (List.getElem_mem hj') with h | h
      · exact h
      · omega
    · intro y hy
      obtain ⟨j, hj, rfl⟩ := List.mem_drop_iff_getElem.1 hy
      have c := h2 (i + j) (by omega) (by omega)
      have hg := (hp.good _ (List.getElem_mem (show i + j < l.length by omega))).1
      rcases ha _ (List.getElem_mem (show i + j < l.length by omega)) with h | h
      · exact absurd ((cmpP_neg l[i + j].a l[i + j].b x.a x.b).2 (by omega)) (by omega)
      · exact h)
  have HO := Lib.hid h
  have HB := Lib.hid hbase
  clear h hbase hp ha hx
  obtain ⟨a, b, ⟨k, vb, n, f, s⟩⟩ := x
  simp only at HS HP
  have hsf := store_float
  go_enter Tryz.func252, Tryz.ntmps252
  go_upto_region 1 with fail
  have X0 := Lib.hid (Bx.new w (Pie.cells ⟨a, b, ⟨k, vb, n, f, s⟩⟩) 148)
  have B0 := Lib.hid ((Below.refl w.heap.size w).alloc (Nat.le_refl _) (.cells (Pie.cells ⟨a, b, ⟨k, vb, n, f, s⟩⟩) 148))
  obtain ⟨W, hW⟩ : ∃ W, w.alloc (.cells (Pie.cells ⟨a, b, ⟨k, vb, n, f, s⟩⟩) 148) = W := ⟨_, rfl⟩
  rw [hW] at X0 B0 ⊢
  clear hW
  have x0 := X0.out.c
  go_upto_region 2 with (go_at_call 272; (with_reducible refine (HS.out _ B0.out).mono ?_); rintro e w1 ⟨i, r, rfl, hi, h1, h2, hb⟩; have HI := Lib.hid (HP.out i hi h1 h2); have B1 := Lib.hid (B0.out.trans (hb.mono B0.out.size)); have X1 := Lib.hid (X0.out.below hb); clear h1 h2 hb x0)
  have x0 := X1.out.c
  have HG := Lib.hid (show (w1.alloc (.cells (Pie.cells ⟨a, b, ⟨k, vb, n, f, s⟩⟩) 148)).heap[w1.heap.size]? = some (.cells (Pie.cells ⟨a, b, ⟨k, vb, n, f, s⟩⟩) 148 (0, 0)) from heap_alloc_new w1 _)
  have B2 := Lib.hid (B1.out.alloc B1.out.size (.cells (Pie.cells ⟨a, b, ⟨k, vb, n, f, s⟩⟩) 148))
  have CI := Lib.hid (Insert_any base w1.heap.size i v l ⟨a, b, ⟨k, vb, n, f, s⟩⟩ (w1.alloc (.cells (Pie.cells ⟨a, b, ⟨k, vb, n, f, s⟩⟩) 148)) (HO.out.below B2.out) hi hl HG.out (Nat.le_trans HB.out B2.out.size) (fun e => by
    have := (HO.out.ownLt _ e).2
    have := B1.out.size
    omega))
  go_wp2_with (go_at_call 274; (with_reducible refine (CI.out).mono ?_); rintro e w3 ⟨u, rfl, ho, hb⟩; have HO3 := Lib.hid ho; have HB3 := Lib.hid hb; clear ho hb)
  go_ret
  exact ⟨_, i, rfl, HO3.out, HI.out.1, HI.out.2, (B2.out.mono HB.out).trans HB3.out⟩
end
end Go.Proofs.YtmolpogehgeebaaGreat


namespace Go.Proofs.YtmolpogehgeebaaGreat
open Go.RowKit
theorem Says.yes {P : Prop} {w w' : World} {e : Ending} (h : Says P w e w') (p : P) : e = .returned (.bool true) ∧ Below w.heap.size w w' := by
  obtain ⟨c, rfl, hc, hb⟩ := h
  exact ⟨by rw [hc.2 p], hb⟩
theorem Says.no {P : Prop} {w w' : World} {e : Ending} (h : Says P w e w') (p : ¬ P) : e = .returned (.bool false) ∧ Below w.heap.size w w' := by
  obtain ⟨c, rfl, hc, hb⟩ := h
  cases c
  · exact ⟨rfl, hb⟩
  · exact absurd (hc.1 rfl) p
theorem may_size {v : VP} (h : v.may) : v.s.size ≤ 1000 := by
  unfold VP.may MayV at h
  have e : ByteArray.empty.size = 0 := rfl
  rcases h with h | h | h | h | h | h
  · rw [h.2.2.2.2]; omega
  · rw [h.2.2.2]; omega
  · rw [h.2.2.2]; omega
  · rw [h.2.2.2.1]; omega
  · omega
  · rw [h.2.2.2.1]; omega
namespace Pl
theorem partsK_congr {V : Type} {F G : Nat → List (Int × Int)} {l : List (PC V)} (h : ∀ k, k < l.length → F k = G k) : ∀ n, n ≤ l.length → partsK F l n = partsK G l n
  | 0, _ => rfl
  | n + 1, hn => by rw [partsK_succ F l n (by omega), partsK_succ G l n (by omega), partsK_congr h n (by omega), h n (by omega)]
theorem minus_count' {V : Type} {ok : V → Prop} (l : List (PC V)) (hl : Par ok l) {c d : Int} (hp : c < d) (F : Nat → List (Int × Int)) (hF : ∀ k (hk : k < l.length), F k = Se.Pe.minusL l[k].a l[k].b c d) : (partsK F l l.length).length ≤ l.length + 1 := by
  have h1 := (minus_count l hl hp l.length (Nat.le_refl _)).1
  rw [partsK_congr (G := F) (fun k hk => by rw [hF k hk]; simp only [List.getElem?_eq_getElem hk]) l.length (Nat.le_refl _)] at h1
  exact h1
theorem setR_null {V : Type} {ok : V → Prop} {z : V} (hz : ¬ ok z) {l P : List (PC V)} (hl : Line ok l) {c d : Int} (hP : CutOf (fun t => ¬ (c ≤ t ∧ t < d)) l P) (hn : P.length ≤ l.length + 1) : SetR ok z l c d z (merge P) := by
  obtain ⟨h1, h2, h3⟩ := merge_spec hz (hP.par hl.par)
  refine ⟨h1, fun t => ⟨fun h => ?_, fun h => ?_⟩, by omega⟩
  · rw [h2]; exact (hP.means hl.par t).2 fun g => g h
  · rw [h2]; exact (hP.means hl.par t).1 h
theorem setR_some {V : Type} {ok : V → Prop} {z v : V} (hz : ¬ ok z) {l P : List (PC V)} (hl : Line ok l) {c d : Int} (hP : CutOf (fun t => ¬ (c ≤ t ∧ t < d)) l P) (hn : P.length ≤ l.length + 1) (i : Nat) (hx : may ok (⟨c, d, v⟩ : PC V))
    (g1 : ∀ y ∈ P.take i, y.b ≤ c) (g2 : ∀ y ∈ P.drop i, d ≤ y.a) : SetR ok z l c d v (merge (P.take i ++ ⟨c, d, v⟩ :: P.drop i)) := by
  obtain ⟨q1, q2⟩ := put_spec z P ⟨c, d, v⟩ i (hP.par hl.par) hx g1 g2
  obtain ⟨h1, h2, h3⟩ := merge_spec hz q1
  refine ⟨h1, fun t => ⟨fun h => ?_, fun h => ?_⟩, ?_⟩
  · rw [h2]; exact (q2 t).1 h
  · rw [h2, (q2 t).2 h]; exact (hP.means hl.par t).1 h
  · have : (P.take i ++ (⟨c, d, v⟩ : PC V) :: P.drop i).length = P.length + 1 := by simp; omega
    omega
theorem CutOf.aside {V : Type} {l P : List (PC V)} {c d : Int} (hP : CutOf (fun t => ¬ (c ≤ t ∧ t < d)) l P) (hcd : c < d) : ∀ y ∈ P, y.b ≤ c ∨ d ≤ y.a := fun y hy => by
  obtain ⟨x, _, _, _, _, hlt, g⟩ := hP.mem y hy
  rcases Int.lt_or_le c y.b with h | h
  · rcases Int.lt_or_le y.a d with k | k
    · have := g (max y.a c) (by omega) (by omega)
      omega
    · exact .inr k
  · exact .inl h
end Pl
/-- What Set answers. -/
def SetAns (l : List Pie) (c d : Int) (v : VP) (w : World) (e : Ending) (w' : World) : Prop := ∃ u R, e = .returned (.tuple #[u, .int .i64 0]) ∧ OwnL w.heap.size w' u R ∧ Pl.SetR okV VP.none l c d v R ∧ Below w.heap.size w w'
section
set_option maxRecDepth 100000
set_option maxHeartbeats 8000000
theorem Set1_any (a b c d : Int) (p : Nat) (w : World) (hp : Bx w p #[.int .u64 c, .int .u64 d]) :
    Calls Tryz.prog 250 #[.agg #[.int .u64 a, .int .u64 b], .pointer (some ⟨p, 0, none⟩)] w fun e w' => ∃ u, e = .returned u ∧ Se.OwnP w.heap.size w' u (Se.Pe.minusL a b c d) ∧ Below w.heap.size w w' := by
  have CM := Lib.hid (fun W => Se.Pe.Minus_any a b c d W)
  have X := Lib.hid (hp.below ((Below.refl _ _).alloc (Nat.le_refl _) (.cells #[.int .u64 a, .int .u64 b] 33)))
  have x0 := X.out.c
  clear hp
  go_enter Tryz.func250, Tryz.ntmps250
  go_wp2_with (go_at_call 251; (with_reducible refine (CM.out _).mono ?_); rintro e w1 ⟨u, rfl, ho, hb⟩; have HO := Lib.hid ho; have HB := Lib.hid hb; clear ho hb x0)
  go_ret
  exact ⟨_, rfl, Se.Pe.ownP_mono HO.out (by simp), ((Below.refl _ _).alloc (Nat.le_refl _) _).trans (HB.out.mono (by simp))⟩
theorem Set_ok (sv : Value) (l : List Pie) (c d : Int) (v : VP) (w : World) (h : SL w sv l) (hw : ∀ x ∈ l, x.v.wide) (hL : Pl.Line okV l) (hp : c < d ∧ d ≤ 1099511627776) (hv : setP v) (hvw : v.wide) (hl : l.length ≤ 100000) :
    Calls Tryz.prog 201 #[sv, .agg #[.int .u64 c, .int .u64 d], v.val] w (SetAns l c d v w) := by
  have CI := Lib.hid (fun W (hb : Below w.heap.size w W) => (Is_any sv l W (h.below hb) hw).mono fun _ _ h => h.yes hL)
  have CP := Lib.hid (fun W => (perMay_says c d W).mono fun _ _ h => h.yes hp)
  have CS := Lib.hid (fun W => (settable_any v hvw W).mono fun _ _ h => h.yes hv)
  have CL := Lib.hid (fun W => clone_any v (may_size hv.1) W)
  obtain ⟨Fs, hFs⟩ : ∃ Fs : Nat → List (Int × Int), Fs = fun j => match l[j]? with | none => [] | some x => Se.Pe.minusL x.a x.b c d := ⟨_, rfl⟩
  have hFk : ∀ k (hk : k < l.length), Fs k = Se.Pe.minusL l[k].a l[k].b c d := fun k hk => by rw [hFs]; simp only [List.getElem?_eq_getElem hk]
  obtain ⟨P, hP⟩ : ∃ P, P = Pl.partsK Fs l l.length := ⟨_, rfl⟩
  have hCut : Pl.CutOf (fun t => ¬ (c ≤ t ∧ t < d)) l P := by
    rw [hP]
    exact Pl.partsK_all Fs l fun k hk => by rw [hFk k hk]; exact Pl.cuts_minus (hL.good _ (List.getElem_mem hk)) hp
  have hPn : P.length ≤ l.length + 1 := by
    rw [hP]; exact Pl.minus_count' l hL.par hp.1 Fs hFk
  have hPp := hCut.par hL.par
  have hPa := hCut.aside hp.1
  have CC := Lib.hid (fun W (p : Nat) (hz : p < W.heap.size) (hb : Below w.heap.size w W) (hx : Bx W p #[.int .u64 c, .int .u64 d]) => cut_any 250 (.pointer (some ⟨p, 0, none⟩)) (fun args w => by kernel_rfl) sv l W (fun _ W' => Below W.heap.size W W') Fs
    (fun _ _ _ h1 h2 => h1.trans h2) (fun _ _ h1 => (h.below hb).below h1) (fun x hx => may_size (hL.good x hx).2.2.2.1) hl
    (fun k hk => by rw [hFk k hk]; have := Se.Pe.minus_length l[k].a l[k].b c d; omega)
    (fun k hk W1 hs h1 => (Set1_any l[k].a l[k].b c d p W1 (hx.below h1)).mono fun e w' ⟨u, e1, e2, e3⟩ => ⟨u, e1, by rw [hFk k hk]; exact Se.Pe.ownP_mono e2 hs, ⟨e3.size, fun q _ hq => e3.block q hq⟩, h1.trans (e3.mono hs)⟩) (Below.refl _ _))
  have HP := Lib.hid hP
  have HC := Lib.hid hCut
  have HPN := Lib.hid hPn
  have HPP := Lib.hid hPp
  have HPA := Lib.hid hPa
  have HLL := Lib.hid hL
  have HV := Lib.hid (And.intro hv hvw)
  have HPW := Lib.hid (show ∀ x ∈ P, x.v.wide ∧ x.v.may from fun x hx => ⟨(hPp.good x hx).2.2.1, (hPp.good x hx).2.2.2.1⟩)
  have HCD := Lib.hid hp
  obtain ⟨A, cc, rfl, _⟩ := h
  clear hw hL hp hv hvw hFs hFk hP hCut hPn hPp hPa
  obtain ⟨k, b, n, f, s⟩ := v
  have hsf := store_float
  have B0 := Lib.hid (((Below.refl w.heap.size w).alloc (Nat.le_refl _) (.cells #[.int .u64 c, .int .u64 d] 33)).alloc (by simp) (.cells (VP.cells ⟨k, b, n, f, s⟩) 31))
  have X0 := Lib.hid ((Bx.new w #[.int .u64 c, .int .u64 d] 33).below ((Below.refl _ _).alloc (Nat.le_refl _) (.cells (VP.cells ⟨k, b, n, f, s⟩) 31)))
  have Y0 := Lib.hid (Bx.new (w.alloc (.cells #[.int .u64 c, .int .u64 d] 33)) (VP.cells ⟨k, b, n, f, s⟩) 31)
  rw [show (w.alloc (.cells #[.int .u64 c, .int .u64 d] 33)).heap.size = w.heap.size + 1 by simp] at Y0
  go_enter Tryz.func201, Tryz.ntmps201
  go_upto_region 8 with (first
    | (go_at_call 162; (with_reducible refine (CI.out _ B0.out).mono ?_); rintro e w1 ⟨rfl, hb⟩; have B1 := Lib.hid (B0.out.trans (hb.mono B0.out.size)); have X1 := Lib.hid (X0.out.below hb); have x0 := X1.out.c; have Y1 := Lib.hid (Y0.out.below hb); clear hb)
    | (go_at_call 95; (with_reducible refine (CP.out _).mono ?_); rintro e w2 ⟨rfl, hb⟩; have B2 := Lib.hid (B1.out.trans (hb.mono B1.out.size)); have X2 := Lib.hid (X1.out.below hb); have Y2 := Lib.hid (Y1.out.below hb); have y0 := Y2.out.c; clear hb x0)
    | (go_at_call 206; (with_reducible refine (CS.out _).mono ?_); rintro e w3 ⟨rfl, hb⟩; have B3 := Lib.hid (B2.out.trans (hb.mono B2.out.size)); have X3 := Lib.hid (X2.out.below hb); have Y3 := Lib.hid (Y2.out.below hb); clear hb y0)
    | (go_at_call 244; (with_reducible refine (CC.out _ _ X3.out.lt B3.out X3.out).mono ?_); rintro e w4 ⟨u, rfl, ho, hb, hz⟩; have HO := Lib.hid (show OwnL w3.heap.size w4 u P by rw [HP.out]; exact ho); have B4 := Lib.hid hb; have X4 := Lib.hid (X3.out.below hb); have Y4 := Lib.hid (Y3.out.below hb); clear hb ho hz))
  have x0 := X4.out.c
  have y0 := Y4.out.c
  have hlP : P.length ≤ 100001 := by have := HPN.out; omega
  by_cases hk0 : k = 0
  · have VN : Hid ((⟨k, b, n, f, s⟩ : VP) = VP.none) := Lib.hid (may_none HV.out.1.1 hk0)
    have CM := Lib.hid (merge_any u P w4 HO.out.at HPW.out (by omega))
    have RS : Hid (Pl.SetR okV VP.none l c d ⟨k, b, n, f, s⟩ (Pl.merge P)) := Lib.hid (by rw [VN.out]; exact Pl.setR_null none_ok HLL.out HC.out HPN.out)
    have t0 : (k != 0) = false := by simp [hk0]
    clear hk0
    go_wp2_with (go_at_call 247; (with_reducible refine (CM.out).mono ?_); rintro e w5 ⟨u5, rfl, ho, hb⟩; have HO5 := Lib.hid ho; have B5 := Lib.hid hb; clear hb ho)
    go_ret2
    have hz := B3.out.trans (B4.out.mono B3.out.size)
    exact ⟨_, _, rfl, HO5.out.mono hz.size, RS.out, hz.trans (B5.out.mono hz.size)⟩
  · have OV : Hid (okV ⟨k, b, n, f, s⟩) := Lib.hid (set_ok HV.out.1 HV.out.2 hk0)
    have t0 : (k != 0) = true := by simp [hk0]
    clear hk0
    have CN := Lib.hid (fun W (hb : Below w4.heap.size w4 W) => insert_any w3.heap.size u P ⟨c, d, ⟨k, b, n, f, s⟩⟩ W (HO.out.below hb) (by omega) (Nat.le_trans B4.out.size hb.size) HPP.out HCD.out.1 HPA.out)
    have K0 : Hid (∀ w', Below w3.heap.size w4 w' → (∀ j, w'.cell? ⟨w.heap.size, j, none⟩ = #[Value.int .u64 c, .int .u64 d][j]?) ∧ (∀ j, w'.cell? ⟨w.heap.size + 1, j, none⟩ = #[Value.int .i64 k, .bool b, .int .i64 n, .float .f64 f, .string s][j]?)) := Lib.hid fun w' hb =>
      ⟨(X3.out.below (B4.out.trans hb)).c, (Y3.out.below (B4.out.trans hb)).c⟩
    go_wp2_with fail
    clear x0 y0
    go_region_held3 (fun w' => (∀ j, w'.cell? ⟨w.heap.size, j, none⟩ = #[Value.int .u64 c, .int .u64 d][j]?) ∧ (∀ j, w'.cell? ⟨w.heap.size + 1, j, none⟩ = #[Value.int .i64 k, .bool b, .int .i64 n, .float .f64 f, .string s][j]?)) (first
        | exact K0.out _ (Below.refl _ _).drew
        | exact K0.out _ (HU1.out.mono B4.out.size)
        | exact K0.out _ HU2.out
        | fail) (first
      | (go_at_call 171; (with_reducible refine (CL.out _).mono ?_); rintro e1 w5 ⟨rfl, b5⟩; have HU1 := Lib.hid (show Below w4.heap.size w4 w5 from (Below.refl _ _).drew.trans b5); clear b5)
      | (go_at_call 252; (with_reducible refine (CN.out _ HU1.out).mono ?_); rintro e2 w6 ⟨u6, i6, rfl, ho, g1, g2, hb⟩; have HO6 := Lib.hid ho; have G1 := Lib.hid g1; have G2 := Lib.hid g2; have HU2 := Lib.hid (show Below w3.heap.size w4 w6 from (HU1.out.mono B4.out.size).trans hb); clear ho g1 g2 hb)
      | fail)
    all_goals (
      have RS : Hid (Pl.SetR okV VP.none l c d ⟨k, b, n, f, s⟩ (Pl.merge (P.take i6 ++ ⟨c, d, ⟨k, b, n, f, s⟩⟩ :: P.drop i6))) := Lib.hid (Pl.setR_some none_ok HLL.out HC.out HPN.out i6 ⟨HCD.out.1, HCD.out.2, OV.out⟩ G1.out G2.out)
      have CM := Lib.hid (merge_any u6 (P.take i6 ++ ⟨c, d, ⟨k, b, n, f, s⟩⟩ :: P.drop i6) w6 HO6.out.at (fun x hx => by
        rcases List.mem_append.1 hx with hx | hx
        · exact HPW.out x (List.mem_of_mem_take hx)
        · rcases List.mem_cons.1 hx with rfl | hx
          · exact ⟨OV.out.1, OV.out.2.1⟩
          · exact HPW.out x (List.mem_of_mem_drop hx)) (by simp; omega))
      go_wp2_with (go_at_call 247; (with_reducible refine (CM.out).mono ?_); rintro e w7 ⟨u7, rfl, ho, hb⟩; have HO7 := Lib.hid ho; have B7 := Lib.hid hb; clear hb ho)
      go_ret2
      have hz := (B3.out.trans (B4.out.mono B3.out.size)).trans (HU2.out.mono B3.out.size)
      exact ⟨_, _, rfl, HO7.out.mono hz.size, RS.out, hz.trans (B7.out.mono hz.size)⟩)
end
end Go.Proofs.YtmolpogehgeebaaGreat


