/- CodecUnlike's walk. -/
import Derived.Test.YtchklaepilcbbaaGreatmZ3
import Derived.Test.YtchklaepilcbbaaGreatmL2
import Derived.Laws.Tables
import Derived.Test.YtchklaepilcbbaaGreatmZ2
namespace Go.Proofs.YtchklaepilcbbaaGreat
open Go.RowKit
theorem op_begin {v w : OP} (hv : v.may) (hw : w.may) (wv : v.wide) (ww : w.wide) (h : v.enc.length < w.enc.length) : w.enc.take v.enc.length ≠ v.enc := fun e => by
  have h2 : v.enc ++ w.enc.drop v.enc.length = w.enc ++ [] := by rw [List.append_nil]; conv => rhs; rw [← List.take_append_drop v.enc.length w.enc, e]
  have h3 := (pc_op hv hw wv ww h2).2
  have := congrArg List.length h3
  simp at this
  omega
theorem op_inj {v w : OP} (hv : v.may) (hw : w.may) (wv : v.wide) (ww : w.wide) (h : v.enc = w.enc) : v = w :=
  (pc_op (p := []) (q := []) hv hw wv ww (by rw [h])).1
/-- Four operations, one behind the other. -/
@[irreducible] def cells4 (a b c d : OP) : Array Value := a.cells ++ b.cells ++ c.cells ++ d.cells
/-- What CodecUnlike changes. -/
def ch0 (o : OP) : OP := ⟨o.kind, o.edge, o.id % 1099511627776 + 1, o.label, o.fr, o.til, o.key, o.v, o.pf, o.pt⟩
def ch1 (o : OP) : OP := ⟨o.kind, o.edge, o.id, o.label, o.fr, o.til, o.key, o.v, o.pf, o.pf + (o.pt - o.pf) % (1099511627776 - o.pf) + 1⟩
def ch2 (o : OP) : OP := ⟨o.kind, o.edge, o.id, o.label ++ ⟨#[97]⟩, o.fr, o.til, o.key, o.v, o.pf, o.pt⟩
def ch3 (o : OP) : OP := ⟨o.kind, o.edge, o.id, o.label, o.fr, o.til, o.key ++ ⟨#[97]⟩, o.v, o.pf, o.pt⟩
theorem same_enc (v x : OP) (hv : v.wide) (hx : x.wide) (mv : v.may) (mx : x.may) (W : World) : Calls Tryz.prog 23 #[v.val, x.val] W fun e w' => e = .returned (.bool (v.enc == x.enc)) ∧ Below W.heap.size W w' :=
  (SameOp_any v x hv hx (OP.may_v mv) (OP.may_v mx) W).mono fun e w' ⟨c, he, hc, hb⟩ => ⟨by rw [he]; congr 2; rw [Bool.eq_iff_iff, hc, beq_iff_eq]; exact ⟨fun h => by rw [h], op_inj mv mx hv hx⟩, hb⟩
theorem op_sizes {v : OP} (mv : v.may) : v.label.size ≤ 16 ∧ v.key.size ≤ 16 := by
  obtain ⟨m1, m2, m3, m4⟩ := mv
  unfold OP.kindP at m4
  rcases m4 with ⟨_, _, l, _, _, k, _⟩ | ⟨_, _, l, _, _, k, _⟩ | ⟨_, l, _, _, k, _⟩ | ⟨_, l, _, _, k, _⟩
  · exact ⟨labelB_size l, by rw [k]; decide⟩
  · exact ⟨labelB_size l, by rw [k]; decide⟩
  · exact ⟨by rw [l]; decide, by rw [k]; decide⟩
  · exact ⟨by rw [l]; decide, (wordB_size k).1⟩
theorem ch_wide (v : OP) (hv : v.wide) (mv : v.may) : (ch0 v).wide ∧ (ch1 v).wide ∧ (ch2 v).wide ∧ (ch3 v).wide := by
  obtain ⟨h1, h2, h3, h4, h5, h6, h7, h8, h9⟩ := hv
  obtain ⟨m1, m2, m3, m4⟩ := mv
  have hs : v.label.size ≤ 16 ∧ v.key.size ≤ 16 := by
    unfold OP.kindP at m4
    rcases m4 with ⟨_, _, l, _, _, k, _⟩ | ⟨_, _, l, _, _, k, _⟩ | ⟨_, l, _, _, k, _⟩ | ⟨_, l, _, _, k, _⟩
    · exact ⟨labelB_size l, by rw [k]; decide⟩
    · exact ⟨labelB_size l, by rw [k]; decide⟩
    · exact ⟨by rw [l]; decide, by rw [k]; decide⟩
    · exact ⟨by rw [l]; decide, (wordB_size k).1⟩
  have hm : (v.pt - v.pf) % (1099511627776 - v.pf) < 1099511627776 - v.pf := Nat.mod_lt _ (by omega)
  have hl : maxLen ≥ 100 := by unfold maxLen; omega
  refine ⟨⟨h1, ?_, h3, h4, h5, h6, h7, h8, h9⟩, ⟨h1, h2, h3, h4, h5, h6, h7, h8, ?_⟩, ⟨h1, h2, ?_, h4, h5, h6, h7, h8, h9⟩, ⟨h1, h2, h3, h4, h5, ?_, h7, h8, h9⟩⟩
  · show v.id % 1099511627776 + 1 < _; omega
  · show v.pf + (v.pt - v.pf) % (1099511627776 - v.pf) + 1 < _; omega
  · show (v.label ++ ⟨#[97]⟩).size ≤ _
    rw [ByteArray.size_append]; show _ + 1 ≤ _; omega
  · show (v.key ++ ⟨#[97]⟩).size ≤ _
    rw [ByteArray.size_append]; show _ + 1 ≤ _; omega
theorem built4 (a b c d : OP) : Tryz.prog.built 69 [(0, a.val), (1, b.val), (2, c.val), (3, d.val)] = some (cells4 a b c d) := by unfold cells4; kernel_rfl
theorem size4 (a b c d : OP) : (cells4 a b c d).size = 56 := by unfold cells4; simp
theorem info4 : (Tryz.prog.info? 69).map (·.size) = some 56 := by kernel_rfl
theorem info4' (a b c d : OP) : (Tryz.prog.info? 69).map (·.size) = some (cells4 a b c d).size := by rw [size4]; exact info4
theorem there4 {W : World} {p : Nat} (h : W.there p 0 56) (a b c d : OP) : W.there p 0 (cells4 a b c d).size := by rw [size4]; exact h
theorem one56 (a b c d : OP) : (cells4 a b c d).all (·.oneCell') = true := by unfold cells4; kernel_rfl
theorem wpList_b4 {ops : Array Oper} {rest : List Oper} {o : Oper} {a : Act} {Q : Exit → Act → World → Prop} {w : World} (hg : o.guard = none) (x0 x1 x2 x3 : Operand) (ho : o.op = .build 69 #[(0, x0), (1, x1), (2, x2), (3, x3)]) (p : OP)
    (h0 : a.eval x0 = p.val) (h1 : a.eval x1 = p.val) (h2 : a.eval x2 = p.val) (h3 : a.eval x3 = p.val) (hK : wpList Tryz.prog ops Q rest (a.put o.dst (.agg (cells4 p p p p))) w) : wpList Tryz.prog ops Q (o :: rest) a w := by
  refine wpList_plain hg fun K' hK' => ?_
  unfold Oper.wp execOp
  simp only [ho, Sem.run_bind, List.map_toArray, List.map_cons, List.map_nil, h0, h1, h2, h3, run_build w _ #[(0, p.val), (1, p.val), (2, p.val), (3, p.val)] _ (built4 p p p p), Result.andThen_ok]
  exact hK' _ _ hK
theorem run_al4 (w : World) : (Instr.alloc 69 true (.tuple #[])).run Tryz.prog w = .ok (.pointer (some ⟨w.heap.size, 0, none⟩)) (w.alloc (.cells #[.int .i64 0, .bool false, .int .u64 0, .string ⟨#[]⟩, .int .u64 0, .int .u64 0, .string ⟨#[]⟩, .int .i64 0, .bool false, .int .i64 0, .float .f64 0, .string ⟨#[]⟩, .int .u64 0, .int .u64 0, .int .i64 0, .bool false, .int .u64 0, .string ⟨#[]⟩, .int .u64 0, .int .u64 0, .string ⟨#[]⟩, .int .i64 0, .bool false, .int .i64 0, .float .f64 0, .string ⟨#[]⟩, .int .u64 0, .int .u64 0, .int .i64 0, .bool false, .int .u64 0, .string ⟨#[]⟩, .int .u64 0, .int .u64 0, .string ⟨#[]⟩, .int .i64 0, .bool false, .int .i64 0, .float .f64 0, .string ⟨#[]⟩, .int .u64 0, .int .u64 0, .int .i64 0, .bool false, .int .u64 0, .string ⟨#[]⟩, .int .u64 0, .int .u64 0, .string ⟨#[]⟩, .int .i64 0, .bool false, .int .i64 0, .float .f64 0, .string ⟨#[]⟩, .int .u64 0, .int .u64 0] 69)) := by kernel_rfl
theorem wpList_al4 {ops : Array Oper} {rest : List Oper} {o : Oper} {a : Act} {Q : Exit → Act → World → Prop} {w : World} (hg : o.guard = none) (ho : o.op = .alloc 69)
    (hK : ∀ W, Below w.heap.size w W → Bx W w.heap.size #[.int .i64 0, .bool false, .int .u64 0, .string ⟨#[]⟩, .int .u64 0, .int .u64 0, .string ⟨#[]⟩, .int .i64 0, .bool false, .int .i64 0, .float .f64 0, .string ⟨#[]⟩, .int .u64 0, .int .u64 0, .int .i64 0, .bool false, .int .u64 0, .string ⟨#[]⟩, .int .u64 0, .int .u64 0, .string ⟨#[]⟩, .int .i64 0, .bool false, .int .i64 0, .float .f64 0, .string ⟨#[]⟩, .int .u64 0, .int .u64 0, .int .i64 0, .bool false, .int .u64 0, .string ⟨#[]⟩, .int .u64 0, .int .u64 0, .string ⟨#[]⟩, .int .i64 0, .bool false, .int .i64 0, .float .f64 0, .string ⟨#[]⟩, .int .u64 0, .int .u64 0, .int .i64 0, .bool false, .int .u64 0, .string ⟨#[]⟩, .int .u64 0, .int .u64 0, .string ⟨#[]⟩, .int .i64 0, .bool false, .int .i64 0, .float .f64 0, .string ⟨#[]⟩, .int .u64 0, .int .u64 0] → wpList Tryz.prog ops Q rest (a.put o.dst (.pointer (some ⟨w.heap.size, 0, none⟩))) W) : wpList Tryz.prog ops Q (o :: rest) a w := by
  refine wpList_plain hg fun K' hK' => ?_
  unfold Oper.wp execOp
  simp only [ho, Sem.run_bind, run_al4 w, Result.andThen_ok]
  exact hK' _ _ (hK _ ((Below.refl _ _).alloc (Nat.le_refl _) _) (Bx.new _ _ _))
theorem set_id (a b c d : OP) (n : Nat) : (cells4 a b c d).setIfInBounds 2 (.int .u64 (n : Int)) = cells4 ⟨a.kind, a.edge, n, a.label, a.fr, a.til, a.key, a.v, a.pf, a.pt⟩ b c d := by unfold cells4; kernel_rfl
theorem set_to (a b c d : OP) (n : Nat) : (cells4 a b c d).setIfInBounds 27 (.int .u64 (n : Int)) = cells4 a ⟨b.kind, b.edge, b.id, b.label, b.fr, b.til, b.key, b.v, b.pf, n⟩ c d := by unfold cells4; kernel_rfl
theorem set_label (a b c d : OP) (t : ByteArray) : (cells4 a b c d).setIfInBounds 31 (.string t) = cells4 a b ⟨c.kind, c.edge, c.id, t, c.fr, c.til, c.key, c.v, c.pf, c.pt⟩ d := by unfold cells4; kernel_rfl
theorem set_key (a b c d : OP) (t : ByteArray) : (cells4 a b c d).setIfInBounds 48 (.string t) = cells4 a b c ⟨d.kind, d.edge, d.id, d.label, d.fr, d.til, t, d.v, d.pf, d.pt⟩ := by unfold cells4; kernel_rfl
theorem get_four (a b c d : OP) : (cells4 a b c d)[2]? = some (.int .u64 (a.id : Int)) ∧ (cells4 a b c d)[27]? = some (.int .u64 (b.pt : Int)) ∧ (cells4 a b c d)[31]? = some (.string c.label) ∧ (cells4 a b c d)[48]? = some (.string d.key) := by
  unfold cells4
  refine ⟨?_, ?_, ?_, ?_⟩ <;> kernel_rfl
def four (a b c d : OP) : Nat → OP
  | 0 => a
  | 1 => b
  | 2 => c
  | _ => d
theorem cells4_get (a b c d : OP) (n : Nat) : (cells4 a b c d)[n]? = (cellsO [a, b, c, d])[n]? := by
  unfold cells4
  rw [← Array.getElem?_toList]
  simp [cellsO]
theorem four_range {w : World} {g : Nat} {a b c d : OP} (h : Bx w g (cells4 a b c d)) (i : Nat) (hi : i < 4) : w.rangeAt g (0 + i * 14) (four a b c d i).cells.toList := fun j v hv => by
  have hj : j < 14 := by
    have := (List.getElem?_eq_some_iff.1 hv).1
    rwa [op_len] at this
  have e : [a, b, c, d][i]'(by simpa using hi) = four a b c d i := by
    match i, hi with
    | 0, _ | 1, _ | 2, _ | 3, _ => rfl
  rw [Nat.zero_add, h.c, cells4_get, cellsO_get _ i (by simpa using hi) j hj, e]
  exact hv
theorem TwoO.setFar {w0 w : World} {a b : OP} {p : Nat} (h : TwoO w0 w a b) (hp : w0.heap.size + 1 < p) (i : Nat) (v : Value) : TwoO w0 (w.setCell ⟨p, i, none⟩ v) a b :=
  ⟨h.bel.setCell (by show _ ≤ p; omega) v, h.b1.setFar (by omega) i v, h.b2.setFar (by omega) i v⟩
theorem TwoO.setsFar {w0 w : World} {a b : OP} {p : Nat} (h : TwoO w0 w a b) (hp : w0.heap.size + 1 < p) (o : Nat) (vs : List Value) : TwoO w0 (w.setCells p o vs) a b := by
  have hk := Keeps.setAll p o vs w
  refine ⟨⟨hk.os.trans h.bel.os, hk.tape.trans h.bel.tape, hk.output.trans h.bel.output, Nat.le_trans h.bel.size hk.size, fun b hb => (hk.block b (Nat.lt_of_lt_of_le hb h.bel.size) (by omega)).trans (h.bel.block b hb)⟩, h.b1.keep hk (by omega), h.b2.keep hk (by omega)⟩
theorem below_setCells (p o : Nat) (vs : List Value) (w : World) (B : Nat) (hB : B ≤ p) : Below B w (w.setCells p o vs) := by
  obtain ⟨h1, h2, h3, h4, h5⟩ := Keeps.setAll p o vs w
  refine ⟨h1, h2, h3, h4, fun b hb => ?_⟩
  rcases Nat.lt_or_ge b w.heap.size with h | h
  · exact h5 b h (by omega)
  · rw [Array.getElem?_eq_none h, Array.getElem?_eq_none (by rw [(rest_setCells p vs o w).2.2.2]; exact h)]
section
set_option maxRecDepth 100000
set_option maxHeartbeats 4000000
theorem Unlike_none1 (v x : OP) (hv : v.wide) (hx : x.wide) (h : ¬ v.may) (w : World) : Calls Tryz.prog 8 #[v.val, x.val] w fun e w' => e = .returned (.bool true) ∧ Below w.heap.size w w' := by
  have C1 := Lib.hid (fun W => (PutOp_any v hv W).mono fun e w' p => (⟨(p.resolve_left (fun q => h q.1)).2.1, p.bel⟩ : _ ∧ Below W.heap.size W w'))
  have C2 := Lib.hid (fun W => (PutOp_any x hx W).mono fun e w' p => (⟨p.some, p.bel⟩ : (∃ (u : Value) (E : Int), e = .returned (.tuple #[u, .int .i64 E])) ∧ Below W.heap.size W w'))
  obtain ⟨kind, edge, id, label, fr, til, key, ⟨k, b, n, f, s⟩, pf, pt⟩ := v
  obtain ⟨kind', edge', id', label', fr', til', key', ⟨k', b', n', f', s'⟩, pf', pt'⟩ := x
  have T0 := Lib.hid (TwoO.new w ⟨kind, edge, id, label, fr, til, key, ⟨k, b, n, f, s⟩, pf, pt⟩ ⟨kind', edge', id', label', fr', til', key', ⟨k', b', n', f', s'⟩, pf', pt'⟩)
  clear hv hx h
  go_enter Tryz.func8, Tryz.ntmps8
  go_upto_region 2 with (go_at_call 18; (with_reducible refine (C1.out _).mono ?_); rintro e w1 ⟨rfl, hb⟩; have T1 := Lib.hid (T0.out.step hb); have q2 := T1.out.b2.c; clear hb)
  go_upto_region 3 with (go_at_call 18; (with_reducible refine (C2.out _).mono ?_); rintro e w2 ⟨⟨u, E, rfl⟩, hb⟩; have T2 := Lib.hid (T1.out.step hb); clear hb)
  go_wp2_with (go_at_call 17; (with_reducible refine (wakes_any _).mono ?_); rintro e w3 ⟨rfl, hb⟩; have T3 := Lib.hid (T2.out.step hb); clear hb)
  go_ret
  exact ⟨rfl, T3.out.bel⟩
theorem Unlike_none2 (v x : OP) (hv : v.wide) (hx : x.wide) (h0 : v.may) (h : ¬ x.may) (w : World) : Calls Tryz.prog 8 #[v.val, x.val] w fun e w' => e = .returned (.bool true) ∧ Below w.heap.size w w' := by
  have C1 := Lib.hid (fun W => (PutOp_any v hv W).mono fun e w' p => (⟨by obtain ⟨_, u, e, _⟩ := p.resolve_right (fun q => q.1 h0); exact ⟨u, e⟩, p.bel⟩ : (∃ (u : Value), e = .returned (.tuple #[u, .int .i64 0])) ∧ Below W.heap.size W w'))
  have C2 := Lib.hid (fun W => (PutOp_any x hx W).mono fun e w' p => (⟨(p.resolve_left (fun q => h q.1)).2.1, p.bel⟩ : _ ∧ Below W.heap.size W w'))
  obtain ⟨kind, edge, id, label, fr, til, key, ⟨k, b, n, f, s⟩, pf, pt⟩ := v
  obtain ⟨kind', edge', id', label', fr', til', key', ⟨k', b', n', f', s'⟩, pf', pt'⟩ := x
  have T0 := Lib.hid (TwoO.new w ⟨kind, edge, id, label, fr, til, key, ⟨k, b, n, f, s⟩, pf, pt⟩ ⟨kind', edge', id', label', fr', til', key', ⟨k', b', n', f', s'⟩, pf', pt'⟩)
  clear hv hx h h0
  go_enter Tryz.func8, Tryz.ntmps8
  go_upto_region 2 with (go_at_call 18; (with_reducible refine (C1.out _).mono ?_); rintro e w1 ⟨⟨u, rfl⟩, hb⟩; have T1 := Lib.hid (T0.out.step hb); have q2 := T1.out.b2.c; clear hb)
  go_upto_region 3 with (go_at_call 18; (with_reducible refine (C2.out _).mono ?_); rintro e w2 ⟨rfl, hb⟩; have T2 := Lib.hid (T1.out.step hb); clear hb)
  go_wp2_with (go_at_call 17; (with_reducible refine (wakes_any _).mono ?_); rintro e w3 ⟨rfl, hb⟩; have T3 := Lib.hid (T2.out.step hb); clear hb)
  go_ret
  exact ⟨rfl, T3.out.bel⟩
theorem Unlike_both (v x : OP) (hv : v.wide) (hx : x.wide) (mv : v.may) (mx : x.may) (w : World) : Calls Tryz.prog 8 #[v.val, x.val] w fun e w' => e = .returned (.bool true) ∧ Below w.heap.size w w' := by
  have C1 := Lib.hid (fun W => (PutOp_any v hv W).mono fun e w' p => (p.resolve_right (fun q => q.1 mv)).2)
  have C2 := Lib.hid (fun W => (PutOp_any x hx W).mono fun e w' p => (p.resolve_right (fun q => q.1 mx)).2)
  have hsf := store_float
  have C3 := Lib.hid (same_enc v x hv hx mv mx)
  have L1 := Lib.hid (fun h => op_begin mv mx hv hx h)
  have L2 := Lib.hid (fun h => op_begin mx mv hx hv h)
  have CP := Lib.hid (fun (u : OP) (hu : u.wide) (W : World) => PutOp_any u hu W)
  have CS := Lib.hid (fun (u : OP) (hu : u.wide) (mu : u.may) => same_enc u v hu hv mu mv)
  have WC := Lib.hid (ch_wide v hv mv)
  have HV := Lib.hid (And.intro mv hv)
  generalize v.enc = X at *
  generalize x.enc = Y at *
  obtain ⟨kind, edge, id, label, fr, til, key, ⟨k, b, n, f, s⟩, pf, pt⟩ := v
  obtain ⟨kind', edge', id', label', fr', til', key', ⟨k', b', n', f', s'⟩, pf', pt'⟩ := x
  have T0 := Lib.hid (TwoO.new w ⟨kind, edge, id, label, fr, til, key, ⟨k, b, n, f, s⟩, pf, pt⟩ ⟨kind', edge', id', label', fr', til', key', ⟨k', b', n', f', s'⟩, pf', pt'⟩)
  clear hv hx mv mx
  go_enter Tryz.func8, Tryz.ntmps8
  go_upto_region 2 with (go_at_call 18; (with_reducible refine (C1.out _).mono ?_); rintro e w1 ⟨u, rfl, h1⟩; have T1 := Lib.hid (T0.out.step h1.bel); have q2 := T1.out.b2.c; have G1 := Lib.hid h1.gs; clear h1)
  go_upto_region 5 with (go_at_call 18; (with_reducible refine (C2.out _).mono ?_); rintro e w2 ⟨u2, rfl, h1⟩; have T2 := Lib.hid (T1.out.step h1.bel); have G2 := Lib.hid h1.gs; have G3 := Lib.hid (G1.out.below h1.bel); clear h1)
  have cv1 := conv_all G2.out
  have cv2 := conv_all G3.out
  go_quiet (fail)
  have T3 := Lib.hid (T2.out.step (below_drewN' (Below.refl _ _) nq))
  obtain ⟨w3, hw3⟩ : ∃ w3, w2.drewN nq = w3 := ⟨_, rfl⟩
  rw [hw3] at T3 ⊢
  have HX := Lib.hid (And.intro (str_list X) (And.intro (str_size X) (str_take X)))
  have HY := Lib.hid (And.intro (str_list Y) (And.intro (str_size Y) (str_take Y)))
  generalize (⟨X.toArray⟩ : ByteArray) = sx at *
  generalize (⟨Y.toArray⟩ : ByteArray) = sy at *
  clear cv1 cv2 hw3 q2
  have q1 := T3.out.b1.c
  have q2 := T3.out.b2.c
  have hq : (sx.toList == sy.toList) = (X == Y) := by rw [HX.out.1, HY.out.1]
  generalize (X == Y) = q at *
  have hT : (decide (sx.size < sy.size) = true ∧ sx.size < sy.size ∧ decide (sy.size < sx.size) = false ∧ ((sy.extract 0 sx.size).toList == sx.toList) = false) ∨
      (decide (sx.size < sy.size) = false ∧ sy.size < sx.size ∧ decide (sy.size < sx.size) = true ∧ ((sx.extract 0 sy.size).toList == sy.toList) = false) ∨
      (decide (sx.size < sy.size) = false ∧ sx.size = sy.size ∧ decide (sy.size < sx.size) = false ∧ True) := by
    rcases Nat.lt_trichotomy sx.size sy.size with h | h | h
    · refine .inl ⟨by simp [h], h, by simp; omega, ?_⟩
      rw [HX.out.1, HY.out.2.2, HX.out.2.1, beq_eq_false_iff_ne]
      exact L1.out (by rw [← HX.out.2.1, ← HY.out.2.1]; exact h)
    · exact .inr (.inr ⟨by simp; omega, h, by simp; omega, trivial⟩)
    · refine .inr (.inl ⟨by simp; omega, h, by simp [h], ?_⟩)
      rw [HY.out.1, HX.out.2.2, HY.out.2.1, beq_eq_false_iff_ne]
      exact L2.out (by rw [← HX.out.2.1, ← HY.out.2.1]; exact h)
  have HX1 := Lib.hid HX.out.1
  clear HX HY L1 L2 G1 G2 G3 C1 C2
  go_upto_region 6 with fail
  go_cut [72] from 36 to 71 (fun t w' => t = .bool false ∧ TwoO w w' ⟨kind, edge, id, label, fr, til, key, ⟨k, b, n, f, s⟩, pf, pt⟩ ⟨kind', edge', id', label', fr', til', key', ⟨k', b', n', f', s'⟩, pf', pt'⟩)
  case first => as_aux_lemma =>
    rcases hT with ⟨p1, p2, p3, p4⟩ | ⟨p1, p2, p3, p4⟩ | ⟨p1, p2, p3, p4⟩
    all_goals
      cases q
      all_goals
        as_aux_lemma =>
        have P2 := Lib.hid p2
        go_wp2_with (go_at_call 23; (with_reducible refine (C3.out _).mono ?_); rintro e w4 ⟨rfl, hb⟩; have T4 := Lib.hid (T3.out.step hb); clear hb)
        go_meet
        exact ⟨rfl, T4.out⟩
  case rest =>
  obtain ⟨rfl, ht⟩ := hcut
  have T5 := Lib.hid ht
  have hl := HV.out.1
  have hpf : pf < pt ∧ pt ≤ 1099511627776 := ⟨hl.2.1, hl.2.2.1⟩
  have hid : id ≤ 1099511627776 := hl.1.2
  have HL := Lib.hid hpf
  clear ht hl T3 hT hq q1 q2
  have r1 := T5.out.b1.range
  have LP := Lib.hid (show w.heap.size + 1 < wc.heap.size from T5.out.b2.lt)
  go_upto_region 9 with (first
    | refine wpList_load_mid rfl 43 (.tmp 2) rfl w.heap.size 0 (by first | (simp [Act.eval, Act.put]; done) | (simp [Act.eval]; done)) _ _ r1 Tryz.underlying43 rfl rowOp ?_
    | refine wpList_b4 rfl (.tmp 73) (.tmp 74) (.tmp 75) (.tmp 76) rfl ⟨kind, edge, id, label, fr, til, key, ⟨k, b, n, f, s⟩, pf, pt⟩ (by first | (simp [Act.eval, Act.put]; done) | (simp [Act.eval]; done)) (by first | (simp [Act.eval, Act.put]; done) | (simp [Act.eval]; done)) (by first | (simp [Act.eval, Act.put]; done) | (simp [Act.eval]; done)) (by first | (simp [Act.eval, Act.put]; done) | (simp [Act.eval]; done)) ?_
    | (refine wpList_al4 rfl rfl ?_; intro W1 hb hz; have TZ := Lib.hid (T5.out.step hb); have Z0 := Lib.hid hz; have t4 : W1.there wc.heap.size 0 56 := hz.there; clear hb hz r1)
    | (refine wpList_store_mid rfl 69 (.tmp 11) (.tmp 77) rfl wc.heap.size 0 (cells4 ⟨kind, edge, id, label, fr, til, key, ⟨k, b, n, f, s⟩, pf, pt⟩ ⟨kind, edge, id, label, fr, til, key, ⟨k, b, n, f, s⟩, pf, pt⟩ ⟨kind, edge, id, label, fr, til, key, ⟨k, b, n, f, s⟩, pf, pt⟩ ⟨kind, edge, id, label, fr, til, key, ⟨k, b, n, f, s⟩, pf, pt⟩) (by first | (simp [Act.eval, Act.put]; done) | (simp [Act.eval]; done)) (by first | (simp [Act.eval, Act.put]; done) | (simp [Act.eval]; done)) (there4 t4 ⟨kind, edge, id, label, fr, til, key, ⟨k, b, n, f, s⟩, pf, pt⟩ ⟨kind, edge, id, label, fr, til, key, ⟨k, b, n, f, s⟩, pf, pt⟩ ⟨kind, edge, id, label, fr, til, key, ⟨k, b, n, f, s⟩, pf, pt⟩ ⟨kind, edge, id, label, fr, til, key, ⟨k, b, n, f, s⟩, pf, pt⟩) (info4' ⟨kind, edge, id, label, fr, til, key, ⟨k, b, n, f, s⟩, pf, pt⟩ ⟨kind, edge, id, label, fr, til, key, ⟨k, b, n, f, s⟩, pf, pt⟩ ⟨kind, edge, id, label, fr, til, key, ⟨k, b, n, f, s⟩, pf, pt⟩ ⟨kind, edge, id, label, fr, til, key, ⟨k, b, n, f, s⟩, pf, pt⟩) (one56 ⟨kind, edge, id, label, fr, til, key, ⟨k, b, n, f, s⟩, pf, pt⟩ ⟨kind, edge, id, label, fr, til, key, ⟨k, b, n, f, s⟩, pf, pt⟩ ⟨kind, edge, id, label, fr, til, key, ⟨k, b, n, f, s⟩, pf, pt⟩ ⟨kind, edge, id, label, fr, til, key, ⟨k, b, n, f, s⟩, pf, pt⟩) ?_; obtain ⟨W2, hW2⟩ : ∃ W2, W1.setCells wc.heap.size 0 (cells4 ⟨kind, edge, id, label, fr, til, key, ⟨k, b, n, f, s⟩, pf, pt⟩ ⟨kind, edge, id, label, fr, til, key, ⟨k, b, n, f, s⟩, pf, pt⟩ ⟨kind, edge, id, label, fr, til, key, ⟨k, b, n, f, s⟩, pf, pt⟩ ⟨kind, edge, id, label, fr, til, key, ⟨k, b, n, f, s⟩, pf, pt⟩).toList = W2 := ⟨_, rfl⟩; rw [hW2]; have HW2 := Lib.hid hW2; clear t4 hW2))
  have X8 : Hid (Bx W2 wc.heap.size (cells4 ⟨kind, edge, id, label, fr, til, key, ⟨k, b, n, f, s⟩, pf, pt⟩ ⟨kind, edge, id, label, fr, til, key, ⟨k, b, n, f, s⟩, pf, pt⟩ ⟨kind, edge, id, label, fr, til, key, ⟨k, b, n, f, s⟩, pf, pt⟩ ⟨kind, edge, id, label, fr, til, key, ⟨k, b, n, f, s⟩, pf, pt⟩)) := Lib.hid (by rw [← HW2.out]; exact Z0.out.setAll _ (by rw [size4]; rfl))
  have T8 : Hid (TwoO w W2 ⟨kind, edge, id, label, fr, til, key, ⟨k, b, n, f, s⟩, pf, pt⟩ ⟨kind', edge', id', label', fr', til', key', ⟨k', b', n', f', s'⟩, pf', pt'⟩) := Lib.hid (by rw [← HW2.out]; exact TZ.out.setsFar LP.out _ _)
  generalize hp4 : wc.heap.size = p4 at *
  clear hp4 HW2 Z0 TZ T5 
  have q1 := T8.out.b1.c
  have c1 : W2.cell? ⟨p4, 2, none⟩ = some (.int .u64 (id : Int)) := (X8.out.c 2).trans (get_four _ _ _ _).1
  have f1 := X8.out.fr
  go_upto_region 10 with fail
  have e1 : ((id : Int) % 1099511627776 + 1) = ((id % 1099511627776 + 1 : Nat) : Int) := by omega
  obtain ⟨W3, hW3, x3, t3⟩ : ∃ W3, W2.setCell ⟨p4, 2, none⟩ (.int .u64 ((id % 1099511627776 + 1 : Nat) : Int)) = W3 ∧ Bx W3 p4 (cells4 (ch0 ⟨kind, edge, id, label, fr, til, key, ⟨k, b, n, f, s⟩, pf, pt⟩) ⟨kind, edge, id, label, fr, til, key, ⟨k, b, n, f, s⟩, pf, pt⟩ ⟨kind, edge, id, label, fr, til, key, ⟨k, b, n, f, s⟩, pf, pt⟩ ⟨kind, edge, id, label, fr, til, key, ⟨k, b, n, f, s⟩, pf, pt⟩) ∧ TwoO w W3 ⟨kind, edge, id, label, fr, til, key, ⟨k, b, n, f, s⟩, pf, pt⟩ ⟨kind', edge', id', label', fr', til', key', ⟨k', b', n', f', s'⟩, pf', pt'⟩ := ⟨_, rfl, (X8.out.set 2 _ (by rw [size4]; omega)).eq (set_id _ _ _ _ _), T8.out.setFar LP.out _ _⟩
  rw [e1, hW3]
  have X9 := Lib.hid x3
  have T9 := Lib.hid t3
  clear q1 c1 f1 e1 hW3 x3 t3 X8 T8
  have q1 := T9.out.b1.c
  have c1 : W3.cell? ⟨p4, 27, none⟩ = some (.int .u64 (pt : Int)) := (X9.out.c 27).trans (get_four _ _ _ _).2.1
  have f1 := X9.out.fr
  have a1 : IntKind.u64.wrap ((pt : Int) - pf) = ((pt - pf : Nat) : Int) := by rw [IntKind.wrap_u64]; omega
  have a2 : IntKind.u64.wrap (1099511627776 - (pf : Int)) = ((1099511627776 - pf : Nat) : Int) := by rw [IntKind.wrap_u64]; omega
  have a3 : IntKind.u64.wrap (IntKind.u64.wrap ((pf : Int) + ((pt - pf : Nat) : Int) % ((1099511627776 - pf : Nat) : Int)) + 1) = ((pf + (pt - pf) % (1099511627776 - pf) + 1 : Nat) : Int) := by
    have hm : (pt - pf) % (1099511627776 - pf) < 1099511627776 - pf := Nat.mod_lt _ (by omega)
    rw [← Int.natCast_emod]
    rw [IntKind.wrap_u64, IntKind.wrap_u64]; omega
  go_region
  have e1 : ((pf : Int) + ((pt - pf : Nat) : Int) % ((1099511627776 - pf : Nat) : Int) + 1) = ((pf + (pt - pf) % (1099511627776 - pf) + 1 : Nat) : Int) := by rw [← Int.natCast_emod]; omega
  obtain ⟨W4, hW4, x4, t4⟩ : ∃ W4, (W3.setCell ⟨p4, 27, none⟩ (.int .u64 ((pf + (pt - pf) % (1099511627776 - pf) + 1 : Nat) : Int))).drew = W4 ∧ Bx W4 p4 (cells4 (ch0 ⟨kind, edge, id, label, fr, til, key, ⟨k, b, n, f, s⟩, pf, pt⟩) (ch1 ⟨kind, edge, id, label, fr, til, key, ⟨k, b, n, f, s⟩, pf, pt⟩) ⟨kind, edge, id, label, fr, til, key, ⟨k, b, n, f, s⟩, pf, pt⟩ ⟨kind, edge, id, label, fr, til, key, ⟨k, b, n, f, s⟩, pf, pt⟩) ∧ TwoO w W4 ⟨kind, edge, id, label, fr, til, key, ⟨k, b, n, f, s⟩, pf, pt⟩ ⟨kind', edge', id', label', fr', til', key', ⟨k', b', n', f', s'⟩, pf', pt'⟩ := ⟨_, rfl, ((X9.out.set 27 _ (by rw [size4]; omega)).eq (set_to _ _ _ _ _)).drew, (T9.out.setFar LP.out _ _).step (Below.refl _ _).drew⟩
  rw [e1, hW4]
  have X10 := Lib.hid x4
  have T10 := Lib.hid t4
  clear q1 c1 f1 e1 a1 a2 a3 hW4 x4 t4 X9 T9
  have hsz := op_sizes HV.out.1
  simp only at hsz
  obtain ⟨z1, z2⟩ := hsz
  have c1 : W4.cell? ⟨p4, 31, none⟩ = some (.string label) := (X10.out.c 31).trans (get_four _ _ _ _).2.2.1
  have f1 := X10.out.fr
  go_upto_region 12 with fail
  obtain ⟨W5, hW5, x5, t5⟩ : ∃ W5, W4.setCell ⟨p4, 31, none⟩ (.string (label ++ ⟨#[97]⟩)) = W5 ∧ Bx W5 p4 (cells4 (ch0 ⟨kind, edge, id, label, fr, til, key, ⟨k, b, n, f, s⟩, pf, pt⟩) (ch1 ⟨kind, edge, id, label, fr, til, key, ⟨k, b, n, f, s⟩, pf, pt⟩) (ch2 ⟨kind, edge, id, label, fr, til, key, ⟨k, b, n, f, s⟩, pf, pt⟩) ⟨kind, edge, id, label, fr, til, key, ⟨k, b, n, f, s⟩, pf, pt⟩) ∧ TwoO w W5 ⟨kind, edge, id, label, fr, til, key, ⟨k, b, n, f, s⟩, pf, pt⟩ ⟨kind', edge', id', label', fr', til', key', ⟨k', b', n', f', s'⟩, pf', pt'⟩ := ⟨_, rfl, (X10.out.set 31 _ (by rw [size4]; omega)).eq (set_label _ _ _ _ _), T10.out.setFar LP.out _ _⟩
  rw [hW5]
  have X11 := Lib.hid x5
  have T11 := Lib.hid t5
  clear c1 f1 hW5 x5 t5 X10 T10
  have c1 : W5.cell? ⟨p4, 48, none⟩ = some (.string key) := (X11.out.c 48).trans (get_four _ _ _ _).2.2.2
  have f1 := X11.out.fr
  go_upto_region 13 with fail
  obtain ⟨W6, hW6, x6, t6⟩ : ∃ W6, W5.setCell ⟨p4, 48, none⟩ (.string (key ++ ⟨#[97]⟩)) = W6 ∧ Bx W6 p4 (cells4 (ch0 ⟨kind, edge, id, label, fr, til, key, ⟨k, b, n, f, s⟩, pf, pt⟩) (ch1 ⟨kind, edge, id, label, fr, til, key, ⟨k, b, n, f, s⟩, pf, pt⟩) (ch2 ⟨kind, edge, id, label, fr, til, key, ⟨k, b, n, f, s⟩, pf, pt⟩) (ch3 ⟨kind, edge, id, label, fr, til, key, ⟨k, b, n, f, s⟩, pf, pt⟩)) ∧ TwoO w W6 ⟨kind, edge, id, label, fr, til, key, ⟨k, b, n, f, s⟩, pf, pt⟩ ⟨kind', edge', id', label', fr', til', key', ⟨k', b', n', f', s'⟩, pf', pt'⟩ := ⟨_, rfl, (X11.out.set 48 _ (by rw [size4]; omega)).eq (set_key _ _ _ _ _), T11.out.setFar LP.out _ _⟩
  rw [hW6]
  have X12 := Lib.hid x6
  have T12 := Lib.hid t6
  clear c1 f1 hW6 x6 t6 X11 T11 z1 z2 hpf hid
  have WF : Hid (∀ i, i < 4 → (four (ch0 ⟨kind, edge, id, label, fr, til, key, ⟨k, b, n, f, s⟩, pf, pt⟩) (ch1 ⟨kind, edge, id, label, fr, til, key, ⟨k, b, n, f, s⟩, pf, pt⟩) (ch2 ⟨kind, edge, id, label, fr, til, key, ⟨k, b, n, f, s⟩, pf, pt⟩) (ch3 ⟨kind, edge, id, label, fr, til, key, ⟨k, b, n, f, s⟩, pf, pt⟩) i).wide) := Lib.hid fun i hi => by
    obtain ⟨w0, w1, w2, w3⟩ := WC.out
    match i, hi with
    | 0, _ => exact w0
    | 1, _ => exact w1
    | 2, _ => exact w2
    | 3, _ => exact w3
  generalize ch0 ⟨kind, edge, id, label, fr, til, key, ⟨k, b, n, f, s⟩, pf, pt⟩ = k0 at *
  generalize ch1 ⟨kind, edge, id, label, fr, til, key, ⟨k, b, n, f, s⟩, pf, pt⟩ = k1 at *
  generalize ch2 ⟨kind, edge, id, label, fr, til, key, ⟨k, b, n, f, s⟩, pf, pt⟩ = k2 at *
  generalize ch3 ⟨kind, edge, id, label, fr, til, key, ⟨k, b, n, f, s⟩, pf, pt⟩ = k3 at *
  clear WC
  go_wp2
  go_loopw [12] (fun v wr => ∃ i : Nat, v = .int .i64 i ∧ i ≤ 4 ∧ Bx wr p4 (cells4 k0 k1 k2 k3) ∧ TwoO w wr ⟨kind, edge, id, label, fr, til, key, ⟨k, b, n, f, s⟩, pf, pt⟩ ⟨kind', edge', id', label', fr', til', key', ⟨k', b', n', f', s'⟩, pf', pt'⟩) (fun v _ => 4 - (intOf v).toNat)
  case atStart => exact ⟨0, rfl, Nat.zero_le _, X12.out, T12.out⟩
  case round =>
    clear X12 T12
    obtain ⟨i, rfl, hi, hx, ht⟩ := hrel
    have X13 := Lib.hid hx
    have T13 := Lib.hid ht
    by_cases hlt : i < 4
    · have r1 := four_range hx i hlt
      have HH := Lib.hid (OAt.here r1)
      have wc' := WF.out i hlt
      generalize four k0 k1 k2 k3 i = c at *
      have CPc := Lib.hid (CP.out c wc')
      have CSc := Lib.hid (CS.out c wc')
      have LPw := Lib.hid hx.lt
      have i0 : (i : Int) < 4 := by omega
      have i1 : (0 : Int) ≤ (i : Int) := by omega
      have i2 : IntKind.i64.wrap ((i : Int) + 1) = (i : Int) + 1 := by rw [IntKind.wrap_i64]; omega
      clear hx ht wc'
      by_cases hm : c.may
      · have CPy := Lib.hid (fun W => (CPc.out W).mono fun e w' p => (p.resolve_right (fun q => q.1 hm)).2)
        have CSy := Lib.hid (CSc.out hm)
        obtain ⟨E, hE⟩ : ∃ E, OP.enc c = E := ⟨_, rfl⟩
        rw [hE] at CPy CSy
        obtain ⟨r, hr⟩ : ∃ r, (E == X) = r := ⟨_, rfl⟩
        rw [hr] at CSy
        have HR := Lib.hid hr
        clear hm hE hr CPc CSc
        obtain ⟨kc, ec, ic, lc, fc, tc, yc, ⟨vk, vb, vn, vf, vs⟩, ac, bc⟩ := c
        go_upto_region 17 with (first
          | refine wpList_load_mid rfl 43 (.tmp 122) rfl p4 (0 + i * 14) (by first | (simp [Act.eval, Act.put]; done) | (simp [Act.eval]; done)) _ _ r1 Tryz.underlying43 rfl rowOp ?_
          | (go_at_call 18; (with_reducible refine (CPy.out _).mono ?_); rintro e w5 ⟨u5, rfl, h5⟩; have S5 := Lib.hid h5; clear h5))
        clear r1
        have X7 := Lib.hid (X13.out.below S5.out.bel)
        have T7 := Lib.hid (T13.out.step S5.out.bel)
        have G7 := Lib.hid S5.out.gs
        have H7 : Hid (Here w5 p4 (i * 14) (OP.cells ⟨kc, ec, ic, lc, fc, tc, yc, ⟨vk, vb, vn, vf, vs⟩, ac, bc⟩)) := Lib.hid (by have := HH.out.below S5.out.bel LPw.out; rwa [Nat.zero_add] at this)
        have L7 := Lib.hid (Nat.lt_of_lt_of_le LPw.out S5.out.bel.size)
        obtain ⟨sc, hsc⟩ : ∃ sc, (⟨E.toArray⟩ : ByteArray) = sc := ⟨_, rfl⟩
        have e1 : (sc.toList == sx.toList) = r := by rw [← hsc, str_list, HX1.out]; exact HR.out
        have K0 := Lib.hid (fun (w' : World) (hb : Below w5.heap.size w5 w') => (⟨(H7.out.below hb L7.out).1, (H7.out.below hb L7.out).2, (T7.out.step hb).b1.c, by rw [← hsc]; exact conv_gs (G7.out.below hb)⟩ : w'.cell? ⟨p4, i * 14, none⟩ = (OP.cells ⟨kc, ec, ic, lc, fc, tc, yc, ⟨vk, vb, vn, vf, vs⟩, ac, bc⟩)[0]? ∧ (∀ j, j < 14 → w'.cell? ⟨p4, i * 14 + j, none⟩ = (OP.cells ⟨kc, ec, ic, lc, fc, tc, yc, ⟨vk, vb, vn, vf, vs⟩, ac, bc⟩)[j]?) ∧ (∀ j, w'.cell? ⟨w.heap.size, j, none⟩ = (OP.cells ⟨kind, edge, id, label, fr, til, key, ⟨k, b, n, f, s⟩, pf, pt⟩)[j]?) ∧ (convert 25 9 u5).run Tryz.prog w' = .ok (.string sc) w'))
        clear hsc
        go_region_held3 (fun w' => w'.cell? ⟨p4, i * 14, none⟩ = (OP.cells ⟨kc, ec, ic, lc, fc, tc, yc, ⟨vk, vb, vn, vf, vs⟩, ac, bc⟩)[0]? ∧ (∀ j, j < 14 → w'.cell? ⟨p4, i * 14 + j, none⟩ = (OP.cells ⟨kc, ec, ic, lc, fc, tc, yc, ⟨vk, vb, vn, vf, vs⟩, ac, bc⟩)[j]?) ∧ (∀ j, w'.cell? ⟨w.heap.size, j, none⟩ = (OP.cells ⟨kind, edge, id, label, fr, til, key, ⟨k, b, n, f, s⟩, pf, pt⟩)[j]?) ∧ (convert 25 9 u5).run Tryz.prog w' = .ok (.string sc) w') (first
            | exact K0.out _ (Below.refl _ _).drew
            | exact K0.out _ B8.out
            | fail) (first
          | (go_at_call 23; (with_reducible refine (CSy.out _).mono ?_); rintro e1' w6 ⟨rfl, hb⟩; have B8 := Lib.hid (show Below w5.heap.size w5 w6 from (Below.refl _ _).drew.trans hb); clear hb)
          | fail)
        have X9 := Lib.hid (X7.out.below B8.out)
        have T9 := Lib.hid (T7.out.step B8.out)
        clear e1
        go_wp2
        refine ⟨?_, ?_⟩
        · repeat apply Exists.intro
          refine ⟨⟨i + 1, by go_num, by omega, X9.out, T9.out⟩, ?_⟩
          rfl
        · simp [intOf]; omega
      · have CPn := Lib.hid (fun W => (CPc.out W).mono fun e w' p => (⟨(p.resolve_left (fun q => hm q.1)).2.1, p.bel⟩ : _ ∧ Below W.heap.size W w'))
        clear hm CPc CSc
        obtain ⟨kc, ec, ic, lc, fc, tc, yc, ⟨vk, vb, vn, vf, vs⟩, ac, bc⟩ := c
        go_upto_region 17 with (first
          | refine wpList_load_mid rfl 43 (.tmp 122) rfl p4 (0 + i * 14) (by first | (simp [Act.eval, Act.put]; done) | (simp [Act.eval]; done)) _ _ r1 Tryz.underlying43 rfl rowOp ?_
          | (go_at_call 18; (with_reducible refine (CPn.out _).mono ?_); rintro e w5 ⟨rfl, hb⟩; have X7 := Lib.hid (X13.out.below hb); have T7 := Lib.hid (T13.out.step hb); clear hb))
        clear r1
        go_quiet (fail)
        have X9 := Lib.hid (X7.out.below (below_drewN' (Below.refl _ _) nq))
        have T9 := Lib.hid (T7.out.step (below_drewN' (Below.refl _ _) nq))
        go_wp2
        refine ⟨?_, ?_⟩
        · repeat apply Exists.intro
          refine ⟨⟨i + 1, by go_num, by omega, X9.out, T9.out⟩, ?_⟩
          rfl
        · simp [intOf]; omega
    · obtain rfl : i = 4 := by omega
      clear hx ht
      go_wp2_with (go_at_call 17; (with_reducible refine (wakes_any _).mono ?_); rintro e w9 ⟨rfl, hb⟩; have T14 := Lib.hid (T13.out.step hb); clear hb)
      go_ret
      exact ⟨rfl, T14.out.bel⟩
theorem Unlike_walk (v x : OP) (hv : v.wide) (hx : x.wide) (w : World) : Calls Tryz.prog 8 #[v.val, x.val] w fun e w' => e = .returned (.bool true) ∧ Below w.heap.size w w' := by
  by_cases mv : v.may
  · by_cases mx : x.may
    · exact Unlike_both v x hv hx mv mx w
    · exact Unlike_none2 v x hv hx mv mx w
  · exact Unlike_none1 v x hv hx mv w
end
end Go.Proofs.YtchklaepilcbbaaGreat
