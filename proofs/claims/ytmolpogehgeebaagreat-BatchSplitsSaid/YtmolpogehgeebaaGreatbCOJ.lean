/- Operations in a slice: where they lie; a slice of the call's own that holds them; append onto it. -/
/- Arguments opened: an operation; what the seat's program owns. -/
import Derived.Test.YtmolpogehgeebaaGreatbCO1
import Derived.Test.YtmolpogehgeebaaGreatbJ1
import Derived.Test.YtmolpogehgeebaaGreatbH8
import Derived.Test.YtmolpogehgeebaaGreatbQ1
import Derived.Test.YtmolpogehgeebaaGreatRows
import Derived.ProofKit
import Derived.Lib.SmallJoins
import Derived.Laws.Cover2
import Derived.Carry
import Derived.ChangeSlices
namespace Go.Proofs.YtmolpogehgeebaaGreat.Co
open Go.RowKit
def cellsO (l : List OP) : List Value := l.flatMap fun o => o.cells.toList
theorem cellsO_length (l : List OP) : (cellsO l).length = l.length * 14 := by
  induction l with
  | nil => rfl
  | cons x l ih => simp only [cellsO, List.flatMap_cons, List.length_append, List.length_cons, List.length_nil] at *; omega
theorem cellsO_append (a b : List OP) : cellsO (a ++ b) = cellsO a ++ cellsO b := by simp [cellsO]
theorem cellsO_one (o : OP) : cellsO [o] = o.cells.toList := by simp [cellsO]
theorem op_len (o : OP) : o.cells.toList.length = 14 := rfl
theorem cellsO_get (l : List OP) (i : Nat) (h : i < l.length) (j : Nat) (hj : j < 14) : (cellsO l)[i * 14 + j]? = (l[i].cells.toList)[j]? := by
  induction l generalizing i with
  | nil => simp at h
  | cons x l ih =>
    have e : cellsO (x :: l) = x.cells.toList ++ cellsO l := by simp [cellsO]
    rw [e]
    cases i with
    | zero => rw [Nat.zero_mul, Nat.zero_add, List.getElem?_append_left (by rw [op_len]; exact hj)]; rfl
    | succ i =>
      rw [List.getElem?_append_right (by rw [op_len]; omega), op_len, show (i + 1) * 14 + j - 14 = i * 14 + j by omega]
      exact ih i (by simpa using h)
/-- Where the operations of a slice lie. -/
def OAt (w : World) (A : Option Addr) (l : List OP) : Prop := 0 < l.length → ∃ b off, A = some ⟨b, off, none⟩ ∧ b < w.heap.size ∧ ∀ i (h : i < l.length), w.rangeAt b (off + i * 14) (l[i].cells.toList)
/-- A slice that holds these operations. -/
def SO (w : World) (v : Value) (l : List OP) : Prop := ∃ A c, v = .slice A l.length c ∧ OAt w A l ∧ l.length ≤ 9223372036854775807
theorem OAt.below {w w' : World} {A : Option Addr} {l : List OP} (h : OAt w A l) (hb : Below w.heap.size w w') : OAt w' A l := fun h0 => by
  obtain ⟨g, off, e, hl, hc⟩ := h h0
  exact ⟨g, off, e, Nat.lt_of_lt_of_le hl hb.size, fun i hi j v hv => (hb.cell (p := ⟨g, off + i * 14 + j, none⟩) hl).trans (hc i hi j v hv)⟩
theorem SO.below {w w' : World} {v : Value} {l : List OP} (h : SO w v l) (hb : Below w.heap.size w w') : SO w' v l := by
  obtain ⟨A, c, e, hA, hm⟩ := h
  exact ⟨A, c, e, hA.below hb, hm⟩
theorem SO.nil (w : World) : SO w (.slice none 0 0) [] := ⟨none, 0, rfl, fun h => absurd h (Nat.lt_irrefl 0), by simp⟩
/-- A slice that the call owns holds these operations. -/
def OwnO (base : Nat) (w : World) (v : Value) (l : List OP) : Prop := w.ownsRow base 35 14 v l.length (cellsO l)
theorem OwnO.nil (base : Nat) (w : World) : OwnO base w (.slice none 0 0) [] := World.ownsRow_nil w base _ 14
theorem OwnO.below {base : Nat} {w w' : World} {v : Value} {l : List OP} (h : OwnO base w v l) (hb : Below w.heap.size w w') : OwnO base w' v l := by
  refine ⟨h.1, ?_⟩
  rcases h.2 with h0 | ⟨g, cap, cur, h1, h2, h3, h4⟩
  · exact .inl h0
  · exact .inr ⟨g, cap, cur, h1, h2, (hb.block g (lt_heap h3)).trans h3, h4⟩
theorem OwnO.mono {base base' : Nat} {w : World} {v : Value} {l : List OP} (h : OwnO base w v l) (hb : base' ≤ base) : OwnO base' w v l := by
  refine ⟨h.1, ?_⟩
  rcases h.2 with h0 | ⟨g, cap, cur, h1, h2, h3⟩
  · exact .inl h0
  · exact .inr ⟨g, cap, cur, h1, Nat.le_trans hb h2, h3⟩
theorem OwnO.so {base : Nat} {w : World} {v : Value} {l : List OP} (h : OwnO base w v l) : SO w v l := by
  rcases h.2 with ⟨rfl, h0⟩ | ⟨g, cap, cur, rfl, hb, hg, hn, hm, hs, ht⟩
  · obtain rfl : l = [] := List.eq_nil_of_length_eq_zero h0
    exact SO.nil _
  · refine ⟨_, cap, rfl, fun h0 => ⟨g, 0, rfl, lt_heap hg, fun i hi j v hv => ?_⟩, by unfold maxLen at hm; omega⟩
    have hj : j < 14 := by
      have := (List.getElem?_eq_some_iff.1 hv).1
      rwa [op_len] at this
    have c0 := cellsO_get l i hi j hj
    rw [← ht, List.getElem?_take_of_lt (by omega), Array.getElem?_toList] at c0
    rw [Nat.zero_add, cell_of_row w g (i * 14 + j) cur _ _ hg, c0, hv]
theorem infoO : (Tryz.prog.info? 35).map (fun i => (i.zero, i.size, i.bytes)) = some (some (.agg #[.int .i64 0, .bool false, .int .u64 0, .string ⟨#[]⟩, .int .u64 0, .int .u64 0, .string ⟨#[]⟩, .int .i64 0, .bool false, .int .i64 0, .float .f64 0, .string ⟨#[]⟩, .int .u64 0, .int .u64 0]), 14, 136) := by kernel_rfl
theorem one14 (o : OP) : o.cells.all (·.oneCell') = true := by kernel_rfl
theorem OwnO.form {B : Nat} {w : World} {v : Value} {l : List OP} (h : OwnO B w v l) : ∃ A c, v = .slice A l.length c := by
  rcases h.2 with ⟨rfl, h0⟩ | ⟨q, cap, cur, h1, _⟩
  · exact ⟨none, 0, by rw [h0]⟩
  · exact ⟨_, _, h1⟩
/-- append of one operation onto a slice of the call's own. -/
theorem run_appO (base : Nat) (w : World) (v : Value) (l : List OP) (g : Nat) (o : OP) (ty : TypeId) (h : OwnO base w v l) (hA : w.rangeAt g 0 o.cells.toList) (hm : l.length + 1 ≤ 1000000000000) (hb : base ≤ w.heap.size) :
    ∃ v' w', (Builtin.append_ #[27, 27] ty #[v, .slice (some ⟨g, 0, none⟩) 1 1]).run Tryz.prog w = .ok v' w' ∧ OwnO base w' v' (l ++ [o]) ∧ w.grownBy w' v.ownBlock ∧ (v'.ownBlock = v.ownBlock ∨ v'.ownBlock = some w.heap.size) := by
  obtain ⟨i0, hi, hz0, hz1, hz2⟩ := info_parts infoO
  obtain ⟨v', w', h1, h2, h3, _, h5⟩ := run_append_own_at (P := Tryz.prog) w base 27 ty 35 i0 _ 14 136 Tryz.underlying27 hi hz0 hz1 hz2 rfl (by omega) v _ _ h ⟨g, 0, none⟩ 1 1 (cellsO [o]) (by rw [cellsO_length]; rfl) (fun j u hj => by
      rw [Se.add_plain, Nat.zero_add]
      rw [cellsO_one] at hj
      have := hA j u hj
      rwa [Nat.zero_add] at this) (fun u hu => by
      rw [cellsO_one] at hu
      exact Array.all_eq_true_iff_forall_mem.1 (one14 o) u (by simpa using hu)) (by unfold maxLen; omega) (by omega) hb
  exact ⟨v', w', h1, by rw [OwnO, cellsO_append, List.length_append]; exact h2, h3, h5⟩
section
variable {ops : Array Oper} {o : Oper} {a : Act} {K : Act → World → Prop} {Q : Exit → Act → World → Prop} {E : Prop} {w : World}
theorem step_appO (hw : Region.wanted o (yielded ops a.tmps) = true) (s x : Operand) (ho : o.op = .call { callee := .builtin .append, args := #[s, x], argTypes := #[27, 27] })
    (base : Nat) (v : Value) (l : List OP) (hs : a.eval s = v) (h : OwnO base w v l) (g : Nat) (p : OP) (hx : a.eval x = .slice (some ⟨g, 0, none⟩) 1 1) (hA : w.rangeAt g 0 p.cells.toList)
    (hm : l.length + 1 ≤ 1000000000000) (hb : base ≤ w.heap.size)
    (hK : ∀ v' w', OwnO base w' v' (l ++ [p]) → w.grownBy w' v.ownBlock → (v'.ownBlock = v.ownBlock ∨ v'.ownBlock = some w.heap.size) → K (a.put o.dst v') w') :
    if Region.wanted o (yielded ops a.tmps) = true then Oper.wp Tryz.prog o a w K Q else E := by
  rw [if_pos hw]
  obtain ⟨v', w', h1, h2, h3, h4⟩ := run_appO base w v l g p o.type h hA hm hb
  unfold Oper.wp execOp
  simp only [ho, resolve, invoke, builtin, Sem.run_bind, Sem.run_pure, Result.andThen_ok, List.map_toArray, List.map_cons, List.map_nil, hs, hx, h1]
  exact hK v' w' h2 h3 h4
end
end Go.Proofs.YtmolpogehgeebaaGreat.Co


namespace Go.Proofs.YtmolpogehgeebaaGreat.Co
def OP.zero : OP := ⟨0, false, 0, ⟨#[]⟩, 0, 0, ⟨#[]⟩, ⟨0, false, 0, 0, ⟨#[]⟩⟩, 0, 0⟩
open Go.ChangeShapes Go.WideShapes Go.ChangeAt Go.RowKit
theorem own_knob : ownKnob Tryz.prog.godebug = none := by kernel_rfl
theorem all_out : laidOutB Tryz.prog = true := by kernel_rfl
theorem u64_nat {x : Int} (h : (Lit.int .u64 x).wf = true) : ∃ n : Nat, x = (n : Int) ∧ n < 18446744073709551616 := by
  have : 0 ≤ x ∧ x ≤ 18446744073709551615 := by simpa [Lit.wf, IntKind.min, IntKind.max, IntKind.signed, IntKind.bits] using h
  exact ⟨x.toNat, by omega, by omega⟩
section
set_option maxRecDepth 100000
variable {H : Type} {enc : TypeId × Value → H} {W : World} {base b0 : Nat} {sp : Nat → Bool} {held : Bool} {r : Reach} {v : Value} {d : DataW H} {p : List MemPlace}
/-- The five cells of a value. -/
theorem trod_value {n : Nat} {x : DataW H × List MemPlace} {c0 c1 c2 c3 c4 : Value} (hf : DataW.trod enc Tryz.prog W base sp held n 31 [c0, c1, c2, c3, c4] = some x) :
    ∃ v : VP, [c0, c1, c2, c3, c4] = [.int .i64 v.k, .bool v.b, .int .i64 v.n, .float .f64 v.f, .string v.s] ∧ v.wide := by
  obtain ⟨xs, n, _, _, _, hlen, hg⟩ := DataW.trod_struct Tryz.underlying31 hf
  have k_bool : Tryz.prog.cellsOf 4 = 1 := by kernel_rfl
  have k_float64 : Tryz.prog.cellsOf 29 = 1 := by kernel_rfl
  have k_int : Tryz.prog.cellsOf 3 = 1 := by kernel_rfl
  have k_int64 : Tryz.prog.cellsOf 2 = 1 := by kernel_rfl
  have k_string : Tryz.prog.cellsOf 9 = 1 := by kernel_rfl
  match xs, hlen, hg with
  | [y0, y1, y2, y3, y4], _, hg =>
    have g0 : DataW.trod enc Tryz.prog W base sp held n 3 (([c0, c1, c2, c3, c4].drop 0).take (Tryz.prog.cellsOf 3)) = some y0 := hg 0 _ rfl
    rw [k_int] at g0
    have g1 : DataW.trod enc Tryz.prog W base sp held n 4 (([c0, c1, c2, c3, c4].drop 1).take (Tryz.prog.cellsOf 4)) = some y1 := hg 1 _ rfl
    rw [k_bool] at g1
    have g2 : DataW.trod enc Tryz.prog W base sp held n 2 (([c0, c1, c2, c3, c4].drop 2).take (Tryz.prog.cellsOf 2)) = some y2 := hg 2 _ rfl
    rw [k_int64] at g2
    have g3 : DataW.trod enc Tryz.prog W base sp held n 29 (([c0, c1, c2, c3, c4].drop 3).take (Tryz.prog.cellsOf 29)) = some y3 := hg 3 _ rfl
    rw [k_float64] at g3
    have g4 : DataW.trod enc Tryz.prog W base sp held n 9 (([c0, c1, c2, c3, c4].drop 4).take (Tryz.prog.cellsOf 9)) = some y4 := hg 4 _ rfl
    rw [k_string] at g4
    obtain ⟨z0, e0, _, w0⟩ := DataW.trod_int Tryz.underlying3 g0
    obtain ⟨z1, e1, _⟩ := DataW.trod_bool Tryz.underlying4 g1
    obtain ⟨z2, e2, _, w2⟩ := DataW.trod_int Tryz.underlying2 g2
    obtain ⟨z3, e3, w3⟩ := trod_float_any Tryz.underlying29 g3
    obtain ⟨z4, e4, _, w4⟩ := DataW.trod_string Tryz.underlying9 g4
    simp at e0 e1 e2 e3 e4
    subst e0 e1 e2 e3 e4
    exact ⟨⟨z0, z1, z2, z3, z4⟩, rfl, i64_fits w0, i64_fits w2, w3, w4⟩
theorem trod_period {n : Nat} {x : DataW H × List MemPlace} {c0 c1 : Value} (hf : DataW.trod enc Tryz.prog W base sp held n 33 [c0, c1] = some x) :
    ∃ a b : Nat, [c0, c1] = [.int .u64 (a : Int), .int .u64 (b : Int)] ∧ a < 18446744073709551616 ∧ b < 18446744073709551616 := by
  obtain ⟨xs, n, _, _, _, hlen, hg⟩ := DataW.trod_struct Tryz.underlying33 hf
  have k_uint64 : Tryz.prog.cellsOf 22 = 1 := by kernel_rfl
  match xs, hlen, hg with
  | [y0, y1], _, hg =>
    have g0 : DataW.trod enc Tryz.prog W base sp held n 22 (([c0, c1].drop 0).take (Tryz.prog.cellsOf 22)) = some y0 := hg 0 _ rfl
    rw [k_uint64] at g0
    have g1 : DataW.trod enc Tryz.prog W base sp held n 22 (([c0, c1].drop 1).take (Tryz.prog.cellsOf 22)) = some y1 := hg 1 _ rfl
    rw [k_uint64] at g1
    obtain ⟨z0, e0, _, w0⟩ := DataW.trod_int Tryz.underlying22 g0
    obtain ⟨z1, e1, _, w1⟩ := DataW.trod_int Tryz.underlying22 g1
    simp at e0 e1
    obtain ⟨n0, rfl, l0⟩ := u64_nat w0
    obtain ⟨n1, rfl, l1⟩ := u64_nat w1
    subst e0 e1
    exact ⟨n0, n1, rfl, l0, l1⟩
/-- The fourteen cells of an operation. -/
theorem trod_op {n : Nat} {x : DataW H × List MemPlace} {c0 c1 c2 c3 c4 c5 c6 c7 c8 c9 c10 c11 c12 c13 : Value} (hf : DataW.trod enc Tryz.prog W base sp held n 35 [c0, c1, c2, c3, c4, c5, c6, c7, c8, c9, c10, c11, c12, c13] = some x) :
    ∃ o : OP, [c0, c1, c2, c3, c4, c5, c6, c7, c8, c9, c10, c11, c12, c13] = o.cells.toList ∧ o.wide := by
  obtain ⟨xs, n, _, _, _, hlen, hg⟩ := DataW.trod_struct Tryz.underlying35 hf
  have k_api_Period : Tryz.prog.cellsOf 33 = 2 := by kernel_rfl
  have k_api_Value : Tryz.prog.cellsOf 31 = 5 := by kernel_rfl
  have k_bool : Tryz.prog.cellsOf 4 = 1 := by kernel_rfl
  have k_int : Tryz.prog.cellsOf 3 = 1 := by kernel_rfl
  have k_string : Tryz.prog.cellsOf 9 = 1 := by kernel_rfl
  have k_uint64 : Tryz.prog.cellsOf 22 = 1 := by kernel_rfl
  match xs, hlen, hg with
  | [y0, y1, y2, y3, y4, y5, y6, y7, y8], _, hg =>
    have g0 : DataW.trod enc Tryz.prog W base sp held n 3 (([c0, c1, c2, c3, c4, c5, c6, c7, c8, c9, c10, c11, c12, c13].drop 0).take (Tryz.prog.cellsOf 3)) = some y0 := hg 0 _ rfl
    rw [k_int] at g0
    have g1 : DataW.trod enc Tryz.prog W base sp held n 4 (([c0, c1, c2, c3, c4, c5, c6, c7, c8, c9, c10, c11, c12, c13].drop 1).take (Tryz.prog.cellsOf 4)) = some y1 := hg 1 _ rfl
    rw [k_bool] at g1
    have g2 : DataW.trod enc Tryz.prog W base sp held n 22 (([c0, c1, c2, c3, c4, c5, c6, c7, c8, c9, c10, c11, c12, c13].drop 2).take (Tryz.prog.cellsOf 22)) = some y2 := hg 2 _ rfl
    rw [k_uint64] at g2
    have g3 : DataW.trod enc Tryz.prog W base sp held n 9 (([c0, c1, c2, c3, c4, c5, c6, c7, c8, c9, c10, c11, c12, c13].drop 3).take (Tryz.prog.cellsOf 9)) = some y3 := hg 3 _ rfl
    rw [k_string] at g3
    have g4 : DataW.trod enc Tryz.prog W base sp held n 22 (([c0, c1, c2, c3, c4, c5, c6, c7, c8, c9, c10, c11, c12, c13].drop 4).take (Tryz.prog.cellsOf 22)) = some y4 := hg 4 _ rfl
    rw [k_uint64] at g4
    have g5 : DataW.trod enc Tryz.prog W base sp held n 22 (([c0, c1, c2, c3, c4, c5, c6, c7, c8, c9, c10, c11, c12, c13].drop 5).take (Tryz.prog.cellsOf 22)) = some y5 := hg 5 _ rfl
    rw [k_uint64] at g5
    have g6 : DataW.trod enc Tryz.prog W base sp held n 9 (([c0, c1, c2, c3, c4, c5, c6, c7, c8, c9, c10, c11, c12, c13].drop 6).take (Tryz.prog.cellsOf 9)) = some y6 := hg 6 _ rfl
    rw [k_string] at g6
    have g7 : DataW.trod enc Tryz.prog W base sp held n 31 (([c0, c1, c2, c3, c4, c5, c6, c7, c8, c9, c10, c11, c12, c13].drop 7).take (Tryz.prog.cellsOf 31)) = some y7 := hg 7 _ rfl
    rw [k_api_Value] at g7
    have g8 : DataW.trod enc Tryz.prog W base sp held n 33 (([c0, c1, c2, c3, c4, c5, c6, c7, c8, c9, c10, c11, c12, c13].drop 12).take (Tryz.prog.cellsOf 33)) = some y8 := hg 8 _ rfl
    rw [k_api_Period] at g8
    obtain ⟨z0, e0, _, w0⟩ := DataW.trod_int Tryz.underlying3 g0
    obtain ⟨z1, e1, _⟩ := DataW.trod_bool Tryz.underlying4 g1
    obtain ⟨z2, e2, _, w2⟩ := DataW.trod_int Tryz.underlying22 g2
    obtain ⟨z3, e3, _, w3⟩ := DataW.trod_string Tryz.underlying9 g3
    obtain ⟨z4, e4, _, w4⟩ := DataW.trod_int Tryz.underlying22 g4
    obtain ⟨z5, e5, _, w5⟩ := DataW.trod_int Tryz.underlying22 g5
    obtain ⟨z6, e6, _, w6⟩ := DataW.trod_string Tryz.underlying9 g6
    obtain ⟨z7, e7, w7⟩ := trod_value g7
    obtain ⟨a, b, e8, wa, wb⟩ := trod_period g8
    simp at e0 e1 e2 e3 e4 e5 e6 e7 e8
    obtain ⟨n2, rfl, l2⟩ := u64_nat w2
    obtain ⟨n4, rfl, l4⟩ := u64_nat w4
    obtain ⟨n5, rfl, l5⟩ := u64_nat w5
    obtain ⟨e70, e71, e72, e73, e74⟩ := e7
    obtain ⟨e80, e81⟩ := e8
    subst e0 e1 e2 e3 e4 e5 e6 e70 e71 e72 e73 e74 e80 e81
    exact ⟨⟨z0, z1, n2, z3, n4, n5, z6, z7, a, b⟩, rfl, i64_fits w0, l2, w3, l4, l5, w6, w7, wa, wb⟩
theorem open_val (hv : Value.okWide Tryz.prog W r b0 31 v) (h : DataW.Trod enc Tryz.prog W base sp held 31 v d p) : ∃ u : VP, v = u.val ∧ u.wide := by
  obtain ⟨cs, rfl, hsz⟩ := okWide_struct Tryz.underlying31 hv
  have hC : Tryz.prog.cellsOf 31 = 5 := by kernel_rfl
  obtain ⟨l⟩ := cs
  match l, hsz.trans hC with
  | [c0, c1, c2, c3, c4], _ =>
    obtain ⟨fuel, hf⟩ := h
    obtain ⟨u, e, hw⟩ := trod_value (c0 := c0) (c1 := c1) (c2 := c2) (c3 := c3) (c4 := c4) hf
    exact ⟨u, by rw [e], hw⟩
theorem open_op (hv : Value.okWide Tryz.prog W r b0 35 v) (h : DataW.Trod enc Tryz.prog W base sp held 35 v d p) : ∃ o : OP, v = o.val ∧ o.wide := by
  obtain ⟨cs, rfl, hsz⟩ := okWide_struct Tryz.underlying35 hv
  have hC : Tryz.prog.cellsOf 35 = 14 := by kernel_rfl
  obtain ⟨l⟩ := cs
  match l, hsz.trans hC with
  | [c0, c1, c2, c3, c4, c5, c6, c7, c8, c9, c10, c11, c12, c13], _ =>
    obtain ⟨fuel, hf⟩ := h
    obtain ⟨u, e, hw⟩ := trod_op (c0 := c0) (c1 := c1) (c2 := c2) (c3 := c3) (c4 := c4) (c5 := c5) (c6 := c6) (c7 := c7) (c8 := c8) (c9 := c9) (c10 := c10) (c11 := c11) (c12 := c12) (c13 := c13) hf
    exact ⟨u, by rw [e], hw⟩
/-- The cells of a slice of operations. -/
theorem ops_in {sp : Nat → Bool} {n : Nat} {cs : List Value} {y : DataW H × List MemPlace} (hf : DataW.trod enc Tryz.prog W base sp held n 27 cs = some y) :
    ∃ (A : Option Addr) (c : Nat) (l : List OP), cs = [.slice A l.length c] ∧ OAt W A l ∧ l.length ≤ 9223372036854775807 ∧ ∀ o ∈ l, o.wide := by
  rcases DataW.trod_slice Tryz.underlying27 hf with ⟨e, _⟩ | ⟨a, len, cap, elems, rest, n, g1, e, g2, g3, g4, g5, hlen, hg, _, _⟩
  · exact ⟨none, 0, [], e, fun h0 => absurd h0 (by simp), by simp, fun o ho => by simp at ho⟩
  · have hC : Tryz.prog.cellsOf 35 = 14 := by kernel_rfl
    rw [hC] at hg
    have each : ∀ i, ∃ o : OP, i < len → (∀ j u, o.cells.toList[j]? = some u → W.cell? ((a.add (i * 14)).add j) = some u) ∧ o.wide := fun i => by
      by_cases hi : i < len
      · have h1 := hg i hi
        rw [List.getElem?_eq_getElem (by omega), Option.bind_eq_some_iff] at h1
        obtain ⟨cs, hcs, ht⟩ := h1
        obtain ⟨_, hl, hcell⟩ := World.cells?_some hcs
        match cs, hl, hcell, ht with
        | [c0, c1, c2, c3, c4, c5, c6, c7, c8, c9, c10, c11, c12, c13], _, hcell, ht =>
          obtain ⟨o, e, hw⟩ := trod_op (c0 := c0) (c1 := c1) (c2 := c2) (c3 := c3) (c4 := c4) (c5 := c5) (c6 := c6) (c7 := c7) (c8 := c8) (c9 := c9) (c10 := c10) (c11 := c11) (c12 := c12) (c13 := c13) ht
          refine ⟨o, fun _ => ⟨fun j u hu => ?_, hw⟩⟩
          have hj : j < 14 := by
            have := (List.getElem?_eq_some_iff.1 hu).1
            rwa [op_len] at this
          rw [hcell j hj, e]
          exact hu
      · exact ⟨OP.zero, fun h => absurd h hi⟩
    obtain ⟨f, each⟩ : ∃ f : Nat → OP, ∀ i, i < len → (∀ j u, (f i).cells.toList[j]? = some u → W.cell? ((a.add (i * 14)).add j) = some u) ∧ (f i).wide := ⟨fun i => Classical.choose (each i), fun i => Classical.choose_spec (each i)⟩
    have hlen2 : ((List.range len).map f).length = len := by simp
    refine ⟨some a, cap, (List.range len).map f, by rw [hlen2]; exact e, fun h0 => ?_, by rw [hlen2]; unfold maxLen at *; omega, fun o ho => ?_⟩
    · rw [hlen2] at h0
      obtain ⟨b, off, spot⟩ := a
      have f0 := (each 0 h0).1 0 (.int .i64 (f 0).kind) rfl
      have hspot : spot = none := by simpa [Addr.add] using World.cell?_spot f0
      subst hspot
      have hlt : b < W.heap.size := by
        rw [Se.add_plain, Se.add_plain] at f0
        exact World.block_lt_of_cell? W _ f0
      refine ⟨b, off, rfl, hlt, fun i hi j u hu => ?_⟩
      rw [hlen2] at hi
      have := (each i hi).1 j u (by simpa using hu)
      rwa [Se.add_plain, Se.add_plain] at this
    · obtain ⟨i, hi, rfl⟩ := List.mem_map.1 ho
      exact (each i (List.mem_range.1 hi)).2
theorem open_opl {sp : Nat → Bool} (hv : Value.okWide Tryz.prog W r b0 27 v) (h : DataW.Trod enc Tryz.prog W base sp held 27 v d p) : ∃ l : List OP, SO W v l ∧ ∀ o ∈ l, o.wide := by
  obtain ⟨x0, x1, x2, rfl⟩ := okWide_slice Tryz.underlying27 hv
  obtain ⟨fuel, hf⟩ := h
  obtain ⟨A, c, l, e, h1, h2, h3⟩ := ops_in hf
  simp [Value.cells] at e
  obtain ⟨rfl, rfl, rfl⟩ := e
  exact ⟨l, ⟨_, _, rfl, h1, h2⟩, h3⟩
end
end Go.Proofs.YtmolpogehgeebaaGreat.Co


