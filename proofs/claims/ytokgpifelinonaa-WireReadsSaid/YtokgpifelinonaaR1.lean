/- What the call owns, appended to; the document's own answers of layer 3: Own, digits, Num, Int. -/
import Derived.Test.YtokgpifelinonaaB14
namespace Go.Proofs.Ytokgpifelinonaa
open Go.RowKit
theorem At.none_nil {w : World} {l : List UInt8} (h : At w none l) : l = [] := by
  rcases Nat.eq_zero_or_pos l.length with e | e
  · exact List.eq_nil_of_length_eq_zero e
  · obtain ⟨b, off, h, _⟩ := h e; cases h
/-- A slice that the call owns holds these bytes. -/
def Own1 (base : Nat) (w : World) (v : Value) (l : List UInt8) : Prop := w.ownsRow base 5 1 v l.length (cellsB l)
theorem Own1.nil (base : Nat) (w : World) : Own1 base w (.slice none 0 0) [] := World.ownsRow_nil _ _ _ _
theorem Own1.alloc {base : Nat} {w : World} {v : Value} {l : List UInt8} (h : Own1 base w v l) (o : Obj) : Own1 base (w.alloc o) v l := World.ownsRow.alloc h o
theorem Own1.at {base : Nat} {w : World} {v : Value} {l : List UInt8} (h : Own1 base w v l) : ∃ A c, v = .slice A l.length c ∧ (A = none → c = 0) ∧ l.length ≤ c ∧ At w A l := by
  have h' := h
  rcases h'.2 with ⟨rfl, h0⟩ | ⟨g, cap, cur, rfl, _, _, h1, h2, _⟩
  · exact ⟨none, 0, by rw [h0], fun _ => rfl, by omega, fun e => absurd e (by omega)⟩
  · exact ⟨_, _, rfl, (fun e => by cases e), by omega, own_at h⟩
theorem Own1.below {base : Nat} {w w' : World} {v : Value} {l : List UInt8} (h : Own1 base w v l) (hb : Below w.heap.size w w') : Own1 base w' v l := by
  have hg : w.grownBy w' none := ⟨hb.os, hb.tape, hb.output, hb.size, fun k hk _ => hb.block k hk⟩
  refine World.ownsRow.kept h hg ?_
  cases hv : v.ownBlock with
  | none => exact .inl rfl
  | some k => exact .inr (by simp)
/-- append onto what the call owns, whatever is appended. -/
theorem run_app (base : Nat) (w : World) (v : Value) (l : List UInt8) (A : Option Addr) (c : Nat) (news : List UInt8) (ty : TypeId) (h : Own1 base w v l) (hA : At w A news) (hz : A = none → c = 0)
    (hm : l.length + news.length ≤ 140737488355328) (hb : base ≤ w.heap.size) :
    ∃ v' w', (Builtin.append_ #[22, 22] ty #[v, .slice A news.length c]).run Try.prog w = .ok v' w' ∧ Own1 base w' v' (l ++ news) ∧ w.grownBy w' v.ownBlock ∧ (v'.ownBlock = v.ownBlock ∨ v'.ownBlock = some w.heap.size) := by
  obtain ⟨i0, hi, hz0, hz1, hz2⟩ := info_parts info8
  cases A with
  | none =>
    obtain rfl := hA.none_nil
    obtain rfl := hz rfl
    refine ⟨v, w, run_append_owned_none (P := Try.prog) w base 22 ty 5 i0 1 Try.underlying22 hi v _ _ h, by simpa using h, World.grownBy.refl _ _, .inl rfl⟩
  | some ad =>
    obtain ⟨v', w', h1, h2, h3, _, h5⟩ := run_append_own_at (P := Try.prog) w base 22 ty 5 i0 _ 1 1 Try.underlying22 hi hz0 hz1 hz2 rfl (by omega) v _ _ h ad news.length c (cellsB news) (by rw [cellsB_length]; omega) hA.cells (cellsB_one news)
      (by unfold maxLen; omega) (by omega) hb
    exact ⟨v', w', h1, by rw [Own1, cellsB_append, List.length_append]; exact h2, h3, h5⟩
theorem below_app {base : Nat} {ws w w' : World} {v : Value} {l : List UInt8} (h : Own1 base w v l) (hB : Below base ws w) (hs : base ≤ w.heap.size) (hg : w.grownBy w' v.ownBlock) : Below base ws w' :=
  hB.grown hg hs fun k hk => (World.ownsRow.lt h k hk).1
theorem below_none {w w' : World} (hg : w.grownBy w' (Value.slice none 0 0).ownBlock) : Below w.heap.size w w' := (Below.refl _ _).grown hg (Nat.le_refl _) (fun k hk => by cases hk)
/-- The same as a step of a walk. -/
theorem wpList_app (w : World) {ops : Array Oper} {rest : List Oper} {o : Oper} {a : Act} {Q : Exit → Act → World → Prop} (hg : o.guard = none) (s x : Operand) (ho : o.op = .call { callee := .builtin .append, args := #[s, x], argTypes := #[22, 22] })
    (base : Nat) (v : Value) (l : List UInt8) (hs : a.eval s = v) (h : Own1 base w v l) (A : Option Addr) (n c : Nat) (news : List UInt8) (hx : a.eval x = .slice A n c) (hA : At w A news) (hz : A = none → c = 0) (hn : news.length = n)
    (hm : l.length + news.length ≤ 140737488355328) (hb : base ≤ w.heap.size) (ws : World) (hB : Below base ws w)
    (hK : ∀ v' w', Own1 base w' v' (l ++ news) → Below base ws w' → w.grownBy w' v.ownBlock → (v'.ownBlock = v.ownBlock ∨ v'.ownBlock = some w.heap.size) → wpList Try.prog ops Q rest (a.put o.dst v') w') : wpList Try.prog ops Q (o :: rest) a w := by
  subst hn
  refine wpList_plain hg fun K hK' => ?_
  obtain ⟨v', w', h1, h2, h3, h4⟩ := run_app base w v l A c news o.type h hA hz hm hb
  unfold Oper.wp execOp
  simp only [ho, resolve, invoke, builtin, Sem.run_bind, Sem.run_pure, Result.andThen_ok, List.map_toArray, List.map_cons, List.map_nil, hs, hx, h1]
  exact hK' _ _ (hK v' w' h2 (below_app h hB hb h3) h3 h4)
theorem at_one (w : World) (x : Int) (c : UInt8) (h : x = (c.toNat : Int)) : At (w.alloc (.cells #[.int .u8 x] 5)) (some ⟨w.heap.size, 0, none⟩) [c] := by
  subst h
  intro _
  refine ⟨w.heap.size, 0, rfl, by simp, fun i hi => ?_⟩
  rw [cell_of_row _ _ _ _ _ _ (heap_alloc_new w _)]
  obtain rfl : i = 0 := by simpa using hi
  rfl
theorem below_alloc {B : Nat} {ws w : World} (h : Below B ws w) (hB : B ≤ w.heap.size) (o : Obj) : Below B ws (w.alloc o) := h.alloc hB o
set_option maxRecDepth 100000 in
set_option maxHeartbeats 1000000 in
theorem refOwn_any (A : Option Addr) (l : List UInt8) (cap : Nat) (w : World) (hA : At w A l) (hz : A = none → cap = 0) (hm : l.length ≤ 140737488355328) :
    Calls Try.prog 5 #[.slice A l.length cap] w fun e w' => ∃ v, e = .returned v ∧ Own1 w.heap.size w' v l ∧ Below w.heap.size w w' := by
  have HA := Lib.hid hA
  have HZ := Lib.hid hz
  clear hA hz
  go_enter Try.func5, Try.ntmps5
  go_wp2_with (at_builtin; refine wpList_app _ rfl (.tmp 4) (.tmp 5) rfl w.heap.size (.slice none 0 0) [] rfl (Own1.nil _ _) A l.length cap l rfl HA.out HZ.out rfl (by simp; omega) (Nat.le_refl _) w (Below.refl _ _) ?_; intro v1 w1 ho1 hb1 _ _)
  go_ret
  exact ⟨v1, rfl, ho1, hb1⟩
theorem digs_front (n j : Nat) : [UInt8.ofNat (n / 256 ^ j)] ++ digs n j = digs n (j + 1) := rfl
theorem pow_div (n j : Nat) : n / 256 ^ j / 256 = n / 256 ^ (j + 1) := by rw [Nat.div_div_eq_div_mul, Nat.pow_succ]
end Go.Proofs.Ytokgpifelinonaa
