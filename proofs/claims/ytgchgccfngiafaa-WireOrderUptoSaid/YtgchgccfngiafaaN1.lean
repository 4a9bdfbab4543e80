/- Two lists of bytes that a call builds side by side with append, in a region that draws its order. -/
import Derived.Test.YtgchgccfngiafaaB21
import Derived.Test.YtgchgccfngiafaaB14
import Derived.Test.YtgchgccfngiafaaM4
import Derived.Test.YtgchgccfngiafaaK1
namespace Go.Proofs.Ytgchgccfngiafaa
open Go.RowKit
/-- A slice that the call owns holds these bytes. -/
def Own1 (base : Nat) (w : World) (v : Value) (l : List UInt8) : Prop := w.ownsRow base 5 1 v l.length (cellsB l)
/-- Two of them, apart. -/
def Own2 (base : Nat) (w : World) (v : Value) (l : List UInt8) (u : Value) (m : List UInt8) : Prop := Own1 base w v l ∧ Own1 base w u m ∧ ∀ k, v.ownBlock = some k → u.ownBlock ≠ some k
theorem Own1.new {base : Nat} {w : World} (h : base ≤ w.heap.size) : Own1 base (w.alloc (.cells #[] 5)) (.slice (some ⟨w.heap.size, 0, none⟩) 0 0) [] :=
  ⟨rfl, .inr ⟨w.heap.size, 0, #[], rfl, h, heap_alloc_new w _, Nat.le_refl _, by unfold maxLen; omega, rfl, rfl⟩⟩
theorem Own1.alloc {base : Nat} {w : World} {v : Value} {l : List UInt8} (h : Own1 base w v l) (o : Obj) : Own1 base (w.alloc o) v l := World.ownsRow.alloc h o
theorem Own2.swap {base : Nat} {w : World} {v u : Value} {l m : List UInt8} (h : Own2 base w v l u m) : Own2 base w u m v l := ⟨h.2.1, h.1, fun k h1 h2 => h.2.2 k h2 h1⟩
theorem Own2.new {base : Nat} {w : World} {u : Value} {m : List UInt8} (hb : base ≤ w.heap.size) (h : Own1 base w u m) : Own2 base (w.alloc (.cells #[] 5)) (.slice (some ⟨w.heap.size, 0, none⟩) 0 0) [] u m := by
  refine ⟨.new hb, h.alloc _, fun k hk hu => ?_⟩
  have h1 : w.heap.size = k := by simpa [Value.ownBlock] using hk
  have := (World.ownsRow.lt h k hu).2
  omega
theorem Own1.at {base : Nat} {w : World} {v : Value} {l : List UInt8} (h : Own1 base w v l) : ∃ A c, v = .slice A l.length c ∧ At w A l := by
  rcases h.2 with ⟨rfl, h0⟩ | ⟨g, cap, cur, rfl, _⟩
  · exact ⟨none, 0, by rw [h0], fun e => absurd e (by omega)⟩
  · exact ⟨_, _, rfl, own_at h⟩
/-- append onto what the call owns, whatever is appended. -/
theorem run_app (base : Nat) (w : World) (v : Value) (l : List UInt8) (A : Option Addr) (c : Nat) (news : List UInt8) (ty : TypeId) (h : Own1 base w v l) (hA : At w A news) (hz : A = none → c = 0)
    (hm : l.length + news.length ≤ 140737488355328) (hb : base ≤ w.heap.size) :
    ∃ v' w', (Builtin.append_ #[22, 22] ty #[v, .slice A news.length c]).run Try.prog w = .ok v' w' ∧ Own1 base w' v' (l ++ news) ∧ w.grownBy w' v.ownBlock ∧ (v'.ownBlock = v.ownBlock ∨ v'.ownBlock = some w.heap.size) := by
  obtain ⟨i0, hi, hz0, hz1, hz2⟩ := info_parts info8
  cases A with
  | none =>
    have hn : news = [] := by
      rcases Nat.eq_zero_or_pos news.length with e | e
      · exact List.eq_nil_of_length_eq_zero e
      · obtain ⟨b, off, e, _⟩ := hA e; cases e
    subst hn
    obtain rfl := hz rfl
    refine ⟨v, w, run_append_owned_none (P := Try.prog) w base 22 ty 5 i0 1 Try.underlying22 hi v _ _ h, by simpa using h, World.grownBy.refl _ _, .inl rfl⟩
  | some ad =>
    obtain ⟨v', w', h1, h2, h3, _, h5⟩ := run_append_own_at (P := Try.prog) w base 22 ty 5 i0 _ 1 1 Try.underlying22 hi hz0 hz1 hz2 rfl (by omega) v _ _ h ad news.length c (cellsB news) (by rw [cellsB_length]; omega) hA.cells (cellsB_one news)
      (by unfold maxLen; omega) (by omega) hb
    exact ⟨v', w', h1, by rw [Own1, cellsB_append, List.length_append]; exact h2, h3, h5⟩
theorem below_app {base : Nat} {ws w w' : World} {v : Value} {l : List UInt8} (h : Own1 base w v l) (hB : Below base ws w) (hs : base ≤ w.heap.size) (hg : w.grownBy w' v.ownBlock) : Below base ws w' :=
  hB.grown hg hs fun k hk => (World.ownsRow.lt h k hk).1
section
variable {ops : Array Oper} {o : Oper} {a : Act} {K : Act → World → Prop} {Q : Exit → Act → World → Prop} {E : Prop} {w ws : World}
theorem step_app (hw : Region.wanted o (yielded ops a.tmps) = true) (s x : Operand) (ho : o.op = .call { callee := .builtin .append, args := #[s, x], argTypes := #[22, 22] })
    (base : Nat) (v : Value) (l : List UInt8) (hs : a.eval s = v) (h : Own1 base w v l) (A : Option Addr) (c : Nat) (news : List UInt8) (hx : a.eval x = .slice A news.length c) (hA : At w A news) (hz : A = none → c = 0)
    (hm : l.length + news.length ≤ 140737488355328) (hb : base ≤ w.heap.size)
    (hK : ∀ v' w', Own1 base w' v' (l ++ news) → w.grownBy w' v.ownBlock → (v'.ownBlock = v.ownBlock ∨ v'.ownBlock = some w.heap.size) → K (a.put o.dst v') w') :
    if Region.wanted o (yielded ops a.tmps) = true then Oper.wp Try.prog o a w K Q else E := by
  rw [if_pos hw]
  obtain ⟨v', w', h1, h2, h3, h4⟩ := run_app base w v l A c news o.type h hA hz hm hb
  unfold Oper.wp execOp
  simp only [ho, resolve, invoke, builtin, Sem.run_bind, Sem.run_pure, Result.andThen_ok, List.map_toArray, List.map_cons, List.map_nil, hs, hx, h1]
  exact hK v' w' h2 h3 h4
theorem step_app1 (hw : Region.wanted o (yielded ops a.tmps) = true) (s x : Operand) (ho : o.op = .call { callee := .builtin .append, args := #[s, x], argTypes := #[22, 22] })
    (base : Nat) (v : Value) (l : List UInt8) (hs : a.eval s = v) (hB : Below base ws w) (hb : base ≤ w.heap.size) (h : Own1 base w v l) (A : Option Addr) (c : Nat) (news : List UInt8) (hx : a.eval x = .slice A news.length c) (hA : At w A news) (hz : A = none → c = 0)
    (hm : l.length + news.length ≤ 140737488355328)
    (hK : ∀ v' w', Own1 base w' v' (l ++ news) → Below base ws w' → K (a.put o.dst v') w') :
    if Region.wanted o (yielded ops a.tmps) = true then Oper.wp Try.prog o a w K Q else E :=
  step_app hw s x ho base v l hs h A c news hx hA hz hm hb fun v' w' h1 h2 _ => hK v' w' h1 (below_app h hB hb h2)
theorem step_app2 (hw : Region.wanted o (yielded ops a.tmps) = true) (s x y : Operand) (ho : o.op = .call { callee := .builtin .append, args := #[s, x], argTypes := #[22, 22] })
    (base : Nat) (v u : Value) (l m : List UInt8) (hs : a.eval s = v) (_hy : a.eval y = u) (hB : Below base ws w) (hb : base ≤ w.heap.size) (h : Own2 base w v l u m) (A : Option Addr) (c : Nat) (news : List UInt8) (hx : a.eval x = .slice A news.length c) (hA : At w A news) (hz : A = none → c = 0)
    (hm : l.length + news.length ≤ 140737488355328)
    (hK : ∀ v' w', Own2 base w' v' (l ++ news) u m → Below base ws w' → K (a.put o.dst v') w') :
    if Region.wanted o (yielded ops a.tmps) = true then Oper.wp Try.prog o a w K Q else E :=
  step_app hw s x ho base v l hs h.1 A c news hx hA hz hm hb fun v' w' h1 h2 h3 => hK v' w' ⟨h1, World.ownsRow.kept h.2.1 h2 (by
      cases hu : u.ownBlock with
      | none => exact .inl rfl
      | some j => exact .inr fun e => h.2.2 j e.symm hu), fun k hk hu => by
      rcases h3 with h3 | h3
      · exact h.2.2 k (h3 ▸ hk) hu
      · have e : w.heap.size = k := by simpa using h3.symm.trans hk
        have := (World.ownsRow.lt h.2.1 k hu).2
        omega⟩ (below_app h.1 hB hb h2)
end
end Go.Proofs.Ytgchgccfngiafaa
