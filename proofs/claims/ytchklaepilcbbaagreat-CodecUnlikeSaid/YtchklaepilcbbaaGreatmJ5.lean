/- A batch read by the source. -/
import Derived.Test.YtchklaepilcbbaaGreatmJ2
import Derived.Test.YtchklaepilcbbaaGreatmP8
namespace Go.Proofs.YtchklaepilcbbaaGreat
open Go.RowKit
/-- A source whose blocks all lie below B. -/
structure SrcLo (B : Nat) (w : World) (s g : Nat) (A : Option Addr) (c : Nat) (l : List UInt8) (k : Nat) (bad : Bool) : Prop where
  src : Src w s g A c l k bad
  hs : s < B
  hg : g < B
  hd : ∀ b off, A = some ⟨b, off, none⟩ → 0 < l.length → b < B
theorem SrcLo.new {w : World} {s g c k : Nat} {A : Option Addr} {l : List UInt8} {bad : Bool} (h : Src w s g A c l k bad) : SrcLo w.heap.size w s g A c l k bad :=
  ⟨h, h.lt, h.ltg, fun b off e h0 => by
    obtain ⟨b', off', e', hl, _⟩ := h.rd.2.2 h0
    rw [e] at e'; cases e'; exact hl⟩
theorem SrcLo.below {B : Nat} {w w' : World} {s g c k : Nat} {A : Option Addr} {l : List UInt8} {bad : Bool} (h : SrcLo B w s g A c l k bad) (hb : Below B w w') : SrcLo B w' s g A c l k bad := by
  refine ⟨⟨(hb.block s h.hs).trans h.src.box, h.src.ne, (hb.block g h.hg).trans h.src.rd.1, h.src.rd.2.1, fun h0 => ?_⟩, h.hs, h.hg, h.hd⟩
  obtain ⟨b, off, e, hl, hn, hc⟩ := h.src.rd.2.2 h0
  exact ⟨b, off, e, Nat.lt_of_lt_of_le hl hb.size, hn, fun i hi => (hb.cell (p := ⟨b, off + i, none⟩) (h.hd b off e h0)).trans (hc i hi)⟩
theorem SrcLo.src' {B : Nat} {w w' : World} {s g c k k' : Nat} {A : Option Addr} {l : List UInt8} {bad bad' : Bool} (h : SrcLo B w s g A c l k bad) (h' : Src w' s g A c l k' bad') : SrcLo B w' s g A c l k' bad' := ⟨h', h.hs, h.hg, h.hd⟩
theorem OwnO.far {B : Nat} {w w' : World} {s g : Nat} {v : Value} {l : List OP} (h : OwnO B w v l) (hf : Far s g w w') (hs : s < B) (hg : g < B) : OwnO B w' v l := by
  refine ⟨h.1, ?_⟩
  rcases h.2 with h0 | ⟨q, cap, cur, h1, h2, h3, h4⟩
  · exact .inl h0
  · exact .inr ⟨q, cap, cur, h1, h2, (hf.block q (lt_heap h3) (by omega) (by omega)).trans h3, h4⟩
theorem OwnO.setFar {B : Nat} {w : World} {v : Value} {l : List OP} (h : OwnO B w v l) (p : Addr) (u : Value) (hp : ∀ q, v.ownBlock = some q → q ≠ p.block) : OwnO B (w.setCell p u) v l := by
  refine ⟨h.1, ?_⟩
  rcases h.2 with h0 | ⟨q, cap, cur, h1, h2, h3, h4⟩
  · exact .inl h0
  · exact .inr ⟨q, cap, cur, h1, h2, (block_setCell w p u q (hp q (by rw [h1]; rfl))).trans h3, h4⟩
theorem OwnO.form {B : Nat} {w : World} {v : Value} {l : List OP} (h : OwnO B w v l) : ∃ A c, v = .slice A l.length c := by
  rcases h.2 with ⟨rfl, h0⟩ | ⟨q, cap, cur, h1, _⟩
  · exact ⟨none, 0, by rw [h0]⟩
  · exact ⟨_, _, h1⟩
theorem Bx.grown {w w' : World} {p : Nat} {C : Array Value} {row : Option Nat} (h : Bx w p C) (hg : w.grownBy w' row) (hne : ∀ q, row = some q → q ≠ p) : Bx w' p C := by
  have e := hg.block p h.lt (fun e => hne p e.symm rfl)
  exact ⟨Nat.lt_of_lt_of_le h.lt hg.size, fun j => (World.cell?_of_block (a := ⟨p, j, none⟩) e).trans (h.c j), fun j => (World.frozen?_of_block (a := ⟨p, j, none⟩) e).trans (h.fr j)⟩
theorem Bx.setOther {w : World} {p : Nat} {C : Array Value} (h : Bx w p C) (a : Addr) (v : Value) (hp : p ≠ a.block) : Bx (w.setCell a v) p C := by
  have e := block_setCell w a v p hp
  exact ⟨by simpa [World.setCell] using h.lt, fun j => (World.cell?_of_block (a := ⟨p, j, none⟩) e).trans (h.c j), fun j => (World.frozen?_of_block (a := ⟨p, j, none⟩) e).trans (h.fr j)⟩
theorem Bx.drew {w : World} {p : Nat} {C : Array Value} (h : Bx w p C) : Bx w.drew p C := h.below (Below.refl _ _).drew
/-- append of one operation onto a slice of the call's own. -/
theorem run_appO (base : Nat) (w : World) (v : Value) (l : List OP) (g : Nat) (o : OP) (ty : TypeId) (h : OwnO base w v l) (hA : w.rangeAt g 0 o.cells.toList) (hm : l.length + 1 ≤ 1000000000000) (hb : base ≤ w.heap.size) :
    ∃ v' w', (Builtin.append_ #[54, 54] ty #[v, .slice (some ⟨g, 0, none⟩) 1 1]).run Tryz.prog w = .ok v' w' ∧ OwnO base w' v' (l ++ [o]) ∧ w.grownBy w' v.ownBlock ∧ (v'.ownBlock = v.ownBlock ∨ v'.ownBlock = some w.heap.size) := by
  obtain ⟨i0, hi, hz0, hz1, hz2⟩ := info_parts infoO
  obtain ⟨v', w', h1, h2, h3, _, h5⟩ := run_append_own_at (P := Tryz.prog) w base 54 ty 43 i0 _ 14 136 Tryz.underlying54 hi hz0 hz1 hz2 rfl (by omega) v _ _ h ⟨g, 0, none⟩ 1 1 (cellsO [o]) (by rw [cellsO_length]; rfl) (fun j u hj => by
      rw [add_plain, Nat.zero_add]
      rw [cellsO_one] at hj
      have := hA j u hj
      rwa [Nat.zero_add] at this) (fun u hu => by
      rw [cellsO_one] at hu
      exact Array.all_eq_true_iff_forall_mem.1 (one14 o) u (by simpa using hu)) (by unfold maxLen; omega) (by omega) hb
  exact ⟨v', w', h1, by rw [OwnO, cellsO_append, List.length_append]; exact h2, h3, h5⟩
section
variable {ops : Array Oper} {o : Oper} {a : Act} {K : Act → World → Prop} {Q : Exit → Act → World → Prop} {E : Prop} {w : World}
theorem step_appO (hw : Region.wanted o (yielded ops a.tmps) = true) (s x : Operand) (ho : o.op = .call { callee := .builtin .append, args := #[s, x], argTypes := #[54, 54] })
    (base : Nat) (v : Value) (l : List OP) (hs : a.eval s = v) (h : OwnO base w v l) (g : Nat) (p : OP) (hx : a.eval x = .slice (some ⟨g, 0, none⟩) 1 1) (hA : w.rangeAt g 0 p.cells.toList)
    (hm : l.length + 1 ≤ 1000000000000) (hb : base ≤ w.heap.size)
    (hK : ∀ v' w', OwnO base w' v' (l ++ [p]) → w.grownBy w' v.ownBlock → (v'.ownBlock = v.ownBlock ∨ v'.ownBlock = some w.heap.size) → K (a.put o.dst v') w') :
    if Region.wanted o (yielded ops a.tmps) = true then Oper.wp Tryz.prog o a w K Q else E := by
  rw [if_pos hw]
  obtain ⟨v', w', h1, h2, h3, h4⟩ := run_appO base w v l g p o.type h hA hm hb
  unfold Oper.wp execOp
  simp only [ho, resolve, invoke, builtin, Sem.run_bind, Sem.run_pure, Result.andThen_ok, List.map_toArray, List.map_cons, List.map_nil, hs, hx, h1]
  exact hK v' w' h2 h3 h4
end
/-- Where the reading of a batch has come to. -/
structure InBt (w0 w : World) (s g : Nat) (A : Option Addr) (c : Nat) (l : List UInt8) (p3 num st N : Nat) (b0 : Bool) (L0 : List UInt8) (os : List OP) (A2 : Option Addr) (c2 : Nat) (k : Nat) (b : Bool) : Prop where
  lo : SrcLo w0.heap.size w s g A c l k b
  far : Far s g w0 w
  own : OwnO w0.heap.size w (.slice A2 os.length c2) os
  box : Bx w p3 #[.int .u64 (num : Int), .int .u64 (st : Int), .slice A2 os.length c2]
  res : Bx w w0.heap.size #[.int .u64 0, .int .u64 0, .slice none 0 0]
  ne : ∀ q, (Value.slice A2 os.length c2).ownBlock = some q → q ≠ p3 ∧ q ≠ w0.heap.size
  rd : OpsRead N b0 L0 os b (l.drop k)
  wide : ∀ o ∈ os, o.wide
  len : os.length ≤ N
  hp : w0.heap.size < p3
theorem Far.low {s g : Nat} {w0 w w' : World} (h : Far s g w0 w) (hb : Below w0.heap.size w w') : Far s g w0 w' :=
  ⟨hb.os.trans h.os, hb.tape.trans h.tape, hb.output.trans h.output, Nat.le_trans h.size hb.size, fun b hlt h1 h2 => (hb.block b hlt).trans (h.block b hlt h1 h2)⟩
section
variable {w0 wr w1 w2 : World} {s g c p3 num st N k k2 : Nat} {A A2 A3 : Option Addr} {l : List UInt8} {b0 b b2 : Bool} {L0 : List UInt8} {os : List OP} {c2 c3 : Nat} {o : OP}
/-- The round's worlds: the operation read, laid in a block, appended, and the slice stored. -/
theorem InBt.next (h : InBt w0 wr s g A c l p3 num st N b0 L0 os A2 c2 k b) (hS : Src w1 s g A c l k2 b2) (hF : Far s g wr.drew w1) (hR : ReadsO b (l.drop k) o b2 (l.drop k2)) (ho : o.wide) (hlt : os.length < N)
    (hown : OwnO w0.heap.size w2 (.slice A3 (os ++ [o]).length c3) (os ++ [o])) (hgr : (w1.alloc (.cells o.cells 43)).grownBy w2 (Value.slice A2 os.length c2).ownBlock)
    (hbl : (Value.slice A3 (os ++ [o]).length c3).ownBlock = (Value.slice A2 os.length c2).ownBlock ∨ (Value.slice A3 (os ++ [o]).length c3).ownBlock = some (w1.alloc (.cells o.cells 43)).heap.size) :
    InBt w0 (w2.setCell ⟨p3, 2, none⟩ (.slice A3 (os ++ [o]).length c3)) s g A c l p3 num st N b0 L0 (os ++ [o]) A3 c3 k2 b2 := by
  have hs := h.lo.hs
  have hg := h.lo.hg
  have f1 : Far s g w0 w1 := h.far.drew.trans hF
  have f2 : Far s g w0 (w1.alloc (.cells o.cells 43)) := f1.alloc _
  have own1 : OwnO w0.heap.size wr.drew (.slice A2 os.length c2) os := h.own.below (Below.refl _ _).drew
  have own2 : OwnO w0.heap.size (w1.alloc (.cells o.cells 43)) (.slice A2 os.length c2) os := (own1.far hF hs hg).below ((Below.refl _ _).alloc (Nat.le_refl _) _)
  have bel : Below w0.heap.size (w1.alloc (.cells o.cells 43)) w2 := (Below.refl _ _).grown hgr f2.size fun q hq => (World.ownsRow.lt own2 q hq).1
  have bel2 : Below w0.heap.size (w1.alloc (.cells o.cells 43)) (w2.setCell ⟨p3, 2, none⟩ (.slice A3 (os ++ [o]).length c3)) := bel.setCell (Nat.le_of_lt h.hp) _
  have lo1 : SrcLo w0.heap.size (w1.alloc (.cells o.cells 43)) s g A c l k2 b2 := (h.lo.src' hS).below ((Below.refl _ _).alloc f1.size _)
  have bx1 := ((h.box.drew.far hF (by have := h.hp; omega) (by have := h.hp; omega)).below ((Below.refl _ _).alloc (Nat.le_refl _) (.cells o.cells 43)))
  have bx2 := bx1.grown hgr fun q e => (h.ne q e).1
  have rs1 := ((h.res.drew.far hF (by omega) (by omega)).below ((Below.refl _ _).alloc (Nat.le_refl _) (.cells o.cells 43)))
  have rs2 := rs1.grown hgr fun q e => (h.ne q e).2
  have ne : ∀ q, (Value.slice A3 (os ++ [o]).length c3).ownBlock = some q → q ≠ p3 ∧ q ≠ w0.heap.size := fun q hq => by
    rcases hbl with e | e
    · exact h.ne q (e ▸ hq)
    · rw [e] at hq
      cases hq
      have := bx1.lt
      have := rs1.lt
      omega
  exact ⟨lo1.below bel2, f2.low bel2, hown.setFar _ _ fun q hq => (ne q hq).1, (bx2.set 2 _ (by simp)).eq rfl, rs2.setOther _ _ (Nat.ne_of_lt h.hp), ne, h.rd.step hlt hR, fun y hy => by
    rcases List.mem_append.1 hy with hy | hy
    · exact h.wide y hy
    · rw [List.mem_singleton.1 hy]; exact ho, by simp; omega, h.hp⟩
end
end Go.Proofs.YtchklaepilcbbaaGreat
