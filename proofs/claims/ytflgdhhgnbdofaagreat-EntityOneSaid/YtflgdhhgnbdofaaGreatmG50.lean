/- EntityOne in plain words: an entity is made again out of what is seen of it. No program. -/
/- EntityOne: what stands in its loops. -/
import Derived.Test.YtflgdhhgnbdofaaGreatmG42
import Derived.Test.YtflgdhhgnbdofaaGreatmFB4
import Derived.Test.YtflgdhhgnbdofaaGreatmFB5
namespace Go.Proofs.YtflgdhhgnbdofaaGreat
open Go.RowKit
/-- The operation tells of what is not valid of x, or of one piece of it. -/
structure Tells (x : Ent) (o : Co.OP) : Prop where
  edge : o.edge = false
  id : o.id = 1
  may : o.may
  wide : o.v.wide
  part : (o.kind = 4 ∧ ∀ t : Int, (o.pf : Int) ≤ t ∧ t < o.pt → Se.Iset.has x.val t = false) ∨ (o.kind = 5 ∧ ∀ t : Int, (o.pf : Int) ≤ t ∧ t < o.pt → atK x.ps o.key t = o.v ∧ Se.Iset.has x.val t = true)
/-- What the operation tells is so of y. -/
def DoneO (o : Co.OP) (y : Ent) : Prop := (o.kind = 4 ∧ ∀ t : Int, (o.pf : Int) ≤ t ∧ t < o.pt → Se.Iset.has y.val t = false) ∨ (o.kind = 5 ∧ ∀ t : Int, (o.pf : Int) ≤ t ∧ t < o.pt → atK y.ps o.key t = o.v)
/-- y is valid wherever x is, and has nothing that x has not. -/
structure SubE (x y : Ent) : Prop where
  kin : x.kin y
  may : y.may
  val : ∀ t, Se.Iset.has x.val t = true → Se.Iset.has y.val t = true
  at' : ∀ k t, atK y.ps k t = VP.none ∨ atK y.ps k t = atK x.ps k t
theorem SubE.step {x y z : Ent} {o : Co.OP} (h : SubE x y) (ho : Tells x o) (ha : Applied y o z) : SubE x z ∧ DoneO o z ∧ ∀ o', Tells x o' → DoneO o' y → DoneO o' z := by
  rcases ho.part with ⟨hk, hp⟩ | ⟨hk, hp⟩
  · rcases ha with ⟨e, _⟩ | ⟨_, h1, h2, h3, h4⟩ | ⟨e, _⟩
    · omega
    · refine ⟨⟨h.kin.trans h1, h2, fun t ht => (h3 t).2 ⟨h.val t ht, fun g => ?_⟩, fun k t => ?_⟩, .inl ⟨hk, fun t ht => ?_⟩, fun o' ho' hd => ?_⟩
      · rw [hp t g] at ht; cases ht
      · by_cases g : (o.pf : Int) ≤ t ∧ t < o.pt
        · exact .inl ((h4 k t).1 g)
        · rw [(h4 k t).2 g]; exact h.at' k t
      · rw [← Bool.not_eq_true]
        exact fun g => ((h3 t).1 g).2 ht
      · rcases hd with ⟨k', hd⟩ | ⟨k', hd⟩
        · refine .inl ⟨k', fun t ht => ?_⟩
          rw [← Bool.not_eq_true]
          intro g
          have := ((h3 t).1 g).1
          rw [hd t ht] at this; cases this
        · refine .inr ⟨k', fun t ht => ?_⟩
          rw [(h4 o'.key t).2 fun g => ?_]
          · exact hd t ht
          · rcases ho'.part with ⟨k2, _⟩ | ⟨_, hp'⟩
            · omega
            · have := (hp' t ht).2
              rw [hp t g] at this; cases this
    · omega
  · rcases ha with ⟨e, _⟩ | ⟨e, _⟩ | ⟨_, _, h1, h2, h3, h4⟩
    · omega
    · omega
    · refine ⟨⟨h.kin.trans h1, h2, fun t ht => by rw [h3]; exact h.val t ht, fun k t => ?_⟩, .inr ⟨hk, fun t ht => (h4 o.key t).1 ⟨rfl, ht⟩⟩, fun o' ho' hd => ?_⟩
      · by_cases g : k = o.key ∧ (o.pf : Int) ≤ t ∧ t < o.pt
        · rw [(h4 k t).1 g, g.1]; exact .inr (hp t g.2).1.symm
        · rw [(h4 k t).2 g]; exact h.at' k t
      · rcases hd with ⟨k', hd⟩ | ⟨k', hd⟩
        · exact .inl ⟨k', fun t ht => by rw [h3]; exact hd t ht⟩
        · refine .inr ⟨k', fun t ht => ?_⟩
          by_cases g : o'.key = o.key ∧ (o.pf : Int) ≤ t ∧ t < o.pt
          · rw [(h4 o'.key t).1 g, ← (hp t g.2).1, ← g.1]
            rcases ho'.part with ⟨k2, _⟩ | ⟨_, hp'⟩
            · omega
            · exact (hp' t ht).1
          · rw [(h4 o'.key t).2 g]; exact hd t ht
/-- An operation that tells of x applies to what has no more than x, or there is no room. -/
theorem SubE.fits {x y : Ent} {o : Co.OP} (h : SubE x y) (hx : x.edge = false ∧ x.id = 1) (ho : Tells x o) : FitsE y o := by
  refine ⟨?_, ho.may, ?_, ?_⟩
  · rcases ho.part with ⟨k, _⟩ | ⟨k, _⟩
    · exact .inr (.inl k)
    · exact .inr (.inr k)
  · rw [ho.edge, h.kin.edge, hx.1]
  · rw [ho.id, h.kin.id, hx.2]; rfl
theorem SubE.long {x y : Ent} {o : Co.OP} {n : Int} (h : SubE x y) (ho : Tells x o) (hr : EntRefused y o n) : n = 3 := by
  obtain ⟨hk, ⟨hc, _⟩ | ⟨_, _, _, _, e⟩⟩ := hr
  · refine absurd ?_ hc
    intro t ht
    rcases ho.part with ⟨k2, _⟩ | ⟨_, hp⟩
    · omega
    · exact h.val t (hp t ((has_one (may_period ho.may) t).1 ht)).2
  · exact e
/-- The operations that make x again. -/
def dropO (p : Int × Int) : Co.OP := ⟨4, false, 1, ByteArray.empty, 0, 0, ByteArray.empty, VP.none, p.1.toNat, p.2.toNat⟩
def setO (k : ByteArray) (y : Pie) : Co.OP := ⟨5, false, 1, ByteArray.empty, 0, 0, k, y.v, y.a.toNat, y.b.toNat⟩
def againL (N : List (Int × Int)) (ps : List Prp) : List Co.OP := N.map dropO ++ ps.flatMap fun p => p.l.map (setO p.k)
theorem tells_drop {x : Ent} {N : List (Int × Int)} (hw : Se.Iset.Wide N) (hn : Se.NotOf x.val N) {p : Int × Int} (hp : p ∈ N) : Tells x (dropO p) := by
  have h1 := (Se.Iset.mayP_iff p).1 (hn.1.may p hp)
  have h2 := hw p hp
  have e1 : ((p.1.toNat : Nat) : Int) = p.1 := Int.toNat_of_nonneg h2.1
  have e2 : ((p.2.toNat : Nat) : Int) = p.2 := Int.toNat_of_nonneg h2.2
  refine ⟨rfl, rfl, ⟨⟨Nat.le_refl _, by show (1 : Nat) ≤ 1099511627776; decide⟩, ?_, ?_, .inr (.inr (.inl ⟨.inr rfl, rfl, rfl, rfl, rfl, rfl⟩))⟩, none_wide, .inl ⟨rfl, fun t ht => ?_⟩⟩
  · show p.1.toNat < p.2.toNat; omega
  · show p.2.toNat ≤ 1099511627776; omega
  · have ht' : p.1 ≤ t ∧ t < p.2 := by
      have : ((p.1.toNat : Nat) : Int) ≤ t ∧ t < ((p.2.toNat : Nat) : Int) := ht
      omega
    have h3 : Se.Iset.has N t = true := (Se.Iset.has_iff N t).2 ⟨p, hp, (Se.Iset.hasP_iff p t).2 ⟨h1, ht'⟩⟩
    rw [hn.2.1 t, Bool.and_eq_true, Bool.not_eq_true'] at h3
    exact h3.2
theorem tells_set {x : Ent} (hx : x.may) (ha : ∀ p ∈ x.ps, ∀ y ∈ p.l, 0 ≤ y.a ∧ 0 ≤ y.b) {p : Prp} (hp : p ∈ x.ps) {y : Pie} (hy : y ∈ p.l) : Tells x (setO p.k y) := by
  have hl := hx.ps.line p hp
  obtain ⟨g1, g2, g3⟩ := hl.1.good y hy
  have h2 := ha p hp y hy
  have e1 : ((y.a.toNat : Nat) : Int) = y.a := Int.toNat_of_nonneg h2.1
  have e2 : ((y.b.toNat : Nat) : Int) = y.b := Int.toNat_of_nonneg h2.2
  refine ⟨rfl, rfl, ⟨⟨Nat.le_refl _, by show (1 : Nat) ≤ 1099511627776; decide⟩, ?_, ?_, .inr (.inr (.inr ⟨rfl, rfl, rfl, rfl, hx.ps.key p hp, g3.2.1, g3.2.2.2.1, g3.2.2.2.2⟩))⟩, g3.1, .inr ⟨rfl, fun t ht => ?_⟩⟩
  · show y.a.toNat < y.b.toNat; omega
  · show y.b.toNat ≤ 1099511627776; omega
  · have ht' : y.a ≤ t ∧ t < y.b := by
      have : ((y.a.toNat : Nat) : Int) ≤ t ∧ t < ((y.b.toNat : Nat) : Int) := ht
      omega
    have e : atK x.ps p.k t = y.v := by
      unfold atK
      rw [lineK_mem hx.ps.row hp]
      exact Pl.means_at VP.none hl.1.par hy ht'.1 ht'.2
    refine ⟨e, ?_⟩
    refine hl.2.2 t ?_
    rw [Pl.means_at VP.none hl.1.par hy ht'.1 ht'.2]
    intro e0
    exact none_ok (by rw [← e0]; exact g3)
theorem tells_all {x : Ent} (hx : x.may) (ha : ∀ p ∈ x.ps, ∀ y ∈ p.l, 0 ≤ y.a ∧ 0 ≤ y.b) {N : List (Int × Int)} (hw : Se.Iset.Wide N) (hn : Se.NotOf x.val N) : ∀ o ∈ againL N x.ps, Tells x o := fun o ho => by
  rcases List.mem_append.1 ho with h | h
  · obtain ⟨p, hp, rfl⟩ := List.mem_map.1 h
    exact tells_drop hw hn hp
  · obtain ⟨p, hp, h⟩ := List.mem_flatMap.1 h
    obtain ⟨y, hy, rfl⟩ := List.mem_map.1 h
    exact tells_set hx ha hp hy
/-- When all has been told, it is x. -/
theorem SubE.all {x y : Ent} (h : SubE x y) (hx : x.may) (hwy : Se.Iset.Wide y.val) (ha : ∀ p ∈ x.ps, ∀ y ∈ p.l, 0 ≤ y.a ∧ 0 ≤ y.b) {N : List (Int × Int)} (hw : Se.Iset.Wide N) (hn : Se.NotOf x.val N) (hd : ∀ o ∈ againL N x.ps, DoneO o y) : x = y := by
  refine Ent.ext hx h.may h.kin (fun t => ?_) fun k t => ?_
  · by_cases g : Se.Iset.has x.val t = true
    · rw [g, h.val t g]
    · rw [Bool.not_eq_true] at g
      rw [g]
      by_cases g2 : 0 ≤ t ∧ t < 1099511627776
      · have h3 : Se.Iset.has N t = true := by rw [hn.2.1 t, g]; simp [g2]
        obtain ⟨p, hp, hpt⟩ := (Se.Iset.has_iff N t).1 h3
        have h4 := (Se.Iset.hasP_iff p t).1 hpt
        have h5 := hw p hp
        rcases hd (dropO p) (List.mem_append.2 (.inl (List.mem_map.2 ⟨p, hp, rfl⟩))) with ⟨_, h6⟩ | ⟨k, _⟩
        · refine (h6 t ?_).symm
          show ((p.1.toNat : Nat) : Int) ≤ t ∧ t < ((p.2.toNat : Nat) : Int)
          omega
        · exact absurd k (by show ¬ ((4 : Int) = 5); decide)
      · symm
        by_cases g3 : t < 0
        · exact Se.Iset.has_neg _ hwy t g3
        · exact Se.Iset.has_beyond _ t (by omega)
  · by_cases g : atK x.ps k t = VP.none
    · rcases h.at' k t with e | e
      · rw [g, e]
      · exact e.symm
    · rcases lineK_case x.ps k with ⟨p, hp, rfl, e⟩ | ⟨_, e⟩
      · have hl := hx.ps.line p hp
        rcases Pl.means_case VP.none p.l t with ⟨z, hz, h1, h2, h3⟩ | ⟨_, h3⟩
        · have h5 := ha p hp z hz
          rcases hd (setO p.k z) (List.mem_append.2 (.inr (List.mem_flatMap.2 ⟨p, hp, List.mem_map.2 ⟨z, hz, rfl⟩⟩))) with ⟨k, _⟩ | ⟨_, h6⟩
          · exact absurd k (by show ¬ ((5 : Int) = 4); decide)
          · have h7 : atK y.ps p.k t = z.v := h6 t (by
              show ((z.a.toNat : Nat) : Int) ≤ t ∧ t < ((z.b.toNat : Nat) : Int)
              omega)
            rw [h7]
            show Pl.means VP.none (lineK x.ps p.k) t = z.v
            rw [e, h3]
        · refine absurd ?_ g
          show Pl.means VP.none (lineK x.ps p.k) t = _
          rw [e, h3]
      · refine absurd ?_ g
        show Pl.means VP.none (lineK x.ps k) t = _
        rw [e]; rfl
/-- Each of n is met once where one begins anywhere. -/
theorem turn_all {n f : Nat} {j : Nat} (hj : j < n) : ∃ i, i < n ∧ (i + f) % n = j := by
  refine ⟨(j + (n - f % n)) % n, Nat.mod_lt _ (by omega), ?_⟩
  have h1 := Nat.mod_lt f (show 0 < n by omega)
  rw [Nat.mod_add_mod]
  have h2 : j + (n - f % n) + f = j + n * (1 + f / n) := by
    have := Nat.div_add_mod f n
    rw [Nat.mul_add, Nat.mul_one]
    omega
  rw [h2, Nat.add_mul_mod_self_left, Nat.mod_eq_of_lt hj]
end Go.Proofs.YtflgdhhgnbdofaaGreat

namespace Go.Proofs.YtflgdhhgnbdofaaGreat
open Go.RowKit
theorem Co.wpList_appO (w : World) {ops : Array Oper} {rest : List Oper} {o : Oper} {a : Act} {Q : Exit → Act → World → Prop} (hg : o.guard = none) (s x : Operand) (ho : o.op = .call { callee := .builtin .append, args := #[s, x], argTypes := #[27, 27] })
    (base : Nat) (v : Value) (l : List Co.OP) (hs : a.eval s = v) (h : Co.OwnO base w v l) (g : Nat) (p : Co.OP) (hx : a.eval x = .slice (some ⟨g, 0, none⟩) 1 1) (hA : w.rangeAt g 0 p.cells.toList)
    (hm : l.length + 1 ≤ 1000000000000) (hb : base ≤ w.heap.size)
    (hK : ∀ v' w', Co.OwnO base w' v' (l ++ [p]) → Below base w w' → w.grownBy w' v.ownBlock → wpList Tryz.prog ops Q rest (a.put o.dst v') w') : wpList Tryz.prog ops Q (o :: rest) a w := by
  refine wpList_plain hg fun K hK' => ?_
  obtain ⟨v', w', h1, h2, h3, _⟩ := Co.run_appO base w v l g p o.type h hA hm hb
  unfold Oper.wp execOp
  simp only [ho, resolve, invoke, builtin, Sem.run_bind, Sem.run_pure, Result.andThen_ok, List.map_toArray, List.map_cons, List.map_nil, hs, hx, h1]
  exact hK' _ _ (hK v' w' h2 ((Below.refl _ _).grown h3 hb fun k hk => (World.ownsRow.lt h k hk).1) h3)
/-- A block of this type. -/
def Blk (t : TypeId) (w : World) (p : Nat) : Prop := ∃ C fr, w.heap[p]? = some (.cells C t fr)
theorem Blk.new (w : World) (C : Array Value) (t : TypeId) : Blk t (w.alloc (.cells C t)) w.heap.size := ⟨C, _, heap_alloc_new w _⟩
theorem Blk.below {t : TypeId} {w w' : World} {p : Nat} (h : Blk t w p) (hb : Below w.heap.size w w') : Blk t w' p := by
  obtain ⟨C, fr, h⟩ := h
  exact ⟨C, fr, (hb.block p (Array.getElem?_eq_some_iff.1 h).1).trans h⟩
theorem Blk.grown {t : TypeId} {w w' : World} {p : Nat} {row : Option Nat} (h : Blk t w p) (hg : w.grownBy w' row) (hne : row ≠ some p) : Blk t w' p := by
  obtain ⟨C, fr, h⟩ := h
  exact ⟨C, fr, (hg.block p (Array.getElem?_eq_some_iff.1 h).1 fun e => hne e.symm).trans h⟩
theorem Blk.ne {t e : TypeId} {base n size p : Nat} {w : World} {v : Value} {xs : List Value} (ht : Blk t w p) (h : w.ownsRow base e size v n xs) (he : e ≠ t) : v.ownBlock ≠ some p := by
  rcases h.2 with ⟨rfl, _⟩ | ⟨g, cap, cur, rfl, _, hg, _⟩
  · exact fun h => by cases h
  · intro e2
    obtain ⟨C, fr, h2⟩ := ht
    have : g = p := Option.some.inj e2
    subst this
    rw [hg] at h2
    injection h2 with h2
    injection h2 with _ h3 _
    exact he h3
theorem Co.range_new (w : World) (o : Co.OP) (t : TypeId) : (w.alloc (.cells o.cells t)).rangeAt w.heap.size 0 o.cells.toList := fun j v hv => by
  rw [Nat.zero_add, cell_of_row _ _ _ _ _ _ (heap_alloc_new w _), ← Array.getElem?_toList]
  exact hv
theorem BoxE.far {B p q : Nat} {w w' : World} {x : Ent} (h : BoxE B w p x) (hg : w.grownBy w' (some q)) (hq : HT w q) (hne : p ≠ q) : BoxE B w' p x := by
  obtain ⟨A, c, A', n', c', h1, ⟨sv, sp, rs, e, k1, k2, k3⟩, h3⟩ := h
  exact ⟨A, c, A', n', c', h1.grown hg fun r hr e => hne (by rw [← e]; exact (Option.some.inj hr).symm), ⟨sv, sp, rs, e, World.ownsRow.kept k1 hg (Se.OwnP.free k1 hq), World.ownsRow.kept k2 hg (OwnR.free k2 hq), k3.len, fun i hi hj => ⟨(k3.at' i hi hj).1, World.ownsRow.kept (k3.at' i hi hj).2 hg ((k3.at' i hi hj).2.free hq)⟩⟩, h3.grown hg fun r hr e => hne (by rw [e]; exact (Option.some.inj hr).symm)⟩
theorem BoxE.ht {B p : Nat} {w : World} {x : Ent} (h : BoxE B w p x) : HT w p := by
  obtain ⟨_, _, _, _, _, _, _, h⟩ := h; exact h
/-- The loop that tells all again: the entity, what was made of it again, the operations. -/
structure OI (p7 p9 : Nat) (u : Value) (L : List Co.OP) (w wr : World) (x g : Ent) (n : Nat) : Prop where
  b7 : BoxE w.heap.size wr p7 x
  b9 : BoxE w.heap.size wr p9 g
  row : Co.OwnO w.heap.size wr u L
  bel : Below w.heap.size w wr
  sub : SubE x g
  good : g.good n
theorem OI.below {p7 p9 n : Nat} {u : Value} {L : List Co.OP} {w wr w' : World} {x g : Ent} (h : OI p7 p9 u L w wr x g n) (hb : Below wr.heap.size wr w') : OI p7 p9 u L w w' x g n :=
  ⟨h.b7.below hb, h.b9.below hb, h.row.below hb, h.bel.trans (hb.mono h.bel.size), h.sub, h.good⟩
theorem OI.put {p7 p9 n m : Nat} {u : Value} {L : List Co.OP} {w wr w' : World} {x g y : Ent} (h : OI p7 p9 u L w wr x g n) (hx : BoxE w.heap.size w' p9 y) (hg : wr.grownBy w' (some p9)) (hne : p7 ≠ p9) (hp : w.heap.size ≤ p9) (hs : SubE x y) (hgd : y.good m) : OI p7 p9 u L w w' x y m :=
  ⟨h.b7.far hg h.b9.ht hne, hx, World.ownsRow.kept h.row hg (ownsRow_ne h.row h.b9.ht (by decide)), h.bel.grown hg h.bel.size fun q hq => by have e : p9 = q := Option.some.inj hq; omega, hs, hgd⟩
/-- The first k operations, from f on, are done. -/
def DoneK (L : List Co.OP) (f k : Nat) (y : Ent) : Prop := ∀ j, j < k → ∀ h : (j + f) % L.length < L.length, DoneO L[(j + f) % L.length] y
theorem DoneK.next {L : List Co.OP} {f k : Nat} {x g y : Ent} (hT : ∀ o ∈ L, Tells x o) (hd : DoneK L f k g) (hi : (k + f) % L.length < L.length) (hs : SubE x g) (ha : Applied g L[(k + f) % L.length] y) : SubE x y ∧ DoneK L f (k + 1) y := by
  obtain ⟨h1, h2, h3⟩ := hs.step (hT _ (List.getElem_mem hi)) ha
  refine ⟨h1, fun j hj h => ?_⟩
  by_cases e : j = k
  · subst e; exact h2
  · exact h3 _ (hT _ (List.getElem_mem h)) (hd j (by omega) h)
theorem DoneK.all {L : List Co.OP} {f : Nat} {y : Ent} (hd : DoneK L f L.length y) : ∀ o ∈ L, DoneO o y := fun o ho => by
  obtain ⟨j, hj, rfl⟩ := List.getElem_of_mem ho
  obtain ⟨i, hi, e⟩ := turn_all (f := f) hj
  have h := hd i hi (by rw [e]; exact hj)
  simpa only [e] using h
/-- Where it begins: valid at all times, without properties. -/
abbrev fullE : Ent := ⟨false, 1, bn, 0, 0, [(0, 1099511627776)], []⟩
def fullO : Co.OP := ⟨1, false, 1, bn, 0, 0, nul, VP.none, 0, 1099511627776⟩
theorem fullO_may : fullO.may := ⟨⟨by decide, by decide⟩, by decide, by decide, .inl ⟨rfl, rfl, by decide, rfl, rfl, rfl, rfl⟩⟩
theorem fullE_good : fullE.good 2 := made_good fullO_may (.inl rfl)
theorem sub_full {x : Ent} {n : Nat} (h : Grown x n) : SubE x fullE := by
  refine ⟨⟨h.edge.symm, h.id.symm, h.lab.symm, h.fr.symm, h.til.symm⟩, fullE_good.may, fun t ht => ?_, fun k t => .inl rfl⟩
  rw [has_one (by omega)]
  have h1 := Se.Iset.has_below _ t ht
  refine ⟨Classical.byContradiction fun hn => ?_, h1⟩
  rw [h.good.late.val t (by omega)] at ht
  cases ht
theorem again_apply {x g : Ent} {o : Co.OP} {v : Value} {w : World} {n : Nat} (hx : x.edge = false ∧ x.id = 1) (hT : Tells x o) (hs : SubE x g) (hg : g.good n) (hn : n ≤ 100000) (h : EAt w v g) :
    Calls Tryz.prog 18 #[v, o.val] w (AE (fun n y => n = 3 ∨ (n = 0 ∧ Applied g o y)) w) :=
  (Apply_any v g o w h (hg.wide hn) hT.wide hT.wide.2.2.1 (k_wf _ (by have := Co.kindP_range hT.may.2.2.2; omega))).mono fun _ _ h => (applyAE h).imp fun n y hq => by
    rcases hq with ⟨h, _⟩ | ⟨_, h, _⟩ | ⟨_, _, _, h⟩ | ⟨_, _, h1, h2⟩
    · exact absurd hs.may h
    · exact absurd (hs.fits hx hT) h
    · exact .inl (hs.long hT h)
    · exact .inr ⟨h1, h2⟩
/-- The operations, as far as they have been laid. -/
theorem drop_next {N : List (Int × Int)} {k : Nat} (h : k < N.length) {a b : Nat} (e1 : N[k].1 = (a : Int)) (e2 : N[k].2 = (b : Int)) : (N.take (k + 1)).map dropO = (N.take k).map dropO ++ [⟨4, false, 1, nul, 0, 0, nul, VP.none, a, b⟩] := by
  rw [List.take_succ_eq_append_getElem h, List.map_append, List.map_cons, List.map_nil]
  unfold dropO
  rw [e1, e2]
  rfl
def setsL (ps : List Prp) : List Co.OP := ps.flatMap fun p => p.l.map (setO p.k)
theorem sets_next {ps : List Prp} {k : Nat} (h : k < ps.length) : setsL (ps.take (k + 1)) = setsL (ps.take k) ++ ps[k].l.map (setO ps[k].k) := by
  unfold setsL
  rw [List.take_succ_eq_append_getElem h, List.flatMap_append, List.flatMap_cons, List.flatMap_nil, List.append_nil]
theorem set_next {l : List Pie} {k : Nat} (key : ByteArray) (h : k < l.length) {a b : Nat} (e1 : l[k].a = (a : Int)) (e2 : l[k].b = (b : Int)) : (l.take (k + 1)).map (setO key) = (l.take k).map (setO key) ++ [⟨5, false, 1, nul, 0, 0, key, l[k].v, a, b⟩] := by
  rw [List.take_succ_eq_append_getElem h, List.map_append, List.map_cons, List.map_nil]
  unfold setO
  rw [e1, e2]
  rfl
theorem sets_len {n : Nat} : ∀ {ps : List Prp}, (∀ p ∈ ps, p.l.length ≤ n) → (setsL ps).length ≤ ps.length * n
  | [], _ => by simp [setsL]
  | p :: ps, h => by
    have h1 := h p (by simp)
    have h2 := sets_len (ps := ps) fun q hq => h q (List.mem_cons_of_mem _ hq)
    unfold setsL at h2 ⊢
    rw [List.flatMap_cons, List.length_append, List.length_map, List.length_cons, Nat.succ_mul]
    omega
end Go.Proofs.YtflgdhhgnbdofaaGreat

