/- Maps from keys to 1 as sets of keys; a tree beside such a map. -/
import Derived.Test.YtbifgmamjdniaaaC8
import Derived.Maps.Own
import Derived.Maps.OwnOps
import Derived.Maps.OwnSet
namespace Go.Proofs.Ytbifgmamjdniaaa
open Go.RowKit Go.Maps
open Itree (E T dep endT bs ord sz nodes lean rotL rotR bal ins del hasT first AVL Srt eachL over)
/-- A type of keys: the map's type, the key's, how a key looks and reads. -/
structure KK (α : Type) where
  kt : TypeId
  mt : TypeId
  ok : α → Prop
  v : α → Value
  l : α → Lit
  inj : ∀ x y, l x = l y → x = y
  keyed : Keyed Try.prog kt
  hm : Try.prog.underlying mt = some (.map kt 3)
  hk : ∀ x, ok x → keyOf Try.prog kt (v x) = some (l x)
theorem litOk {α : Type} {A : KK α} (x : α) (hx : A.ok x) : WideAt.IsKeyLit (A.l x) := A.keyed.key (A.hk x hx)
section
variable {α : Type} [DecidableEq α]
/-- Block b is a map that has just these keys, each with 1. -/
def MapS (A : KK α) (w : World) (b n : Nat) (K : List α) : Prop :=
  ∃ D : DataW Unit, w.ownsMap Try.prog A.kt (plainElem Try.prog 3) b n D ∧ (∀ x, A.ok x → D.atKey (A.l x) (.lit (.int .i64 0)) = .lit (.int .i64 (if x ∈ K then 1 else 0)) ∧ Maps.has D (A.l x) = decide (x ∈ K)) ∧ Maps.size D = K.length
theorem MapS.lt {A : KK α} {w : World} {b n : Nat} {K : List α} (h : MapS A w b n K) : b < w.heap.size := by
  obtain ⟨D, h1, _⟩ := h
  exact h1.lt
theorem MapS.kept {A : KK α} {w w' : World} {b n : Nat} {K : List α} {row : Option Nat} (h : MapS A w b n K) (hg : w.grownBy w' row) (hne : some b ≠ row) : MapS A w' b n K := by
  obtain ⟨D, h1, h2, h3⟩ := h
  exact ⟨D, h1.kept hg hne, h2, h3⟩
theorem MapS.but {A : KK α} {w w' : World} {b n : Nat} {K : List α} {S : List Nat} (h : MapS A w b n K) (hb : But S w w') (hn : b ∉ S) : MapS A w' b n K := by
  obtain ⟨D, h1, h2, h3⟩ := h
  refine ⟨D, ?_, h2, h3⟩
  have hlt := h1.lt
  obtain ⟨es, clock, hbk, F, hs, hD⟩ := h1
  exact ⟨es, clock, (hb.block b hlt hn).trans hbk, F, hs, hD⟩
theorem MapS.below {A : KK α} {w w' : World} {b n : Nat} {K : List α} (h : MapS A w b n K) (hb : Below w.heap.size w w') : MapS A w' b n K := h.but (But.of_below (S := []) hb) (by simp)
theorem MapS.mono {A : KK α} {w : World} {b n m : Nat} {K : List α} (h : MapS A w b n K) (hm : n ≤ m) : MapS A w b m K := by
  obtain ⟨D, h1, h2, h3⟩ := h
  exact ⟨D, h1.mono hm, h2, h3⟩
theorem MapS.same {A : KK α} {w : World} {b n : Nat} {K K' : List α} (h : MapS A w b n K) (hm : ∀ x, x ∈ K' ↔ x ∈ K) (hl : K'.length = K.length) : MapS A w b n K' := by
  obtain ⟨D, h1, h2, h3⟩ := h
  refine ⟨D, h1, fun x hx => ?_, h3.trans hl.symm⟩
  obtain ⟨a, b⟩ := h2 x hx
  by_cases hk : x ∈ K
  · rw [if_pos hk] at a
    exact ⟨by rw [a, if_pos ((hm x).2 hk)], by rw [b]; simp [hm]⟩
  · rw [if_neg hk] at a
    exact ⟨by rw [a, if_neg (fun h => hk ((hm x).1 h))], by rw [b]; simp [hm]⟩
theorem MapS.made (A : KK α) (w : World) : MapS A (w.alloc (.map #[] 0)) w.heap.size 0 [] :=
  ⟨.map [], World.ownsMap_made _ _ _ _, fun _ _ => ⟨rfl, rfl⟩, rfl⟩
theorem zeroInt (w : World) : (zeroValue 3).run Try.prog w = .ok (.int .i64 0) w := by kernel_rfl
/-- What lies at a key. -/
theorem MapS.look {A : KK α} {w : World} {b n : Nat} {K : List α} (h : MapS A w b n K) (x : α) (hx : A.ok x) : (Instr.lookup A.mt (.map (some b)) (A.v x) false).run Try.prog w = .ok (.int .i64 (if x ∈ K then 1 else 0)) w := by
  obtain ⟨D, h1, h2, h3⟩ := h
  obtain ⟨c, hr, hat, _⟩ := h1.lookup_int A.keyed A.hm Try.underlying3 (zeroInt w) (A.hk x hx)
  rw [(h2 x hx).1] at hat
  injection hat with hat
  injection hat with _ hat
  rw [hr, ← hat]
theorem MapS.len {A : KK α} {w : World} {b n : Nat} {K : List α} (h : MapS A w b n K) (ty : TypeId) : (Builtin.len_ #[A.mt] ty #[.map (some b)]).run Try.prog w = .ok (.int .i64 K.length) w := by
  obtain ⟨D, h1, h2, h3⟩ := h
  rw [← h3]
  exact h1.len A.hm ty
/-- The key put. -/
def addK (x : α) (K : List α) : List α := if x ∈ K then K else x :: K
theorem MapS.put {A : KK α} {w : World} {b n : Nat} {K : List α} (h : MapS A w b n K) (x : α) (hx : A.ok x) (hn : n < maxLen) : ∃ w', (Instr.mapUpdate A.mt (.map (some b)) (A.v x) (.int .i64 1)).run Try.prog w = .ok () w' ∧ MapS A w' b (n + 1) (addK x K) ∧ w.grownBy w' (some b) := by
  obtain ⟨D, h1, h2, h3⟩ := h
  obtain ⟨w', hr, ho, hg⟩ := h1.update A.keyed A.hm hn (A.hk x hx) (plainElem_int (H := Unit) Try.underlying3 (a := 1) (by decide))
  refine ⟨w', hr, ⟨_, ho, fun y hy => ?_, ?_⟩, hg⟩
  · by_cases e : y = x
    · subst e
      have hm : y ∈ addK y K := by unfold addK; split <;> simp_all
      exact ⟨by rw [atKey_put_same h1.isMap (litOk y hy), if_pos hm], by rw [has_put_same h1.isMap (litOk y hy)]; simp [hm]⟩
    · have hm : (y ∈ addK x K) = (y ∈ K) := by unfold addK; split <;> simp [e]
      simp only [hm]
      have ne : A.l y ≠ A.l x := fun h => e (A.inj _ _ h)
      exact ⟨by rw [atKey_put_other ne]; exact (h2 y hy).1, by rw [has_put_other ne]; exact (h2 y hy).2⟩
  · rw [size_put (h1.tidy A.keyed), (h2 x hx).2, h3]
    unfold addK
    by_cases e : x ∈ K <;> simp [e]
/-- The key struck. -/
theorem MapS.drop {A : KK α} {w : World} {b n : Nat} {K : List α} (h : MapS A w b n K) (hnd : K.Nodup) (x : α) (hx : A.ok x) (ty : TypeId) : ∃ w', (Builtin.delete_ #[A.mt, A.kt] ty #[.map (some b), A.v x]).run Try.prog w = .ok (.tuple #[]) w' ∧ MapS A w' b n (K.filter fun y => decide (y ≠ x)) ∧ w.grownBy w' (some b) := by
  obtain ⟨D, h1, h2, h3⟩ := h
  obtain ⟨w', hr, ho, hg⟩ := h1.drop A.keyed A.hm (A.hk x hx) ty
  refine ⟨w', hr, ⟨_, ho, fun y hy => ?_, ?_⟩, hg.grown⟩
  · by_cases e : y = x
    · subst e
      have hm : y ∉ K.filter fun z => decide (z ≠ y) := by simp
      exact ⟨by rw [atKey_del_same, if_neg hm], by rw [has_del_same]; simp⟩
    · have hm : (y ∈ K.filter fun z => decide (z ≠ x)) = (y ∈ K) := by simp [e]
      simp only [hm]
      have ne : A.l y ≠ A.l x := fun h => e (A.inj _ _ h)
      exact ⟨by rw [atKey_del_other ne]; exact (h2 y hy).1, by rw [has_del_other ne]; exact (h2 y hy).2⟩
  · have hs := size_del (k := A.l x) (h1.tidy A.keyed)
    rw [(h2 x hx).2, h3] at hs
    have key : ∀ L : List α, L.Nodup → (L.filter fun y => decide (y ≠ x)).length + (if x ∈ L then 1 else 0) = L.length := by
      intro L hL
      induction L with
      | nil => rfl
      | cons z L ih =>
        obtain ⟨h4, h5⟩ := List.nodup_cons.1 hL
        have := ih h5
        by_cases e : z = x
        · subst e
          simp [h4] at this ⊢
          omega
        · have e' : ¬ x = z := fun h => e h.symm
          simp [e, e'] at this ⊢
          omega
    have := key K hnd
    by_cases e : x ∈ K
    · rw [if_pos e] at this
      rw [decide_eq_true e, if_pos rfl] at hs
      omega
    · rw [if_neg e] at this
      rw [decide_eq_false e, if_neg (by simp)] at hs
      omega
/-- A tree beside such a map, both made since w0. -/
def TM (A : KK α) (w0 w : World) (q bm n : Nat) (L : List E) (K : List α) : Prop := ∃ R, TL w q R L ∧ (∀ k ∈ q :: R, w0.heap.size ≤ k ∧ k ≠ bm) ∧ Below w0.heap.size w0 w ∧ MapS A w bm n K ∧ w0.heap.size ≤ bm
theorem TM.below {A : KK α} {w0 w w' : World} {q bm n : Nat} {L : List E} {K : List α} (h : TM A w0 w q bm n L K) (hb : Below w.heap.size w w') : TM A w0 w' q bm n L K := by
  obtain ⟨R, h1, h2, h3, h4, h5⟩ := h
  exact ⟨R, h1.below hb, h2, h3.trans (hb.mono h3.size), h4.below hb, h5⟩
theorem TM.since {A : KK α} {w0 w : World} {q bm n : Nat} {L : List E} {K : List α} (h : TM A w0 w q bm n L K) : Below w0.heap.size w0 w := by
  obtain ⟨R, h1, h2, h3, h4, h5⟩ := h
  exact h3
theorem TM.map {A : KK α} {w0 w : World} {q bm n : Nat} {L : List E} {K : List α} (h : TM A w0 w q bm n L K) : MapS A w bm n K := by
  obtain ⟨R, h1, h2, h3, h4, h5⟩ := h
  exact h4
theorem TM.wrote {A : KK α} {w0 w w' : World} {q bm n : Nat} {R : List Nat} {L : List E} {K : List α} (h2 : ∀ k ∈ q :: R, w0.heap.size ≤ k ∧ k ≠ bm) (h3 : Below w0.heap.size w0 w) (h4 : MapS A w bm n K) (h5 : w0.heap.size ≤ bm) (h : Wrote w q R L w') : TM A w0 w' q bm n L K := by
  obtain ⟨R', t, b, hf⟩ := h
  have hlt := h4.lt
  refine ⟨R', t, fun k hk => ?_, h3.trans (b.below (fun x hx => (h2 x (by simp [hx])).1) h3.size), h4.but b (fun hm => (h2 bm (by simp [hm])).2 rfl), h5⟩
  rcases List.mem_cons.1 hk with rfl | hk
  · exact h2 k (by simp)
  · rcases hf k hk with h | h
    · exact h2 k (by simp [h])
    · have := h3.size
      exact ⟨by omega, by omega⟩
theorem TM.turned {A : KK α} {w0 w w' : World} {q bm n n' : Nat} {L : List E} {K K' : List α} (h : TM A w0 w q bm n L K) (hm : MapS A w' bm n' K') (hg : w.grownBy w' (some bm)) : TM A w0 w' q bm n' L K' := by
  obtain ⟨R, h1, h2, h3, h4, h5⟩ := h
  have hb : But [bm] w w' := ⟨hg.os, hg.tape, hg.output, hg.size, fun k hk hn => hg.block k hk (by simpa using hn)⟩
  exact ⟨R, h1.but hb (fun k hk hm => (h2 k hk).2 (by simpa using hm)), h2, h3.trans (hb.below (by simpa using h5) h3.size), hm, h5⟩
theorem tmNew (A : KK α) (w0 w : World) (hb : Below w0.heap.size w0 w) (q : Nat) (R : List Nat) (h : TL w q R []) (hf : ∀ k ∈ q :: R, w0.heap.size ≤ k) : TM A w0 (w.alloc (.map #[] 0)) q w.heap.size 0 [] [] :=
  ⟨R, h.below ((Below.refl _ _).alloc (Nat.le_refl _) _), fun k hk => ⟨hf k hk, by have := h.lt k hk; omega⟩, hb.alloc hb.size _, MapS.made A w, hb.size⟩
theorem tmInsert (x : E) {A : KK α} {w0 w : World} {q bm n : Nat} {L : List E} {K : List α} (h : TM A w0 w q bm n L K) (h0 : 0 ≤ x.a) (hs : L.length ≤ 800) :
    Calls Try.prog 9 #[.pointer (some ⟨q, 0, none⟩), .agg #[.int .u64 x.a, .int .u64 x.b], .int .u64 x.n] w fun e w' => e = .returned (.int .i64 (insR x L)) ∧ TM A w0 w' q bm n (insL x L) K := by
  obtain ⟨R, h1, h2, h3, h4, h5⟩ := h
  refine (cInsert x q R L w h1 h0 hs).mono ?_
  rintro e w' ⟨rfl, h⟩
  exact ⟨rfl, TM.wrote h2 h3 h4 h5 h⟩
theorem tmDelete (x : E) {A : KK α} {w0 w : World} {q bm n : Nat} {L : List E} {K : List α} (h : TM A w0 w q bm n L K) (hs : L.length ≤ 800) :
    Calls Try.prog 11 #[.pointer (some ⟨q, 0, none⟩), .agg #[.int .u64 x.a, .int .u64 x.b], .int .u64 x.n] w fun e w' => e = .returned (.int .i64 (delR x L)) ∧ TM A w0 w' q bm n (delL x L) K := by
  obtain ⟨R, h1, h2, h3, h4, h5⟩ := h
  refine (cDelete x q R L w h1 hs).mono ?_
  rintro e w' ⟨rfl, h⟩
  exact ⟨rfl, TM.wrote h2 h3 h4 h5 h⟩
theorem tmLen {A : KK α} {w0 w : World} {q bm n : Nat} {L : List E} {K : List α} (h : TM A w0 w q bm n L K) :
    Calls Try.prog 21 #[.pointer (some ⟨q, 0, none⟩)] w fun e w' => e = .returned (.int .i64 L.length) ∧ w = w' := by
  obtain ⟨R, h1, h2, h3, h4, h5⟩ := h
  exact cLen q R L w h1
theorem tmDepth {A : KK α} {w0 w : World} {q bm n : Nat} {L : List E} {K : List α} (h : TM A w0 w q bm n L K) (hs : L.length ≤ 1023) :
    Calls Try.prog 23 #[.pointer (some ⟨q, 0, none⟩)] w fun e w' => ∃ d : Nat, e = .returned (.int .i64 d) ∧ DeepOk d L.length ∧ w = w' := by
  obtain ⟨R, h1, h2, h3, h4, h5⟩ := h
  exact cDepth q R L w h1 hs
end
def kkU : KK Int where
  kt := 30
  mt := 65
  ok := fun x => 0 ≤ x ∧ x ≤ 18446744073709551615
  v := fun x => .int .u64 x
  l := fun x => .int .u64 x
  inj := fun x y h => by injection h
  keyed := int_keyed Try.underlying30
  hm := Try.underlying65
  hk := fun x hx => keyOf_int_mk Try.underlying30 (by simp [Lit.wf, IntKind.min, IntKind.max, IntKind.signed, IntKind.bits]; omega)
end Go.Proofs.Ytbifgmamjdniaaa
