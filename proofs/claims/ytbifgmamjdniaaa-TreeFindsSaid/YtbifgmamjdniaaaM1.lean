/- Maps from keys to 1 as sets of keys, ranged over too; entries as keys. -/
import Derived.Test.YtbifgmamjdniaaaC8
import Derived.Maps.Own
import Derived.Maps.OwnOps
import Derived.Maps.OwnSet
import Derived.Maps.RangeWalk
import Derived.DeepKeys4
namespace Go.Proofs.Ytbifgmamjdniaaa
open Go.RowKit Go.Maps
open Itree (E T dep endT bs ord sz nodes lean rotL rotR bal ins del hasT first AVL Srt eachL over)
/-- A type of keys: the map's type, the key's, how a key looks and reads. -/
structure KK (α : Type) where
  kt : TypeId
  mt : TypeId
  ok : α → Prop
  v : α → Value
  l : α → Lit
  vinj : ∀ x y, v x = v y → x = y
  keyed : Keyed Try.prog kt
  hm : Try.prog.underlying mt = some (.map kt 3)
  hk : ∀ x, ok x → keyOf Try.prog kt (v x) = some (l x)
theorem KK.inj {α : Type} (A : KK α) (x y : α) (hx : A.ok x) (hy : A.ok y) (h : A.l x = A.l y) : x = y := A.vinj _ _ (A.keyed.inj (A.hk x hx) ((A.hk y hy).trans (congrArg some h.symm)))
theorem litOk {α : Type} {A : KK α} (x : α) (hx : A.ok x) : WideAt.IsKeyLit (A.l x) := A.keyed.key (A.hk x hx)
section
variable {α : Type} [DecidableEq α]
/-- Block b is a map that has just these keys, each with 1. -/
def MapS (A : KK α) (w : World) (b n : Nat) (K : List α) : Prop :=
  ∃ D : DataW Unit, w.ownsMap Try.prog A.kt (plainElem Try.prog 3) b n D ∧ (∀ x, A.ok x → D.atKey (A.l x) (.lit (.int .i64 0)) = .lit (.int .i64 (if x ∈ K then 1 else 0)) ∧ Maps.has D (A.l x) = decide (x ∈ K)) ∧ Maps.size D = K.length
theorem MapS.lt {A : KK α} {w : World} {b n : Nat} {K : List α} (h : MapS A w b n K) : b < w.heap.size := by
  obtain ⟨D, h1, _⟩ := h
  exact h1.lt
theorem MapS.kept {A : KK α} {w w' : World} {b n : Nat} {K : List α} {row : Option Nat} (h : MapS A w b n K) (hg : w.grownBy w' row) (hne : some b ≠ row) : MapS A w' b n K := by
  obtain ⟨D, h1, h2, h3⟩ := h
  exact ⟨D, h1.kept hg hne, h2, h3⟩
theorem MapS.but {A : KK α} {w w' : World} {b n : Nat} {K : List α} {S : List Nat} (h : MapS A w b n K) (hb : But S w w') (hn : b ∉ S) : MapS A w' b n K := by
  obtain ⟨D, h1, h2, h3⟩ := h
  refine ⟨D, ?_, h2, h3⟩
  have hlt := h1.lt
  obtain ⟨es, clock, hbk, F, hs, hD⟩ := h1
  exact ⟨es, clock, (hb.block b hlt hn).trans hbk, F, hs, hD⟩
theorem MapS.below {A : KK α} {w w' : World} {b n : Nat} {K : List α} (h : MapS A w b n K) (hb : Below w.heap.size w w') : MapS A w' b n K := h.but (But.of_below (S := []) hb) (by simp)
theorem MapS.mono {A : KK α} {w : World} {b n m : Nat} {K : List α} (h : MapS A w b n K) (hm : n ≤ m) : MapS A w b m K := by
  obtain ⟨D, h1, h2, h3⟩ := h
  exact ⟨D, h1.mono hm, h2, h3⟩
theorem MapS.same {A : KK α} {w : World} {b n : Nat} {K K' : List α} (h : MapS A w b n K) (hm : ∀ x, x ∈ K' ↔ x ∈ K) (hl : K'.length = K.length) : MapS A w b n K' := by
  obtain ⟨D, h1, h2, h3⟩ := h
  refine ⟨D, h1, fun x hx => ?_, h3.trans hl.symm⟩
  obtain ⟨a, b⟩ := h2 x hx
  by_cases hk : x ∈ K
  · rw [if_pos hk] at a
    exact ⟨by rw [a, if_pos ((hm x).2 hk)], by rw [b]; simp [hm]⟩
  · rw [if_neg hk] at a
    exact ⟨by rw [a, if_neg (fun h => hk ((hm x).1 h))], by rw [b]; simp [hm]⟩
theorem MapS.made (A : KK α) (w : World) : MapS A (w.alloc (.map #[] 0)) w.heap.size 0 [] :=
  ⟨.map [], World.ownsMap_made _ _ _ _, fun _ _ => ⟨rfl, rfl⟩, rfl⟩
theorem zeroInt (w : World) : (zeroValue 3).run Try.prog w = .ok (.int .i64 0) w := by kernel_rfl
/-- What lies at a key. -/
theorem MapS.look {A : KK α} {w : World} {b n : Nat} {K : List α} (h : MapS A w b n K) (x : α) (hx : A.ok x) : (Instr.lookup A.mt (.map (some b)) (A.v x) false).run Try.prog w = .ok (.int .i64 (if x ∈ K then 1 else 0)) w := by
  obtain ⟨D, h1, h2, h3⟩ := h
  obtain ⟨c, hr, hat, _⟩ := h1.lookup_int A.keyed A.hm Try.underlying3 (zeroInt w) (A.hk x hx)
  rw [(h2 x hx).1] at hat
  injection hat with hat
  injection hat with _ hat
  rw [hr, ← hat]
theorem MapS.len {A : KK α} {w : World} {b n : Nat} {K : List α} (h : MapS A w b n K) (ty : TypeId) : (Builtin.len_ #[A.mt] ty #[.map (some b)]).run Try.prog w = .ok (.int .i64 K.length) w := by
  obtain ⟨D, h1, h2, h3⟩ := h
  rw [← h3]
  exact h1.len A.hm ty
/-- The key put. -/
def addK (x : α) (K : List α) : List α := if x ∈ K then K else x :: K
theorem MapS.put {A : KK α} {w : World} {b n : Nat} {K : List α} (h : MapS A w b n K) (x : α) (hx : A.ok x) (hn : n < maxLen) : ∃ w', (Instr.mapUpdate A.mt (.map (some b)) (A.v x) (.int .i64 1)).run Try.prog w = .ok () w' ∧ MapS A w' b (n + 1) (addK x K) ∧ w.grownBy w' (some b) := by
  obtain ⟨D, h1, h2, h3⟩ := h
  obtain ⟨w', hr, ho, hg⟩ := h1.update A.keyed A.hm hn (A.hk x hx) (plainElem_int (H := Unit) Try.underlying3 (a := 1) (by decide))
  refine ⟨w', hr, ⟨_, ho, fun y hy => ?_, ?_⟩, hg⟩
  · by_cases e : y = x
    · subst e
      have hm : y ∈ addK y K := by unfold addK; split <;> simp_all
      exact ⟨by rw [atKey_put_same h1.isMap (litOk y hy), if_pos hm], by rw [has_put_same h1.isMap (litOk y hy)]; simp [hm]⟩
    · have hm : (y ∈ addK x K) = (y ∈ K) := by unfold addK; split <;> simp [e]
      simp only [hm]
      have ne : A.l y ≠ A.l x := fun h => e (A.inj _ _ hy hx h)
      exact ⟨by rw [atKey_put_other ne]; exact (h2 y hy).1, by rw [has_put_other ne]; exact (h2 y hy).2⟩
  · rw [size_put (h1.tidy A.keyed), (h2 x hx).2, h3]
    unfold addK
    by_cases e : x ∈ K <;> simp [e]
/-- The key struck. -/
theorem MapS.drop {A : KK α} {w : World} {b n : Nat} {K : List α} (h : MapS A w b n K) (hnd : K.Nodup) (x : α) (hx : A.ok x) (ty : TypeId) : ∃ w', (Builtin.delete_ #[A.mt, A.kt] ty #[.map (some b), A.v x]).run Try.prog w = .ok (.tuple #[]) w' ∧ MapS A w' b n (K.filter fun y => decide (y ≠ x)) ∧ w.grownBy w' (some b) := by
  obtain ⟨D, h1, h2, h3⟩ := h
  obtain ⟨w', hr, ho, hg⟩ := h1.drop A.keyed A.hm (A.hk x hx) ty
  refine ⟨w', hr, ⟨_, ho, fun y hy => ?_, ?_⟩, hg.grown⟩
  · by_cases e : y = x
    · subst e
      have hm : y ∉ K.filter fun z => decide (z ≠ y) := by simp
      exact ⟨by rw [atKey_del_same, if_neg hm], by rw [has_del_same]; simp⟩
    · have hm : (y ∈ K.filter fun z => decide (z ≠ x)) = (y ∈ K) := by simp [e]
      simp only [hm]
      have ne : A.l y ≠ A.l x := fun h => e (A.inj _ _ hy hx h)
      exact ⟨by rw [atKey_del_other ne]; exact (h2 y hy).1, by rw [has_del_other ne]; exact (h2 y hy).2⟩
  · have hs := size_del (k := A.l x) (h1.tidy A.keyed)
    rw [(h2 x hx).2, h3] at hs
    have key : ∀ L : List α, L.Nodup → (L.filter fun y => decide (y ≠ x)).length + (if x ∈ L then 1 else 0) = L.length := by
      intro L hL
      induction L with
      | nil => rfl
      | cons z L ih =>
        obtain ⟨h4, h5⟩ := List.nodup_cons.1 hL
        have := ih h5
        by_cases e : z = x
        · subst e
          simp [h4] at this ⊢
          omega
        · have e' : ¬ x = z := fun h => e h.symm
          simp [e, e'] at this ⊢
          omega
    have := key K hnd
    by_cases e : x ∈ K
    · rw [if_pos e] at this
      rw [decide_eq_true e, if_pos rfl] at hs
      omega
    · rw [if_neg e] at this
      rw [decide_eq_false e, if_neg (by simp)] at hs
      omega
/-- A tree beside such a map, both made since w0. -/
def TM (A : KK α) (w0 w : World) (q bm n : Nat) (L : List E) (K : List α) : Prop := ∃ R, TL w q R L ∧ (∀ k ∈ q :: R, w0.heap.size ≤ k ∧ k ≠ bm) ∧ Below w0.heap.size w0 w ∧ MapS A w bm n K ∧ w0.heap.size ≤ bm
theorem TM.below {A : KK α} {w0 w w' : World} {q bm n : Nat} {L : List E} {K : List α} (h : TM A w0 w q bm n L K) (hb : Below w.heap.size w w') : TM A w0 w' q bm n L K := by
  obtain ⟨R, h1, h2, h3, h4, h5⟩ := h
  exact ⟨R, h1.below hb, h2, h3.trans (hb.mono h3.size), h4.below hb, h5⟩
theorem TM.since {A : KK α} {w0 w : World} {q bm n : Nat} {L : List E} {K : List α} (h : TM A w0 w q bm n L K) : Below w0.heap.size w0 w := by
  obtain ⟨R, h1, h2, h3, h4, h5⟩ := h
  exact h3
theorem TM.map {A : KK α} {w0 w : World} {q bm n : Nat} {L : List E} {K : List α} (h : TM A w0 w q bm n L K) : MapS A w bm n K := by
  obtain ⟨R, h1, h2, h3, h4, h5⟩ := h
  exact h4
theorem TM.wrote {A : KK α} {w0 w w' : World} {q bm n : Nat} {R : List Nat} {L : List E} {K : List α} (h2 : ∀ k ∈ q :: R, w0.heap.size ≤ k ∧ k ≠ bm) (h3 : Below w0.heap.size w0 w) (h4 : MapS A w bm n K) (h5 : w0.heap.size ≤ bm) (h : Wrote w q R L w') : TM A w0 w' q bm n L K := by
  obtain ⟨R', t, b, hf⟩ := h
  have hlt := h4.lt
  refine ⟨R', t, fun k hk => ?_, h3.trans (b.below (fun x hx => (h2 x (by simp [hx])).1) h3.size), h4.but b (fun hm => (h2 bm (by simp [hm])).2 rfl), h5⟩
  rcases List.mem_cons.1 hk with rfl | hk
  · exact h2 k (by simp)
  · rcases hf k hk with h | h
    · exact h2 k (by simp [h])
    · have := h3.size
      exact ⟨by omega, by omega⟩
theorem TM.turned {A : KK α} {w0 w w' : World} {q bm n n' : Nat} {L : List E} {K K' : List α} (h : TM A w0 w q bm n L K) (hm : MapS A w' bm n' K') (hg : w.grownBy w' (some bm)) : TM A w0 w' q bm n' L K' := by
  obtain ⟨R, h1, h2, h3, h4, h5⟩ := h
  have hb : But [bm] w w' := ⟨hg.os, hg.tape, hg.output, hg.size, fun k hk hn => hg.block k hk (by simpa using hn)⟩
  exact ⟨R, h1.but hb (fun k hk hm => (h2 k hk).2 (by simpa using hm)), h2, h3.trans (hb.below (by simpa using h5) h3.size), hm, h5⟩
theorem tmNew (A : KK α) (w0 w : World) (hb : Below w0.heap.size w0 w) (q : Nat) (R : List Nat) (h : TL w q R []) (hf : ∀ k ∈ q :: R, w0.heap.size ≤ k) : TM A w0 (w.alloc (.map #[] 0)) q w.heap.size 0 [] [] :=
  ⟨R, h.below ((Below.refl _ _).alloc (Nat.le_refl _) _), fun k hk => ⟨hf k hk, by have := h.lt k hk; omega⟩, hb.alloc hb.size _, MapS.made A w, hb.size⟩
theorem tmInsert (x : E) {A : KK α} {w0 w : World} {q bm n : Nat} {L : List E} {K : List α} (h : TM A w0 w q bm n L K) (h0 : 0 ≤ x.a) (hs : L.length ≤ 800) :
    Calls Try.prog 9 #[.pointer (some ⟨q, 0, none⟩), .agg #[.int .u64 x.a, .int .u64 x.b], .int .u64 x.n] w fun e w' => e = .returned (.int .i64 (insR x L)) ∧ TM A w0 w' q bm n (insL x L) K := by
  obtain ⟨R, h1, h2, h3, h4, h5⟩ := h
  refine (cInsert x q R L w h1 h0 hs).mono ?_
  rintro e w' ⟨rfl, h⟩
  exact ⟨rfl, TM.wrote h2 h3 h4 h5 h⟩
theorem tmDelete (x : E) {A : KK α} {w0 w : World} {q bm n : Nat} {L : List E} {K : List α} (h : TM A w0 w q bm n L K) (hs : L.length ≤ 800) :
    Calls Try.prog 11 #[.pointer (some ⟨q, 0, none⟩), .agg #[.int .u64 x.a, .int .u64 x.b], .int .u64 x.n] w fun e w' => e = .returned (.int .i64 (delR x L)) ∧ TM A w0 w' q bm n (delL x L) K := by
  obtain ⟨R, h1, h2, h3, h4, h5⟩ := h
  refine (cDelete x q R L w h1 hs).mono ?_
  rintro e w' ⟨rfl, h⟩
  exact ⟨rfl, TM.wrote h2 h3 h4 h5 h⟩
theorem tmLen {A : KK α} {w0 w : World} {q bm n : Nat} {L : List E} {K : List α} (h : TM A w0 w q bm n L K) :
    Calls Try.prog 21 #[.pointer (some ⟨q, 0, none⟩)] w fun e w' => e = .returned (.int .i64 L.length) ∧ w = w' := by
  obtain ⟨R, h1, h2, h3, h4, h5⟩ := h
  exact cLen q R L w h1
theorem tmDepth {A : KK α} {w0 w : World} {q bm n : Nat} {L : List E} {K : List α} (h : TM A w0 w q bm n L K) (hs : L.length ≤ 1023) :
    Calls Try.prog 23 #[.pointer (some ⟨q, 0, none⟩)] w fun e w' => ∃ d : Nat, e = .returned (.int .i64 d) ∧ DeepOk d L.length ∧ w = w' := by
  obtain ⟨R, h1, h2, h3, h4, h5⟩ := h
  exact cDepth q R L w h1 hs
end
theorem kl1 (d : Nat) (c : Value) (L : List Lit) : Try.prog.keyLits (d + 1) 30 [c] = some L ↔ ∃ z, c = .int .u64 z ∧ (Lit.int .u64 z).wf = true ∧ L = [.int .u64 z] := by
  unfold Program.keyLits
  rw [Try.underlying30]
  cases c <;> simp
  rename_i q z
  constructor
  · rintro ⟨⟨rfl, h⟩, rfl⟩
    exact ⟨z, ⟨rfl, rfl⟩, h, rfl⟩
  · rintro ⟨z', ⟨rfl, rfl⟩, h, rfl⟩
    exact ⟨⟨rfl, h⟩, rfl⟩
theorem kl2 (d : Nat) (c0 c1 : Value) (L : List Lit) : Try.prog.keyLits (d + 2) 32 [c0, c1] = some L ↔ ∃ L0 L1, Try.prog.keyLits (d + 1) 30 [c0] = some L0 ∧ Try.prog.keyLits (d + 1) 30 [c1] = some L1 ∧ L = L0 ++ L1 := by
  have k2 : Try.prog.cellsOf 32 = 2 := by kernel_rfl
  have k1 : Try.prog.cellsOf 30 = 1 := by kernel_rfl
  conv => lhs; lhs; unfold Program.keyLits
  rw [Try.underlying32]
  simp [k2, k1]
  cases Try.prog.keyLits (d + 1) 30 [c0] <;> cases Try.prog.keyLits (d + 1) 30 [c1] <;> simp [eq_comm]
theorem kl3 (d : Nat) (c0 c1 c2 : Value) (L : List Lit) : Try.prog.keyLits (d + 3) 53 [c0, c1, c2] = some L ↔ ∃ L0 L1, Try.prog.keyLits (d + 2) 32 [c0, c1] = some L0 ∧ Try.prog.keyLits (d + 2) 30 [c2] = some L1 ∧ L = L0 ++ L1 := by
  have k3 : Try.prog.cellsOf 53 = 3 := by kernel_rfl
  have k2 : Try.prog.cellsOf 32 = 2 := by kernel_rfl
  have k1 : Try.prog.cellsOf 30 = 1 := by kernel_rfl
  conv => lhs; lhs; unfold Program.keyLits
  rw [Try.underlying53]
  simp [k3, k2, k1]
  cases Try.prog.keyLits (d + 2) 32 [c0, c1] <;> cases Try.prog.keyLits (d + 2) 30 [c2] <;> simp [eq_comm]
def okE (x : E) : Prop := (0 ≤ x.a ∧ x.a ≤ 18446744073709551615) ∧ (0 ≤ x.b ∧ x.b ≤ 18446744073709551615) ∧ (0 ≤ x.n ∧ x.n ≤ 18446744073709551615)
theorem wfU (x : Int) : (Lit.int .u64 x).wf = true ↔ 0 ≤ x ∧ x ≤ 18446744073709551615 := by
  simp [Lit.wf, IntKind.min, IntKind.max, IntKind.signed, IntKind.bits]
theorem ent_lits (d : Nat) (c0 c1 c2 : Value) (L : List Lit) : Try.prog.keyLits (d + 3) 53 [c0, c1, c2] = some L ↔ ∃ x : E, okE x ∧ c0 = .int .u64 x.a ∧ c1 = .int .u64 x.b ∧ c2 = .int .u64 x.n ∧ L = [.int .u64 x.a, .int .u64 x.b, .int .u64 x.n] := by
  simp only [kl3, kl2, kl1, wfU]
  constructor
  · rintro ⟨_, _, ⟨_, _, ⟨z0, rfl, h0, rfl⟩, ⟨z1, rfl, h1, rfl⟩, rfl⟩, ⟨z2, rfl, h2, rfl⟩, rfl⟩
    exact ⟨⟨z0, z1, z2⟩, ⟨h0, h1, h2⟩, rfl, rfl, rfl, rfl⟩
  · rintro ⟨x, ⟨h0, h1, h2⟩, rfl, rfl, rfl, rfl⟩
    exact ⟨_, _, ⟨_, _, ⟨x.a, rfl, h0, rfl⟩, ⟨x.b, rfl, h1, rfl⟩, rfl⟩, ⟨x.n, rfl, h2, rfl⟩, rfl⟩
theorem ent_keyOf (v : Value) (kl : Lit) : keyOf Try.prog 53 v = some kl ↔ ∃ x : E, okE x ∧ v = entV x ∧ kl = .string (keyBytes [.int .u64 x.a, .int .u64 x.b, .int .u64 x.n]) := by
  have k3 : Try.prog.cellsOf 53 = 3 := by kernel_rfl
  have kt : Try.prog.keyType 53 = true := by kernel_rfl
  obtain ⟨d, hd⟩ : ∃ d, Try.prog.types.size + 1 = d + 3 := ⟨Try.prog.types.size - 2, by kernel_rfl⟩
  unfold keyOf
  rw [Try.underlying53, kt, hd]
  simp only [Bool.true_and]
  constructor
  · intro h
    split at h
    · rename_i hf
      cases v <;> simp only [Value.formed, Try.underlying53, Bool.false_eq_true] at hf
      rename_i cs
      rw [k3] at hf
      have hs : cs.size = 3 := by simpa using hf
      obtain ⟨l⟩ := cs
      match l, hs with
      | [c0, c1, c2], _ =>
        rw [Option.map_eq_some_iff] at h
        obtain ⟨L, hL, rfl⟩ := h
        obtain ⟨x, hx, rfl, rfl, rfl, rfl⟩ := (ent_lits d c0 c1 c2 L).1 hL
        exact ⟨x, hx, rfl, rfl⟩
    · cases h
  · rintro ⟨x, hx, rfl, rfl⟩
    have hf : (entV x).formed Try.prog 53 = true := by
      simp only [Value.formed, Try.underlying53, k3]
      rfl
    rw [if_pos hf]
    have hL := (ent_lits d _ _ _ _).2 ⟨x, hx, rfl, rfl, rfl, rfl⟩
    have : Try.prog.keyLits (d + 3) 53 (entV x).cells.toList = some [.int .u64 x.a, .int .u64 x.b, .int .u64 x.n] := hL
    rw [this]
    rfl
theorem ent_keyed : Keyed Try.prog 53 := Keyed.of_law (deep_law_laid (by kernel_rfl) (m := 5) (by decide) (of_decide_eq_true (by kernel_rfl)) (by kernel_rfl) (by rw [Try.underlying53]))
def kkE : KK E where
  kt := 53
  mt := 51
  ok := okE
  v := entV
  l := fun x => .string (keyBytes [.int .u64 x.a, .int .u64 x.b, .int .u64 x.n])
  vinj := fun x y h => by
    have h' : [Value.int .u64 x.a, Value.int .u64 x.b, Value.int .u64 x.n] = [Value.int .u64 y.a, Value.int .u64 y.b, Value.int .u64 y.n] := congrArg (fun v => v.cells.toList) h
    cases x
    cases y
    simpa using h'
  keyed := ent_keyed
  hm := Try.underlying51
  hk := fun x hx => (ent_keyOf _ _).2 ⟨x, hx, rfl, rfl⟩
end Go.Proofs.Ytbifgmamjdniaaa
