/- Words appended whole; the law's own membership. -/
import Derived.Test.YtgjahnidjcfbiaaGreatDoorJ21
namespace Go.Proofs.YtgjahnidjcfbiaaGreatDoor
open Go.RowKit Go.Shelf Go.Lib
open Iset (nf has NF Res Wide NotL hasP)
/-- Where the words of a slice lie. -/
def UAt (w : World) (A : Option Addr) (L : List Int) : Prop := 0 < L.length → ∃ b off, A = some ⟨b, off, none⟩ ∧ b < w.heap.size ∧ ∀ i (h : i < L.length), w.cell? ⟨b, off + i, none⟩ = some (.int .u64 L[i])
theorem UAt.below {w w' : World} {A : Option Addr} {L : List Int} (h : UAt w A L) (hb : Below w.heap.size w w') : UAt w' A L := fun h0 => by
  obtain ⟨g, off, e, hl, hc⟩ := h h0
  have hs := hb.size
  exact ⟨g, off, e, by omega, fun i hi => (hb.cell (p := ⟨g, off + i, none⟩) hl).trans (hc i hi)⟩
theorem UAt.take {w : World} {A : Option Addr} {L : List Int} (h : UAt w A L) (n : Nat) : UAt w A (L.take n) := fun h0 => by
  rw [List.length_take] at h0
  obtain ⟨b, off, e, hl, hc⟩ := h (by omega)
  exact ⟨b, off, e, hl, fun i hi => by
    rw [List.length_take] at hi
    rw [List.getElem_take]
    exact hc i (by omega)⟩
theorem run_appUs (base : Nat) (w : World) (v : Value) (l : List Int) (A : Option Addr) (c : Nat) (news : List Int) (ty : TypeId) (h : OwnU base w v l) (hA : UAt w A news) (hz : A = none → c = 0)
    (hm : l.length + news.length ≤ 1000000000000) (hb : base ≤ w.heap.size) :
    ∃ v' w', (Builtin.append_ #[48, 48] ty #[v, .slice A news.length c]).run Tryz.prog w = .ok v' w' ∧ OwnU base w' v' (l ++ news) ∧ w.grownBy w' v.ownBlock := by
  obtain ⟨i0, hi, hz0, hz1, hz2⟩ := info_parts infoU
  have own : ∀ (ad : Addr), (∀ j u, (news.map (Value.int .u64))[j]? = some u → w.cell? (ad.add j) = some u) → ∃ v' w', (Builtin.append_ #[48, 48] ty #[v, .slice (some ad) news.length c]).run Tryz.prog w = .ok v' w' ∧ OwnU base w' v' (l ++ news) ∧ w.grownBy w' v.ownBlock := fun ad hcl => by
    obtain ⟨v', w', h1, h2, h3, _, _⟩ := run_append_own_at (P := Tryz.prog) w base 48 ty 23 i0 _ 1 8 Tryz.underlying48 hi hz0 hz1 hz2 rfl (by omega) v _ _ h ad news.length c (news.map (Value.int .u64)) (by simp) hcl (fun u hu => by
        rw [List.mem_map] at hu
        obtain ⟨z, _, rfl⟩ := hu
        rfl)
      (by unfold maxLen; omega) (by omega) hb
    exact ⟨v', w', h1, by rw [OwnU, List.map_append, List.length_append]; exact h2, h3⟩
  rcases Nat.eq_zero_or_pos news.length with h0 | h0
  · obtain rfl := List.eq_nil_of_length_eq_zero h0
    cases A with
    | none =>
      obtain rfl := hz rfl
      exact ⟨v, w, run_append_owned_none (P := Tryz.prog) w base 48 ty 23 i0 1 Tryz.underlying48 hi v _ _ h, by simpa using h, World.grownBy.refl _ _⟩
    | some ad => exact own ad (fun j u hj => by simp at hj)
  · obtain ⟨b, off, rfl, _, hc⟩ := hA h0
    refine own _ fun j u hj => ?_
    rw [add_plain]
    rw [List.getElem?_map, Option.map_eq_some_iff] at hj
    obtain ⟨z, hz, rfl⟩ := hj
    obtain ⟨hl, rfl⟩ := List.getElem?_eq_some_iff.1 hz
    exact hc j hl
theorem wpList_appUs (w : World) {ops : Array Oper} {rest : List Oper} {o : Oper} {a : Act} {Q : Exit → Act → World → Prop} (hg : o.guard = none) (s x : Operand) (ho : o.op = .call { callee := .builtin .append, args := #[s, x], argTypes := #[48, 48] })
    (base : Nat) (v : Value) (l : List Int) (hs : a.eval s = v) (h : OwnU base w v l) (A : Option Addr) (n c : Nat) (news : List Int) (hx : a.eval x = .slice A n c) (hA : UAt w A news) (hz : A = none → c = 0) (hn : news.length = n)
    (hm : l.length + news.length ≤ 1000000000000) (hb : base ≤ w.heap.size)
    (hK : ∀ v' w', OwnU base w' v' (l ++ news) → Below base w w' → wpList Tryz.prog ops Q rest (a.put o.dst v') w') : wpList Tryz.prog ops Q (o :: rest) a w := by
  subst hn
  refine wpList_plain hg fun K hK' => ?_
  obtain ⟨v', w', h1, h2, h3⟩ := run_appUs base w v l A c news o.type h hA hz hm hb
  unfold Oper.wp execOp
  simp only [ho, resolve, invoke, builtin, Sem.run_bind, Sem.run_pure, Result.andThen_ok, List.map_toArray, List.map_cons, List.map_nil, hs, hx, h1]
  exact hK' _ _ (hK v' w' h2 ((Below.refl _ _).grown h3 hb fun k hk => (World.ownsRow.lt h k hk).1))
theorem ownU_three (w : World) (x y z : Int) : OwnU w.heap.size (w.alloc (.cells #[.int .u64 x, .int .u64 y, .int .u64 z] 23)) (.slice (some ⟨w.heap.size, 0, none⟩) 3 3) [x, y, z] :=
  ⟨rfl, .inr ⟨w.heap.size, 3, _, rfl, Nat.le_refl _, heap_alloc_new w _, Nat.le_refl _, by unfold maxLen; omega, rfl, rfl⟩⟩
theorem has_yes {L : List (Int × Int)} {t : Int} (i : Nat) (h : i < L.length) (hh : hasP (L[i].1, L[i].2) t = true) : has L t = true := (Iset.has_iff L t).2 ⟨L[i], List.getElem_mem h, hh⟩
theorem has_no {L : List (Int × Int)} {t : Int} (h : ∀ k (h : k < L.length), hasP (L[k].1, L[k].2) t = false) : has L t = false := by
  rw [Bool.eq_false_iff]
  intro e
  obtain ⟨p, hp, hh⟩ := (Iset.has_iff L t).1 e
  obtain ⟨k, hk, rfl⟩ := List.getElem_of_mem hp
  rw [h k hk] at hh
  cases hh
end Go.Proofs.YtgjahnidjcfbiaaGreatDoor
