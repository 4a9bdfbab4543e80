/- Slices of whole numbers that a call builds: append, Contains, Sort. -/
import Derived.Test.YtbdlmidkkdmkpaaM1
import Derived.Test.YtbdlmidkkdmkpaaS1
import Derived.Sort.OwnSortedInts
namespace Go.Proofs.Ytbdlmidkkdmkpaa
open Go.RowKit Go.Sort
def cellsI (L : List Int) : List Value := L.map (Value.int .i64)
/-- A slice that the call owns holds these whole numbers. -/
def OwnI (base : Nat) (w : World) (v : Value) (L : List Int) : Prop := w.ownsRow base 3 1 v L.length (L.map (Value.int .i64))
theorem OwnI.nil (base : Nat) (w : World) : OwnI base w (.slice none 0 0) [] := ⟨rfl, .inl ⟨rfl, rfl⟩⟩
theorem OwnI.alloc {base : Nat} {w : World} {v : Value} {L : List Int} (h : OwnI base w v L) (o : Obj) : OwnI base (w.alloc o) v L := World.ownsRow.alloc h o
theorem OwnI.below {base : Nat} {w w' : World} {v : Value} {L : List Int} (h : OwnI base w v L) (hb : Below w.heap.size w w') : OwnI base w' v L := by
  refine ⟨h.1, ?_⟩
  rcases h.2 with h0 | ⟨g, cap, cur, e, hg, hc, h1, h2, h3, h4⟩
  · exact .inl h0
  · exact .inr ⟨g, cap, cur, e, hg, (hb.block g (Array.getElem?_eq_some_iff.1 hc).1).trans hc, h1, h2, h3, h4⟩
/-- Where the whole numbers of a slice lie. -/
def AtI (w : World) (A : Option Addr) (L : List Int) : Prop := 0 < L.length → ∃ g, A = some ⟨g, 0, none⟩ ∧ g < w.heap.size ∧ ∀ i (h : i < L.length), w.cell? ⟨g, i, none⟩ = some (.int .i64 L[i])
theorem AtI.below {w w' : World} {A : Option Addr} {L : List Int} (h : AtI w A L) (hb : Below w.heap.size w w') : AtI w' A L := fun h0 => by
  obtain ⟨g, e, hl, hc⟩ := h h0
  have hs := hb.size
  exact ⟨g, e, by omega, fun i hi => (hb.cell (p := ⟨g, i, none⟩) hl).trans (hc i hi)⟩
theorem OwnI.at {base : Nat} {w : World} {v : Value} {L : List Int} (h : OwnI base w v L) : ∃ A c, v = .slice A L.length c ∧ AtI w A L := by
  rcases h.2 with ⟨rfl, h0⟩ | ⟨g, cap, cur, rfl, hg, hb, h1, h2, h3, h4⟩
  · exact ⟨none, 0, by rw [h0], fun e => absurd e (by omega)⟩
  · refine ⟨_, _, rfl, fun _ => ⟨g, rfl, (Array.getElem?_eq_some_iff.1 hb).1, fun i hi => ?_⟩⟩
    have : w.cell? ⟨g, i, none⟩ = (L.map (Value.int .i64))[i]? := by
      rw [← h4, List.getElem?_take_of_lt (by omega), Array.getElem?_toList]
      simp [World.cell?, hb]
    rw [this]
    simp [hi]
/-- append of one whole number onto what the call owns. -/
theorem wpList_appI {ops : Array Oper} {rest : List Oper} {o : Oper} {a : Act} {w : World} {Q : Exit → Act → World → Prop} (hgd : o.guard = none) (s x : Operand)
    (ho : o.op = .call { callee := .builtin .append, args := #[s, x], argTypes := #[44, 44] })
    (base : Nat) (v : Value) (L : List Int) (hs : a.eval s = v) (hown : OwnI base w v L) (g : Nat) (p : Int) (hx : a.eval x = .slice (some ⟨g, 0, none⟩) 1 1)
    (hp : w.cell? ⟨g, 0, none⟩ = some (.int .i64 p)) (hlen : L.length ≤ 1000) (hbase : base ≤ w.heap.size)
    (h : ∀ v' w', OwnI base w' v' (L ++ [p]) → w.grownBy w' v.ownBlock → (v'.ownBlock = v.ownBlock ∨ v'.ownBlock = some w.heap.size) → wpList Try.prog ops Q rest (a.put o.dst v') w') :
    wpList Try.prog ops Q (o :: rest) a w := by
  obtain ⟨i0, hi, hz0, hz1, hz2⟩ := info_parts infoI
  refine wpList_append_own_at _ hgd s x 44 ho base 3 i0 _ 1 8 Try.underlying44 hi hz0 hz1 hz2 rfl (by omega) v _ _ hs hown ⟨g, 0, none⟩ 1 1 [.int .i64 p] hx rfl ?_ ?_ (by unfold maxLen; omega) (by omega) hbase ?_
  · intro j u hj
    rw [add_plain, Nat.zero_add]
    match j, hj with
    | 0, hj => simp at hj; subst hj; exact hp
  · intro u hu
    simp at hu
    subst hu
    rfl
  · intro v' w' h1 h2 _ h4
    refine h v' w' ?_ h2 h4
    unfold OwnI
    rw [List.map_append, List.length_append]
    exact h1
theorem Contains_any (A : Option Addr) (L : List Int) (c : Nat) (x : Int) (w : World) (h : AtI w A L) (hl : L.length ≤ 1000) :
    Calls Try.prog 32 #[.slice A L.length c, .int .i64 x] w fun e w' => e = .returned (.bool (L.contains x)) ∧ w = w' := by
  rcases Nat.eq_zero_or_pos L.length with h0 | h0
  · obtain rfl := List.eq_nil_of_length_eq_zero h0
    exact (slices_Contains_int_empty A c x w).mono fun _ _ h => ⟨h.1, h.2.symm⟩
  · obtain ⟨g, rfl, _, hc⟩ := h h0
    refine (slices_Contains_int g 0 L.length c L x w (Nat.le_refl _) (by omega) (fun j hj => ?_)).mono fun _ _ h => ⟨?_, h.2.symm⟩
    · rw [Nat.zero_add, hc j hj]
      simp [List.getD, hj]
    · rw [h.1, List.take_length]
theorem Equal_any (A B : Option Addr) (L M : List Int) (c d : Nat) (w : World) (h : AtI w A L) (k : AtI w B M) (hl : L.length ≤ 1000) (hm : M.length ≤ 1000) :
    Calls Try.prog 28 #[.slice A L.length c, .slice B M.length d] w fun e w' => e = .returned (.bool (L == M)) ∧ Below w.heap.size w w' := by
  by_cases hne : L.length = M.length
  · rcases Nat.eq_zero_or_pos L.length with h0 | h0
    · obtain rfl := List.eq_nil_of_length_eq_zero h0
      obtain rfl := List.eq_nil_of_length_eq_zero (hne.symm.trans h0)
      refine (slices_Equal_int_empty A B c 0 d w (by omega)).mono fun _ _ h => ⟨?_, h.2 ▸ Below.refl _ _⟩
      rw [h.1]
      simp
    · obtain ⟨g, rfl, _, hc⟩ := h h0
      obtain ⟨f, rfl, _, hd⟩ := k (by omega)
      refine (slices_Equal_int g 0 L.length c f 0 M.length d L M w (Nat.le_refl _) (Nat.le_refl _) (by omega) (by omega) (fun j hj => ?_) (fun j hj => ?_)).mono fun _ w' h => ⟨?_, ?_⟩
      · rw [Nat.zero_add, hc j hj]
        simp [List.getD, hj]
      · rw [Nat.zero_add, hd j hj]
        simp [List.getD, hj]
      · rw [h.1, List.take_length, List.take_length]
      · obtain ⟨q, rfl⟩ := h.2
        exact bel_drewN q (Below.refl _ _)
  · refine (slices_Equal_int_lens A B L.length c M.length d w hne).mono fun _ _ h => ⟨?_, h.2 ▸ Below.refl _ _⟩
    rw [h.1]
    have : (L == M) = false := by
      rw [beq_eq_false_iff_ne]
      rintro rfl
      exact hne rfl
    rw [this]
theorem Sort_own (base : Nat) (v : Value) (L : List Int) (w : World) (h : OwnI base w v L) (hbase : base ≤ w.heap.size) (hl : L.length ≤ 1000) :
    Calls Try.prog 39 #[v] w fun e w' => e = .returned (.tuple #[]) ∧ OwnI base w' v (L.mergeSort fun x y => decide (x ≤ y)) ∧ Below base w w' := by
  have hlen : (L.mergeSort fun x y => decide (x ≤ y)).length = L.length := List.length_mergeSort _
  rcases h.2 with ⟨rfl, h0⟩ | ⟨g, cap, cur, rfl, hg, hc, h1, h2, h3, h4⟩
  · obtain rfl := List.eq_nil_of_length_eq_zero h0
    refine (slices_Sort_int_none none 0 w).mono fun _ _ h => ⟨h.1, ?_, h.2 ▸ Below.refl _ _⟩
    rw [h.2]
    simpa using OwnI.nil base w
  · refine (slices_Sort_int g 0 cap L w (holds_of_blockI hc (by simpa using h4)) (Array.getElem?_eq_some_iff.1 hc).1 (by omega)).mono ?_
    rintro e w' ⟨rfl, n, os, rfl⟩
    refine ⟨rfl, ?_, (Below.refl _ _).grown (grownBy_sortedI _) hbase fun k hk => ?_⟩
    · have := ownsRow_sortedI (n := n) (os := os) hlen hg hc h1 h2 (by simpa using h3)
      unfold OwnI
      rw [hlen]
      exact this
    · injection hk with hk
      omega
end Go.Proofs.Ytbdlmidkkdmkpaa
