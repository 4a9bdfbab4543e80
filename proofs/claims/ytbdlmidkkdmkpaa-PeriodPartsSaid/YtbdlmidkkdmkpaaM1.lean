/- What can be composed, in lists: no duplicates, in order, by what is a member. -/
import Derived.Test.YtbdlmidkkdmkpaaP7
namespace Go.Proofs.Ytbdlmidkkdmkpaa
theorem sub_length : ∀ (M L : List Int), L.Nodup → (∀ x ∈ L, x ∈ M) → L.length ≤ M.length
  | [], L, _, h => by
    cases L with
    | nil => simp
    | cons x L => exact absurd (h x (by simp)) (by simp)
  | m :: M, L, hn, h => by
    by_cases hm : m ∈ L
    · have h1 := List.length_erase_of_mem hm
      have h2 := sub_length M (L.erase m) (hn.erase m) (fun x hx => by
        have hx2 := (hn.mem_erase_iff).1 hx
        have := h x hx2.2
        simp only [List.mem_cons] at this
        rcases this with e | e
        · exact absurd e hx2.1
        · exact e)
      have h3 : 0 < L.length := List.length_pos_of_mem hm
      simp only [List.length_cons]
      omega
    · have h2 := sub_length M L hn (fun x hx => by
        have := h x hx
        simp only [List.mem_cons] at this
        rcases this with e | e
        · subst e; exact absurd hx hm
        · exact e)
      simp only [List.length_cons]
      omega
/-- The numbers of the relations. -/
def numsR : List Int := [1, 2, 3, 4, 5, 6, 7, 8, 9, 10, 11, 12, 13]
theorem mem_nums (t : Int) : t ∈ numsR ↔ 1 ≤ t ∧ t ≤ 13 := by
  simp only [numsR, List.mem_cons, List.not_mem_nil, or_false]
  omega
theorem most13 {L : List Int} (hn : L.Nodup) (h : ∀ t ∈ L, 1 ≤ t ∧ t ≤ 13) : L.length ≤ 13 := sub_length numsR L hn fun x hx => (mem_nums x).2 (h x hx)
theorem all13 {L : List Int} (hn : L.Nodup) (h : ∀ t ∈ L, 1 ≤ t ∧ t ≤ 13) (hl : L.length = 13) (t : Int) (h1 : 1 ≤ t) (h2 : t ≤ 13) : t ∈ L := by
  by_cases ht : t ∈ L
  · exact ht
  · have h3 := sub_length (numsR.erase t) L hn (fun x hx => by
      have hx2 := (mem_nums x).2 (h x hx)
      refine (List.mem_erase_of_ne ?_).2 hx2
      intro e
      subst e
      exact ht hx)
    rw [List.length_erase_of_mem ((mem_nums t).2 ⟨h1, h2⟩)] at h3
    simp only [numsR, List.length_cons, List.length_nil] at h3
    omega
theorem rising_eq : ∀ (A B : List Int), A.Pairwise (· < ·) → B.Pairwise (· < ·) → (∀ t, t ∈ A ↔ t ∈ B) → A = B
  | [], B, _, _, h => by
    cases B with
    | nil => rfl
    | cons b B => exact absurd ((h b).2 (by simp)) (by simp)
  | a :: A, [], _, _, h => absurd ((h a).1 (by simp)) (by simp)
  | a :: A, b :: B, hA, hB, h => by
    rw [List.pairwise_cons] at hA hB
    have hab : a = b := by
      have h1 := (h a).1 (by simp)
      have h2 := (h b).2 (by simp)
      simp only [List.mem_cons] at h1 h2
      rcases h1 with e | e
      · exact e
      · rcases h2 with e2 | e2
        · exact e2.symm
        · have := hA.1 b e2
          have := hB.1 a e
          omega
    subst hab
    rw [rising_eq A B hA.2 hB.2 fun t => ?_]
    constructor
    · intro ht
      have h1 := (h t).1 (by simp [ht])
      simp only [List.mem_cons] at h1
      rcases h1 with e | e
      · subst e; have := hA.1 t ht; omega
      · exact e
    · intro ht
      have h1 := (h t).2 (by simp [ht])
      simp only [List.mem_cons] at h1
      rcases h1 with e | e
      · subst e; have := hB.1 t ht; omega
      · exact e
theorem sort_rising {L : List Int} (hn : L.Nodup) : (L.mergeSort fun x y => decide (x ≤ y)).Pairwise (· < ·) := by
  have h1 := List.pairwise_mergeSort (le := fun x y : Int => decide (x ≤ y)) (fun a b c h1 h2 => by simp at *; omega) (fun a b => by simp; omega) L
  have h2 : (L.mergeSort fun x y => decide (x ≤ y)).Nodup := (List.mergeSort_perm L _).symm.nodup hn
  have h3 := h1.and h2
  refine h3.imp fun {a b} h => ?_
  have h4 : a ≤ b := by simpa using h.1
  have h5 : a ≠ b := h.2
  omega
/-- The periods between six instants. -/
def PL : List (Int × Int) := plAll 6
def tq (r : Nat) (p q : Int × Int) : Bool := tst r p.1 p.2 q.1 q.2
def rq (p q : Int × Int) : Int := relV p.1 p.2 q.1 q.2
/-- What has been seen, at each of the three loops. -/
def seen3 (s : Nat) (p q : Int × Int) (us : List (Int × Int)) : List Int := (us.filter fun u => tq s q u).map (rq p)
def seen2 (r s : Nat) (p : Int × Int) (qs : List (Int × Int)) : List Int := (qs.filter fun q => tq r p q).flatMap fun q => seen3 s p q PL
def seen1 (r s : Nat) (ps : List (Int × Int)) : List Int := ps.flatMap fun p => seen2 r s p PL
/-- What can be composed. -/
def compL (r s : Nat) : List Int := numsR.filter fun t => (seen1 r s PL).contains t
theorem seen_range {r s : Nat} {ps : List (Int × Int)} {t : Int} (h : t ∈ seen1 r s ps) : 1 ≤ t ∧ t ≤ 13 := by
  simp only [seen1, seen2, seen3, List.mem_flatMap, List.mem_map, List.mem_filter] at h
  obtain ⟨p, _, q, _, u, _, rfl⟩ := h
  exact relV_range _ _ _ _
theorem mem_comp (r s : Nat) (t : Int) : t ∈ compL r s ↔ t ∈ seen1 r s PL := by
  simp only [compL, List.mem_filter, List.contains_eq_mem, decide_eq_true_eq, mem_nums]
  exact ⟨fun h => h.2, fun h => ⟨seen_range h, h⟩⟩
theorem comp_rising (r s : Nat) : (compL r s).Pairwise (· < ·) := List.Pairwise.filter _ (by decide)
theorem sorted_comp {r s : Nat} {L : List Int} (hn : L.Nodup) (h : ∀ t, t ∈ L ↔ t ∈ seen1 r s PL) : (L.mergeSort fun x y => decide (x ≤ y)) = compL r s :=
  rising_eq _ _ (sort_rising hn) (comp_rising r s) fun t => by rw [List.mem_mergeSort, h, mem_comp]
end Go.Proofs.Ytbdlmidkkdmkpaa
