/- What has been seen grows, one period after the other. -/
import Derived.Test.YtbdlmidkkdmkpaaP8
namespace Go.Proofs.Ytbdlmidkkdmkpaa
open Go.RowKit
theorem pl_length : PL.length = 15 := by decide
theorem take_one {α : Type} (l : List α) (k : Nat) (h : k < l.length) : l.take (k + 1) = l.take k ++ [l[k]] := by
  rw [List.take_succ_eq_append_getElem h]
theorem seen3_succ (s : Nat) (p q : Int × Int) (us : List (Int × Int)) (k : Nat) (h : k < us.length) : seen3 s p q (us.take (k + 1)) = seen3 s p q (us.take k) ++ if tq s q us[k] = true then [rq p us[k]] else [] := by
  rw [take_one us k h]
  simp only [seen3, List.filter_append, List.map_append]
  cases e : tq s q us[k] <;> simp [e]
theorem seen2_succ (r s : Nat) (p : Int × Int) (qs : List (Int × Int)) (k : Nat) (h : k < qs.length) : seen2 r s p (qs.take (k + 1)) = seen2 r s p (qs.take k) ++ if tq r p qs[k] = true then seen3 s p qs[k] PL else [] := by
  rw [take_one qs k h]
  simp only [seen2, List.filter_append, List.flatMap_append]
  cases e : tq r p qs[k] <;> simp [e]
theorem seen1_succ (r s : Nat) (ps : List (Int × Int)) (k : Nat) (h : k < ps.length) : seen1 r s (ps.take (k + 1)) = seen1 r s (ps.take k) ++ seen2 r s ps[k] PL := by
  rw [take_one ps k h]
  simp only [seen1, List.flatMap_append, List.flatMap_cons, List.flatMap_nil, List.append_nil]
/-- All that has been seen ahead of the places i, j, k. -/
def seenA (r s i j k : Nat) (p q : Int × Int) : List Int := seen1 r s (PL.take i) ++ (seen2 r s p (PL.take j) ++ seen3 s p q (PL.take k))
def seenB (r s i j : Nat) (p : Int × Int) : List Int := seen1 r s (PL.take i) ++ seen2 r s p (PL.take j)
theorem seenA_zero (r s i j : Nat) (p q : Int × Int) : seenA r s i j 0 p q = seenB r s i j p := by simp [seenA, seenB, seen3]
theorem seenB_zero (r s i : Nat) (p : Int × Int) : seenB r s i 0 p = seen1 r s (PL.take i) := by simp [seenB, seen2]
theorem seenA_yes {r s i j k : Nat} {p q u : Int × Int} (hk : k < PL.length) (hu : PL[k] = u) (h : tq s q u = true) : seenA r s i j (k + 1) p q = seenA r s i j k p q ++ [rq p u] := by
  subst hu
  rw [seenA, seenA, seen3_succ s p q PL k hk, if_pos h]
  simp
theorem seenA_no {r s i j k : Nat} {p q u : Int × Int} (hk : k < PL.length) (hu : PL[k] = u) (h : tq s q u = false) : seenA r s i j (k + 1) p q = seenA r s i j k p q := by
  subst hu
  rw [seenA, seenA, seen3_succ s p q PL k hk, if_neg (by simp [h])]
  simp
theorem seenA_full {r s i j : Nat} {p q : Int × Int} (hj : j < PL.length) (hq : PL[j] = q) (h : tq r p q = true) : seenA r s i j PL.length p q = seenB r s i (j + 1) p := by
  subst hq
  rw [seenA, seenB, seen2_succ r s p PL j hj, if_pos h, List.take_length]
theorem seenB_no {r s i j : Nat} {p q : Int × Int} (hj : j < PL.length) (hq : PL[j] = q) (h : tq r p q = false) : seenB r s i (j + 1) p = seenB r s i j p := by
  subst hq
  rw [seenB, seenB, seen2_succ r s p PL j hj, if_neg (by simp [h])]
  simp
theorem seenB_full {r s i : Nat} {p : Int × Int} (hi : i < PL.length) (hp : PL[i] = p) : seenB r s i PL.length p = seen1 r s (PL.take (i + 1)) := by
  subst hp
  rw [seenB, seen1_succ r s PL i hi, List.take_length]
theorem seenA_sub {r s i j k : Nat} {p q : Int × Int} (hi : i < PL.length) (hp : PL[i] = p) (hj : j < PL.length) (hq : PL[j] = q) (h : tq r p q = true) {t : Int} (ht : t ∈ seenA r s i j k p q) : t ∈ seen1 r s PL := by
  have mi : p ∈ PL := hp ▸ List.getElem_mem hi
  have mj : q ∈ PL := hq ▸ List.getElem_mem hj
  simp only [seenA, List.mem_append] at ht
  rcases ht with ht | ht | ht
  · simp only [seen1, List.mem_flatMap] at *
    obtain ⟨x, hx, hy⟩ := ht
    exact ⟨x, List.mem_of_mem_take hx, hy⟩
  · simp only [seen1, List.mem_flatMap]
    refine ⟨p, mi, ?_⟩
    simp only [seen2, List.mem_flatMap, List.mem_filter] at *
    obtain ⟨x, ⟨hx, hx2⟩, hy⟩ := ht
    exact ⟨x, ⟨List.mem_of_mem_take hx, hx2⟩, hy⟩
  · simp only [seen1, List.mem_flatMap]
    refine ⟨p, mi, ?_⟩
    simp only [seen2, List.mem_flatMap, List.mem_filter]
    refine ⟨q, ⟨mj, h⟩, ?_⟩
    simp only [seen3, List.mem_map, List.mem_filter] at *
    obtain ⟨x, ⟨hx, hx2⟩, hy⟩ := ht
    exact ⟨x, ⟨List.mem_of_mem_take hx, hx2⟩, hy⟩
/-- The slice that has been built holds what has been seen, each once. -/
def Got (B : Nat) (w : World) (v : Value) (S : List Int) : Prop := ∃ L, OwnI B w v L ∧ L.Nodup ∧ (∀ t, t ∈ L ↔ t ∈ S)
theorem Got.below {B : Nat} {w w' : World} {v : Value} {S : List Int} (h : Got B w v S) (hb : Below w.heap.size w w') : Got B w' v S := by
  obtain ⟨L, h1, h2, h3⟩ := h
  exact ⟨L, h1.below hb, h2, h3⟩
theorem Got.nil (B : Nat) (w : World) : Got B w (.slice none 0 0) [] := ⟨[], OwnI.nil B w, List.nodup_nil, fun _ => Iff.rfl⟩
theorem snoc_nodup {L : List Int} {t : Int} (h : L.Nodup) (ht : t ∉ L) : (L ++ [t]).Nodup := by
  rw [List.nodup_append]
  refine ⟨h, by simp, fun a ha b hb e => ?_⟩
  simp only [List.mem_singleton] at hb
  subst e hb
  exact ht ha
/-- The relation of two periods between six instants. -/
theorem pl_may {p : Int × Int} (h : p ∈ PL) : mayB p.1 p.2 = true := by
  have : ∀ q ∈ PL, mayB q.1 q.2 = true := by decide
  exact this p h
theorem pl_both {i j : Nat} {p q : Int × Int} (hi : i < PL.length) (hp : PL[i] = p) (hj : j < PL.length) (hq : PL[j] = q) : relR p.1 p.2 q.1 q.2 = rq p q ∧ badE p.1 p.2 q.1 q.2 = 0 := by
  have h1 := pl_may (hp ▸ List.getElem_mem hi)
  have h2 := pl_may (hq ▸ List.getElem_mem hj)
  exact rel_yes (by simp [bothB, h1, h2])
end Go.Proofs.Ytbdlmidkkdmkpaa
