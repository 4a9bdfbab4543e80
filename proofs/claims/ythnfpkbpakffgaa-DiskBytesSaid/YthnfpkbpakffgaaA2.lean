/- A crash, file by file, in plain terms. -/
import Derived.Test.YthnfpkbpakffgaaA1
namespace Disk
/-- How many of these have bytes that are not safe. -/
def nl (L : List Fl) : Nat := (L.filter fun f => decide (f.s < f.bs.length)).length
theorem nl_append (A B : List Fl) : nl (A ++ B) = nl A + nl B := by simp [nl]
theorem nl_le (L : List Fl) : nl L ≤ L.length := List.length_filter_le _ _
theorem crashL_append (ps : List Nat) (ts : List UInt8) (A B : List Fl) : ∀ k, crashL ps ts k (A ++ B) = crashL ps ts k A ++ crashL ps ts (k + nl A) B := by
  induction A with
  | nil => intro k; rfl
  | cons f A ih =>
    intro k
    simp only [List.cons_append, crashL]
    by_cases h : f.s < f.bs.length
    · rw [if_pos h, if_pos h, ih]
      have : nl (f :: A) = nl A + 1 := by simp [nl, h]
      rw [this, List.cons_append, show k + 1 + nl A = k + (nl A + 1) by omega]
    · rw [if_neg h, if_neg h, ih]
      have : nl (f :: A) = nl A := by simp [nl, h]
      rw [this, List.cons_append]
/-- Of a row the first i crashed. -/
def mid (ps : List Nat) (ts : List UInt8) (i : Nat) (L : List Fl) : List Fl := crashL ps ts 0 (L.take i) ++ L.drop i
theorem mid_zero (ps : List Nat) (ts : List UInt8) (L : List Fl) : mid ps ts 0 L = L := by simp [mid, crashL]
theorem mid_all (ps : List Nat) (ts : List UInt8) (L : List Fl) : mid ps ts L.length L = crashL ps ts 0 L := by simp [mid]
theorem mid_names (ps : List Nat) (ts : List UInt8) (i : Nat) (L : List Fl) : (mid ps ts i L).map Fl.nm = L.map Fl.nm := by
  unfold mid
  rw [List.map_append, crashL_names, ← List.map_append, List.take_append_drop]
theorem upd_other {α : Type} {f : α → Nm} {x : Nm} {g : α → α} {l : List α} (h : ∀ a ∈ l, f a ≠ x) : upd f x g l = l := by
  unfold upd
  conv => rhs; rw [← List.map_id l]
  exact List.map_congr_left fun a ha => by rw [if_neg (h a ha)]; rfl
theorem upd_mid {α : Type} {f : α → Nm} {X Y : List α} {a : α} (h : Up f (X ++ a :: Y)) (g : α → α) : upd f (f a) g (X ++ a :: Y) = X ++ g a :: Y := by
  obtain ⟨h1, h2, h3⟩ := List.pairwise_append.1 h
  have e1 : upd f (f a) g X = X := upd_other fun b hb e => nm_ne_of_lt (h3 b hb a (by simp)) e
  have e2 : upd f (f a) g Y = Y := upd_other fun b hb e => nm_ne_of_lt ((List.pairwise_cons.1 h2).1 b hb) e.symm
  unfold upd at *
  rw [List.map_append, List.map_cons, e1, e2, if_pos rfl]
theorem mid_at (ps : List Nat) (ts : List UInt8) {i : Nat} {L : List Fl} (hi : i < L.length) : mid ps ts i L = crashL ps ts 0 (L.take i) ++ L[i] :: L.drop (i + 1) := by
  unfold mid
  rw [List.drop_eq_getElem_cons hi]
theorem mid_mem (ps : List Nat) (ts : List UInt8) {i : Nat} {L : List Fl} (hi : i < L.length) : L[i] ∈ mid ps ts i L := by rw [mid_at ps ts hi]; exact List.mem_append_right _ List.mem_cons_self
theorem mid_safe (ps : List Nat) (ts : List UInt8) {i : Nat} {L : List Fl} (hi : i < L.length) (h : ¬ L[i].s < L[i].bs.length) : mid ps ts (i + 1) L = mid ps ts i L ∧ nl (L.take (i + 1)) = nl (L.take i) := by
  have hn : nl (L.take (i + 1)) = nl (L.take i) := by
    rw [List.take_succ_eq_append_getElem hi, nl_append]
    simp [nl, h]
  refine ⟨?_, hn⟩
  rw [mid_at ps ts hi]
  unfold mid
  rw [List.take_succ_eq_append_getElem hi, crashL_append]
  simp only [crashL, if_neg h]
  simp
theorem mid_loose (ps : List Nat) (ts : List UInt8) {i : Nat} {L : List Fl} (hi : i < L.length) (hu : Up Fl.nm L) (h : L[i].s < L[i].bs.length) :
    mid ps ts (i + 1) L = upd Fl.nm L[i].nm (crashF (ps.getD (nl (L.take i)) 0) (ts.getD (nl (L.take i)) 0)) (mid ps ts i L) ∧ nl (L.take (i + 1)) = nl (L.take i) + 1 := by
  have hn : nl (L.take (i + 1)) = nl (L.take i) + 1 := by
    rw [List.take_succ_eq_append_getElem hi, nl_append]
    simp [nl, h]
  refine ⟨?_, hn⟩
  have hum : Up Fl.nm (mid ps ts i L) := up_of_names (mid_names ps ts i L) hu
  rw [mid_at ps ts hi] at hum ⊢
  rw [upd_mid hum]
  unfold mid
  rw [List.take_succ_eq_append_getElem hi, crashL_append]
  simp only [crashL, if_pos h, Nat.zero_add]
  simp
theorem used_append (A B : List Fl) : used (A ++ B) = used A + used B := by simp [used]
theorem Wf.mid {d : DS} (h : Wf d) (ps : List Nat) (ts : List UInt8) (i : Nat) : Wf ⟨mid ps ts i d.L, d.q, -1, false⟩ where
  up := up_of_names (mid_names ps ts i d.L) h.up
  names f hf := by
    have : f.nm ∈ (Disk.mid ps ts i d.L).map Fl.nm := List.mem_map_of_mem hf
    rw [mid_names] at this
    obtain ⟨g, hg, e⟩ := List.mem_map.1 this
    rw [← e]
    exact h.names g hg
  safe f hf := by
    unfold Disk.mid at hf
    rcases List.mem_append.1 hf with hf | hf
    · exact Nat.le_of_eq (crashL_safe ps ts _ 0 (fun g hg => h.safe g (List.mem_of_mem_take hg)) f hf)
    · exact h.safe f (List.mem_of_mem_drop hf)
  many := by
    have := congrArg List.length (mid_names ps ts i d.L)
    rw [List.length_map, List.length_map] at this
    show (Disk.mid ps ts i d.L).length ≤ _
    rw [this]
    exact h.many
  use := by
    show used (Disk.mid ps ts i d.L) ≤ _
    unfold Disk.mid
    rw [used_append]
    have h1 := crashL_used ps ts (d.L.take i) 0 (fun g hg => h.safe g (List.mem_of_mem_take hg))
    have h2 : used (d.L.take i) + used (d.L.drop i) = used d.L := by rw [← used_append, List.take_append_drop]
    have := h.use
    omega
  q0 := h.q0
  q1 := h.q1
  f0 := by show (-1 : Int) ≤ -1; omega
  f1 := by show (-1 : Int) ≤ _; omega
end Disk
