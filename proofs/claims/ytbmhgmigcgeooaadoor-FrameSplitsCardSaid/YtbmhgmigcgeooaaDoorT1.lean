/- The statement FrameTorn, walked. -/
import Derived.Test.YtbmhgmigcgeooaaDoorL2
namespace Go.Proofs.YtbmhgmigcgeooaaDoor
open Go.RowKit
theorem cellsX_get (L : List Fx) : ∀ (i : Nat) (h : i < L.length), (cellsX L)[i * 2]? = some (.int .i64 (L[i].f.k : Int)) ∧ (cellsX L)[i * 2 + 1]? = some (.slice (bodyA L[i].g L[i].f.l.length) L[i].f.l.length L[i].f.l.length) := by
  induction L with
  | nil => intro i h; exact absurd h (by simp)
  | cons x L ih =>
    intro i h
    cases i with
    | zero => exact ⟨by simp [cellsX], by simp [cellsX]⟩
    | succ i =>
      have := ih i (by simpa using h)
      have e : cellsX (x :: L) = .int .i64 (x.f.k : Int) :: .slice (bodyA x.g x.f.l.length) x.f.l.length x.f.l.length :: cellsX L := by simp [cellsX]
      rw [e, show (i + 1) * 2 = i * 2 + 1 + 1 by omega]
      exact this
theorem cellsI_get (L : List Fi) : ∀ (i : Nat) (h : i < L.length), (cellsI L)[i * 2]? = some (.int .i64 (L[i].f.k : Int)) ∧ (cellsI L)[i * 2 + 1]? = some (.slice L[i].A L[i].f.l.length L[i].c) := by
  induction L with
  | nil => intro i h; exact absurd h (by simp)
  | cons x L ih =>
    intro i h
    cases i with
    | zero => exact ⟨by simp [cellsI], by simp [cellsI]⟩
    | succ i =>
      have := ih i (by simpa using h)
      have e : cellsI (x :: L) = .int .i64 (x.f.k : Int) :: .slice x.A x.f.l.length x.c :: cellsI L := by simp [cellsI]
      rw [e, show (i + 1) * 2 = i * 2 + 1 + 1 by omega]
      exact this
/-- Those that are whole, by steps. -/
theorem wholeL_stop : ∀ (L : List Fr) (n j : Nat), j ≤ L.length → sizeL (L.take j) ≤ n → (∀ h : j < L.length, n < sizeL (L.take j) + L[j].size) → wholeL L n = L.take j
  | [], n, j, hj, _, _ => by
    have : j = 0 := by simpa using hj
    subst this
    rfl
  | f :: L, n, 0, _, _, h => by
    have := h (by simp)
    unfold wholeL
    rw [if_neg (by simp [sizeL] at this; omega)]
    rfl
  | f :: L, n, j + 1, hj, h1, h2 => by
    rw [List.take_succ_cons, sizeL_cons] at h1
    unfold wholeL
    rw [if_pos (by omega), wholeL_stop L (n - f.size) j (by simpa using hj) (by omega) (fun h => by
      have := h2 (by simpa using h)
      rw [List.take_succ_cons, sizeL_cons, List.getElem_cons_succ] at this
      omega)]
    rfl
theorem sizeL_take (L : List Fr) (j : Nat) (h : j < L.length) : sizeL (L.take (j + 1)) = sizeL (L.take j) + L[j].size := by
  rw [List.take_succ_eq_append_getElem h, sizeL_snoc]
theorem sizeL_take_le (L : List Fr) (j : Nat) : sizeL (L.take j) ≤ sizeL L := by
  conv => rhs; rw [← List.take_append_drop j L, sizeL_append]
  omega
theorem split_at (L : List Fr) (j : Nat) (h : j < L.length) : L = L.take j ++ L[j] :: L.drop (j + 1) := by
  rw [← List.drop_eq_getElem_cons h, List.take_append_drop]
theorem takeI (L : List Fi) (j : Nat) (h : j < L.length) : sizeL ((frsI L).take (j + 1)) = sizeL ((frsI L).take j) + L[j].f.size := by
  rw [sizeL_take (frsI L) j (by simpa [frsI] using h)]
  simp [frsI]
/-- The law's frames and what they laid, read at a place. -/
theorem LaidM.part {w W : World} {vl vo : Value} {L : List Fi} {Ps : List Px} (h : LaidM w W vl vo L Ps) {j : Nat} (hj : j < L.length) : ∃ g cap G c, vo = .slice (some ⟨g, 0, none⟩) L.length cap ∧ W.cell? ⟨g, j, none⟩ = some (.slice (some ⟨G, 0, none⟩) (L[j].f.size) c) := by
  have hlen := h.len
  have hjp : j < Ps.length := by omega
  obtain ⟨g, cap, e, hc⟩ := row_form h.ro (by omega)
  rw [hlen] at e
  have e2 := hc j _ (by rw [cellsP, List.getElem?_map, List.getElem?_eq_getElem hjp]; rfl)
  refine ⟨g, cap, Ps[j].g, Ps[j].c, e, ?_⟩
  have hl : Ps[j].l = putL (L[j].f) := by
    have := congrArg (fun l => l[j]?) h.laid
    simp only [List.getElem?_map, List.getElem?_eq_getElem hjp, List.getElem?_eq_getElem hj, Option.map_some] at this
    exact Option.some.inj this
  rw [e2]
  show some (Value.slice _ Ps[j].l.length _) = _
  rw [hl, putL_length]
/-- Slices told in a form: a row and its cells. -/
theorem rows_pair {w W : World} {vl vo : Value} {L : List Fi} {Ps : List Px} (h : LaidM w W vl vo L Ps) {ws w2 : World} {b : List UInt8} {v : Value} {X : List Fx} (hs : Splits ws b v X w2) (hb : framesL b = frsI L) {W' : World} (h1 : Below W.heap.size W W') (h2 : Below w2.heap.size w2 W') {i : Nat} (hi : i < L.length) :
    ∃ g1 c1 g2 c2 k n A2 cc A1, ∃ l : List UInt8, vl = .slice (some ⟨g1, 0, none⟩) L.length c1 ∧ v = .slice (some ⟨g2, 0, none⟩) L.length c2 ∧ W'.cell? ⟨g1, i * 2, none⟩ = some (.int .i64 k) ∧ W'.cell? ⟨g1, i * 2 + 1, none⟩ = some (.slice A1 n cc) ∧ W'.cell? ⟨g2, i * 2, none⟩ = some (.int .i64 k) ∧ W'.cell? ⟨g2, i * 2 + 1, none⟩ = some (.slice A2 n n) ∧ At W' A1 l ∧ At W' A2 l ∧ l.length = n := by
  have hX : frs X = frsI L := by have := hs.read.all; rw [List.append_nil, hb] at this; exact this.symm
  have hlen : X.length = L.length := by simpa [frs, frsI] using congrArg List.length hX
  have hiX : i < X.length := by omega
  have hf : X[i].f = L[i].f := by
    have := congrArg (fun l => l[i]?) hX
    simp only [frs, frsI, List.getElem?_map, List.getElem?_eq_getElem hiX, List.getElem?_eq_getElem hi, Option.map_some] at this
    exact Option.some.inj this
  obtain ⟨g1, c1, e1, q1⟩ := row_form h.rl (by omega)
  obtain ⟨g2, c2, e2, q2⟩ := row_form hs.row (by omega)
  obtain ⟨a1, a2⟩ := cellsI_get L i hi
  obtain ⟨b1, b2⟩ := cellsX_get X i hiX
  have lt : ∀ {V : World} {ad : Addr} {u : Value}, V.cell? ad = some u → ad.block < V.heap.size := fun h => by
    obtain ⟨o, ho, _⟩ := cells_of_cell h
    exact (Array.getElem?_eq_some_iff.1 ho).1
  have m1 := q1 _ _ a1
  have m2 := q1 _ _ a2
  have m3 := q2 _ _ b1
  have m4 := q2 _ _ b2
  refine ⟨g1, c1, g2, c2, L[i].f.k, L[i].f.l.length, bodyA X[i].g X[i].f.l.length, L[i].c, L[i].A, L[i].f.l, e1, by rw [e2, hlen], (h1.cell (p := ⟨g1, i * 2, none⟩) (lt m1)).trans m1, (h1.cell (p := ⟨g1, i * 2 + 1, none⟩) (lt m2)).trans m2, ?_, ?_, ((h.at_ L[i] (List.getElem_mem hi)).1.below (h.below.trans (h1.mono h.below.size))), ?_, rfl⟩
  · rw [← hf]; exact (h2.cell (p := ⟨g2, i * 2, none⟩) (lt m3)).trans m3
  · have := (h2.cell (p := ⟨g2, i * 2 + 1, none⟩) (lt m4)).trans m4
    rw [this, hf]
  · have := (hs.body X[i] (List.getElem_mem hiX)).at_.below h2
    rw [hf] at this ⊢
    exact this
end Go.Proofs.YtbmhgmigcgeooaaDoor
