/- What was laid, joined. -/
import Derived.Test.YtbmhgmigcgeooaaDoorL1
namespace Go.Proofs.YtbmhgmigcgeooaaDoor
open Go.RowKit
/-- A slice of these bytes. -/
def PlainS (W : World) (v : Value) (l : List UInt8) : Prop := ∃ A c, v = .slice A l.length c ∧ (A = none → c = 0) ∧ (∀ ad, A = some ad → ∃ bb off, ad = ⟨bb, off, none⟩) ∧ l.length ≤ c ∧ At W A l
theorem plain_fresh {B : Nat} {W : World} {v : Value} {l : List UInt8} (h : Lib.FreshBytes B W v l) : PlainS W v l := by
  obtain ⟨g, cap, zs, rfl, _, hl, _, hz, hr, hb, hc, _⟩ := h
  refine ⟨_, cap, rfl, (fun e => by cases e), fun ad e => by cases e; exact ⟨_, _, rfl⟩, hl, fun h0 => ?_⟩
  have hlt : g < W.heap.size := by
    obtain ⟨o, ho, _⟩ := cells_of_cell (hc 0 (by omega))
    exact (Array.getElem?_eq_some_iff.1 ho).1
  refine ⟨g, 0, rfl, hlt, fun i hi => ?_⟩
  rw [Nat.zero_add, hc i (by omega)]
  have hzi : i < zs.length := by omega
  have e : l.getD i 0 = UInt8.ofNat (zs.getD i 0).toNat := by
    rw [← hb]
    simp [Lib.bytesOf, List.getD, hzi, hi]
  rw [e]
  unfold bv
  rw [byte_ofNat]
  have := hr (zs.getD i 0) (by simp [List.getD, hzi])
  congr 2
  omega
theorem join_empty (ls : List (List UInt8)) : Lib.join ls [] = ls.flatten := by
  cases ls with
  | nil => rfl
  | cons x r =>
    rw [Lib.join_cons, Lib.joinTail]
    simp
theorem lens_flatten (ls : List (List UInt8)) : Lib.lens ls = ls.flatten.length := by
  simp [Lib.lens, List.length_flatten]
def frsI (L : List Fi) : List Fr := L.map Fi.f
theorem laid_all {w W : World} {vl vo : Value} {L : List Fi} {Ps : List Px} (h : LaidM w W vl vo L Ps) : (Ps.map Px.l).flatten = allL (frsI L) := by
  rw [h.laid, allL, frsI, List.map_map]
  rfl
theorem sizeL_le : ∀ (L : List Fr) (_ : ∀ f ∈ L, f.ok), sizeL L ≤ 2055 * L.length
  | [], _ => by simp [sizeL]
  | f :: L, h => by
    have h1 := sizeL_le L (fun x hx => h x (by simp [hx]))
    have h2 := (h f (by simp)).2.2
    rw [sizeL_cons, List.length_cons, Fr.size]
    omega
theorem frsI_ok {w W : World} {vl vo : Value} {L : List Fi} {Ps : List Px} (h : LaidM w W vl vo L Ps) : ∀ f ∈ frsI L, f.ok := by
  intro f hf
  obtain ⟨y, hy, rfl⟩ := List.mem_map.1 hf
  exact h.ok y hy
theorem join_laid {w W : World} {vl vo : Value} {L : List Fi} {Ps : List Px} (h : LaidM w W vl vo L Ps) (hl : L.length ≤ 30) :
    Calls Tryd.prog 20 #[vo, .slice none 0 0] W fun e W' => ∃ v, e = .returned v ∧ PlainS W' v (allL (frsI L)) ∧ Below W.heap.size W W' := by
  have hlen := h.len
  have hall := laid_all h
  have hsz : (allL (frsI L)).length ≤ 61650 := by
    rw [allL_length]
    have := sizeL_le (frsI L) (frsI_ok h)
    rw [frsI, List.length_map] at this
    unfold frsI
    omega
  have ro := h.ro
  have pat := h.pat
  clear h
  match Ps, hlen with
  | [], hlen =>
    have hv : vo = .slice none 0 0 ∨ ∃ g cap, vo = .slice (some ⟨g, 0, none⟩) 0 cap := by
      rcases ro.2 with ⟨e, _⟩ | ⟨g, cap, _, e, _⟩
      · exact .inl e
      · exact .inr ⟨g, cap, e⟩
    have he : allL (frsI L) = [] := by rw [← hall]; rfl
    rw [he]
    have fin : ∀ p c, Calls Tryd.prog 20 #[.slice p 0 c, .slice none 0 0] W fun e W' => ∃ v, e = .returned v ∧ PlainS W' v [] ∧ Below W.heap.size W W' := fun p c => (bytes_Join_none p c (.slice none 0 0) W).mono fun e w' ⟨h1, h2⟩ => ⟨_, h1, ⟨some ⟨W.heap.size, 0, none⟩, 0, rfl, (fun e => by cases e), (fun ad e => by cases e; exact ⟨_, _, rfl⟩), Nat.le_refl _, at_nil _ _⟩, by rw [h2]; exact (Below.refl _ _).alloc (Nat.le_refl _) _⟩
    rcases hv with rfl | ⟨g, cap, rfl⟩
    · exact fin _ _
    · exact fin _ _
  | [p], hlen =>
    obtain ⟨g, cap, rfl, hc⟩ := row_form ro (Nat.zero_lt_one)
    obtain ⟨hm, hpc⟩ := pat p (by simp)
    have he : allL (frsI L) = p.l := by rw [← hall]; simp
    rw [he]
    have h0 : 0 < p.l.length := by
      rw [← he, allL_length]
      match L, hlen with
      | [y], _ => simp [frsI, sizeL, Fr.size]
    refine (bytes_Join_one g 0 cap ⟨p.g, 0, none⟩ p.c p.l (.slice none 0 0) W (hc 0 _ (by simp [cellsP])) (fun i x hx => ?_) h0 (by rw [← he]; omega)).mono ?_
    · have hi : i < p.l.length := by
        rcases Nat.lt_or_ge i p.l.length with h1 | h1
        · exact h1
        · rw [List.getElem?_eq_none h1] at hx; cases hx
      rw [add_plain, Nat.zero_add, hm.cell i hi]
      unfold bv
      simp [List.getD, hx]
    · rintro e w' ⟨v, rfl, hf, hb⟩
      exact ⟨v, rfl, plain_fresh hf, hb⟩
  | p :: q :: r, hlen =>
    obtain ⟨g, cap, rfl, hc⟩ := row_form ro (by simp)
    have hcap : (p :: q :: r).length ≤ cap := by
      rcases ro.2 with ⟨e, _⟩ | ⟨_, _, _, e, _, _, hn, _⟩
      · cases e
      · injection e with _ _ e3
        omega
    generalize hPs : p :: q :: r = Ps at *
    have h2 : 2 ≤ Ps.length := by rw [← hPs]; simp
    rw [← hall, ← join_empty]
    refine (bytes_Join_many g 0 Ps.length cap (cellsP Ps) (Ps.map Px.l) (.slice none 0 0) [] W (by simp) h2 ⟨by simp [cellsP], fun i v hv => ?_, fun i v l hv hl => ?_⟩ hcap ⟨none, 0, rfl, fun _ => rfl, fun a e => by cases e⟩ (by omega) ?_).mono ?_
    · rw [add_plain, Nat.zero_add]
      exact hc i v hv
    · rw [cellsP, List.getElem?_map] at hv
      rw [List.getElem?_map] at hl
      cases hp : Ps[i]? with
      | none => rw [hp] at hv; cases hv
      | some x =>
        rw [hp] at hv hl
        cases hv
        cases hl
        obtain ⟨hm, _⟩ := pat x (List.mem_of_getElem? hp)
        refine ⟨_, x.c, rfl, (fun e => by cases e), fun a e j y hy => ?_⟩
        cases e
        have hj : j < x.l.length := by
          rcases Nat.lt_or_ge j x.l.length with h1 | h1
          · exact h1
          · rw [List.getElem?_eq_none h1] at hy; cases hy
        rw [add_plain, Nat.zero_add, hm.cell j hj]
        unfold bv
        simp [List.getD, hy]
    · rw [lens_flatten, hall]
      simp
      omega
    · rintro e w' ⟨v, rfl, hf, hb⟩
      exact ⟨v, rfl, plain_fresh hf, hb⟩
end Go.Proofs.YtbmhgmigcgeooaaDoor
