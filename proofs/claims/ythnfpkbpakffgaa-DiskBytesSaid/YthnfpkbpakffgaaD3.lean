/- Several disks at once, beside memory that none of them has. -/
import Derived.Test.YthnfpkbpakffgaaD2
namespace Go.Proofs.Ythnfpkbpakffgaa
open Go.RowKit Go.Maps Go.Sort Go.Shelf
open Disk (Nm Fl DS Up ins del upd fnd okName okByte used Wf fileR)
theorem InD.mono {w : World} {p c m : Nat} {C : List Ent} {d : DS} {S T : Nat → Prop} (h : InD w p c m C d S) (h1 : ∀ b, S b → T b) (h2 : ∀ b, T b → b < w.heap.size) : InD w p c m C d T :=
  ⟨h.ptr, h.plt, h.cont, h.isc, h.L, h.pc, h.pf, h.cf, h1 _ h.Sp, h1 _ h.Sc, fun b hb => h1 b (h.Sf b hb), h2, h.wf⟩
theorem IsD.mono {w : World} {p : Nat} {d : DS} {S T : Nat → Prop} (h : IsD w p d S) (h1 : ∀ b, S b → T b) (h2 : ∀ b, T b → b < w.heap.size) : IsD w p d T := by
  obtain ⟨c, m, C, h⟩ := h
  exact ⟨c, m, C, h.mono h1 h2⟩
/-- These disks lie in blocks of their own; those of K belong to none of them. -/
def Many (w : World) (ds : List (Nat × DS)) (K : Nat → Prop) : Prop :=
  ∃ O : Nat → Option Nat, (∀ i p d, ds[i]? = some (p, d) → IsD w p d (fun b => O b = some i)) ∧ ∀ b, K b → O b = none ∧ b < w.heap.size
theorem Many.isD {w : World} {ds : List (Nat × DS)} {K : Nat → Prop} (h : Many w ds K) {i p : Nat} {d : DS} (hi : ds[i]? = some (p, d)) : ∃ S, IsD w p d S ∧ ∀ b, K b → ¬ S b := by
  obtain ⟨O, h1, h2⟩ := h
  exact ⟨_, h1 i p d hi, fun b hb e => by have h3 : O b = some i := e; rw [(h2 b hb).1] at h3; cases h3⟩
theorem Many.wf {w : World} {ds : List (Nat × DS)} {K : Nat → Prop} (h : Many w ds K) {i p : Nat} {d : DS} (hi : ds[i]? = some (p, d)) : Wf d := by
  obtain ⟨S, h, _⟩ := h.isD hi
  exact h.wf
theorem Many.klt {w : World} {ds : List (Nat × DS)} {K : Nat → Prop} (h : Many w ds K) {b : Nat} (hb : K b) : b < w.heap.size := by
  obtain ⟨O, _, h2⟩ := h
  exact (h2 b hb).2
theorem Many.wrote {w : World} {ds : List (Nat × DS)} {K : Nat → Prop} (h : Many w ds K) {i p : Nat} {d : DS} (hi : ds[i]? = some (p, d)) :
    ∃ S, IsD w p d S ∧ (∀ b, K b → ¬ S b) ∧ ∀ d' w', WroteD w p S d' w' → Many w' (ds.set i (p, d')) K ∧ But (fun b => ¬ K b) w w' := by
  obtain ⟨O, h1, h2⟩ := h
  have hd := h1 i p d hi
  have hil : i < ds.length := by
    rcases Nat.lt_or_ge i ds.length with h | h
    · exact h
    · rw [List.getElem?_eq_none h] at hi; cases hi
  refine ⟨fun b => O b = some i, hd, (fun b hb e => by have h3 : O b = some i := e; rw [(h2 b hb).1] at h3; cases h3), fun d' w' hw => ?_⟩
  obtain ⟨S', g1, g2, g3⟩ := hw
  classical
  refine ⟨⟨fun b => if b < w.heap.size then O b else if S' b then some i else none, fun j q e hj => ?_, fun b hb => ?_⟩, g2.sub fun b hb hk => by rw [(h2 b hk).1] at hb; cases hb⟩
  · by_cases hij : i = j
    · subst hij
      rw [List.getElem?_set_self hil] at hj
      injection hj with hj
      injection hj with e1 e2
      subst e1 e2
      refine g1.mono (fun b hb => ?_) (fun b hb => ?_)
      · show (if b < w.heap.size then O b else if S' b then some i else none) = some i
        by_cases hlt : b < w.heap.size
        · rw [if_pos hlt]
          rcases g3 b hb with h | h
          · exact h
          · omega
        · rw [if_neg hlt, if_pos hb]
      · have hb' : (if b < w.heap.size then O b else if S' b then some i else none) = some i := hb
        by_cases hlt : b < w.heap.size
        · exact Nat.lt_of_lt_of_le hlt g2.size
        · rw [if_neg hlt] at hb'
          by_cases hS : S' b
          · exact g1.lt b hS
          · rw [if_neg hS] at hb'; cases hb'
    · rw [List.getElem?_set_ne hij] at hj
      have he := h1 j q e hj
      refine (he.but g2 fun b hb hbi => by rw [show O b = some j from hb] at hbi; injection hbi with hbi; exact hij hbi.symm).mono (fun b hb => ?_) (fun b hb => ?_)
      · show (if b < w.heap.size then O b else if S' b then some i else none) = some j
        rw [if_pos (he.lt b hb)]
        exact hb
      · have hb' : (if b < w.heap.size then O b else if S' b then some i else none) = some j := hb
        by_cases hlt : b < w.heap.size
        · exact Nat.lt_of_lt_of_le hlt g2.size
        · rw [if_neg hlt] at hb'
          by_cases hS : S' b
          · rw [if_pos hS] at hb'; injection hb' with hb'; exact absurd hb' hij
          · rw [if_neg hS] at hb'; cases hb'
  · refine ⟨?_, Nat.lt_of_lt_of_le (h2 b hb).2 g2.size⟩
    show (if b < w.heap.size then O b else if S' b then some i else none) = none
    rw [if_pos (h2 b hb).2]
    exact (h2 b hb).1
/-- New memory may be kept. -/
theorem Many.keep {w w' : World} {ds : List (Nat × DS)} {K K' : Nat → Prop} (h : Many w ds K) (hb : Below w.heap.size w w') (hk : ∀ b, K' b → K b ∨ (w.heap.size ≤ b ∧ b < w'.heap.size)) : Many w' ds K' := by
  obtain ⟨O, h1, h2⟩ := h
  refine ⟨fun b => if b < w.heap.size then O b else none, fun i p d hi => ?_, fun b hb' => ?_⟩
  · have hd := h1 i p d hi
    refine (hd.below hb).mono (fun b hb' => ?_) (fun b hb' => ?_)
    · show (if b < w.heap.size then O b else none) = some i
      rw [if_pos (hd.lt b hb')]
      exact hb'
    · have hb2 : (if b < w.heap.size then O b else none) = some i := hb'
      by_cases hlt : b < w.heap.size
      · exact Nat.lt_of_lt_of_le hlt hb.size
      · rw [if_neg hlt] at hb2; cases hb2
  · show (if b < w.heap.size then O b else none) = none ∧ _
    rcases hk b hb' with h | ⟨h, h3⟩
    · rw [if_pos (h2 b h).2]
      exact ⟨(h2 b h).1, Nat.lt_of_lt_of_le (h2 b h).2 hb.size⟩
    · rw [if_neg (by omega)]
      exact ⟨rfl, h3⟩
theorem Many.below {w w' : World} {ds : List (Nat × DS)} {K : Nat → Prop} (h : Many w ds K) (hb : Below w.heap.size w w') : Many w' ds K := h.keep hb fun _ h => .inl h
/-- Memory that is kept may be changed. -/
theorem Many.turned {w w' : World} {ds : List (Nat × DS)} {K T : Nat → Prop} (h : Many w ds K) (hb : But T w w') (ht : ∀ b, T b → K b) : Many w' ds K := by
  obtain ⟨O, h1, h2⟩ := h
  refine ⟨O, fun i p d hi => (h1 i p d hi).but hb fun b hb' hT => ?_, fun b hb' => ⟨(h2 b hb').1, Nat.lt_of_lt_of_le (h2 b hb').2 hb.size⟩⟩
  have h3 := (h2 b (ht b hT)).1
  have h4 : O b = some i := hb'
  rw [h3] at h4
  cases h4
theorem Many.less {w : World} {ds : List (Nat × DS)} {K K' : Nat → Prop} (h : Many w ds K) (hk : ∀ b, K' b → K b) : Many w ds K' := by
  obtain ⟨O, h1, h2⟩ := h
  exact ⟨O, h1, fun b hb => h2 b (hk b hb)⟩
/-- One more disk, in new memory. -/
theorem Many.add {w w' : World} {ds : List (Nat × DS)} {K : Nat → Prop} (h : Many w ds K) (hb : Below w.heap.size w w') {q : Nat} {e : DS} {T : Nat → Prop} (hq : IsD w' q e T) (ht : ∀ b, T b → w.heap.size ≤ b) : Many w' (ds ++ [(q, e)]) K := by
  obtain ⟨O, h1, h2⟩ := h
  classical
  refine ⟨fun b => if b < w.heap.size then O b else if T b then some ds.length else none, fun i p d hi => ?_, fun b hb' => ?_⟩
  · by_cases hlt : i < ds.length
    · rw [List.getElem?_append_left hlt] at hi
      have hd := h1 i p d hi
      refine (hd.below hb).mono (fun b hb' => ?_) (fun b hb' => ?_)
      · show (if b < w.heap.size then O b else if T b then some ds.length else none) = some i
        rw [if_pos (hd.lt b hb')]
        exact hb'
      · have hb2 : (if b < w.heap.size then O b else if T b then some ds.length else none) = some i := hb'
        by_cases hl : b < w.heap.size
        · exact Nat.lt_of_lt_of_le hl hb.size
        · rw [if_neg hl] at hb2
          by_cases hT : T b
          · exact hq.lt b hT
          · rw [if_neg hT] at hb2; cases hb2
    · rw [List.getElem?_append_right (by omega)] at hi
      have h0 : i = ds.length := by
        rcases Nat.eq_zero_or_pos (i - ds.length) with h | h
        · omega
        · rw [List.getElem?_eq_none (by simp; omega)] at hi; cases hi
      subst h0
      rw [Nat.sub_self] at hi
      injection hi with hi
      injection hi with e1 e2
      subst e1 e2
      classical
      refine (hq.mono (T := fun b => T b ∨ (b < w.heap.size ∧ O b = some ds.length)) (fun b hb' => .inl hb') (fun b hb' => ?_)).mono (fun b hb' => ?_) (fun b hb' => ?_)
      · rcases hb' with h | h
        · exact hq.lt b h
        · exact Nat.lt_of_lt_of_le h.1 hb.size
      · show (if b < w.heap.size then O b else if T b then some ds.length else none) = some ds.length
        rcases hb' with h | h
        · rw [if_neg (by have := ht b h; omega), if_pos h]
        · rw [if_pos h.1]; exact h.2
      · have hb2 : (if b < w.heap.size then O b else if T b then some ds.length else none) = some ds.length := hb'
        by_cases hl : b < w.heap.size
        · exact Nat.lt_of_lt_of_le hl hb.size
        · rw [if_neg hl] at hb2
          by_cases hT : T b
          · exact hq.lt b hT
          · rw [if_neg hT] at hb2; cases hb2
  · show (if b < w.heap.size then O b else if T b then some ds.length else none) = none ∧ _
    rw [if_pos (h2 b hb').2]
    exact ⟨(h2 b hb').1, Nat.lt_of_lt_of_le (h2 b hb').2 hb.size⟩
/-- The disks that are asked no more are left out. -/
theorem Many.pick {w : World} {ds es : List (Nat × DS)} {K : Nat → Prop} (h : Many w ds K) (f : Nat → Nat) (hf : ∀ i j, i < es.length → j < es.length → f i = f j → i = j) (he : ∀ i, i < es.length → es[i]? = ds[f i]?) : Many w es K := by
  obtain ⟨O, h1, h2⟩ := h
  classical
  refine ⟨fun b => if h : ∃ i, i < es.length ∧ O b = some (f i) then some h.choose else none, fun i p d hi => ?_, fun b hb => ?_⟩
  · have hil : i < es.length := by
      rcases Nat.lt_or_ge i es.length with h | h
      · exact h
      · rw [List.getElem?_eq_none h] at hi; cases hi
    have hd := h1 (f i) p d (by rw [← he i hil]; exact hi)
    refine hd.mono (fun b hb => ?_) (fun b hb => ?_)
    · have hb' : O b = some (f i) := hb
      have hex : ∃ i, i < es.length ∧ O b = some (f i) := ⟨i, hil, hb'⟩
      show (if h : ∃ i, i < es.length ∧ O b = some (f i) then some h.choose else none) = some i
      rw [dif_pos hex]
      obtain ⟨c1, c2⟩ := hex.choose_spec
      have c3 : some (f i) = some (f hex.choose) := hb'.symm.trans c2
      injection c3 with c3
      exact congrArg some (hf _ _ c1 hil c3.symm)
    · have hb2 : (if h : ∃ i, i < es.length ∧ O b = some (f i) then some h.choose else none) = some i := hb
      by_cases hex : ∃ i, i < es.length ∧ O b = some (f i)
      · rw [dif_pos hex] at hb2
        injection hb2 with hb2
        exact hd.lt b (hex.choose_spec.2.trans (congrArg (fun j => some (f j)) hb2))
      · rw [dif_neg hex] at hb2; cases hb2
  · refine ⟨?_, (h2 b hb).2⟩
    show (if h : ∃ i, i < es.length ∧ O b = some (f i) then some h.choose else none) = none
    rw [dif_neg]
    rintro ⟨i, _, hi⟩
    rw [(h2 b hb).1] at hi
    cases hi
theorem many_one {w w' : World} {p : Nat} {d : DS} {S K : Nat → Prop} (h : IsD w' p d S) (hS : ∀ b, S b → w.heap.size ≤ b) (hb : Below w.heap.size w w') (hK : ∀ b, K b → b < w.heap.size) : Many w' [(p, d)] K := by
  have h0 : Many w [] K := ⟨fun _ => none, fun i p d hi => by simp at hi, fun b hb => ⟨rfl, hK b hb⟩⟩
  exact h0.add hb h hS
theorem NAt.but {T : Nat → Prop} {w w' : World} {A : Option Addr} {xs : List ByteArray} (h : NAt w A xs) (hb : But T w w') (hn : ∀ bb off, A = some ⟨bb, off, none⟩ → ¬ T bb) : NAt w' A xs := fun h0 => by
  obtain ⟨b, off, e, hl, hc⟩ := h h0
  exact ⟨b, off, e, Nat.lt_of_lt_of_le hl hb.size, fun i hi => (hb.cell b (off + i) hl (hn b off e)).trans (hc i hi)⟩
/-- Memory in K is as it was. -/
abbrev Kept (K : Nat → Prop) (w w' : World) : Prop := But (fun b => ¬ K b) w w'
theorem Kept.below {K : Nat → Prop} {w w' : World} {B : Nat} (h : Kept K w w') (hB : ∀ b, b < B → K b) (hs : B ≤ w.heap.size) : Below B w w' :=
  But.below h (fun b hb => by
    rcases Nat.lt_or_ge b B with h1 | h1
    · exact absurd (hB b h1) hb
    · exact h1) hs
theorem Kept.trans {K : Nat → Prop} {a b c : World} (h : Kept K a b) (k : Kept K b c) : Kept K a c := But.trans h k fun _ h => .inl h
theorem Kept.of_below {K : Nat → Prop} {a b : World} (h : Below a.heap.size a b) : Kept K a b := But.of_below h
end Go.Proofs.Ythnfpkbpakffgaa
