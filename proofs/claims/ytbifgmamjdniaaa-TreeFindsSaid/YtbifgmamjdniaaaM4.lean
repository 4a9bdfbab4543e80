/- A tree beside a map of its entries, and the blocks that stay. -/
import Derived.Test.YtbifgmamjdniaaaM1
namespace Go.Proofs.Ytbifgmamjdniaaa
open Go.RowKit Go.Maps
open Itree (E T dep endT bs ord sz nodes lean rotL rotR bal ins del hasT first AVL Srt eachL over)
/-- X: the blocks that stay. -/
def Fd (W w : World) (X : List Nat) (q bm n : Nat) (L K : List E) : Prop := ∃ R, TL w q R L ∧ (∀ k ∈ q :: R, W.heap.size ≤ k ∧ k ≠ bm ∧ k ∉ X) ∧ Below W.heap.size W w ∧ MapS kkE w bm n K ∧ W.heap.size ≤ bm ∧ ∀ k ∈ X, k < w.heap.size ∧ k ≠ bm
def SameX (X : List Nat) (w w' : World) : Prop := ∀ k ∈ X, ∀ o, w'.cell? ⟨k, o, none⟩ = w.cell? ⟨k, o, none⟩
theorem Fd.since {W w : World} {X : List Nat} {q bm n : Nat} {L K : List E} (h : Fd W w X q bm n L K) : Below W.heap.size W w := by
  obtain ⟨R, h1, h2, h3, h4, h5, h6⟩ := h
  exact h3
theorem Fd.map {W w : World} {X : List Nat} {q bm n : Nat} {L K : List E} (h : Fd W w X q bm n L K) : MapS kkE w bm n K := by
  obtain ⟨R, h1, h2, h3, h4, h5, h6⟩ := h
  exact h4
theorem Fd.srt {W w : World} {X : List Nat} {q bm n : Nat} {L K : List E} (h : Fd W w X q bm n L K) : Srt L := by
  obtain ⟨R, h1, h2, h3, h4, h5, h6⟩ := h
  exact h1.srt
theorem Fd.may {W w : World} {X : List Nat} {q bm n : Nat} {L K : List E} (h : Fd W w X q bm n L K) : ∀ e ∈ L, mayB e.a e.b = true := by
  obtain ⟨R, h1, h2, h3, h4, h5, h6⟩ := h
  exact h1.may
theorem Fd.x {W w : World} {X : List Nat} {q bm n : Nat} {L K : List E} (h : Fd W w X q bm n L K) : ∀ k ∈ X, k < w.heap.size := by
  obtain ⟨R, h1, h2, h3, h4, h5, h6⟩ := h
  exact fun k hk => (h6 k hk).1
theorem Fd.below {W w w' : World} {X : List Nat} {q bm n : Nat} {L K : List E} (h : Fd W w X q bm n L K) (hb : Below w.heap.size w w') : Fd W w' X q bm n L K := by
  obtain ⟨R, h1, h2, h3, h4, h5, h6⟩ := h
  exact ⟨R, h1.below hb, h2, h3.trans (hb.mono h3.size), h4.below hb, h5, fun k hk => ⟨Nat.lt_of_lt_of_le (h6 k hk).1 hb.size, (h6 k hk).2⟩⟩
theorem Fd.push {W w w' : World} {X : List Nat} {q bm n : Nat} {L K : List E} (h : Fd W w X q bm n L K) (o : Obj) (hw : w' = w.alloc o) : Fd W w' (w.heap.size :: X) q bm n L K := by
  subst hw
  obtain ⟨R, h1, h2, h3, h4, h5, h6⟩ := h
  have hb : Below w.heap.size w (w.alloc o) := (Below.refl _ _).alloc (Nat.le_refl _) _
  have := h4.lt
  refine ⟨R, h1.below hb, fun k hk => ⟨(h2 k hk).1, (h2 k hk).2.1, ?_⟩, h3.trans (hb.mono h3.size), h4.below hb, h5, fun k hk => ?_⟩
  · have := h1.lt k hk
    simp only [List.mem_cons, not_or]
    exact ⟨by omega, (h2 k hk).2.2⟩
  · rcases List.mem_cons.1 hk with rfl | hk
    · exact ⟨by simp, by omega⟩
    · exact ⟨Nat.lt_of_lt_of_le (h6 k hk).1 hb.size, (h6 k hk).2⟩
theorem Fd.pop {W w : World} {X X' : List Nat} {q bm n : Nat} {L K : List E} (h : Fd W w X q bm n L K) (hs : ∀ k ∈ X', k ∈ X) : Fd W w X' q bm n L K := by
  obtain ⟨R, h1, h2, h3, h4, h5, h6⟩ := h
  exact ⟨R, h1, fun k hk => ⟨(h2 k hk).1, (h2 k hk).2.1, fun hm => (h2 k hk).2.2 (hs k hm)⟩, h3, h4, h5, fun k hk => h6 k (hs k hk)⟩
theorem Fd.same {W w : World} {X : List Nat} {q bm n : Nat} {L K K' : List E} (h : Fd W w X q bm n L K) (hm : ∀ x, x ∈ K' ↔ x ∈ K) (hl : K'.length = K.length) : Fd W w X q bm n L K' := by
  obtain ⟨R, h1, h2, h3, h4, h5, h6⟩ := h
  exact ⟨R, h1, h2, h3, h4.same hm hl, h5, h6⟩
theorem Fd.new {W w w' : World} {q : Nat} {R : List Nat} {X : List Nat} (hb : Below W.heap.size W w) (h : TL w q R []) (hf : ∀ k ∈ q :: R, W.heap.size ≤ k ∧ k ∉ X) (hx : ∀ k ∈ X, k < w.heap.size) (hw : w' = w.alloc (.map #[] 0)) : Fd W w' X q w.heap.size 0 [] [] := by
  subst hw
  have hb2 : Below w.heap.size w (w.alloc (.map #[] 0)) := (Below.refl _ _).alloc (Nat.le_refl _) _
  exact ⟨R, h.below hb2, fun k hk => ⟨(hf k hk).1, by have := h.lt k hk; omega, (hf k hk).2⟩, hb.alloc hb.size _, MapS.made kkE w, hb.size, fun k hk => ⟨by have := hx k hk; simp; omega, by have := hx k hk; omega⟩⟩
theorem Fd.wrote {W w w' : World} {X : List Nat} {q bm n : Nat} {R : List Nat} {L K : List E} (h2 : ∀ k ∈ q :: R, W.heap.size ≤ k ∧ k ≠ bm ∧ k ∉ X) (h3 : Below W.heap.size W w) (h4 : MapS kkE w bm n K) (h5 : W.heap.size ≤ bm) (h6 : ∀ k ∈ X, k < w.heap.size ∧ k ≠ bm) (h : Wrote w q R L w') : Fd W w' X q bm n L K ∧ SameX X w w' := by
  obtain ⟨R', t, b, hf⟩ := h
  have hlt := h4.lt
  refine ⟨⟨R', t, fun k hk => ?_, h3.trans (b.below (fun x hx => (h2 x (by simp [hx])).1) h3.size), h4.but b (fun hm => (h2 bm (by simp [hm])).2.1 rfl), h5, fun k hk => ⟨Nat.lt_of_lt_of_le (h6 k hk).1 b.size, (h6 k hk).2⟩⟩, fun k hk o => b.cell k o (h6 k hk).1 (fun hm => (h2 k (by simp [hm])).2.2 hk)⟩
  rcases List.mem_cons.1 hk with rfl | hk
  · exact h2 k (by simp)
  · rcases hf k hk with h | h
    · exact h2 k (by simp [h])
    · have := h3.size
      exact ⟨by omega, by omega, fun hm => by have := (h6 k hm).1; omega⟩
theorem fdInsert (x : E) {W w : World} {X : List Nat} {q bm n : Nat} {L K : List E} (h : Fd W w X q bm n L K) (h0 : 0 ≤ x.a) (hs : L.length ≤ 800) :
    Calls Try.prog 9 #[.pointer (some ⟨q, 0, none⟩), .agg #[.int .u64 x.a, .int .u64 x.b], .int .u64 x.n] w fun e w' => e = .returned (.int .i64 (insR x L)) ∧ Fd W w' X q bm n (insL x L) K ∧ SameX X w w' := by
  obtain ⟨R, h1, h2, h3, h4, h5, h6⟩ := h
  refine (cInsert x q R L w h1 h0 hs).mono ?_
  rintro e w' ⟨rfl, h⟩
  exact ⟨rfl, Fd.wrote h2 h3 h4 h5 h6 h⟩
theorem fdDelete (x : E) {W w : World} {X : List Nat} {q bm n : Nat} {L K : List E} (h : Fd W w X q bm n L K) (hs : L.length ≤ 800) :
    Calls Try.prog 11 #[.pointer (some ⟨q, 0, none⟩), .agg #[.int .u64 x.a, .int .u64 x.b], .int .u64 x.n] w fun e w' => e = .returned (.int .i64 (delR x L)) ∧ Fd W w' X q bm n (delL x L) K ∧ SameX X w w' := by
  obtain ⟨R, h1, h2, h3, h4, h5, h6⟩ := h
  refine (cDelete x q R L w h1 hs).mono ?_
  rintro e w' ⟨rfl, h⟩
  exact ⟨rfl, Fd.wrote h2 h3 h4 h5 h6 h⟩
theorem Fd.turned {W w w' : World} {X : List Nat} {q bm n n' : Nat} {L K K' : List E} (h : Fd W w X q bm n L K) (hm : MapS kkE w' bm n' K') (hg : w.grownBy w' (some bm)) : Fd W w' X q bm n' L K' ∧ SameX X w w' := by
  obtain ⟨R, h1, h2, h3, h4, h5, h6⟩ := h
  have hb : But [bm] w w' := ⟨hg.os, hg.tape, hg.output, hg.size, fun k hk hn => hg.block k hk (by simpa using hn)⟩
  exact ⟨⟨R, h1.but hb (fun k hk hm => (h2 k hk).2.1 (by simpa using hm)), h2, h3.trans (hb.below (by simpa using h5) h3.size), hm, h5, fun k hk => ⟨Nat.lt_of_lt_of_le (h6 k hk).1 hb.size, (h6 k hk).2⟩⟩, fun k hk o => hb.cell k o (h6 k hk).1 (by simpa using (h6 k hk).2)⟩
theorem fdPut (x : E) {W w : World} {X : List Nat} {q bm n : Nat} {L K : List E} (h : Fd W w X q bm n L K) (hx : okE x) (hn : n < maxLen) : ∃ w', (Instr.mapUpdate 51 (.map (some bm)) (.agg #[.int .u64 x.a, .int .u64 x.b, .int .u64 x.n]) (.int .i64 1)).run Try.prog w = .ok () w' ∧ Fd W w' X q bm (n + 1) L (addK x K) ∧ SameX X w w' := by
  obtain ⟨w', h1, h2, h3⟩ := MapS.put h.map x hx hn
  exact ⟨w', h1, h.turned h2 h3⟩
theorem fdDrop (x : E) {W w : World} {X : List Nat} {q bm n : Nat} {L K : List E} (h : Fd W w X q bm n L K) (hx : okE x) (hnd : K.Nodup) : ∃ w', (Builtin.delete_ #[51, 53] 0 #[.map (some bm), .agg #[.int .u64 x.a, .int .u64 x.b, .int .u64 x.n]]).run Try.prog w = .ok (.tuple #[]) w' ∧ Fd W w' X q bm n L (delL x K) ∧ SameX X w w' := by
  obtain ⟨w', h1, h2, h3⟩ := MapS.drop h.map hnd x hx 0
  exact ⟨w', h1, h.turned h2 h3⟩
theorem fdLook (x : E) {W w : World} {X : List Nat} {q bm n : Nat} {L K : List E} (h : Fd W w X q bm n L K) (hx : okE x) : (Instr.lookup 51 (.map (some bm)) (.agg #[.int .u64 x.a, .int .u64 x.b, .int .u64 x.n]) false).run Try.prog w = .ok (.int .i64 (if x ∈ K then 1 else 0)) w := MapS.look h.map x hx
theorem Fd.nodup {W w : World} {X : List Nat} {q bm n : Nat} {L K : List E} (h : Fd W w X q bm n L K) : L.Nodup := by
  refine List.Pairwise.imp ?_ h.srt
  rintro a b hab rfl
  exact Itree.lt_irrefl a hab
theorem fdTree {W w : World} {X : List Nat} {q bm n : Nat} {L K : List E} (h : Fd W w X q bm n L K) : ∃ R, TL w q R L := by
  obtain ⟨R, h1, _⟩ := h
  exact ⟨R, h1⟩
theorem fdStab {W w : World} {X : List Nat} {q bm n : Nat} {L K : List E} (at' : Int) (ha : 0 ≤ at' ∧ at' ≤ 18446744073709551615) (h : Fd W w X q bm n L K) (hs : L.length ≤ 800) :
    Calls Try.prog 14 #[.pointer (some ⟨q, 0, none⟩), .int .u64 at'] w fun e w' => ∃ v, e = .returned v ∧ IsE w' v (L.filter (fun e => hasB e.a e.b at')) ∧ Below w.heap.size w w' := by
  obtain ⟨R, h1⟩ := fdTree h
  refine (cStab at' ha q R L w h1 (by omega)).mono ?_
  rintro e w' ⟨v, rfl, ho, hb⟩
  exact ⟨v, rfl, ho.isE, hb⟩
theorem over_meet (p p' : Int) (L : List E) (hm : ∀ e ∈ L, mayB e.a e.b = true) : (if mayB p p' = true then L.filter (over p p') else []) = L.filter fun e => meetB e.a e.b p p' := by
  by_cases h : mayB p p' = true
  · rw [if_pos h]
    refine List.filter_congr fun e he => ?_
    have h1 := hm e he
    have tb : ∀ x y : Bool, (x = true ↔ y = true) → x = y := by decide
    apply tb
    simp only [mayB, Bool.and_eq_true, decide_eq_true_eq] at h h1
    obtain ⟨x, hx⟩ : ∃ x, mx e.a p = x := ⟨_, rfl⟩
    obtain ⟨y, hy⟩ : ∃ y, mn e.b p' = y := ⟨_, rfl⟩
    simp only [over, meetB, mayB, Bool.and_eq_true, decide_eq_true_eq, hx, hy]
    unfold mx at hx
    unfold mn at hy
    split at hx <;> split at hy <;> subst hx hy <;> constructor <;> intro h5 <;> refine ⟨?_, ?_⟩ <;> first | omega | (refine ⟨?_, ?_⟩ <;> omega)
  · rw [if_neg h]
    symm
    rw [List.filter_eq_nil_iff]
    intro e _
    have : mayB p p' = false := by simpa using h
    simp [meetB, this]
theorem fdOverlap {W w : World} {X : List Nat} {q bm n : Nat} {L K : List E} (p p' : Int) (h : Fd W w X q bm n L K) (hs : L.length ≤ 800) :
    Calls Try.prog 16 #[.pointer (some ⟨q, 0, none⟩), .agg #[.int .u64 p, .int .u64 p']] w fun e w' => ∃ v, e = .returned v ∧ IsE w' v (L.filter fun e => meetB e.a e.b p p') ∧ Below w.heap.size w w' := by
  obtain ⟨R, h1⟩ := fdTree h
  refine (cOverlap p p' q R L w h1 (by omega)).mono ?_
  rintro e w' ⟨v, rfl, ho, hb⟩
  refine ⟨v, rfl, ?_, hb⟩
  rw [← over_meet p p' L h.may]
  exact ho.isE
theorem fdAll {W w : World} {X : List Nat} {q bm n : Nat} {L K : List E} (h : Fd W w X q bm n L K) (hs : L.length ≤ 800) :
    Calls Try.prog 20 #[.pointer (some ⟨q, 0, none⟩)] w fun e w' => ∃ v, e = .returned v ∧ IsE w' v L ∧ Below w.heap.size w w' := by
  obtain ⟨R, h1⟩ := fdTree h
  refine (cAll q R L w h1 (by omega)).mono ?_
  rintro e w' ⟨v, rfl, ho, hb⟩
  exact ⟨v, rfl, ho.isE, hb⟩
theorem fdLen {W w : World} {X : List Nat} {q bm n : Nat} {L K : List E} (h : Fd W w X q bm n L K) :
    Calls Try.prog 21 #[.pointer (some ⟨q, 0, none⟩)] w fun e w' => e = .returned (.int .i64 L.length) ∧ w = w' := by
  obtain ⟨R, h1⟩ := fdTree h
  exact cLen q R L w h1
theorem insOk {L : List E} (x : E) (hx : okE x) (h : ∀ y ∈ L, okE y) : ∀ y ∈ insL x L, okE y := by
  intro y hy
  unfold insL at hy
  split at hy
  · exact h y hy
  · split at hy
    · exact h y hy
    · rcases (put_mem x L y).1 hy with rfl | hy
      · exact hx
      · exact h y hy
theorem delOk {L : List E} (x : E) (h : ∀ y ∈ L, okE y) : ∀ y ∈ delL x L, okE y := fun y hy => h y (List.mem_filter.1 hy).1
theorem delL_no {L : List E} (x : E) (h : x ∉ L) : delL x L = L := by
  unfold delL
  rw [List.filter_eq_self]
  intro y hy
  simp only [decide_eq_true_eq]
  rintro rfl
  exact h hy
end Go.Proofs.Ytbifgmamjdniaaa
