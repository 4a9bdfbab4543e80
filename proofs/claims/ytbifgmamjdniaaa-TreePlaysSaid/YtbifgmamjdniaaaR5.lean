/- Tree and document's tree side by side. -/
import Derived.Test.YtbifgmamjdniaaaR4
namespace Go.Proofs.Ytbifgmamjdniaaa
open Go.RowKit
open Itree (E T dep endT bs ord sz nodes lean rotL rotR bal ins del hasT first AVL Srt eachL over)
/-- Both trees, with the blocks that they may write. -/
def Foot (W0 w : World) (F : List Nat) (q g : Nat) (L M : List E) : Prop := ∃ R b, F = g :: b :: q :: R ∧ TL w q R L ∧ RT w g b M ∧ (∀ k ∈ q :: R, k ≠ g ∧ k ≠ b) ∧ (∀ k ∈ F, W0.heap.size ≤ k ∧ k < w.heap.size) ∧ Below W0.heap.size W0 w
/-- From F to F'. -/
def Mv (F : List Nat) (w w' : World) (F' : List Nat) : Prop := But F w w' ∧ ∀ k ∈ F', k ∈ F ∨ w.heap.size ≤ k
theorem Foot.since {W0 w : World} {F : List Nat} {q g : Nat} {L M : List E} (h : Foot W0 w F q g L M) : Below W0.heap.size W0 w := by
  obtain ⟨R, b, rfl, h1, h2, h3, h4, h5⟩ := h
  exact h5
theorem Foot.range {W0 w : World} {F : List Nat} {q g : Nat} {L M : List E} (h : Foot W0 w F q g L M) : ∀ k ∈ F, W0.heap.size ≤ k ∧ k < w.heap.size := by
  obtain ⟨R, b, rfl, h1, h2, h3, h4, h5⟩ := h
  exact h4
theorem Foot.but {W0 w w' : World} {F S : List Nat} {q g : Nat} {L M : List E} (h : Foot W0 w F q g L M) (hb : But S w w') (hn : ∀ k ∈ F, k ∉ S) (hS : ∀ k ∈ S, W0.heap.size ≤ k) : Foot W0 w' F q g L M := by
  obtain ⟨R, b, rfl, h1, h2, h3, h4, h5⟩ := h
  exact ⟨R, b, rfl, h1.but hb (fun k hk => hn k (by simp only [List.mem_cons] at hk ⊢; grind)), h2.but hb (hn g (by simp)) (hn b (by simp)), h3, fun k hk => ⟨(h4 k hk).1, Nat.lt_of_lt_of_le (h4 k hk).2 hb.size⟩, h5.trans (hb.below hS h5.size)⟩
theorem Foot.below {W0 w w' : World} {F : List Nat} {q g : Nat} {L M : List E} (h : Foot W0 w F q g L M) (hb : Below w.heap.size w w') : Foot W0 w' F q g L M := h.but (But.of_below (S := []) hb) (by simp) (by simp)
theorem Foot.ins {W0 w : World} {F : List Nat} {q g : Nat} {L M : List E} (x : E) (h : Foot W0 w F q g L M) (h0 : 0 ≤ x.a) (hs : L.length ≤ 800) :
    Calls Try.prog 9 #[.pointer (some ⟨q, 0, none⟩), .agg #[.int .u64 x.a, .int .u64 x.b], .int .u64 x.n] w fun e w' => e = .returned (.int .i64 (insR x L)) ∧ ∃ F', Foot W0 w' F' q g (insL x L) M ∧ Mv F w w' F' := by
  obtain ⟨R, b, rfl, h1, h2, h3, h4, h5⟩ := h
  refine (cInsert x q R L w h1 h0 hs).mono ?_
  rintro e w' ⟨rfl, R', t1, t2, t3⟩
  refine ⟨rfl, g :: b :: q :: R', ⟨R', b, rfl, t1, h2.but t2 ?_ ?_, ?_, ?_, h5.trans (t2.below (fun k hk => (h4 k (by simp [hk])).1) h5.size)⟩, t2.sub (by intro k hk; simp [hk]), ?_⟩
  · intro hm; exact (h3 g (by simp [hm])).1 rfl
  · intro hm; exact (h3 b (by simp [hm])).2 rfl
  · intro k hk
    rcases List.mem_cons.1 hk with rfl | hk
    · exact h3 k (by simp)
    · rcases t3 k hk with h | h
      · exact h3 k (by simp [h])
      · have a1 := (h4 g (by simp)).2
        have a2 := (h4 b (by simp)).2
        constructor <;> omega
  · intro k hk
    have hl := t1.lt
    have s0 := h5.size
    simp only [List.mem_cons] at hk
    rcases hk with rfl | rfl | rfl | hk
    · exact ⟨(h4 k (by simp)).1, Nat.lt_of_lt_of_le (h4 k (by simp)).2 t2.size⟩
    · exact ⟨(h4 k (by simp)).1, Nat.lt_of_lt_of_le (h4 k (by simp)).2 t2.size⟩
    · exact ⟨(h4 k (by simp)).1, Nat.lt_of_lt_of_le (h4 k (by simp)).2 t2.size⟩
    · refine ⟨?_, hl k (by simp [hk])⟩
      rcases t3 k hk with h | h
      · exact (h4 k (by simp [h])).1
      · omega
  · intro k hk
    simp only [List.mem_cons] at hk ⊢
    rcases hk with rfl | rfl | rfl | hk
    · simp
    · simp
    · simp
    · rcases t3 k hk with h | h
      · simp [h]
      · exact .inr h
theorem Foot.del {W0 w : World} {F : List Nat} {q g : Nat} {L M : List E} (x : E) (h : Foot W0 w F q g L M) (hs : L.length ≤ 800) :
    Calls Try.prog 11 #[.pointer (some ⟨q, 0, none⟩), .agg #[.int .u64 x.a, .int .u64 x.b], .int .u64 x.n] w fun e w' => e = .returned (.int .i64 (delR x L)) ∧ ∃ F', Foot W0 w' F' q g (delL x L) M ∧ Mv F w w' F' := by
  obtain ⟨R, b, rfl, h1, h2, h3, h4, h5⟩ := h
  refine (cDelete x q R L w h1 hs).mono ?_
  rintro e w' ⟨rfl, R', t1, t2, t3⟩
  refine ⟨rfl, g :: b :: q :: R', ⟨R', b, rfl, t1, h2.but t2 ?_ ?_, ?_, ?_, h5.trans (t2.below (fun k hk => (h4 k (by simp [hk])).1) h5.size)⟩, t2.sub (by intro k hk; simp [hk]), ?_⟩
  · intro hm; exact (h3 g (by simp [hm])).1 rfl
  · intro hm; exact (h3 b (by simp [hm])).2 rfl
  · intro k hk
    rcases List.mem_cons.1 hk with rfl | hk
    · exact h3 k (by simp)
    · rcases t3 k hk with h | h
      · exact h3 k (by simp [h])
      · have a1 := (h4 g (by simp)).2
        have a2 := (h4 b (by simp)).2
        constructor <;> omega
  · intro k hk
    have hl := t1.lt
    have s0 := h5.size
    simp only [List.mem_cons] at hk
    rcases hk with rfl | rfl | rfl | hk
    · exact ⟨(h4 k (by simp)).1, Nat.lt_of_lt_of_le (h4 k (by simp)).2 t2.size⟩
    · exact ⟨(h4 k (by simp)).1, Nat.lt_of_lt_of_le (h4 k (by simp)).2 t2.size⟩
    · exact ⟨(h4 k (by simp)).1, Nat.lt_of_lt_of_le (h4 k (by simp)).2 t2.size⟩
    · refine ⟨?_, hl k (by simp [hk])⟩
      rcases t3 k hk with h | h
      · exact (h4 k (by simp [h])).1
      · omega
  · intro k hk
    simp only [List.mem_cons] at hk ⊢
    rcases hk with rfl | rfl | rfl | hk
    · simp
    · simp
    · simp
    · rcases t3 k hk with h | h
      · simp [h]
      · exact .inr h
theorem Foot.turn {W0 w w' : World} {R : List Nat} {b b' q g : Nat} {L M' : List E} (h1 : TL w q R L) (h3 : ∀ k ∈ q :: R, k ≠ g ∧ k ≠ b) (h4 : ∀ k ∈ g :: b :: q :: R, W0.heap.size ≤ k ∧ k < w.heap.size) (h5 : Below W0.heap.size W0 w) (t1 : RT w' g b' M') (tb : M' = [] ∨ b' < w'.heap.size) (t2 : But [g] w w') (t3 : b' = b ∨ w.heap.size ≤ b') : ∃ F', Foot W0 w' F' q g L M' ∧ Mv (g :: b :: q :: R) w w' F' := by
  have s0 := h5.size
  have s1 := t2.size
  have hb : ∃ b2, RT w' g b2 M' ∧ b2 < w'.heap.size ∧ (b2 = b ∨ w.heap.size ≤ b2) := by
    rcases tb with rfl | tb
    · refine ⟨b, ⟨t1.1, t1.2.1, .inl ⟨rfl, ?_⟩⟩, Nat.lt_of_lt_of_le (h4 b (by simp)).2 s1, .inl rfl⟩
      rcases t1.2.2 with ⟨_, h⟩ | ⟨h, _⟩
      · exact h
      · simp at h
    · exact ⟨b', t1, tb, t3⟩
  obtain ⟨b2, t1, tb, t3⟩ := hb
  refine ⟨g :: b2 :: q :: R, ⟨R, b2, rfl, h1.but t2 (fun k hk hm => (h3 k hk).1 (by simpa using hm)), t1, fun k hk => ⟨(h3 k hk).1, ?_⟩, ?_, h5.trans (t2.below (fun k hk => by simp only [List.mem_cons, List.not_mem_nil, or_false] at hk; subst hk; exact (h4 k (by simp)).1) s0)⟩, t2.sub (by intro k hk; simp only [List.mem_cons, List.not_mem_nil, or_false] at hk ⊢; exact .inl hk), ?_⟩
  · rcases t3 with rfl | t3
    · exact (h3 k hk).2
    · have := (h4 k (by simp only [List.mem_cons] at hk ⊢; grind)).2
      omega
  · intro k hk
    simp only [List.mem_cons] at hk
    rcases hk with rfl | rfl | hk
    · exact ⟨(h4 k (by simp)).1, Nat.lt_of_lt_of_le (h4 k (by simp)).2 s1⟩
    · refine ⟨?_, tb⟩
      rcases t3 with rfl | t3
      · exact (h4 k (by simp)).1
      · omega
    · have := h4 k (by simp only [List.mem_cons]; grind)
      exact ⟨this.1, by omega⟩
  · intro k hk
    simp only [List.mem_cons] at hk ⊢
    rcases hk with rfl | rfl | hk
    · simp
    · rcases t3 with rfl | t3
      · simp
      · exact .inr t3
    · left; grind
theorem RT.lt {w : World} {g b : Nat} {L : List E} (h : RT w g b L) : L = [] ∨ b < w.heap.size := by
  obtain ⟨h1, h2, ⟨h3, _⟩ | ⟨_, _, h3, _⟩⟩ := h
  · exact .inl h3
  · exact .inr h3
theorem Foot.refIns {W0 w : World} {F : List Nat} {q g : Nat} {L M : List E} (x : E) (h : Foot W0 w F q g L M) (srt : Srt M) (hs : M.length ≤ 800) :
    Calls Try.prog 10 #[.pointer (some ⟨g, 0, none⟩), .agg #[.int .u64 x.a, .int .u64 x.b], .int .u64 x.n] w fun e w' => e = .returned (.int .i64 (insR x M)) ∧ ∃ F', Foot W0 w' F' q g L (insL x M) ∧ Mv F w w' F' := by
  obtain ⟨R, b, rfl, h1, h2, h3, h4, h5⟩ := h
  refine (refInsert_any x g b M w h2 (by omega) srt).mono ?_
  rintro e w' ⟨rfl, b', t1, t2, t3⟩
  exact ⟨rfl, Foot.turn h1 h3 h4 h5 t1 t1.lt t2 t3⟩
theorem Foot.refDel {W0 w : World} {F : List Nat} {q g : Nat} {L M : List E} (x : E) (h : Foot W0 w F q g L M) (hs : M.length ≤ 800) :
    Calls Try.prog 12 #[.pointer (some ⟨g, 0, none⟩), .agg #[.int .u64 x.a, .int .u64 x.b], .int .u64 x.n] w fun e w' => e = .returned (.int .i64 (delR x M)) ∧ ∃ F', Foot W0 w' F' q g L (delL x M) ∧ Mv F w w' F' := by
  obtain ⟨R, b, rfl, h1, h2, h3, h4, h5⟩ := h
  refine (refDelete_any x g b M w h2 (by omega)).mono ?_
  rintro e w' ⟨rfl, b', t1, t2, t3⟩
  exact ⟨rfl, Foot.turn h1 h3 h4 h5 t1 t1.lt t2 t3⟩
/-- Both, and what is to be done. -/
def Two (W0 w : World) (q g h : Nat) (L M : List E) (wh : Int) (x : E) : Prop := ∃ F, Foot W0 w F q g L M ∧ h ∉ F ∧ h < w.heap.size ∧ w.cell? ⟨h, 0, none⟩ = some (.int .i64 wh) ∧ w.cell? ⟨h, 1, none⟩ = some (.int .u64 x.a) ∧ w.cell? ⟨h, 2, none⟩ = some (.int .u64 x.b) ∧ w.cell? ⟨h, 3, none⟩ = some (.int .u64 x.n)
theorem Two.cells {W0 w : World} {q g h : Nat} {L M : List E} {wh : Int} {x : E} (t : Two W0 w q g h L M wh x) : w.cell? ⟨h, 0, none⟩ = some (.int .i64 wh) ∧ w.cell? ⟨h, 1, none⟩ = some (.int .u64 x.a) ∧ w.cell? ⟨h, 2, none⟩ = some (.int .u64 x.b) ∧ w.cell? ⟨h, 3, none⟩ = some (.int .u64 x.n) := by
  obtain ⟨F, f, h1, h2, h3⟩ := t
  exact h3
theorem Two.next {W0 w w' : World} {q g h : Nat} {L' M' : List E} {wh : Int} {x : E} {F F' : List Nat} (h1 : h ∉ F) (h2 : h < w.heap.size) (c : w.cell? ⟨h, 0, none⟩ = some (.int .i64 wh) ∧ w.cell? ⟨h, 1, none⟩ = some (.int .u64 x.a) ∧ w.cell? ⟨h, 2, none⟩ = some (.int .u64 x.b) ∧ w.cell? ⟨h, 3, none⟩ = some (.int .u64 x.n)) (f : Foot W0 w' F' q g L' M') (m : Mv F w w' F') : Two W0 w' q g h L' M' wh x := by
  obtain ⟨c0, c1, c2, c3⟩ := c
  refine ⟨F', f, fun hm => ?_, Nat.lt_of_lt_of_le h2 m.1.size, (m.1.cell h 0 h2 h1).trans c0, (m.1.cell h 1 h2 h1).trans c1, (m.1.cell h 2 h2 h1).trans c2, (m.1.cell h 3 h2 h1).trans c3⟩
  rcases m.2 h hm with h | h
  · exact h1 h
  · omega
theorem Two.below {W0 w w' : World} {q g h : Nat} {L M : List E} {wh : Int} {x : E} (t : Two W0 w q g h L M wh x) (hb : Below w.heap.size w w') : Two W0 w' q g h L M wh x := by
  obtain ⟨F, f, h1, h2, h3⟩ := t
  exact Two.next h1 h2 h3 (f.below hb) ⟨But.of_below hb, fun k hk => .inl hk⟩
theorem twIns {W0 w : World} {q g h : Nat} {L M : List E} {wh : Int} {x : E} (t : Two W0 w q g h L M wh x) (h0 : 0 ≤ x.a) (hs : L.length ≤ 800) :
    Calls Try.prog 9 #[.pointer (some ⟨q, 0, none⟩), .agg #[.int .u64 x.a, .int .u64 x.b], .int .u64 x.n] w fun e w' => e = .returned (.int .i64 (insR x L)) ∧ Two W0 w' q g h (insL x L) M wh x := by
  obtain ⟨F, f, h1, h2, h3⟩ := t
  refine (f.ins x h0 hs).mono ?_
  rintro e w' ⟨rfl, F', f', m⟩
  exact ⟨rfl, Two.next h1 h2 h3 f' m⟩
theorem twDel {W0 w : World} {q g h : Nat} {L M : List E} {wh : Int} {x : E} (t : Two W0 w q g h L M wh x) (hs : L.length ≤ 800) :
    Calls Try.prog 11 #[.pointer (some ⟨q, 0, none⟩), .agg #[.int .u64 x.a, .int .u64 x.b], .int .u64 x.n] w fun e w' => e = .returned (.int .i64 (delR x L)) ∧ Two W0 w' q g h (delL x L) M wh x := by
  obtain ⟨F, f, h1, h2, h3⟩ := t
  refine (f.del x hs).mono ?_
  rintro e w' ⟨rfl, F', f', m⟩
  exact ⟨rfl, Two.next h1 h2 h3 f' m⟩
theorem twRefIns {W0 w : World} {q g h : Nat} {L M : List E} {wh : Int} {x : E} (t : Two W0 w q g h L M wh x) (srt : Srt M) (hs : M.length ≤ 800) :
    Calls Try.prog 10 #[.pointer (some ⟨g, 0, none⟩), .agg #[.int .u64 x.a, .int .u64 x.b], .int .u64 x.n] w fun e w' => e = .returned (.int .i64 (insR x M)) ∧ Two W0 w' q g h L (insL x M) wh x := by
  obtain ⟨F, f, h1, h2, h3⟩ := t
  refine (f.refIns x srt hs).mono ?_
  rintro e w' ⟨rfl, F', f', m⟩
  exact ⟨rfl, Two.next h1 h2 h3 f' m⟩
theorem twRefDel {W0 w : World} {q g h : Nat} {L M : List E} {wh : Int} {x : E} (t : Two W0 w q g h L M wh x) (hs : M.length ≤ 800) :
    Calls Try.prog 12 #[.pointer (some ⟨g, 0, none⟩), .agg #[.int .u64 x.a, .int .u64 x.b], .int .u64 x.n] w fun e w' => e = .returned (.int .i64 (delR x M)) ∧ Two W0 w' q g h L (delL x M) wh x := by
  obtain ⟨F, f, h1, h2, h3⟩ := t
  refine (f.refDel x hs).mono ?_
  rintro e w' ⟨rfl, F', f', m⟩
  exact ⟨rfl, Two.next h1 h2 h3 f' m⟩
theorem Two.srt {W0 w : World} {q g h : Nat} {L M : List E} {wh : Int} {x : E} (t : Two W0 w q g h L M wh x) : Srt L := by
  obtain ⟨F, ⟨R, b, rfl, h1, h2, h3, h4, h5⟩, _⟩ := t
  exact h1.srt
theorem twStab {W0 w : World} {q g h : Nat} {L M : List E} {wh : Int} {x : E} (at' : Int) (ha : 0 ≤ at' ∧ at' ≤ 18446744073709551615) (t : Two W0 w q g h L M wh x) (hs : L.length ≤ 800) :
    Calls Try.prog 14 #[.pointer (some ⟨q, 0, none⟩), .int .u64 at'] w fun e w' => ∃ v, e = .returned v ∧ IsE w' v (L.filter (fun e => hasB e.a e.b at')) ∧ Below w.heap.size w w' := by
  obtain ⟨F, ⟨R, b, rfl, h1, h2, h3, h4, h5⟩, _⟩ := t
  refine (cStab at' ha q R L w h1 (by omega)).mono ?_
  rintro e w' ⟨v, rfl, ho, hb⟩
  exact ⟨v, rfl, ho.isE, hb⟩
theorem twRefStab {W0 w : World} {q g h : Nat} {L M : List E} {wh : Int} {x : E} (at' : Int) (t : Two W0 w q g h L M wh x) (hs : M.length ≤ 800) :
    Calls Try.prog 15 #[.pointer (some ⟨g, 0, none⟩), .int .u64 at'] w fun e w' => ∃ v, e = .returned v ∧ IsE w' v (M.filter (fun e => hasB e.a e.b at')) ∧ Below w.heap.size w w' := by
  obtain ⟨F, ⟨R, b, rfl, h1, h2, h3, h4, h5⟩, _⟩ := t
  exact refStab_any at' g b M w h2 (by omega)
theorem twOverlap {W0 w : World} {q g h : Nat} {L M : List E} {wh : Int} {x : E} (p p' : Int) (t : Two W0 w q g h L M wh x) (hs : L.length ≤ 800) :
    Calls Try.prog 16 #[.pointer (some ⟨q, 0, none⟩), .agg #[.int .u64 p, .int .u64 p']] w fun e w' => ∃ v, e = .returned v ∧ IsE w' v (L.filter fun e => meetB e.a e.b p p') ∧ Below w.heap.size w w' := by
  obtain ⟨F, ⟨R, b, rfl, h1, h2, h3, h4, h5⟩, _⟩ := t
  refine (cOverlap p p' q R L w h1 (by omega)).mono ?_
  rintro e w' ⟨v, rfl, ho, hb⟩
  refine ⟨v, rfl, ?_, hb⟩
  rw [← overlap_meet p p' L h1.may]
  exact ho.isE
theorem twRefOverlap {W0 w : World} {q g h : Nat} {L M : List E} {wh : Int} {x : E} (p p' : Int) (t : Two W0 w q g h L M wh x) (hs : M.length ≤ 800) :
    Calls Try.prog 17 #[.pointer (some ⟨g, 0, none⟩), .agg #[.int .u64 p, .int .u64 p']] w fun e w' => ∃ v, e = .returned v ∧ IsE w' v (M.filter fun e => meetB e.a e.b p p') ∧ Below w.heap.size w w' := by
  obtain ⟨F, ⟨R, b, rfl, h1, h2, h3, h4, h5⟩, _⟩ := t
  exact refOverlap_any p p' g b M w h2 (by omega)
theorem twAll {W0 w : World} {q g h : Nat} {L M : List E} {wh : Int} {x : E} (t : Two W0 w q g h L M wh x) (hs : L.length ≤ 800) :
    Calls Try.prog 20 #[.pointer (some ⟨q, 0, none⟩)] w fun e w' => ∃ v, e = .returned v ∧ IsE w' v L ∧ Below w.heap.size w w' := by
  obtain ⟨F, ⟨R, b, rfl, h1, h2, h3, h4, h5⟩, _⟩ := t
  refine (cAll q R L w h1 (by omega)).mono ?_
  rintro e w' ⟨v, rfl, ho, hb⟩
  exact ⟨v, rfl, ho.isE, hb⟩
theorem twLen {W0 w : World} {q g h : Nat} {L M : List E} {wh : Int} {x : E} (t : Two W0 w q g h L M wh x) :
    Calls Try.prog 21 #[.pointer (some ⟨q, 0, none⟩)] w fun e w' => e = .returned (.int .i64 L.length) ∧ w = w' := by
  obtain ⟨F, ⟨R, b, rfl, h1, h2, h3, h4, h5⟩, _⟩ := t
  exact cLen q R L w h1
theorem twDepth {W0 w : World} {q g h : Nat} {L M : List E} {wh : Int} {x : E} (t : Two W0 w q g h L M wh x) (hs : L.length ≤ 800) :
    Calls Try.prog 23 #[.pointer (some ⟨q, 0, none⟩)] w fun e w' => ∃ d : Nat, e = .returned (.int .i64 d) ∧ DeepOk d L.length ∧ w = w' := by
  obtain ⟨F, ⟨R, b, rfl, h1, h2, h3, h4, h5⟩, _⟩ := t
  exact cDepth q R L w h1 (by omega)
/-- The list behind the document's tree. -/
theorem Two.val {W0 w : World} {q g h : Nat} {L M : List E} {wh : Int} {x : E} (t : Two W0 w q g h L M wh x) : ∃ A c, w.cell? ⟨g, 0, none⟩ = some (.slice A M.length c) ∧ EAt w A M ∧ g < w.heap.size := by
  obtain ⟨F, ⟨R, b, rfl, h1, h2, h3, h4, h5⟩, _⟩ := t
  obtain ⟨k1, k2, ⟨rfl, a2⟩ | ⟨a1, a2, a3, c, a4, a5, a6⟩⟩ := h2
  · exact ⟨none, 0, a2, fun h0 => absurd h0 (by simp), k2⟩
  · exact ⟨_, c, a5, a6, k2⟩
/-- A copy is in the tree's place; the one that was stands beside it. -/
def Three (W0 w : World) (q qo g h : Nat) (L Lo M : List E) (wh : Int) (x : E) : Prop := ∃ F Ro, Foot W0 w F q g L M ∧ TL w qo Ro Lo ∧ (∀ k ∈ qo :: Ro, k ∉ F ∧ k ≠ h ∧ W0.heap.size ≤ k) ∧ h ∉ F ∧ h < w.heap.size ∧ w.cell? ⟨h, 0, none⟩ = some (.int .i64 wh) ∧ w.cell? ⟨h, 1, none⟩ = some (.int .u64 x.a) ∧ w.cell? ⟨h, 2, none⟩ = some (.int .u64 x.b) ∧ w.cell? ⟨h, 3, none⟩ = some (.int .u64 x.n)
theorem Three.two {W0 w : World} {q qo g h : Nat} {L Lo M : List E} {wh : Int} {x : E} (t : Three W0 w q qo g h L Lo M wh x) : Two W0 w q g h L M wh x := by
  obtain ⟨F, Ro, f, h1, h2, h3⟩ := t
  exact ⟨F, f, h3⟩
theorem Three.wrote {W0 w w' : World} {q qo g h : Nat} {L Lo' M : List E} {wh : Int} {x : E} {F Ro : List Nat} (f : Foot W0 w F q g L M) (h2 : ∀ k ∈ qo :: Ro, k ∉ F ∧ k ≠ h ∧ W0.heap.size ≤ k) (h3 : h ∉ F) (h4 : h < w.heap.size) (c : w.cell? ⟨h, 0, none⟩ = some (.int .i64 wh) ∧ w.cell? ⟨h, 1, none⟩ = some (.int .u64 x.a) ∧ w.cell? ⟨h, 2, none⟩ = some (.int .u64 x.b) ∧ w.cell? ⟨h, 3, none⟩ = some (.int .u64 x.n)) (wr : Wrote w qo Ro Lo' w') : Three W0 w' q qo g h L Lo' M wh x := by
  obtain ⟨Ro', t1, t2, t3⟩ := wr
  obtain ⟨c0, c1, c2, c3⟩ := c
  have hh : h ∉ Ro := fun hm => (h2 h (by simp [hm])).2.1 rfl
  refine ⟨F, Ro', f.but t2 (fun k hk hm => (h2 k (by simp [hm])).1 hk) (fun k hk => (h2 k (by simp [hk])).2.2), t1, fun k hk => ?_, h3, Nat.lt_of_lt_of_le h4 t2.size, (t2.cell h 0 h4 hh).trans c0, (t2.cell h 1 h4 hh).trans c1, (t2.cell h 2 h4 hh).trans c2, (t2.cell h 3 h4 hh).trans c3⟩
  rcases List.mem_cons.1 hk with rfl | hk
  · exact h2 k (by simp)
  · rcases t3 k hk with h | h
    · exact h2 k (by simp [h])
    · have s0 := f.since.size
      exact ⟨fun hm => by have := (f.range k hm).2; omega, by omega, by omega⟩
theorem thIns {W0 w : World} {q qo g h : Nat} {L Lo M : List E} {wh : Int} {x : E} (y : E) (t : Three W0 w q qo g h L Lo M wh x) (h0 : 0 ≤ y.a) (hs : Lo.length ≤ 800) :
    Calls Try.prog 9 #[.pointer (some ⟨qo, 0, none⟩), .agg #[.int .u64 y.a, .int .u64 y.b], .int .u64 y.n] w fun e w' => e = .returned (.int .i64 (insR y Lo)) ∧ Three W0 w' q qo g h L (insL y Lo) M wh x := by
  obtain ⟨F, Ro, f, h1, h2, h3, h4, h5⟩ := t
  refine (cInsert y qo Ro Lo w h1 h0 hs).mono ?_
  rintro e w' ⟨rfl, wr⟩
  exact ⟨rfl, Three.wrote f h2 h3 h4 h5 wr⟩
theorem thDel {W0 w : World} {q qo g h : Nat} {L Lo M : List E} {wh : Int} {x : E} (y : E) (t : Three W0 w q qo g h L Lo M wh x) (hs : Lo.length ≤ 800) :
    Calls Try.prog 11 #[.pointer (some ⟨qo, 0, none⟩), .agg #[.int .u64 y.a, .int .u64 y.b], .int .u64 y.n] w fun e w' => e = .returned (.int .i64 (delR y Lo)) ∧ Three W0 w' q qo g h L (delL y Lo) M wh x := by
  obtain ⟨F, Ro, f, h1, h2, h3, h4, h5⟩ := t
  refine (cDelete y qo Ro Lo w h1 hs).mono ?_
  rintro e w' ⟨rfl, wr⟩
  exact ⟨rfl, Three.wrote f h2 h3 h4 h5 wr⟩
theorem Three.below {W0 w w' : World} {q qo g h : Nat} {L Lo M : List E} {wh : Int} {x : E} (t : Three W0 w q qo g h L Lo M wh x) (hb : Below w.heap.size w w') : Three W0 w' q qo g h L Lo M wh x := by
  obtain ⟨F, Ro, f, h1, h2, h3, h4, h5⟩ := t
  exact Three.wrote f h2 h3 h4 h5 (h1.stay hb)
theorem twCopy {W0 w : World} {q g h : Nat} {L M : List E} {wh : Int} {x : E} (t : Two W0 w q g h L M wh x) :
    Calls Try.prog 18 #[.pointer (some ⟨q, 0, none⟩)] w fun e w' => ∃ q', e = .returned (.pointer (some ⟨q', 0, none⟩)) ∧ Three W0 w' q' q g h L L M wh x := by
  obtain ⟨F, ⟨R, b, rfl, h1, h2, h3, h4, h5⟩, k1, k2, c0, c1, c2, c3⟩ := t
  refine (cCopy q R L w h1).mono ?_
  rintro e w' ⟨q', R', rfl, t1, t2, t3⟩
  have s0 := h5.size
  have s1 := t3.size
  have a1 := (h4 g (by simp)).2
  have a2 := (h4 b (by simp)).2
  refine ⟨q', rfl, g :: b :: q' :: R', R, ⟨R', b, rfl, t1, h2.below t3, fun k hk => ?_, fun k hk => ?_, h5.trans (t3.mono s0)⟩, h1.below t3, fun k hk => ?_, fun hm => ?_, Nat.lt_of_lt_of_le k2 s1, (t3.cell (p := ⟨h, 0, none⟩) k2).trans c0, (t3.cell (p := ⟨h, 1, none⟩) k2).trans c1, (t3.cell (p := ⟨h, 2, none⟩) k2).trans c2, (t3.cell (p := ⟨h, 3, none⟩) k2).trans c3⟩
  · have := t2 k hk
    constructor <;> omega
  · simp only [List.mem_cons] at hk
    rcases hk with rfl | rfl | hk
    · exact ⟨(h4 k (by simp)).1, by omega⟩
    · exact ⟨(h4 k (by simp)).1, by omega⟩
    · have := t2 k (by simpa using hk)
      exact ⟨by omega, t1.lt k (by simpa using hk)⟩
  · have hk' : k ∈ g :: b :: q :: R := by simp only [List.mem_cons] at hk ⊢; grind
    have hl := (h4 k hk').2
    refine ⟨fun hm => ?_, fun e => k1 (e ▸ hk'), (h4 k hk').1⟩
    simp only [List.mem_cons] at hm
    rcases hm with rfl | rfl | hm
    · exact (h3 k hk).1 rfl
    · exact (h3 k hk).2 rfl
    · have := t2 k (by simpa using hm)
      omega
  · simp only [List.mem_cons] at hm k1
    rcases hm with rfl | rfl | hm
    · exact k1 (by simp)
    · exact k1 (by simp)
    · have := t2 h (by simpa using hm)
      omega
/-- Between two rounds. -/
def Pair (W0 w : World) (q g : Nat) (L : List E) : Prop := ∃ F, Foot W0 w F q g L L
theorem Two.pair {W0 w : World} {q g h : Nat} {L : List E} {wh : Int} {x : E} (t : Two W0 w q g h L L wh x) : Pair W0 w q g L := by
  obtain ⟨F, f, _⟩ := t
  exact ⟨F, f⟩
theorem Pair.since {W0 w : World} {q g : Nat} {L : List E} (t : Pair W0 w q g L) : Below W0.heap.size W0 w := by
  obtain ⟨F, f⟩ := t
  exact f.since
theorem Pair.two {W0 w w' : World} {q g : Nat} {L : List E} {wh : Int} {x : E} {T : TypeId} (t : Pair W0 w q g L) (hw : w' = w.alloc (.cells #[.int .i64 wh, .int .u64 x.a, .int .u64 x.b, .int .u64 x.n] T)) : Two W0 w' q g w.heap.size L L wh x := by
  obtain ⟨F, f⟩ := t
  subst hw
  refine ⟨F, f.below ((Below.refl _ _).alloc (Nat.le_refl _) _), fun hm => by have := (f.range _ hm).2; omega, by simp, ?_, ?_, ?_, ?_⟩ <;> go_simp
theorem Pair.new {W0 w0 w : World} {q : Nat} {R : List Nat} {T : TypeId} (h0 : Below W0.heap.size W0 w0) (t : TL w0 q R []) (hf : ∀ k ∈ q :: R, W0.heap.size ≤ k) (hw : w = w0.alloc (.cells #[.slice none 0 0] T)) : Pair W0 w q w0.heap.size [] := by
  subst hw
  have hb : Below w0.heap.size w0 (w0.alloc (.cells #[.slice none 0 0] T)) := (Below.refl _ _).alloc (Nat.le_refl _) _
  refine ⟨w0.heap.size :: w0.heap.size :: q :: R, R, w0.heap.size, rfl, t.below hb, ⟨fun o => by go_simp, by simp, .inl ⟨rfl, by go_simp⟩⟩, fun k hk => ?_, fun k hk => ?_, h0.trans (hb.mono h0.size)⟩
  · have := t.lt k hk
    constructor <;> omega
  · have s0 := h0.size
    simp only [List.mem_cons] at hk
    rcases hk with rfl | rfl | hk
    · exact ⟨by omega, by simp⟩
    · exact ⟨by omega, by simp⟩
    · have hk' : k ∈ q :: R := by simpa using hk
      exact ⟨hf k hk', Nat.lt_of_lt_of_le (t.lt k hk') hb.size⟩
end Go.Proofs.Ytbifgmamjdniaaa
