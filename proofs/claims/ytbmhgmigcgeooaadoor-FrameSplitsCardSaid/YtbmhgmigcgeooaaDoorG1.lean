/- A range over a function whose values lie in memory that the function makes as it goes: what a value is may be said in the world of its round. -/
import Derived.Test.YtbmhgmigcgeooaaDoorB4
import Derived.RangeFuncNested
import Derived.RangeFuncBound
import Derived.RangeFuncLeaves
import Derived.RangeFuncBox
import Derived.Shelf.Abstract
import Derived.OwnWalkIn
import Derived.TacticsInMore
import Derived.Stop.RegionWithIn
namespace Go.Proofs.YtbmhgmigcgeooaaDoor
open Go.RowKit
section
variable {α : Type}
/-- A round at each value that fits the world it comes in. -/
def RoundsF (P : Program) (l N : Nat) (encs : α → Array Value) (Fits : α → World → Prop) (Kp : World → World → Prop) (J Jx : List α → World → Prop) : Prop :=
  ∀ m pre x W, J pre W → Fits x W → pre.length < N → YieldAt Fence.wide m P l (encs x) W fun e W' =>
    (e = .returned (.bool true) ∧ J (pre ++ [x]) W' ∧ Kp W W') ∨ (e = .returned (.bool false) ∧ Jx (pre ++ [x]) W')
/-- The function's contract: for every caller whose rounds stand as above. -/
def IterF (P : Program) (gf : Nat) (lb : Array Value) (encs : α → Array Value) (Fits : α → World → Prop) (Kp : World → World → Prop) (S Sp : List α → Prop) (N : Nat) (w : World) : Prop :=
  ∀ (l : Nat) (J Jx : List α → World → Prop) (W : World), Below w.heap.size w W → (∀ s A B, J s A → A.grownBy B none → J s B) → RoundsF P l N encs Fits Kp J Jx → J [] W →
    Calls P gf (#[.func (.yield l) #[] #[]] ++ lb) W fun e W' => (∃ v, e = .returned v) ∧ ((∃ ys, S ys ∧ J ys W') ∨ (∃ pre, Sp pre ∧ Jx pre W'))
/-- The two blocks that the loop keeps beside: its record, its list of deferred calls. -/
structure Book (rec : LoopState → Option Code → Loop) (D : Nat) (st : LoopState) (pe : Option Code) (W : World) : Prop where
  loop : W.heap[D + 1]? = some (.loop (rec st pe))
  list : W.heap[D]? = some (.deferred (some []))
theorem Book.grown {rec : LoopState → Option Code → Loop} {D : Nat} {st : LoopState} {pe : Option Code} {A B : World} (h : Book rec D st pe A) (hg : A.grownBy B none) : Book rec D st pe B :=
  ⟨(hg.block _ (Array.getElem?_eq_some_iff.1 h.loop).1 (by simp)).trans h.loop, (hg.block _ (Array.getElem?_eq_some_iff.1 h.list).1 (by simp)).trans h.list⟩
theorem Book.turn {rec : LoopState → Option Code → Loop} {D : Nat} {st st' : LoopState} {pe pe' : Option Code} {A : World} (h : Book rec D st pe A) : Book rec D st' pe' (A.putObj (D + 1) (.loop (rec st' pe'))) :=
  ⟨World.putObj_heap_same (Array.getElem?_eq_some_iff.1 h.loop).1, (World.putObj_heap_other (by omega)).trans h.list⟩
theorem Book.keeps {rec : LoopState → Option Code → Loop} {D : Nat} {st : LoopState} {pe : Option Code} {A B : World} (h : Book rec D st pe A) (hk : KeepsFrom D A B) : Book rec D st pe B :=
  ⟨hk.same _ _ (by omega) h.loop rfl, hk.same _ _ (Nat.le_refl _) h.list rfl⟩
/-- What abides the loop's own book-keeping. -/
structure Abides2 (D : Nat) (p : World → Prop) : Prop where
  grow : ∀ A B, p A → A.grownBy B none → p B
  turn : ∀ A (o : Obj) (o' : Obj), p A → A.heap[D + 1]? = some o → o.isCells = false → p (A.putObj (D + 1) o')
/-- How a body may be left. -/
def leftF (D : Nat) (Kp : World → World → Prop) (I : List α → World → Prop) (Ix : Code → List α → World → Prop) (xs : List α) (W : World) : Exit → Act → World → Prop
  | .normal, _, W' => KeepsFrom D W W' ∧ Kp W W' ∧ I xs W'
  | .exit id, _, W' => KeepsFrom D W W' ∧ Ix (.exit id) xs W'
  | _, _, _ => False
theorem Abides2.of_own {D : Nat} {p : World → Prop} (h : OwnFrom D (fun (_ : Unit) W => p W)) : Abides2 D p :=
  ⟨fun A B hp hg => h () A B none hp hg (fun r e => by cases e), fun A o o' hp hl ho => OwnFrom.putObj (s := ()) h o' hp (by omega) hl ho⟩
theorem wp_ranged {P : Program} {n : Nat} {g : Operand} {ps : Array Tmp} {assign body : Code} {Q : Exit → Act → World → Prop} {a : Act} {w : World}
    {gf : Nat} {lb : Array Value} (hg : a.eval g = .func (.func gf) #[] lb) (eg : ∀ args w, (callFunc gf args).run P w = .ok (.enter gf args) w)
    {encs : α → Array Value} {Fits : α → World → Prop} {Kp : World → World → Prop} {S Sp : List α → Prop} {N : Nat} (hit : IterF P gf lb encs Fits Kp S Sp N w) (hps : ∀ x, (encs x).size = ps.size)
    (hKt : ∀ {A B C : World}, Kp A B → Kp B C → Kp A C) (hKb : ∀ (W : World) (o o' : Obj), W.heap[w.heap.size + 1]? = some o → o.isCells = false → Kp W (W.putObj (w.heap.size + 1) o'))
    (I : List α → World → Prop) (Ix : Code → List α → World → Prop) (Ax : α → Act → World → Prop) (hI : ∀ s, Abides2 w.heap.size (I s)) (hIx : ∀ c s, Abides2 w.heap.size (Ix c s)) (hAx : ∀ x a', Abides2 w.heap.size (Ax x a')) (hF : ∀ x, Abides2 w.heap.size (Fits x))
    (h0 : I [] w)
    (hassign : ∀ (l m : Nat) (pre : List α) (x : α) (W : World) (K : Act → World → Prop), w.heap.size + 2 ≤ W.heap.size → I pre W → Fits x W → (∀ a' W', KeepsFrom w.heap.size W W' → Kp W W' → I pre W' → Fits x W' → Ax x a' W' → K a' W') →
      assign.wpIn (Fence.wide.inRound l) m P (Exit.then K (fun _ _ _ => False)) { tmps := (ps.zip (encs x)).foldl (fun t (p, v) => t.setIfInBounds p v) a.tmps, defers := [] } W)
    (hbody : ∀ (l m : Nat) (pre : List α) (x : α) (a' : Act) (W : World), w.heap.size + 2 ≤ W.heap.size → I pre W → Fits x W → Ax x a' W → pre.length < N → body.wpIn (Fence.wide.inRound l) m P (leftF w.heap.size Kp I Ix (pre ++ [x]) W) a' W)
    (hdone : ∀ (D : Nat) (xs : List α) (W : World), w.heap.size ≤ D → S xs → I xs W → W.heap[D]? = some (.deferred (some [])) → Q .normal { a with defers := { target := .collected D, args := #[] } :: a.defers } W)
    (hstop : ∀ (D : Nat) (c : Code) (pre : List α) (W : World), w.heap.size ≤ D → Sp pre → Ix c pre W → W.heap[D]? = some (.deferred (some [])) → c.wpIn Fence.wide n P Q { a with defers := { target := .collected D, args := #[] } :: a.defers } W) :
    (Code.rangeFunc g ps assign body).wpIn Fence.wide n P Q a w := by
  refine wpIn_rangeFunc fun fn hfn => ?_
  obtain ⟨rec, hrec⟩ : ∃ rec : LoopState → Option Code → Loop, ∀ st pe, rec st pe = { state := st, pending := pe, fn, tmps := a.tmps, params := ps, assign, body, defers := w.heap.size } := ⟨_, fun _ _ => rfl⟩
  obtain ⟨W1, hW1⟩ : ∃ W1, (w.alloc (.deferred (some []))).alloc (.loop (rec .ready none)) = W1 := ⟨_, rfl⟩
  have gr1 : w.grownBy W1 none := by
    rw [← hW1]
    exact ⟨rfl, rfl, rfl, by simp; omega, fun k hk _ => (Below.heap_alloc _ _ k (by simp; omega)).trans (Below.heap_alloc _ _ k hk)⟩
  have bk1 : Book rec w.heap.size .ready none W1 := by
    rw [← hW1]
    refine ⟨?_, (Below.heap_alloc _ _ _ (by simp)).trans (World.alloc_heap_new w _)⟩
    have := World.alloc_heap_new (w.alloc (.deferred (some []))) (.loop (rec .ready none))
    rwa [World.size_alloc] at this
  have lo1 : Below w.heap.size w W1 := ⟨gr1.os, gr1.tape, gr1.output, gr1.size, fun k hk => gr1.block k hk (by simp)⟩
  refine ⟨w.heap.size + 1, [{ target := .collected w.heap.size, args := #[] }], W1, { target := .fn (.func gf) lb, args := #[.func (.yield (w.heap.size + 1)) #[] #[]] }, W1, gf, #[.func (.yield (w.heap.size + 1)) #[] #[]] ++ lb, W1, ?_, ?_, fun _ _ => trivial, ?_, (fun h => by cases h), ?_⟩
  · rw [← hW1, hrec]
    exact run_enterLoop_outer _ _ _ _ _
  · simp only [resolve, hg]
    simp [go_sem]
  · simp [invoke, go_sem, eg]
  refine callsIn_wide.2 ((hit (w.heap.size + 1) (fun pre W => I pre W ∧ Book rec w.heap.size .ready none W) (fun pre W => ∃ c, Ix c pre W ∧ Book rec w.heap.size .done (some c) W) W1 lo1
    (fun s A B h hg' => ⟨(hI s).grow A B h.1 hg', h.2.grown hg'⟩) ?_ ⟨(hI []).grow _ _ h0 gr1, bk1⟩).mono ?_)
  · -- a round
    rintro m pre x W ⟨hi, hb⟩ hf hlen
    have hsz : w.heap.size + 2 ≤ W.heap.size := (Array.getElem?_eq_some_iff.1 hb.loop).1
    have hy := run_yield (P := P) (args := encs x) hb.loop (by rw [hrec]; exact hps x)
    rw [hrec] at hy
    refine ⟨fn, _, assign, body, hy, roundIn_of_wpIn hfn (hassign _ m pre x W _ hsz hi hf ?_)⟩
    intro a' V hkV hpV hiV hfV haV
    have bV := hb.keeps hkV
    have sV : w.heap.size + 2 ≤ V.heap.size := (Array.getElem?_eq_some_iff.1 bV.loop).1
    have hrb := run_beginRound (P := P) bV.loop (by rw [hrec])
    rw [show ({ rec .ready none with state := .busy } : Loop) = rec .busy none by rw [hrec, hrec]] at hrb
    refine ⟨_, hrb, ?_⟩
    have tb := hKb V _ (.loop (rec .busy none)) bV.loop rfl
    refine wpIn_mono (hbody _ m pre x a' _ (by simpa using sV) ((hI pre).turn _ _ _ hiV bV.loop rfl) ((hF x).turn _ _ _ hfV bV.loop rfl) ((hAx x a').turn _ _ _ haV bV.loop rfl) hlen) ?_
    have bU := bV.turn (st' := .busy) (pe' := none)
    rintro e a3 U hp
    cases e with
    | normal =>
      obtain ⟨hkU, hpU, hiU⟩ := hp
      have bU2 := bU.keeps hkU
      have he := run_endRound (P := P) none bU2.loop
      rw [show ({ rec .busy none with state := if (none : Option Code).isNone then .ready else .done, pending := none } : Loop) = rec .ready none by rw [hrec, hrec]; rfl] at he
      exact ⟨_, _, he, .inl ⟨rfl, ⟨(hI _).turn _ _ _ hiU bU2.loop rfl, bU2.turn⟩, hKt hpV (hKt (hKt tb hpU) (hKb U _ _ bU2.loop rfl))⟩⟩
    | exit id =>
      obtain ⟨hkU, hiU⟩ := hp
      have bU2 := bU.keeps hkU
      have he := run_endRound (P := P) (some (.exit id)) bU2.loop
      rw [show ({ rec .busy none with state := if (some (Code.exit id)).isNone then .ready else .done, pending := some (.exit id) } : Loop) = rec .done (some (.exit id)) by rw [hrec, hrec]; rfl] at he
      exact ⟨_, _, he, .inr ⟨rfl, .exit id, (hIx _ _).turn _ _ _ hiU bU2.loop rfl, bU2.turn⟩⟩
    | ret => exact hp.elim
    | goto t => exact hp.elim
    | panic ch => exact hp.elim
    | outgrown => exact hp.elim
  · -- behind the function
    rintro e W2 ⟨⟨v, rfl⟩, (⟨xs, hS, hi, hb⟩ | ⟨pre, hSp, c, hi, hb⟩)⟩
    · have he := run_endLoop (P := P) hb.loop (by rw [hrec]; simp)
      rw [show (rec .ready none).pending = none by rw [hrec]] at he
      exact ⟨none, _, he, hdone _ xs _ (Nat.le_refl _) hS ((hI _).turn _ _ _ hi hb.loop rfl) ((World.putObj_heap_other (by omega)).trans hb.list)⟩
    · have he := run_endLoop (P := P) hb.loop (by rw [hrec]; simp)
      rw [show (rec .done (some c)).pending = some c by rw [hrec]] at he
      exact ⟨some c, _, he, hstop _ c pre _ (Nat.le_refl _) hSp ((hIx _ _).turn _ _ _ hi hb.loop rfl) ((World.putObj_heap_other (by omega)).trans hb.list)⟩
end
end Go.Proofs.YtbmhgmigcgeooaaDoor
