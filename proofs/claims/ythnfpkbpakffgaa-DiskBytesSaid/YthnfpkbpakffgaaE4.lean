/- Arguments opened: slices of slices of bytes, by what may be reached. -/
import Derived.Test.YthnfpkbpakffgaaE3
import Derived.Test.YthnfpkbpakffgaaP1
import Derived.SizedLaws
namespace Go.Proofs.Ythnfpkbpakffgaa
open Go.ChangeShapes Go.WideShapes Go.ChangeAt Go.RowKit
theorem bytes8 : Try.prog.bytesOf 5 = 1 := by kernel_rfl
theorem weights_all {H : Type} {P : Program} {e : TypeId} : ∀ {ds : List (DataW H)} {d : DataW H}, d ∈ ds → ∀ n ∈ d.weights P e, n ∈ DataW.weightsAll P e ds
  | [], _, h, _, _ => by simp at h
  | x :: r, d, h, n, hn => by
    unfold DataW.weightsAll
    rw [List.mem_append]
    rcases List.mem_cons.1 h with rfl | h
    · exact .inl hn
    · exact .inr (weights_all h n hn)
theorem sized_inner {H : Type} {P : Program} {ts : List TypeId} {ds : List (DataW H)} (h : (DataW.weightsEach P ts ds).all (· ≤ reachBytes) = true) {j : Nat} {t e u : TypeId} {elems spare : List (DataW H)} (ht : ts[j]? = some t) (hd : ds[j]? = some (.slice elems spare)) (hu : P.underlying t = some (.slice e)) (he : P.underlying e = some (.slice u))
    {a b : List (DataW H)} (hm : DataW.slice a b ∈ elems) : (a.length + b.length) * P.bytesOf u ≤ reachBytes := by
  have h1 : (a.length + b.length) * P.bytesOf u ∈ (DataW.slice a b).weights P e := by simp [DataW.weights, he]
  have h2 := weights_all hm _ h1
  have := List.all_eq_true.1 h _ (DataW.weights_mem_each ht hd ((a.length + b.length) * P.bytesOf u) (by
    unfold DataW.weights
    rw [hu]
    simp only [List.mem_cons, List.mem_append]
    exact .inr (.inl h2)))
  simpa using this
section
variable {H : Type} {enc : TypeId × Value → H} {W : World} {base : Nat} {held : Bool} {n : Nat} {cs : List Value} {y : DataW H × List MemPlace}
theorem bytes_in2 (hf : DataW.trod enc Try.prog W base (fun _ => true) held n 32 cs = some y) : ∃ (A : Option Addr) (cap : Nat) (l : List UInt8), cs = [.slice A l.length cap] ∧ At W A l ∧ (A = none → cap = 0) ∧ (l.length = 0 ∨ ∃ es sp, y.1 = .slice es sp ∧ es.length = l.length) := by
  rcases open_ints Try.underlying32 Try.underlying5 cells8 hf with ⟨hcs, _⟩ | ⟨a, len, cap, zs, hcs, _, hl, hm, hz, hx, hcell, hwz⟩
  · exact ⟨none, 0, [], hcs, fun h0 => absurd h0 (by simp), fun _ => rfl, .inl rfl⟩
  · obtain ⟨A, len', cap', l, e, h1, h2, h3, _⟩ := bytes_in hf
    rw [hcs] at e
    simp at e
    obtain ⟨rfl, rfl, rfl⟩ := e
    subst h2
    simp only [if_true] at hz
    exact ⟨_, _, l, hcs, h1, h3, .inr ⟨_, _, by rw [hx], by simp [lits]; omega⟩⟩
end
section
variable {H : Type} {enc : TypeId × Value → H} {W : World} {base : Nat} {held : Bool} {v : Value} {d : DataW H} {p : List MemPlace}
set_option maxRecDepth 100000 in
theorem open_bb {r : Reach} {b0 : Nat} (hv : Value.okWide Try.prog W r b0 56 v) (h : DataW.Trod enc Try.prog W base (fun _ => true) held 56 v d p) (hs : ∀ es sp, d = .slice es sp → ∀ a b, DataW.slice a b ∈ es → (a.length + b.length) * Try.prog.bytesOf 5 ≤ reachBytes) : ∃ B n c f, v = .slice B n c ∧ LAt W B n f ∧ n ≤ maxLen := by
  obtain ⟨x0, x1, x2, rfl⟩ := okWide_slice Try.underlying56 hv
  obtain ⟨fuel, hf⟩ := h
  rcases DataW.trod_slice Try.underlying56 hf with ⟨e, _⟩ | ⟨a, len, cap, elems, rest, n, g1, e, g2, g3, g4, g5, hlen, hg, _, _⟩
  · simp [Value.cells] at e
    obtain ⟨rfl, rfl, rfl⟩ := e
    exact ⟨none, 0, 0, fun _ => (none, 0, []), rfl, fun h0 => absurd h0 (by simp), Nat.zero_le _⟩
  · simp [Value.cells] at e
    obtain ⟨rfl, rfl, rfl⟩ := e
    have hC : Try.prog.cellsOf 32 = 1 := by kernel_rfl
    rw [hC] at hg
    have hd := hs _ _ (Prod.mk.inj g2).1
    have each : ∀ i, ∃ q : Option Addr × Nat × List UInt8, i < x1 → W.cell? (a.add (i * 1)) = some (.slice q.1 q.2.2.length q.2.1) ∧ At W q.1 q.2.2 ∧ (q.1 = none → q.2.1 = 0) ∧ q.2.2.length ≤ 140737488355328 := fun i => by
      by_cases hi : i < x1
      · have h1 := hg i hi
        have hil : i < elems.length := by omega
        rw [List.getElem?_eq_getElem hil, Option.bind_eq_some_iff] at h1
        obtain ⟨cs, hcs, ht⟩ := h1
        obtain ⟨_, hl, hcell⟩ := World.cells?_some hcs
        obtain ⟨A, c, l, e, q1, q2, q3⟩ := bytes_in2 ht
        have d0 := hcell 0 (by omega)
        rw [e] at d0
        refine ⟨(A, c, l), fun _ => ⟨by simpa [Addr.add] using d0, q1, q2, ?_⟩⟩
        rcases q3 with q3 | ⟨es, sp, q3, q4⟩
        · show l.length ≤ _
          omega
        · have := hd es sp (List.mem_map.2 ⟨elems[i], List.getElem_mem hil, q3⟩)
          rw [bytes8] at this
          simp only [reachBytes] at this
          show l.length ≤ _
          omega
      · exact ⟨(none, 0, []), fun h => absurd h hi⟩
    obtain ⟨f, each⟩ : ∃ f : Nat → Option Addr × Nat × List UInt8, ∀ i, i < x1 → W.cell? (a.add (i * 1)) = some (.slice (f i).1 (f i).2.2.length (f i).2.1) ∧ At W (f i).1 (f i).2.2 ∧ ((f i).1 = none → (f i).2.1 = 0) ∧ (f i).2.2.length ≤ 140737488355328 := ⟨fun i => Classical.choose (each i), fun i => Classical.choose_spec (each i)⟩
    refine ⟨some a, x1, x2, f, rfl, fun h0 => ?_, by omega⟩
    obtain ⟨f0, _⟩ := each 0 h0
    obtain ⟨b, off, spot⟩ := a
    have hspot : spot = none := by simpa [Addr.add] using World.cell?_spot f0
    subst hspot
    have hlt : b < W.heap.size := by
      rw [add_plain] at f0
      exact World.block_lt_of_cell? W _ f0
    refine ⟨b, off, rfl, hlt, fun i hi => ?_⟩
    obtain ⟨f0, f1⟩ := each i hi
    rw [add_plain, Nat.mul_one] at f0
    exact ⟨f0, f1⟩
end
end Go.Proofs.Ythnfpkbpakffgaa
