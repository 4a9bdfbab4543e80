/- Arguments opened: slices of operations, batches, bytes. -/
import Derived.Test.YtchklaepilcbbaaGreatmE1
import Derived.Test.YtchklaepilcbbaaGreatmJ1
import Derived.Test.YtchklaepilcbbaaGreatmL1
import Derived.Test.YtchklaepilcbbaaGreatRows
import Derived.ProofKit
import Derived.Lib.SmallJoins
import Derived.Laws.Cover2
import Derived.Carry
import Derived.ChangeSlices
namespace Go.Proofs.YtchklaepilcbbaaGreat
open Go.ChangeShapes Go.WideShapes Go.ChangeAt Go.RowKit
theorem cells8 : Tryz.prog.cellsOf 5 = 1 := by kernel_rfl
theorem bytes8 : Tryz.prog.bytesOf 5 = 1 := by kernel_rfl
theorem byte_wf {x : Int} (h : (Lit.int .u8 x).wf = true) : 0 ≤ x ∧ x ≤ 255 := by
  simpa [Lit.wf, IntKind.min, IntKind.max, IntKind.signed, IntKind.bits] using h
theorem half_wf {x : Int} (h : (Lit.int .u16 x).wf = true) : 0 ≤ x ∧ x ≤ 65535 := by
  simpa [Lit.wf, IntKind.min, IntKind.max, IntKind.signed, IntKind.bits] using h
section
set_option maxRecDepth 100000
variable {H : Type} {enc : TypeId × Value → H} {W : World} {base b0 : Nat} {held : Bool} {r : Reach} {v : Value} {d : DataW H} {p : List MemPlace}
theorem open_bytes (hv : Value.okWide Tryz.prog W r b0 25 v) (h : DataW.Trod enc Tryz.prog W base (fun _ => true) held 25 v d p) :
    ∃ (l : List UInt8), GS W v l ∧ (l.length = 0 ∨ ∃ elems spare, d = .slice elems spare ∧ elems.length = l.length) := by
  obtain ⟨a0, len, cap, rfl⟩ := okWide_slice Tryz.underlying25 hv
  obtain ⟨fuel, hf⟩ := h
  rcases open_ints Tryz.underlying25 Tryz.underlying5 cells8 hf with ⟨hcs, _⟩ | ⟨a, len', cap', zs, hcs, _, hl, hm, hz, hx, hcell, hwz⟩
  · simp [Value.cells] at hcs
    obtain ⟨rfl, rfl, rfl⟩ := hcs
    exact ⟨[], GS.nil _, .inl rfl⟩
  · simp [Value.cells] at hcs
    obtain ⟨rfl, rfl, rfl⟩ := hcs
    simp only [if_true] at hz
    simp only [Prod.mk.injEq] at hx
    have hlen : ((zs.take len).map fun n => UInt8.ofNat n.toNat).length = len := by simp; omega
    refine ⟨(zs.take len).map fun n => UInt8.ofNat n.toNat, ⟨some a, cap, by rw [hlen], fun h0 => ?_, (fun h => by cases h)⟩, .inr ⟨_, _, hx.1, by simp [lits]⟩⟩
    rw [hlen] at h0
    obtain ⟨b, off, spot⟩ := a
    have hspot : spot = none := by simpa [Addr.add] using World.cell?_spot (hcell 0 (by omega))
    subst hspot
    have hcell' : ∀ i, i < zs.length → W.cell? ⟨b, off + i, none⟩ = some (.int .u8 (zs.getD i 0)) := fun i hi => by rw [← add_plain]; exact hcell i hi
    have hlt : b < W.heap.size := World.block_lt_of_cell? W _ (hcell' 0 (by omega))
    refine ⟨b, off, rfl, hlt, fun i hi => ?_⟩
    rw [hlen] at hi
    rw [hcell' i (by omega)]
    have hz' : i < zs.length := by omega
    have hw := byte_wf (hwz (zs.getD i 0) (by simp [List.getD, hz']))
    have e : ((zs.take len).map fun n => UInt8.ofNat n.toNat).getD i 0 = UInt8.ofNat (zs.getD i 0).toNat := by
      simp [List.getD, hi, hz']
    rw [e]
    unfold bv
    rw [byte_ofNat]
    congr 2
    omega
/-- The cells of a slice of operations. -/
theorem ops_in {sp : Nat → Bool} {n : Nat} {cs : List Value} {y : DataW H × List MemPlace} (hf : DataW.trod enc Tryz.prog W base sp held n 54 cs = some y) :
    ∃ (A : Option Addr) (c : Nat) (l : List OP), cs = [.slice A l.length c] ∧ OAt W A l ∧ l.length ≤ 9223372036854775807 ∧ ∀ o ∈ l, o.wide := by
  rcases DataW.trod_slice Tryz.underlying54 hf with ⟨e, _⟩ | ⟨a, len, cap, elems, rest, n, g1, e, g2, g3, g4, g5, hlen, hg, _, _⟩
  · exact ⟨none, 0, [], e, fun h0 => absurd h0 (by simp), by simp, fun o ho => by simp at ho⟩
  · have hC : Tryz.prog.cellsOf 43 = 14 := by kernel_rfl
    rw [hC] at hg
    have each : ∀ i, ∃ o : OP, i < len → (∀ j u, o.cells.toList[j]? = some u → W.cell? ((a.add (i * 14)).add j) = some u) ∧ o.wide := fun i => by
      by_cases hi : i < len
      · have h1 := hg i hi
        rw [List.getElem?_eq_getElem (by omega), Option.bind_eq_some_iff] at h1
        obtain ⟨cs, hcs, ht⟩ := h1
        obtain ⟨_, hl, hcell⟩ := World.cells?_some hcs
        match cs, hl, hcell, ht with
        | [c0, c1, c2, c3, c4, c5, c6, c7, c8, c9, c10, c11, c12, c13], _, hcell, ht =>
          obtain ⟨o, e, hw⟩ := trod_op (c0 := c0) (c1 := c1) (c2 := c2) (c3 := c3) (c4 := c4) (c5 := c5) (c6 := c6) (c7 := c7) (c8 := c8) (c9 := c9) (c10 := c10) (c11 := c11) (c12 := c12) (c13 := c13) ht
          refine ⟨o, fun _ => ⟨fun j u hu => ?_, hw⟩⟩
          have hj : j < 14 := by
            have := (List.getElem?_eq_some_iff.1 hu).1
            rwa [op_len] at this
          rw [hcell j hj, e]
          exact hu
      · exact ⟨OP.zero, fun h => absurd h hi⟩
    obtain ⟨f, each⟩ : ∃ f : Nat → OP, ∀ i, i < len → (∀ j u, (f i).cells.toList[j]? = some u → W.cell? ((a.add (i * 14)).add j) = some u) ∧ (f i).wide := ⟨fun i => Classical.choose (each i), fun i => Classical.choose_spec (each i)⟩
    have hlen2 : ((List.range len).map f).length = len := by simp
    refine ⟨some a, cap, (List.range len).map f, by rw [hlen2]; exact e, fun h0 => ?_, by rw [hlen2]; unfold maxLen at *; omega, fun o ho => ?_⟩
    · rw [hlen2] at h0
      obtain ⟨b, off, spot⟩ := a
      have f0 := (each 0 h0).1 0 (.int .i64 (f 0).kind) rfl
      have hspot : spot = none := by simpa [Addr.add] using World.cell?_spot f0
      subst hspot
      have hlt : b < W.heap.size := by
        rw [add_plain, add_plain] at f0
        exact World.block_lt_of_cell? W _ f0
      refine ⟨b, off, rfl, hlt, fun i hi j u hu => ?_⟩
      rw [hlen2] at hi
      have := (each i hi).1 j u (by simpa using hu)
      rwa [add_plain, add_plain] at this
    · obtain ⟨i, hi, rfl⟩ := List.mem_map.1 ho
      exact (each i (List.mem_range.1 hi)).2
theorem open_opl {sp : Nat → Bool} (hv : Value.okWide Tryz.prog W r b0 54 v) (h : DataW.Trod enc Tryz.prog W base sp held 54 v d p) : ∃ l : List OP, SO W v l ∧ ∀ o ∈ l, o.wide := by
  obtain ⟨x0, x1, x2, rfl⟩ := okWide_slice Tryz.underlying54 hv
  obtain ⟨fuel, hf⟩ := h
  obtain ⟨A, c, l, e, h1, h2, h3⟩ := ops_in hf
  simp [Value.cells] at e
  obtain ⟨rfl, rfl, rfl⟩ := e
  exact ⟨l, ⟨_, _, rfl, h1, h2⟩, h3⟩
theorem open_batch {sp : Nat → Bool} (hv : Value.okWide Tryz.prog W r b0 56 v) (h : DataW.Trod enc Tryz.prog W base sp held 56 v d p) : ∃ (x : BP) (s : Value), v = bval x s ∧ SO W s x.ops ∧ x.wide := by
  obtain ⟨cs, rfl, hsz⟩ := okWide_struct Tryz.underlying56 hv
  have hC : Tryz.prog.cellsOf 56 = 3 := by kernel_rfl
  obtain ⟨l⟩ := cs
  match l, hsz.trans hC with
  | [c0, c1, c2], _ =>
    obtain ⟨fuel, hf⟩ := h
    have hf' : DataW.trod enc Tryz.prog W base sp held fuel 56 [c0, c1, c2] = some (d, p) := hf
    obtain ⟨xs, n, _, _, _, hlen, hg⟩ := DataW.trod_struct Tryz.underlying56 hf'
    have k_uint64 : Tryz.prog.cellsOf 39 = 1 := by kernel_rfl
    have k_ops : Tryz.prog.cellsOf 54 = 1 := by kernel_rfl
    match xs, hlen, hg with
    | [y0, y1, y2], _, hg =>
      have g0 : DataW.trod enc Tryz.prog W base sp held n 39 (([c0, c1, c2].drop 0).take (Tryz.prog.cellsOf 39)) = some y0 := hg 0 _ rfl
      rw [k_uint64] at g0
      have g1 : DataW.trod enc Tryz.prog W base sp held n 39 (([c0, c1, c2].drop 1).take (Tryz.prog.cellsOf 39)) = some y1 := hg 1 _ rfl
      rw [k_uint64] at g1
      have g2 : DataW.trod enc Tryz.prog W base sp held n 54 (([c0, c1, c2].drop 2).take (Tryz.prog.cellsOf 54)) = some y2 := hg 2 _ rfl
      rw [k_ops] at g2
      obtain ⟨z0, e0, _, w0⟩ := DataW.trod_int Tryz.underlying39 g0
      obtain ⟨z1, e1, _, w1⟩ := DataW.trod_int Tryz.underlying39 g1
      obtain ⟨A, c, l, e2, h1, h2, h3⟩ := ops_in g2
      simp at e0 e1 e2
      obtain ⟨n0, rfl, l0⟩ := u64_nat w0
      obtain ⟨n1, rfl, l1⟩ := u64_nat w1
      subst e0 e1 e2
      exact ⟨⟨n0, n1, l⟩, _, rfl, ⟨_, _, rfl, h1, h2⟩, l0, l1, h3⟩
end
end Go.Proofs.YtchklaepilcbbaaGreat
