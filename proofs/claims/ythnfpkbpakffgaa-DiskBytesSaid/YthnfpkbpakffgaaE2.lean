/- Arguments opened: slices of calls. -/
import Derived.Test.YthnfpkbpakffgaaL1
import Derived.Test.YthnfpkbpakffgaaRows
import Derived.ProofKit
import Derived.Lib.SmallJoins
import Derived.Laws.Cover2
import Derived.Carry
import Derived.ChangeSlices
namespace Go.Proofs.Ythnfpkbpakffgaa
open Go.ChangeShapes Go.WideShapes Go.ChangeAt Go.RowKit
theorem dsk_own : ownKnob Try.prog.godebug = none := by kernel_rfl
theorem dsk_out : laidOutB Try.prog = true := by kernel_rfl
theorem int_fits {x : Int} (h : (Lit.int .i64 x).wf = true) : -9223372036854775808 ≤ x ∧ x ≤ 9223372036854775807 := by
  simpa [Lit.wf, IntKind.min, IntKind.max, IntKind.signed, IntKind.bits] using h
theorem byte_wf {x : Int} (h : (Lit.int .u8 x).wf = true) : 0 ≤ x ∧ x ≤ 255 := by
  simpa [Lit.wf, IntKind.min, IntKind.max, IntKind.signed, IntKind.bits] using h
theorem half_wf {x : Int} (h : (Lit.int .u16 x).wf = true) : 0 ≤ x ∧ x ≤ 65535 := by
  simpa [Lit.wf, IntKind.min, IntKind.max, IntKind.signed, IntKind.bits] using h
theorem byte_ofNat (n : Nat) : (UInt8.ofNat n).toNat = n % 256 := by simp
theorem cells8 : Try.prog.cellsOf 5 = 1 := by kernel_rfl
theorem cells16 : Try.prog.cellsOf 54 = 1 := by kernel_rfl
section
variable {H : Type} {enc : TypeId × Value → H} {W : World} {base : Nat} {held : Bool} {n : Nat} {cs : List Value} {y : DataW H × List MemPlace}
theorem bytes_in (hf : DataW.trod enc Try.prog W base (fun _ => true) held n 32 cs = some y) : ∃ (A : Option Addr) (len cap : Nat) (l : List UInt8), cs = [.slice A len cap] ∧ At W A l ∧ l.length = len ∧ (A = none → cap = 0) ∧ len ≤ maxLen := by
  rcases open_ints Try.underlying32 Try.underlying5 cells8 hf with ⟨hcs, _⟩ | ⟨a, len, cap, zs, hcs, _, hl, hm, hz, hx, hcell, hwz⟩
  · exact ⟨none, 0, 0, [], hcs, fun h0 => absurd h0 (by simp), rfl, fun _ => rfl, Nat.zero_le _⟩
  · simp only [if_true] at hz
    have hlen : ((zs.take len).map fun n => UInt8.ofNat n.toNat).length = len := by simp; omega
    refine ⟨some a, len, cap, (zs.take len).map fun n => UInt8.ofNat n.toNat, hcs, fun h0 => ?_, hlen, (fun h => by cases h), by omega⟩
    rw [hlen] at h0
    obtain ⟨b, off, spot⟩ := a
    have hspot : spot = none := by simpa [Addr.add] using World.cell?_spot (hcell 0 (by omega))
    subst hspot
    have hcell' : ∀ i, i < zs.length → W.cell? ⟨b, off + i, none⟩ = some (.int .u8 (zs.getD i 0)) := fun i hi => by rw [← add_plain]; exact hcell i hi
    have hlt : b < W.heap.size := World.block_lt_of_cell? W _ (hcell' 0 (by omega))
    refine ⟨b, off, rfl, hlt, fun i hi => ?_⟩
    rw [hlen] at hi
    rw [hcell' i (by omega)]
    have hz' : i < zs.length := by omega
    have hw := byte_wf (hwz (zs.getD i 0) (by simp [List.getD, hz']))
    have e : ((zs.take len).map fun n => UInt8.ofNat n.toNat).getD i 0 = UInt8.ofNat (zs.getD i 0).toNat := by
      simp [List.getD, hi, hz']
    rw [e]
    unfold bv
    rw [byte_ofNat]
    congr 2
    omega
theorem halves_in (hf : DataW.trod enc Try.prog W base (fun _ => true) held n 33 cs = some y) : ∃ (A : Option Addr) (len cap : Nat) (ps : List Nat), cs = [.slice A len cap] ∧ PAt W A ps ∧ ps.length = len ∧ len ≤ maxLen := by
  rcases open_ints Try.underlying33 Try.underlying54 cells16 hf with ⟨hcs, _⟩ | ⟨a, len, cap, zs, hcs, _, hl, hm, hz, hx, hcell, hwz⟩
  · exact ⟨none, 0, 0, [], hcs, ⟨fun i => by simp, fun h0 => absurd h0 (by simp)⟩, rfl, Nat.zero_le _⟩
  · simp only [if_true] at hz
    have hlen : ((zs.take len).map fun n => n.toNat).length = len := by simp; omega
    have e : ∀ i, i < len → ((zs.take len).map fun n => n.toNat).getD i 0 = (zs.getD i 0).toNat := fun i hi => by
      have hz' : i < zs.length := by omega
      simp [List.getD, hi, hz']
    have hw : ∀ i, i < len → 0 ≤ zs.getD i 0 ∧ zs.getD i 0 ≤ 65535 := fun i hi => by
      have hz' : i < zs.length := by omega
      exact half_wf (hwz (zs.getD i 0) (by simp [List.getD, hz']))
    refine ⟨some a, len, cap, (zs.take len).map fun n => n.toNat, hcs, ⟨fun i => ?_, fun h0 => ?_⟩, hlen, by omega⟩
    · by_cases hi : i < len
      · rw [e i hi]
        have := hw i hi
        omega
      · rw [List.getD_eq_getElem?_getD, List.getElem?_eq_none (by omega)]
        exact Nat.zero_le _
    · rw [hlen] at h0
      obtain ⟨b, off, spot⟩ := a
      have hspot : spot = none := by simpa [Addr.add] using World.cell?_spot (hcell 0 (by omega))
      subst hspot
      have hcell' : ∀ i, i < zs.length → W.cell? ⟨b, off + i, none⟩ = some (.int .u16 (zs.getD i 0)) := fun i hi => by rw [← add_plain]; exact hcell i hi
      have hlt : b < W.heap.size := World.block_lt_of_cell? W _ (hcell' 0 (by omega))
      refine ⟨b, off, rfl, hlt, fun i hi => ?_⟩
      rw [hlen] at hi
      rw [hcell' i (by omega), e i hi]
      have := hw i hi
      congr 2
      omega
end
section
variable {H : Type} {enc : TypeId × Value → H} {W : World} {base : Nat} {held : Bool} {v : Value} {d : DataW H} {p : List MemPlace}
def opp0 : Opp := ⟨0, ⟨#[]⟩, ⟨#[]⟩, 0, none, 0, 0, [], none, 0, 0, []⟩
set_option maxRecDepth 100000 in
theorem open_ops {r : Reach} {b0 : Nat} (hv : Value.okWide Try.prog W r b0 22 v) (h : DataW.Trod enc Try.prog W base (fun _ => true) held 22 v d p) : ∃ B n c f, v = .slice B n c ∧ OAt W B n f ∧ n ≤ maxLen := by
  obtain ⟨x0, x1, x2, rfl⟩ := okWide_slice Try.underlying22 hv
  obtain ⟨fuel, hf⟩ := h
  rcases DataW.trod_slice Try.underlying22 hf with ⟨e, _⟩ | ⟨a, len, cap, elems, rest, n, g1, e, g2, g3, g4, g5, hlen, hg, _, _⟩
  · simp [Value.cells] at e
    obtain ⟨rfl, rfl, rfl⟩ := e
    exact ⟨none, 0, 0, fun _ => opp0, rfl, fun h0 => absurd h0 (by simp), Nat.zero_le _⟩
  · simp [Value.cells] at e
    obtain ⟨rfl, rfl, rfl⟩ := e
    have hC : Try.prog.cellsOf 35 = 6 := by kernel_rfl
    rw [hC] at hg
    have k0 : Try.prog.cellsOf 3 = 1 := by kernel_rfl
    have k1 : Try.prog.cellsOf 9 = 1 := by kernel_rfl
    have k2 : Try.prog.cellsOf 32 = 1 := by kernel_rfl
    have k3 : Try.prog.cellsOf 33 = 1 := by kernel_rfl
    have each : ∀ i, ∃ q : Opp, i < x1 → W.cell? (a.add (i * 6)) = some (.int .i64 q.what) ∧ W.cell? ((a.add (i * 6)).add 1) = some (.string q.nm) ∧ W.cell? ((a.add (i * 6)).add 2) = some (.string q.tn) ∧ W.cell? ((a.add (i * 6)).add 3) = some (.int .i64 q.n) ∧ W.cell? ((a.add (i * 6)).add 4) = some (.slice q.A q.nb q.cb) ∧ W.cell? ((a.add (i * 6)).add 5) = some (.slice q.P q.np q.cp) ∧ OpOk W (fun b => b < W.heap.size) q := fun i => by
      by_cases hi : i < x1
      · have h1 := hg i hi
        rw [List.getElem?_eq_getElem (by omega), Option.bind_eq_some_iff] at h1
        obtain ⟨cs, hcs, ht⟩ := h1
        obtain ⟨_, hl, hcell⟩ := World.cells?_some hcs
        match cs, hl, hcell, ht with
        | [c0, c1, c2, c3, c4, c5], _, hcell, ht =>
          obtain ⟨xs, n', _, _, _, hlen', hg'⟩ := DataW.trod_struct Try.underlying35 ht
          match xs, hlen', hg' with
          | [y0, y1, y2, y3, y4, y5], _, hg' =>
            have g0 : DataW.trod enc Try.prog W base (fun _ => true) held n' 3 (([c0, c1, c2, c3, c4, c5].drop 0).take (Try.prog.cellsOf 3)) = some y0 := hg' 0 _ rfl
            have g1 : DataW.trod enc Try.prog W base (fun _ => true) held n' 9 (([c0, c1, c2, c3, c4, c5].drop 1).take (Try.prog.cellsOf 9)) = some y1 := hg' 1 _ rfl
            have g2 : DataW.trod enc Try.prog W base (fun _ => true) held n' 9 (([c0, c1, c2, c3, c4, c5].drop 2).take (Try.prog.cellsOf 9)) = some y2 := hg' 2 _ rfl
            have g3 : DataW.trod enc Try.prog W base (fun _ => true) held n' 3 (([c0, c1, c2, c3, c4, c5].drop 3).take (Try.prog.cellsOf 3)) = some y3 := hg' 3 _ rfl
            have g4 : DataW.trod enc Try.prog W base (fun _ => true) held n' 32 (([c0, c1, c2, c3, c4, c5].drop 4).take (Try.prog.cellsOf 32)) = some y4 := hg' 4 _ rfl
            have g5 : DataW.trod enc Try.prog W base (fun _ => true) held n' 33 (([c0, c1, c2, c3, c4, c5].drop 5).take (Try.prog.cellsOf 33)) = some y5 := hg' 5 _ rfl
            rw [k0] at g0 g3
            rw [k1] at g1 g2
            rw [k2] at g4
            rw [k3] at g5
            obtain ⟨z0, e0, _, _⟩ := DataW.trod_int Try.underlying3 g0
            obtain ⟨z1, e1, _, _⟩ := DataW.trod_string Try.underlying9 g1
            obtain ⟨z2, e2, _, _⟩ := DataW.trod_string Try.underlying9 g2
            obtain ⟨z3, e3, _, w3⟩ := DataW.trod_int Try.underlying3 g3
            obtain ⟨A, nb, cb, bs, e4, a1, a2, a3, a4⟩ := bytes_in g4
            obtain ⟨P, np, cp, ps, e5, b1, b2, b3⟩ := halves_in g5
            simp at e0 e1 e2 e3 e4 e5
            subst e0 e1 e2 e3 e4 e5
            have d0 := hcell 0 (by omega)
            have d1 := hcell 1 (by omega)
            have d2 := hcell 2 (by omega)
            have d3 := hcell 3 (by omega)
            have d4 := hcell 4 (by omega)
            have d5 := hcell 5 (by omega)
            refine ⟨⟨z0, z1, z2, z3, A, nb, cb, bs, P, np, cp, ps⟩, fun _ => ⟨by simpa [Addr.add] using d0, by simpa using d1, by simpa using d2, by simpa using d3, by simpa using d4, by simpa using d5, ⟨a1, a2, a3, a4, fun h0 bb off e => ?_, b1, b2, b3, fun h0 bb off e => ?_, (int_fits w3).2⟩⟩⟩
            · obtain ⟨b', off', e', hl, _⟩ := a1 h0
              have e : A = some ⟨bb, off, none⟩ := e
              rw [e] at e'; cases e'; exact hl
            · obtain ⟨b', off', e', hl, _⟩ := b1.2 h0
              have e : P = some ⟨bb, off, none⟩ := e
              rw [e] at e'; cases e'; exact hl
      · exact ⟨opp0, fun h => absurd h hi⟩
    obtain ⟨f, each⟩ : ∃ f : Nat → Opp, ∀ i, i < x1 → W.cell? (a.add (i * 6)) = some (.int .i64 (f i).what) ∧ W.cell? ((a.add (i * 6)).add 1) = some (.string (f i).nm) ∧ W.cell? ((a.add (i * 6)).add 2) = some (.string (f i).tn) ∧ W.cell? ((a.add (i * 6)).add 3) = some (.int .i64 (f i).n) ∧ W.cell? ((a.add (i * 6)).add 4) = some (.slice (f i).A (f i).nb (f i).cb) ∧ W.cell? ((a.add (i * 6)).add 5) = some (.slice (f i).P (f i).np (f i).cp) ∧ OpOk W (fun b => b < W.heap.size) (f i) := ⟨fun i => Classical.choose (each i), fun i => Classical.choose_spec (each i)⟩
    refine ⟨some a, x1, x2, f, rfl, fun h0 => ?_, by omega⟩
    obtain ⟨f0, _⟩ := each 0 h0
    obtain ⟨b, off, spot⟩ := a
    have hspot : spot = none := by simpa [Addr.add] using World.cell?_spot f0
    subst hspot
    have hlt : b < W.heap.size := by
      rw [add_plain] at f0
      exact World.block_lt_of_cell? W _ f0
    refine ⟨b, off, rfl, hlt, fun i hi => ?_⟩
    obtain ⟨f0, f1, f2, f3, f4, f5, f6⟩ := each i hi
    rw [add_plain] at f0
    rw [add_plain, add_plain] at f1 f2 f3 f4 f5
    exact ⟨⟨f0, f1, f2, f3, f4, f5⟩, f6⟩
end
end Go.Proofs.Ythnfpkbpakffgaa
