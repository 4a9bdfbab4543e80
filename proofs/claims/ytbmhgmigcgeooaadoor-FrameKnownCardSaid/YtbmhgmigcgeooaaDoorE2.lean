/- The law's frames, as they come in: kinds, bodies. -/
import Derived.Test.YtbmhgmigcgeooaaDoorE1
import Derived.Test.YtbmhgmigcgeooaaDoorL1
namespace Go.Proofs.YtbmhgmigcgeooaaDoor
open Go.ChangeShapes Go.WideShapes Go.ChangeAt Go.RowKit
section
variable {H : Type} {enc : TypeId × Value → H} {W : World} {base : Nat} {held : Bool} {n : Nat} {cs : List Value} {y : DataW H × List MemPlace}
theorem bytes_in (hf : DataW.trod enc Tryd.prog W base (fun _ => true) held n 22 cs = some y) : ∃ (A : Option Addr) (cap : Nat) (l : List UInt8), cs = [.slice A l.length cap] ∧ At W A l ∧ (A = none → cap = 0) ∧ l.length ≤ cap ∧ l.length ≤ maxLen := by
  rcases open_ints Tryd.underlying22 Tryd.underlying5 cells8 hf with ⟨hcs, _⟩ | ⟨a, len, cap, zs, hcs, _, hl, hm, hz, hx, hcell, hwz⟩
  · exact ⟨none, 0, [], hcs, fun h0 => absurd h0 (by simp), fun _ => rfl, Nat.le_refl _, Nat.zero_le _⟩
  · simp only [if_true] at hz
    have hlen : ((zs.take len).map fun n => UInt8.ofNat n.toNat).length = len := by simp; omega
    refine ⟨some a, cap, (zs.take len).map fun n => UInt8.ofNat n.toNat, by rw [hlen]; exact hcs, fun h0 => ?_, (fun h => by cases h), by omega, by omega⟩
    rw [hlen] at h0
    obtain ⟨b, off, spot⟩ := a
    have hspot : spot = none := by simpa [Addr.add] using World.cell?_spot (hcell 0 (by omega))
    subst hspot
    have hcell' : ∀ i, i < zs.length → W.cell? ⟨b, off + i, none⟩ = some (.int .u8 (zs.getD i 0)) := fun i hi => by rw [← add_plain]; exact hcell i hi
    have hlt : b < W.heap.size := World.block_lt_of_cell? W _ (hcell' 0 (by omega))
    refine ⟨b, off, rfl, hlt, fun i hi => ?_⟩
    rw [hlen] at hi
    rw [hcell' i (by omega)]
    have hz' : i < zs.length := by omega
    have hw := byte_wf (hwz (zs.getD i 0) (by simp [List.getD, hz']))
    have e : ((zs.take len).map fun n => UInt8.ofNat n.toNat).getD i 0 = UInt8.ofNat (zs.getD i 0).toNat := by
      simp [List.getD, hi, hz']
    rw [e]
    unfold bv
    rw [byte_ofNat]
    congr 2
    omega
set_option maxRecDepth 100000 in
theorem rows_in (hf : DataW.trod enc Tryd.prog W base (fun _ => true) held n 49 cs = some y) : ∃ B m c f, cs = [.slice B m c] ∧ BAt W B m f ∧ m ≤ maxLen := by
  rcases DataW.trod_slice Tryd.underlying49 hf with ⟨e, _⟩ | ⟨a, len, cap, elems, rest, n, g1, e, g2, g3, g4, g5, hlen, hg, _, _⟩
  · exact ⟨none, 0, 0, fun _ => (none, 0, []), e, fun h0 => absurd h0 (by simp), Nat.zero_le _⟩
  · have hC : Tryd.prog.cellsOf 22 = 1 := by kernel_rfl
    rw [hC] at hg
    have each : ∀ i, ∃ q : Option Addr × Nat × List UInt8, i < len → W.cell? (a.add (i * 1)) = some (.slice q.1 q.2.2.length q.2.1) ∧ At W q.1 q.2.2 ∧ (q.1 = none → q.2.1 = 0) ∧ q.2.2.length ≤ q.2.1 := fun i => by
      by_cases hi : i < len
      · have h1 := hg i hi
        have hil : i < elems.length := by omega
        rw [List.getElem?_eq_getElem hil, Option.bind_eq_some_iff] at h1
        obtain ⟨cs, hcs, ht⟩ := h1
        obtain ⟨_, hl, hcell⟩ := World.cells?_some hcs
        obtain ⟨A, c, l, e, q1, q2, q3, _⟩ := bytes_in ht
        have d0 := hcell 0 (by omega)
        rw [e] at d0
        exact ⟨(A, c, l), fun _ => ⟨by simpa [Addr.add] using d0, q1, q2, q3⟩⟩
      · exact ⟨(none, 0, []), fun h => absurd h hi⟩
    obtain ⟨f, each⟩ : ∃ f : Nat → Option Addr × Nat × List UInt8, ∀ i, i < len → W.cell? (a.add (i * 1)) = some (.slice (f i).1 (f i).2.2.length (f i).2.1) ∧ At W (f i).1 (f i).2.2 ∧ ((f i).1 = none → (f i).2.1 = 0) ∧ (f i).2.2.length ≤ (f i).2.1 := ⟨fun i => Classical.choose (each i), fun i => Classical.choose_spec (each i)⟩
    refine ⟨some a, len, cap, f, e, fun h0 => ?_, by omega⟩
    obtain ⟨f0, _⟩ := each 0 h0
    obtain ⟨b, off, spot⟩ := a
    have hspot : spot = none := by simpa [Addr.add] using World.cell?_spot f0
    subst hspot
    have hlt : b < W.heap.size := by
      rw [add_plain] at f0
      exact World.block_lt_of_cell? W _ f0
    refine ⟨b, off, rfl, hlt, fun i hi => ?_⟩
    obtain ⟨f0, f1⟩ := each i hi
    rw [add_plain, Nat.mul_one] at f0
    exact ⟨f0, f1⟩
end
section
variable {H : Type} {enc : TypeId × Value → H} {W : World} {base b0 : Nat} {held : Bool} {r : Reach} {v : Value} {d : DataW H} {p : List MemPlace}
set_option maxRecDepth 100000 in
theorem open_frames (hv : Value.okWide Tryd.prog W r b0 55 v) (h : DataW.Trod enc Tryd.prog W base (fun _ => true) held 55 v d p) :
    ∃ KA kc ks BA bn bc bf, v = .agg #[.slice KA (List.length ks) kc, .slice BA bn bc] ∧ At W KA ks ∧ ks.length ≤ maxLen ∧ BAt W BA bn bf ∧ bn ≤ maxLen := by
  obtain ⟨cs, rfl, hsz⟩ := okWide_struct Tryd.underlying55 hv
  have hC : Tryd.prog.cellsOf 55 = 2 := by kernel_rfl
  obtain ⟨l⟩ := cs
  match l, hsz.trans hC with
  | [c0, c1], _ =>
    obtain ⟨fuel, hf⟩ := h
    obtain ⟨xs, n, _, hx, _, hlen, hg⟩ := DataW.trod_struct Tryd.underlying55 hf
    have k0 : Tryd.prog.cellsOf 22 = 1 := by kernel_rfl
    have k1 : Tryd.prog.cellsOf 49 = 1 := by kernel_rfl
    match xs, hlen, hg, hx with
    | [y0, y1], _, hg, hx =>
      have g0 : DataW.trod enc Tryd.prog W base (fun _ => true) held n 22 (([c0, c1].drop 0).take (Tryd.prog.cellsOf 22)) = some y0 := hg 0 _ rfl
      have g1 : DataW.trod enc Tryd.prog W base (fun _ => true) held n 49 (([c0, c1].drop 1).take (Tryd.prog.cellsOf 49)) = some y1 := hg 1 _ rfl
      rw [k0] at g0
      rw [k1] at g1
      obtain ⟨KA, kc, ks, e0, a1, _, _, a4⟩ := bytes_in g0
      obtain ⟨BA, bn, bc, bf, e1, b1, b2⟩ := rows_in g1
      simp at e0 e1
      subst e0 e1
      exact ⟨KA, kc, ks, BA, bn, bc, bf, rfl, a1, a4, b1, b2⟩
end
end Go.Proofs.YtbmhgmigcgeooaaDoor
