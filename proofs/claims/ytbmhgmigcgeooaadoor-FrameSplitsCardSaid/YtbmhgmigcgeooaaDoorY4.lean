/- The document's Same, and the law's SameFrames. -/
import Derived.Test.YtbmhgmigcgeooaaDoorY3
namespace Go.Proofs.YtbmhgmigcgeooaaDoor
open Go.RowKit
/-- Two rows of the same bytes. -/
def RowsAt (W : World) (P1 P2 : Option Addr) (m : Nat) : Prop := ∀ k, k < m → ∃ h1 h2 B1 B2 u f1 f2, ∃ q : List UInt8, P1 = some ⟨h1, 0, none⟩ ∧ P2 = some ⟨h2, 0, none⟩ ∧ W.cell? ⟨h1, k, none⟩ = some (.slice B1 u f1) ∧ W.cell? ⟨h2, k, none⟩ = some (.slice B2 u f2) ∧ At W B1 q ∧ At W B2 q ∧ q.length = u
theorem cell_ltY {V : World} {ad : Addr} {u : Value} (h : V.cell? ad = some u) : ad.block < V.heap.size := by
  obtain ⟨o, ho, _⟩ := cells_of_cell h
  exact (Array.getElem?_eq_some_iff.1 ho).1
theorem RowsAt.later {W W' : World} {P1 P2 : Option Addr} {m : Nat} (h : RowsAt W P1 P2 m) (hb : Below W.heap.size W W') : RowsAt W' P1 P2 m := fun k hk => by
  obtain ⟨h1, h2, B1, B2, u, f1, f2, q, e1, e2, x1, x2, y1, y2, z⟩ := h k hk
  exact ⟨h1, h2, B1, B2, u, f1, f2, q, e1, e2, (hb.cell (cell_ltY x1)).trans x1, (hb.cell (cell_ltY x2)).trans x2, y1.below hb, y2.below hb, z⟩
set_option maxRecDepth 100000 in
set_option maxHeartbeats 2000000 in
theorem same_any (P1 P2 : Option Addr) (m c1 c2 : Nat) (w : World) (h : RowsAt w P1 P2 m) (hm : m ≤ 256) :
    Calls Tryd.prog 18 #[.slice P1 m c1, .slice P2 m c2] w fun e w' => e = .returned (.bool true) ∧ Below w.heap.size w w' := by
  have H := Lib.hid h
  clear h
  go_enter Tryd.func18, Tryd.ntmps18
  go_wp2
  go_loopw [5] (fun i wr => ∃ j : Nat, j ≤ m ∧ i = .int .i64 j ∧ Below w.heap.size w wr) (fun i _ => m - (intOf i).toNat)
  case atStart => exact ⟨0, Nat.zero_le _, rfl, Below.refl _ _⟩
  case round =>
    obtain ⟨j, hj, rfl, hb⟩ := hrel
    have HB := Lib.hid hb
    by_cases hlt : j < m
    · obtain ⟨h1, h2, B1, B2, u, f1, f2, q, rfl, rfl, x1, x2, y1, y2, rfl⟩ := (H.out.later hb) j hlt
      have hji : (j : Int) < (m : Int) := by omega
      have k1 := fun nq => conv_text (wr.drewN nq) B1 q f1 (y1.below (below_drewN' (Below.refl _ _) nq))
      have k2 := fun nq => conv_text (wr.drewN nq) B2 q f2 (y2.below (below_drewN' (Below.refl _ _) nq))
      clear hb y1 y2 hlt
      go_upto_region 6 with fail
      go_quiet (fail)
      go_wp2
      exact ⟨⟨j + 1, by omega, by go_num, below_drewN' HB.out _⟩, by simp [intOf]; omega⟩
    · have hji : ¬ (j : Int) < (m : Int) := by omega
      clear hb
      go_wp2
      go_ret
      exact ⟨rfl, HB.out⟩
/-- Two rows of the same frames. -/
def FramesAt (W : World) (P1 P2 : Option Addr) (m : Nat) : Prop := ∀ i, i < m → ∃ h1 h2 B1 B2 u f1 f2, ∃ k : Int, ∃ q : List UInt8, P1 = some ⟨h1, 0, none⟩ ∧ P2 = some ⟨h2, 0, none⟩ ∧ W.cell? ⟨h1, i * 2, none⟩ = some (.int .i64 k) ∧ W.cell? ⟨h1, i * 2 + 1, none⟩ = some (.slice B1 u f1) ∧ W.cell? ⟨h2, i * 2, none⟩ = some (.int .i64 k) ∧ W.cell? ⟨h2, i * 2 + 1, none⟩ = some (.slice B2 u f2) ∧ At W B1 q ∧ At W B2 q ∧ q.length = u
theorem FramesAt.later {W W' : World} {P1 P2 : Option Addr} {m : Nat} (h : FramesAt W P1 P2 m) (hb : Below W.heap.size W W') : FramesAt W' P1 P2 m := fun k hk => by
  obtain ⟨h1, h2, B1, B2, u, f1, f2, kk, q, e1, e2, x1, x2, x3, x4, y1, y2, z⟩ := h k hk
  exact ⟨h1, h2, B1, B2, u, f1, f2, kk, q, e1, e2, (hb.cell (cell_ltY x1)).trans x1, (hb.cell (cell_ltY x2)).trans x2, (hb.cell (cell_ltY x3)).trans x3, (hb.cell (cell_ltY x4)).trans x4, y1.below hb, y2.below hb, z⟩
set_option maxRecDepth 100000 in
set_option maxHeartbeats 2000000 in
theorem sameF_any (P1 P2 : Option Addr) (m c1 c2 : Nat) (w : World) (h : FramesAt w P1 P2 m) (hm : m ≤ 100000) :
    Calls Tryd.prog 17 #[.slice P1 m c1, .slice P2 m c2] w fun e w' => e = .returned (.bool true) ∧ Below w.heap.size w w' := by
  have H := Lib.hid h
  clear h
  go_enter Tryd.func17, Tryd.ntmps17
  go_wp2
  go_loopw [13] (fun i wr => ∃ j : Nat, j ≤ m ∧ i = .int .i64 j ∧ Below w.heap.size w wr) (fun i _ => m - (intOf i).toNat)
  case atStart => exact ⟨0, Nat.zero_le _, rfl, Below.refl _ _⟩
  case round =>
    obtain ⟨j, hj, rfl, hb⟩ := hrel
    have HB := Lib.hid hb
    by_cases hlt : j < m
    · obtain ⟨h1, h2, B1, B2, u, f1, f2, k, q, rfl, rfl, x1, x2, x3, x4, y1, y2, y5⟩ := (H.out.later hb) j hlt
      have hji : (j : Int) < (m : Int) := by omega
      have CE := Lib.hid (fun nq => Equal_any B1 B2 q q u u f1 f2 (wr.drewN nq) (y1.below (below_drewN' (Below.refl _ _) nq)) (y2.below (below_drewN' (Below.refl _ _) nq)) y5 y5)
      rw [beq_self_eq_true] at CE
      clear hb y1 y2 hlt y5
      go_upto_region 6 with fail
      go_quiet ((go_at_call 10; exact quiet_l (CE.out _)))
      go_wp2
      exact ⟨⟨j + 1, by omega, by go_num, below_drewN' HB.out _⟩, by simp [intOf]; omega⟩
    · have hji : ¬ (j : Int) < (m : Int) := by omega
      clear hb
      go_wp2
      go_ret
      exact ⟨rfl, HB.out⟩
end Go.Proofs.YtbmhgmigcgeooaaDoor
