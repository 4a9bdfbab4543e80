/- NumSums, walked: for every slice of whole numbers it answers true. -/
import Derived.Test.YtbpakmiopmgmbaaGreatDoorS1
namespace Go.Proofs.YtbpakmiopmgmbaaGreatDoor
open Go.RowKit
theorem CellsAt.take {w : World} {A : Option Addr} {zs : List Int} (h : CellsAt w A zs) (k : Nat) : CellsAt w A (zs.take k) := fun h0 => by
  simp only [List.length_take] at h0
  obtain ⟨b, off, e, hl, hc⟩ := h (by omega)
  refine ⟨b, off, e, hl, fun i hi => ?_⟩
  simp only [List.length_take] at hi
  rw [hc i (by omega)]
  simp [List.getD, show i < k by omega]
end Go.Proofs.YtbpakmiopmgmbaaGreatDoor
