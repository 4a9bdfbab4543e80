/- The statements' own test of being awake answers true, in every world whose tables are laid. -/
import Derived.Test.YtbpakmiopmgmbaaGreatDoorA1
import Derived.Test.YtbpakmiopmgmbaaGreatDoorA2
import Derived.Test.YtbpakmiopmgmbaaGreatDoorA4
namespace Go.Proofs.YtbpakmiopmgmbaaGreatDoor
open Go.RowKit

theorem Text_c (w : World) (h : Env w) :
    Calls Tryz.prog 39 #[.float .f64 4607182418800017408] w fun e w' => e = .returned (.string ⟨#[49, 46, 48]⟩) ∧ Below w.heap.size w w' :=
  Text_a w (by have := h.sz; omega) (by have := h.sz; omega) h.p0 h.p1 h.u10

end Go.Proofs.YtbpakmiopmgmbaaGreatDoor
