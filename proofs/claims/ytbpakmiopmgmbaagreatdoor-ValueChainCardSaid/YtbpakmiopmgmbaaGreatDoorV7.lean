/- ValueTotal, walked over a contract of the statements' own test of being awake: for every three values it answers true. -/
import Derived.Test.YtbpakmiopmgmbaaGreatDoorV6b
namespace Go.Proofs.YtbpakmiopmgmbaaGreatDoor
open Go.RowKit
theorem like_cmp {k l : Int} {b c : Bool} {n m : Int} {f g : Nat} {s t : ByteArray} (hx : WideV k n f s) (hy : WideV l m g t) (mx : MayV k b n f s) (my : MayV l c m g t) : likeV k b n f s l c m g t = (cmpK (keyV k b n f s) (keyV l c m g t) == 0) := by
  rw [Bool.eq_iff_iff, like_iff, beq_iff_eq, good_cmpK.zero]
  constructor
  · rintro ⟨rfl, rfl, rfl, rfl, rfl⟩; rfl
  · exact key_inj k l b c n m f g s t mx my hx.2.2.1 hy.2.2.1
end Go.Proofs.YtbpakmiopmgmbaaGreatDoor
