/- The document's Of. -/
import Derived.Test.YtgjahnidjcfbiaaGreatDoorK50
namespace Go.Proofs.YtgjahnidjcfbiaaGreatDoor
open Go.RowKit Go.Shelf Go.Lib
open Iset (nf has NF Res Wide KL opOr opAnd opLess opNot sumL)
theorem docOf_any (va : Value) (a : List (Int × Int)) (w : World) (ha : IsZ w va a) (wa : Wide a) (la : a.length ≤ 100000) :
    Calls Tryz.prog 10 #[va] w fun e w' => ∃ v', e = .returned v' ∧ OwnP w.heap.size w' v' (nf a) ∧ Below w.heap.size w w' := by
  have H := Lib.hid (docKept0_any va (.slice none 0 0) a [] w ha (IsZ.nil w) wa (fun p hp => by simp at hp) la (by simp))
  go_enter Tryz.func10, Tryz.ntmps10
  go_wp2_with fail
  refine (H.out).mono ?_
  rintro e w1 ⟨v1, R, rfl, hk, ho, hb⟩
  have HO := Lib.hid ho
  have HB := Lib.hid hb
  have HK := Lib.hid (hk.nf_eq wa)
  clear ho hb hk
  go_wp2
  go_ret
  exact ⟨_, rfl, by rw [← HK.out]; exact HO.out, HB.out⟩
end Go.Proofs.YtgjahnidjcfbiaaGreatDoor
