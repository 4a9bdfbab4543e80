/- Within a set is what was there, and nothing elsewhere; Null over a period is Within all but it; two sets, one behind the other, are their Meet; Wheres part the Span; Ends are where anything changes: for every lists and every period that a call can be handed. -/
import Derived.Test.YtgmaompjhhomcaaGreatmE1
import Derived.Test.YtgmaompjhhomcaaGreatmG0
import Derived.Test.YtgmaompjhhomcaaGreatmT2
import Derived.Test.YtgmaompjhhomcaaGreatRows
namespace Go.Proofs.YtgmaompjhhomcaaGreat
open Go.ChangeShapes Go.WideShapes Go.ChangeAt Go.RowKit
set_option maxHeartbeats 800000 in
set_option maxRecDepth 100000 in
theorem pieceSets_lifted (os : Os) (started : os.Started) (H : Type) (enc : TypeId × Value → H) :
    ReturnsInHanded {} Tryz.checked os 5 .any (Rows.pieceSetsSpec.pre6 enc Tryz.prog Tryz.f5 Rows.pieceSetsRow.domain false) (Rows.pieceSetsSpec.post enc Tryz.prog Tryz.f5 false true false false) := by
  refine returnsInHanded_of_change_sized (C := Tryz.checked) piece_own started (by kernel_rfl) Tryz.func5
    (ChangeSpec.witness6 (enc := enc) (C := Tryz.checked) false ⟨#[], #[.slice none 0 0, .slice none 0 0, .slice none 0 0, .agg #[.int .u64 0, .int .u64 0]], []⟩ 8 (by kernel_rfl) (by kernel_rfl) (by kernel_rfl) (by kernel_rfl)) ?_
  intro W base args ds gs before hval0 hW _ hsz0 _
  clear hsz0
  have hval : ∀ (j : Nat) t v, Tryz.f5.params[j]? = some t → args[j]? = some v → Value.okWide Tryz.prog W .any base t v := hval0
  have hW' := hW
  obtain ⟨p, q, hA0, hV, rfl, _, _⟩ := hW
  have hA : DataW.TrodAll enc Tryz.prog W 0 (fun _ => true) true Tryz.f5.params.toList args.toList ds p := hA0
  rw [Tryz.params5] at hA hval
  obtain ⟨v0, v1, v2, v3, d0, d1, d2, d3, p0, p1, p2, p3, rfl, rfl, rfl, h0, h1, h2, h3⟩ := trodAll_four hA
  obtain ⟨rfl, rfl⟩ := trodVars_none hV
  have k0 := hval 0 61 v0 rfl rfl
  have k1 := hval 1 29 v1 rfl rfl
  have k2 := hval 2 29 v2 rfl rfl
  have k3 := hval 3 25 v3 rfl rfl
  clear hA0 hval0 hval
  simp only [List.append_nil] at hW'
  obtain ⟨l, hs, hl⟩ := open_puts k0 h0
  obtain ⟨A, ca, La, rfl, qA, zA, lA, wA, _⟩ := Se.open_pers2 k1 h1
  obtain ⟨B, cb, Lb, rfl, qB, zB, lB, wB, _⟩ := Se.open_pers2 k2 h2
  obtain ⟨c, d, rfl, hc, hd⟩ := open_per1 k3 h3
  have hlt : ∀ x ∈ p0 ++ p1 ++ p2 ++ p3, x.block < W.heap.size := fun x hx => by simpa using hW'.lt x hx
  have l0 : ∀ x ∈ p0, x.block < W.heap.size := fun x hx => hlt x (by simp [hx])
  have l1 : ∀ x ∈ p1, x.block < W.heap.size := fun x hx => hlt x (by simp [hx])
  have l2 : ∀ x ∈ p2, x.block < W.heap.size := fun x hx => hlt x (by simp [hx])
  have l3 : ∀ x ∈ p3, x.block < W.heap.size := fun x hx => hlt x (by simp [hx])
  refine (Sets_walk v0 l A B ca cb La Lb c d W hs (fun o ho => (hl o ho).1) (fun o ho => (hl o ho).2) qA zA lA wA qB zB lB wB ⟨hc, hd⟩).mono fun e W' ⟨he, hb⟩ => ?_
  subst he
  exact ⟨_, rfl, _, _, _, [], _, [], hW', trodAll_mk1 (shut_bool Tryz.underlying4 _), trodAll_mk4 (Below.trod piece_out (by kernel_rfl) (of_decide_eq_true (by kernel_rfl)) h0 hb l0) (Below.trod piece_out (by kernel_rfl) (of_decide_eq_true (by kernel_rfl)) h1 hb l1) (Below.trod piece_out (by kernel_rfl) (of_decide_eq_true (by kernel_rfl)) h2 hb l2) (Below.trod piece_out (by kernel_rfl) (of_decide_eq_true (by kernel_rfl)) h3 hb l3), rfl, hb.frame _, fun h => by cases h⟩
/-- THE STATEMENT. -/
theorem pieceSets_holds : Rows.PieceSetsSaid :=
  OpenClaim.holds_of_wide 5 Tryz.f5 rfl rfl rfl rfl rfl rfl rfl ⟨rfl, rfl, rfl, rfl, rfl⟩ rfl rfl rfl rfl rfl (by kernel_rfl) Tryz.func5 (by kernel_rfl)
    (of_decide_eq_true (by kernel_rfl)) (by unfold Func.isWrapper; first | (rw [if_pos (by decide +kernel)]; kernel_rfl) | (rw [if_neg (by decide +kernel)]; exact ⟨rfl, rfl⟩))
    (fun os started H enc _ => pieceSets_lifted os started H enc)
#print axioms pieceSets_holds
end Go.Proofs.YtgmaompjhhomcaaGreat

