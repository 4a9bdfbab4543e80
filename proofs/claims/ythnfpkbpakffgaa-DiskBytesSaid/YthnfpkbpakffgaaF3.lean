/- DiskBytes: what was appended to a file stands there in order, whatever it is called by then; no Append goes beyond the quota; what Used tells are all bytes; for any bytes (the first 30), any names to which the file goes, any other file beside. No condition. -/
import Derived.Test.YthnfpkbpakffgaaE4
import Derived.Test.YthnfpkbpakffgaaP2
namespace Go.Proofs.Ythnfpkbpakffgaa
open Go.ChangeShapes Go.WideShapes Go.ChangeAt Go.RowKit
set_option maxHeartbeats 800000 in
set_option maxRecDepth 100000 in
theorem bytes_lifted (os : Os) (started : os.Started) (H : Type) (enc : TypeId × Value → H) :
    ReturnsInHanded {} Try.checked os 6 .any (Rows.diskBytesSpec.pre6 enc Try.prog Try.f6 Rows.diskBytesRow.domain false) (Rows.diskBytesSpec.post enc Try.prog Try.f6 false true false false) := by
  refine returnsInHanded_of_change_sized (C := Try.checked) dsk_own started (by kernel_rfl) Try.func6
    (ChangeSpec.witness6 (enc := enc) (C := Try.checked) false ⟨#[], #[.slice none 0 0, .slice none 0 0, .slice none 0 0], []⟩ 8 (by kernel_rfl) (by kernel_rfl) (by kernel_rfl) (by kernel_rfl)) ?_
  intro W base args ds gs before hval0 hW _ hsz0 _
  have hsz : (DataW.weightsEach Try.prog (Try.f6.params.toList ++ Rows.diskBytesSpec.plain.varTypes Try.prog) (ds ++ gs)).all (· ≤ reachBytes) = true := hsz0
  clear hsz0
  have hval : ∀ (j : Nat) t v, Try.f6.params[j]? = some t → args[j]? = some v → Value.okWide Try.prog W .any base t v := hval0
  have hW' := hW
  obtain ⟨p, q, hA0, hV, rfl, _, _⟩ := hW
  have hA : DataW.TrodAll enc Try.prog W 0 (fun _ => true) true Try.f6.params.toList args.toList ds p := hA0
  rw [Try.params6] at hA hval hsz
  obtain ⟨v0, v1, v2, d0, d1, d2, p0, p1, p2, rfl, rfl, rfl, h0, h1, h2⟩ := trodAll_three hA
  obtain ⟨rfl, rfl⟩ := trodVars_none hV
  have k0 := hval 0 56 v0 rfl rfl
  have k1 := hval 1 32 v1 rfl rfl
  have k2 := hval 2 32 v2 rfl rfl
  clear hA0 hval0 hval
  simp only [List.append_nil] at hW'
  have hin : ∀ es sp, d0 = .slice es sp → ∀ a b, DataW.slice a b ∈ es → (a.length + b.length) * Try.prog.bytesOf 5 ≤ reachBytes := fun es sp e a b hm => sized_inner hsz (j := 0) (t := 56) (e := 32) (u := 5) rfl (by rw [e]; rfl) Try.underlying56 Try.underlying32 hm
  obtain ⟨A0, n0, c0, f, rfl, hL, hn⟩ := open_bb k0 h0 hin
  obtain ⟨A1, n1, c1, tl, rfl, g1, g2, _, g3⟩ := open_b8 k1 h1
  obtain ⟨A2, n2, c2, ob, rfl, g4, g5, g6, g7⟩ := open_b8 k2 h2
  have hlt : ∀ x ∈ p0 ++ p1 ++ p2, x.block < W.heap.size := fun x hx => by simpa using hW'.lt x hx
  have l0 : ∀ x ∈ p0, x.block < W.heap.size := fun x hx => hlt x (by simp [hx])
  have l1 : ∀ x ∈ p1, x.block < W.heap.size := fun x hx => hlt x (by simp [hx])
  have l2 : ∀ x ∈ p2, x.block < W.heap.size := fun x hx => hlt x (by simp [hx])
  refine (Bytes_walk A0 n0 c0 f A1 n1 c1 tl A2 n2 c2 ob W hL hn g1 g2 g3 g4 g5 g6 g7).mono fun e W' ⟨he, hb⟩ => ?_
  subst he
  exact ⟨_, rfl, _, _, _, [], _, [], hW', trodAll_mk1 (shut_bool Try.underlying4 _), trodAll_mk3 (Below.trod dsk_out (by kernel_rfl) (of_decide_eq_true (by kernel_rfl)) h0 hb l0) (Below.trod dsk_out (by kernel_rfl) (of_decide_eq_true (by kernel_rfl)) h1 hb l1) (Below.trod dsk_out (by kernel_rfl) (of_decide_eq_true (by kernel_rfl)) h2 hb l2), rfl, hb.frame _, fun h => by cases h⟩
/-- THE STATEMENT. -/
theorem bytes_holds : Rows.DiskBytesSaid :=
  OpenClaim.holds_of_wide 6 Try.f6 rfl rfl rfl rfl rfl rfl rfl ⟨rfl, rfl, rfl, rfl, rfl⟩ rfl rfl rfl rfl rfl (by kernel_rfl) Try.func6 (by kernel_rfl)
    (of_decide_eq_true (by kernel_rfl)) (by unfold Func.isWrapper; first | (rw [if_pos (by decide +kernel)]; kernel_rfl) | (rw [if_neg (by decide +kernel)]; exact ⟨rfl, rfl⟩))
    (fun os started H enc _ => bytes_lifted os started H enc)
#print axioms bytes_holds
end Go.Proofs.Ythnfpkbpakffgaa
