/- The statement CrcLinear: for any three rows of bytes and any three sums, sums of rows, xored, are the sum of the rows, xored, and sums that go on likewise; its arguments read behind the call as they read before; the table of package crc is the one that its text lays. -/
import Derived.Test.YtgaipgpendemfaaDoorE1
import Derived.Test.YtgaipgpendemfaaDoorL2
namespace Go.Proofs.YtgaipgpendemfaaDoor
open Go.ChangeShapes Go.WideShapes Go.ChangeAt Go.RowKit
theorem linear_own : ownKnob Tryd.prog.godebug = none := by kernel_rfl
theorem linear_out : laidOutB Tryd.prog = true := by kernel_rfl
set_option maxHeartbeats 800000 in
set_option maxRecDepth 100000 in
theorem linear_lifted (os : Os) (started : os.Started) (H : Type) (enc : TypeId × Value → H) :
    ReturnsInHanded {} Tryd.checked os 7 .any (fun w args => (Rows.crcLinearSpec.pre enc Tryd.prog Tryd.f7 [] false w args ∧ laidMetH Tryd.prog listed w) ∧ sizedMet enc Tryd.prog Tryd.f7 (OpenSpec.ofChange Rows.crcLinearSpec) false w args)
      (Rows.crcLinearSpec.post enc Tryd.prog Tryd.f7 false true false false) := by
  refine returnsInHanded_of_change_and (C := Tryd.checked) (X := fun w _ => laidMetH Tryd.prog listed w) (fun _ _ _ hh h => h.of_heap hh) linear_own started (by kernel_rfl) Tryd.func7
    (ChangeSpec.witness_shaped (enc := enc) (C := Tryd.checked) (os := os) (X := fun w _ => laidMetH Tryd.prog listed w) false (World.laidAll Tryd.prog os listed) #[.slice none 0 0, .slice none 0 0, .slice none 0 0, .int .u32 0, .int .u32 0, .int .u32 0] 8 (World.laidAll_os _ _ _)
      (World.shaped_of_ZipB (by kernel_rfl) (by kernel_rfl)) (by kernel_rfl) (by kernel_rfl) (by kernel_rfl)
      (by rw [MakeChecks.laidMetH_plain _ _ _ (by kernel_rfl)]; exact laidMet_laidAll _ (by kernel_rfl) (by kernel_rfl))) ?_
  intro W base args ds gs before hval0 hW _ hsz0 hL _
  have hval : ∀ (j : Nat) t v, Tryd.f7.params[j]? = some t → args[j]? = some v → Value.okWide Tryd.prog W .any base t v := hval0
  have hsz : (DataW.weightsEach Tryd.prog (Tryd.f7.params.toList ++ Rows.crcLinearSpec.plain.varTypes Tryd.prog) (ds ++ gs)).all (· ≤ reachBytes) = true := hsz0
  clear hsz0
  have hW' := hW
  obtain ⟨p, q, hA0, hV, rfl, _, _⟩ := hW
  have hA : DataW.TrodAll enc Tryd.prog W 0 (fun _ => true) true Tryd.f7.params.toList args.toList ds p := hA0
  rw [Tryd.params7] at hA hval hsz
  have hlt := DataW.TrodAll.lt hA
  obtain ⟨v0, v1, v2, v3, v4, v5, d0, d1, d2, d3, d4, d5, p0, p1, p2, p3, p4, p5, rfl, rfl, rfl, h0, h1, h2, h3, h4, h5⟩ := trodAll_six hA
  obtain ⟨rfl, rfl⟩ := trodVars_none hV
  have k0 := h0
  have l0 : ∀ x ∈ p0, x.block < W.heap.size := fun x hx => hlt x (by simp [hx])
  have k1 := h1
  have l1 : ∀ x ∈ p1, x.block < W.heap.size := fun x hx => hlt x (by simp [hx])
  have k2 := h2
  have l2 : ∀ x ∈ p2, x.block < W.heap.size := fun x hx => hlt x (by simp [hx])
  have k3 := h3
  have l3 : ∀ x ∈ p3, x.block < W.heap.size := fun x hx => hlt x (by simp [hx])
  have k4 := h4
  have l4 : ∀ x ∈ p4, x.block < W.heap.size := fun x hx => hlt x (by simp [hx])
  have k5 := h5
  have l5 : ∀ x ∈ p5, x.block < W.heap.size := fun x hx => hlt x (by simp [hx])
  clear hlt
  obtain ⟨aA, ac, al, rfl, ai, ad⟩ := open_bytes (hval 0 23 v0 rfl rfl) h0
  have am : al.length + 4 ≤ 140737488355328 := by
    rcases ad with h | ⟨elems, spare, rfl, he⟩
    · omega
    · have := sized_slice hsz (j := 0) (t := 23) (e := 5) rfl rfl Tryd.underlying23
      rw [bytes8] at this
      rw [← he]
      refine reach_len ?_
      first | exact this | omega
  obtain ⟨bA, bc, bl, rfl, bi, bd⟩ := open_bytes (hval 1 23 v1 rfl rfl) h1
  have bm : bl.length + 4 ≤ 140737488355328 := by
    rcases bd with h | ⟨elems, spare, rfl, he⟩
    · omega
    · have := sized_slice hsz (j := 1) (t := 23) (e := 5) rfl rfl Tryd.underlying23
      rw [bytes8] at this
      rw [← he]
      refine reach_len ?_
      first | exact this | omega
  obtain ⟨cA, cc, cl, rfl, ci, cd⟩ := open_bytes (hval 2 23 v2 rfl rfl) h2
  have cm : cl.length + 4 ≤ 140737488355328 := by
    rcases cd with h | ⟨elems, spare, rfl, he⟩
    · omega
    · have := sized_slice hsz (j := 2) (t := 23) (e := 5) rfl rfl Tryd.underlying23
      rw [bytes8] at this
      rw [← he]
      refine reach_len ?_
      first | exact this | omega
  obtain ⟨d', rfl, _, _, wd⟩ := open_int Tryd.underlying22 (hval 3 22 v3 rfl rfl) h3
  obtain ⟨d, rfl⟩ := word_wf wd
  obtain ⟨e', rfl, _, _, we⟩ := open_int Tryd.underlying22 (hval 4 22 v4 rfl rfl) h4
  obtain ⟨e, rfl⟩ := word_wf we
  obtain ⟨f', rfl, _, _, wf⟩ := open_int Tryd.underlying22 (hval 5 22 v5 rfl rfl) h5
  obtain ⟨f, rfl⟩ := word_wf wf
  simp only [List.append_nil] at hW'
  refine (CrcLinear_walk' aA ac al bA bc bl cA cc cl d e f W ai.1 ai.2.1 am ai.2.2.1 bi.1 bi.2.1 bm bi.2.2.1 ci.1 ci.2.1 cm ci.2.2.1 (env_of hL)).mono fun e W' ⟨he, hb⟩ => ?_
  subst he
  exact ⟨_, rfl, _, _, _, [], _, [], hW', trodAll_mk1 (shut_bool Tryd.underlying4 _), trodAll_mk6 (Below.trod linear_out (by kernel_rfl) (of_decide_eq_true (by kernel_rfl)) k0 hb l0) (Below.trod linear_out (by kernel_rfl) (of_decide_eq_true (by kernel_rfl)) k1 hb l1) (Below.trod linear_out (by kernel_rfl) (of_decide_eq_true (by kernel_rfl)) k2 hb l2) (Below.trod linear_out (by kernel_rfl) (of_decide_eq_true (by kernel_rfl)) k3 hb l3) (Below.trod linear_out (by kernel_rfl) (of_decide_eq_true (by kernel_rfl)) k4 hb l4) (Below.trod linear_out (by kernel_rfl) (of_decide_eq_true (by kernel_rfl)) k5 hb l5), rfl, hb.frame _, fun h => by cases h⟩
theorem linear_row : Rows.CrcLinearSaid :=
  OpenClaim.holds_of_wide 7 Tryd.f7 rfl rfl rfl rfl rfl rfl rfl ⟨rfl, rfl, rfl, rfl, rfl⟩ rfl rfl rfl rfl rfl (by kernel_rfl) Tryd.func7 (by kernel_rfl)
    (of_decide_eq_true (by kernel_rfl)) (by unfold Func.isWrapper; first | (rw [if_pos (by decide +kernel)]; kernel_rfl) | (rw [if_neg (by decide +kernel)]; exact ⟨rfl, rfl⟩))
    (fun os started H enc _ => linear_lifted os started H enc)
/-- THE STATEMENT. -/
theorem linear_holds : Rows.CrcLinearCardSaid :=
  Claim7.holds_tied_plain_at .later [] [.data] true Rows.crcLinearCard.stood.harness false
    linear_row (fun _ h => by cases h) (by kernel_rfl) (fun _ h => by cases h) crcLinear_row_tie rfl ⟨rfl, rfl⟩ (by kernel_rfl) rfl
    (fun f fn hf hfn => by
      obtain rfl : f = 7 := Option.some.inj ((show Tryd.prog.funcNamed "almanac/almanaclaw04.CrcLinear" = some 7 by kernel_rfl).symm.trans hf) |>.symm
      obtain rfl : fn = Tryd.f7 := (Option.some.inj (Tryd.func7.symm.trans hfn)).symm
      exact ⟨by kernel_rfl, fun j t ht => by
        rw [Tryd.params7] at ht
        have hm : t ∈ [23, 23, 23, 22, 22, 22] := by simpa using Array.mem_of_getElem? ht
        have hall : ([23, 23, 23, 22, 22, 22].all fun u => !Tryd.prog.wantsStandIn u) = true := by kernel_rfl
        exact (show Tryd.prog.wantsStandIn t = false by simpa using List.all_eq_true.1 hall t hm)⟩)
    (by kernel_rfl)
#print axioms linear_holds
end Go.Proofs.YtgaipgpendemfaaDoor
