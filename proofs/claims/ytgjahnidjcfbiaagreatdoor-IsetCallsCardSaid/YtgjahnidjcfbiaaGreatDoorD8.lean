/- The statement IsetCalls: each call's answer at any two lists of periods (their first 60) and any instant is the document's; what is told lives apart from what was given and from each other; its arguments read behind the call as they read before; the package variables that it lists (the library's powers of ten, its two errors, two tables of bits) are those that its text lays. -/
import Derived.Test.YtgjahnidjcfbiaaGreatDoorM2
import Derived.Test.YtgjahnidjcfbiaaGreatDoorE2
namespace Go.Proofs.YtgjahnidjcfbiaaGreatDoor
open Go.ChangeShapes Go.WideShapes Go.ChangeAt Go.RowKit
set_option maxHeartbeats 800000 in
set_option maxRecDepth 100000 in
theorem calls_lifted (os : Os) (started : os.Started) (H : Type) (enc : TypeId × Value → H) :
    ReturnsInHanded {} Tryz.checked os 3 .any (fun w args => (Rows.isetCallsSpec.pre enc Tryz.prog Tryz.f3 [] false w args ∧ laidMetH Tryz.prog listed w) ∧ sizedMet enc Tryz.prog Tryz.f3 (OpenSpec.ofChange Rows.isetCallsSpec) false w args)
      (Rows.isetCallsSpec.post enc Tryz.prog Tryz.f3 false true false false) := by
  refine returnsInHanded_of_change_and (C := Tryz.checked) (X := fun w _ => laidMetH Tryz.prog listed w) (fun _ _ _ hh h => h.of_heap hh) seat_own started (by kernel_rfl) Tryz.func3
    (ChangeSpec.witness_shaped (enc := enc) (C := Tryz.checked) (os := os) (X := fun w _ => laidMetH Tryz.prog listed w) false (World.laidAll Tryz.prog os listed) #[.slice none 0 0, .slice none 0 0, .int .u64 0] 8 (World.laidAll_os _ _ _)
      (World.shaped_of_ZipB (by kernel_rfl) (by kernel_rfl)) (by kernel_rfl) (by kernel_rfl) (by kernel_rfl)
      (by rw [MakeChecks.laidMetH_plain _ _ _ (by kernel_rfl)]; exact laidMet_laidAll _ (by kernel_rfl) (by kernel_rfl))) ?_
  intro W base args ds gs before hval0 hW _ hsz0 hL _
  have hval : ∀ (j : Nat) t v, Tryz.f3.params[j]? = some t → args[j]? = some v → Value.okWide Tryz.prog W .any base t v := hval0
  have hsz : (DataW.weightsEach Tryz.prog (Tryz.f3.params.toList ++ Rows.isetCallsSpec.plain.varTypes Tryz.prog) (ds ++ gs)).all (· ≤ reachBytes) = true := hsz0
  clear hsz0
  have hW' := hW
  obtain ⟨p, q, hA0, hV, rfl, _, _⟩ := hW
  have hA : DataW.TrodAll enc Tryz.prog W 0 (fun _ => true) true Tryz.f3.params.toList args.toList ds p := hA0
  rw [Tryz.params3] at hA hval hsz
  have hlt := DataW.TrodAll.lt hA
  obtain ⟨v0, v1, v2, d0, d1, d2, p0, p1, p2, rfl, rfl, rfl, h0, h1, h2⟩ := trodAll_three hA
  obtain ⟨rfl, rfl⟩ := trodVars_none hV
  have k0 := h0
  have j0 : ∀ x ∈ p0, x.block < W.heap.size := fun x hx => hlt x (by simp [hx])
  have k1 := h1
  have j1 : ∀ x ∈ p1, x.block < W.heap.size := fun x hx => hlt x (by simp [hx])
  have k2 := h2
  have j2 : ∀ x ∈ p2, x.block < W.heap.size := fun x hx => hlt x (by simp [hx])
  clear hlt
  obtain ⟨Aa, ca, la, rfl, pa, za, qa, wa, da⟩ := open_pers2 (hval 0 22 v0 rfl rfl) h0
  have ma : la.length ≤ 140737488355328 := by
    rcases da with h | ⟨elems, spare, rfl, he⟩
    · omega
    · have := sized_slice hsz (j := 0) (t := 22) (e := 29) rfl rfl Tryz.underlying22
      rw [bytesPer] at this
      rw [← he]
      simp only [reachBytes] at this
      omega
  obtain ⟨Ab, cb, lb, rfl, pb, zb, qb, wb, db⟩ := open_pers2 (hval 1 22 v1 rfl rfl) h1
  have mb : lb.length ≤ 140737488355328 := by
    rcases db with h | ⟨elems, spare, rfl, he⟩
    · omega
    · have := sized_slice hsz (j := 1) (t := 22) (e := 29) rfl rfl Tryz.underlying22
      rw [bytesPer] at this
      rw [← he]
      simp only [reachBytes] at this
      omega
  obtain ⟨nc, rfl, _, _, xc⟩ := open_int Tryz.underlying23 (hval 2 23 v2 rfl rfl) h2
  have wc := word_fits xc
  simp only [List.append_nil] at hW'
  have env := env_of hL
  refine (Calls_walk Aa Ab ca cb la lb nc W pa pb za zb qa qb wa wb env).mono fun e W' ⟨he, hb⟩ => ?_
  subst he
  exact ⟨_, rfl, _, _, _, [], _, [], hW', trodAll_mk1 (shut_bool Tryz.underlying4 _), trodAll_mk3 (Below.trod seat_out (by kernel_rfl) (of_decide_eq_true (by kernel_rfl)) k0 hb j0) (Below.trod seat_out (by kernel_rfl) (of_decide_eq_true (by kernel_rfl)) k1 hb j1) (Below.trod seat_out (by kernel_rfl) (of_decide_eq_true (by kernel_rfl)) k2 hb j2), rfl, hb.frame _, fun h => by cases h⟩
theorem calls_row : Rows.IsetCallsSaid :=
  OpenClaim.holds_of_wide 3 Tryz.f3 rfl rfl rfl rfl rfl rfl rfl ⟨rfl, rfl, rfl, rfl, rfl⟩ rfl rfl rfl rfl rfl (by kernel_rfl) Tryz.func3 (by kernel_rfl)
    (of_decide_eq_true (by kernel_rfl)) (by unfold Func.isWrapper; first | (rw [if_pos (by decide +kernel)]; kernel_rfl) | (rw [if_neg (by decide +kernel)]; exact ⟨rfl, rfl⟩))
    (fun os started H enc _ => calls_lifted os started H enc)
/-- THE STATEMENT. -/
theorem calls_holds : Rows.IsetCallsCardSaid :=
  Claim7.holds_tied_plain_at .later [] [.data, .data, .data, .sentinel, .sentinel] true Rows.isetCallsCard.stood.harness true
    calls_row (fun _ h => by cases h) (by kernel_rfl) (fun _ h => by cases h) isetCalls_row_tie rfl ⟨rfl, rfl⟩ (by kernel_rfl) rfl
    (fun f fn hf hfn => by
      obtain rfl : f = 3 := Option.some.inj ((show Tryz.prog.funcNamed "almanac/almanaclaw06.IsetCalls" = some 3 by kernel_rfl).symm.trans hf) |>.symm
      obtain rfl : fn = Tryz.f3 := (Option.some.inj (Tryz.func3.symm.trans hfn)).symm
      exact ⟨by kernel_rfl, fun j t ht => by
        rw [Tryz.params3] at ht
        have hm : t ∈ [22, 22, 23] := by simpa using Array.mem_of_getElem? ht
        have hall : ([22, 22, 23].all fun u => !Tryz.prog.wantsStandIn u) = true := by kernel_rfl
        exact (show Tryz.prog.wantsStandIn t = false by simpa using List.all_eq_true.1 hall t hm)⟩)
    (by kernel_rfl)
#print axioms calls_holds
end Go.Proofs.YtgjahnidjcfbiaaGreatDoor
