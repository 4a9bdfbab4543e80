/- The statement WireReads: for every row of bytes (its first 1000) and every row of calls (its first 100), the reader answers each call as the document's reader does; what came in reads behind the call as it read before. No condition. -/
import Derived.Test.YtokgpifelinonaaR16
import Derived.Test.YtokgpifelinonaaC1
namespace Go.Proofs.Ytokgpifelinonaa
open Go.ChangeShapes Go.WideShapes Go.ChangeAt Go.RowKit
theorem word_fits {x : Int} (h : (Lit.int .u64 x).wf = true) : 0 ≤ x ∧ x ≤ 18446744073709551615 := by
  simpa [Lit.wf, IntKind.min, IntKind.max, IntKind.signed, IntKind.bits] using h
theorem int_top {x : Int} (h : (Lit.int .i64 x).wf = true) : x ≤ 9223372036854775807 := by
  have h : -9223372036854775808 ≤ x ∧ x ≤ 9223372036854775807 := by simpa [Lit.wf, IntKind.min, IntKind.max, IntKind.signed, IntKind.bits] using h
  exact h.2
section
variable {H : Type} {enc : TypeId × Value → H} {W : World} {base : Nat} {held : Bool} {v : Value} {d : DataW H} {p : List MemPlace}
set_option maxRecDepth 100000 in
theorem open_calls {sp : Nat → Bool} {r : Reach} {b0 : Nat} (hv : Value.okWide Try.prog W r b0 23 v) (h : DataW.Trod enc Try.prog W base sp held 23 v d p) : ∃ B n c, v = .slice B n c ∧ CallsAt W B n := by
  obtain ⟨x0, x1, x2, rfl⟩ := okWide_slice Try.underlying23 hv
  obtain ⟨fuel, hf⟩ := h
  rcases DataW.trod_slice Try.underlying23 hf with ⟨e, _⟩ | ⟨a, len, cap, elems, rest, n, _, e, _, _, _, _, hlen, hg, _, _⟩
  · simp [Value.cells] at e
    obtain ⟨rfl, rfl, rfl⟩ := e
    exact ⟨none, 0, 0, rfl, fun h0 => absurd h0 (by simp)⟩
  · simp [Value.cells] at e
    obtain ⟨rfl, rfl, rfl⟩ := e
    refine ⟨some a, x1, x2, rfl, fun h0 => ?_⟩
    have hC : Try.prog.cellsOf 33 = 3 := by kernel_rfl
    rw [hC] at hg
    have k0 : Try.prog.cellsOf 3 = 1 := by kernel_rfl
    have k1 : Try.prog.cellsOf 31 = 1 := by kernel_rfl
    have each : ∀ i, i < x1 → ∃ (what most : Int) (num : Nat), W.cell? (a.add (i * 3)) = some (.int .i64 what) ∧ W.cell? ((a.add (i * 3)).add 1) = some (.int .u64 (num : Int)) ∧ W.cell? ((a.add (i * 3)).add 2) = some (.int .i64 most) ∧ most ≤ 9223372036854775807 := fun i hi => by
      have h1 := hg i hi
      rw [List.getElem?_eq_getElem (by omega), Option.bind_eq_some_iff] at h1
      obtain ⟨cs, hcs, ht⟩ := h1
      obtain ⟨_, hl, hcell⟩ := World.cells?_some hcs
      match cs, hl, hcell, ht with
      | [c0, c1, c2], _, hcell, ht =>
        obtain ⟨xs, n', _, _, _, hlen', hg'⟩ := DataW.trod_struct Try.underlying33 ht
        match xs, hlen', hg' with
        | [y0, y1, y2], _, hg' =>
          have g0 : DataW.trod enc Try.prog W base sp held n' 3 (([c0, c1, c2].drop 0).take (Try.prog.cellsOf 3)) = some y0 := hg' 0 _ rfl
          have g1 : DataW.trod enc Try.prog W base sp held n' 31 (([c0, c1, c2].drop 1).take (Try.prog.cellsOf 31)) = some y1 := hg' 1 _ rfl
          have g2 : DataW.trod enc Try.prog W base sp held n' 3 (([c0, c1, c2].drop 2).take (Try.prog.cellsOf 3)) = some y2 := hg' 2 _ rfl
          rw [k0] at g0 g2
          rw [k1] at g1
          obtain ⟨z0, e0, _, _⟩ := DataW.trod_int Try.underlying3 g0
          obtain ⟨z1, e1, _, w1⟩ := DataW.trod_int Try.underlying31 g1
          obtain ⟨z2, e2, _, w2⟩ := DataW.trod_int Try.underlying3 g2
          simp at e0 e1 e2
          subst e0 e1 e2
          obtain ⟨a0, _⟩ := word_fits w1
          have d0 := hcell 0 (by omega)
          have d1 := hcell 1 (by omega)
          have d2 := hcell 2 (by omega)
          refine ⟨z0, z2, z1.toNat, ?_, ?_, ?_, int_top w2⟩
          · simpa [Addr.add] using d0
          · rw [Int.toNat_of_nonneg a0]; simpa using d1
          · simpa using d2
    obtain ⟨b, off, spot⟩ := a
    obtain ⟨_, _, _, f0, _⟩ := each 0 h0
    have hspot : spot = none := by simpa [Addr.add] using World.cell?_spot f0
    subst hspot
    have hlt : b < W.heap.size := by
      rw [add_plain] at f0
      exact World.block_lt_of_cell? W _ f0
    refine ⟨b, off, rfl, hlt, fun i hi => ?_⟩
    obtain ⟨what, most, num, f0, f1, f2, f3⟩ := each i hi
    rw [add_plain] at f0
    rw [add_plain, add_plain] at f1 f2
    exact ⟨what, most, num, f0, f1, f2, f3⟩
end
set_option maxHeartbeats 800000 in
set_option maxRecDepth 100000 in
theorem reads_lifted (os : Os) (started : os.Started) (H : Type) (enc : TypeId × Value → H) :
    ReturnsInHanded {} Try.checked os 3 .any (Rows.wireReadsSpec.pre6 enc Try.prog Try.f3 Rows.wireReadsRow.domain false) (Rows.wireReadsSpec.post enc Try.prog Try.f3 false true false false) := by
  refine returnsInHanded_of_change_sized (C := Try.checked) wire_own started (by kernel_rfl) Try.func3
    (ChangeSpec.witness6 (enc := enc) (C := Try.checked) false ⟨#[], #[.slice none 0 0, .slice none 0 0], []⟩ 8 (by kernel_rfl) (by kernel_rfl) (by kernel_rfl) (by kernel_rfl)) ?_
  intro W base args ds gs before hval0 hW _ hsz0 _
  have hsz : (DataW.weightsEach Try.prog (Try.f3.params.toList ++ Rows.wireReadsSpec.plain.varTypes Try.prog) (ds ++ gs)).all (· ≤ reachBytes) = true := hsz0
  clear hsz0
  have hval : ∀ (j : Nat) t v, Try.f3.params[j]? = some t → args[j]? = some v → Value.okWide Try.prog W .any base t v := hval0
  have hW' := hW
  obtain ⟨p, q, hA0, hV, rfl, _, _⟩ := hW
  have hA : DataW.TrodAll enc Try.prog W 0 (fun _ => true) true Try.f3.params.toList args.toList ds p := hA0
  rw [Try.params3] at hA hval hsz
  obtain ⟨v0, v1, d0, d1, p0, p1, rfl, rfl, rfl, h0, h1⟩ := trodAll_two hA
  obtain ⟨rfl, rfl⟩ := trodVars_none hV
  have k0 := hval 0 22 v0 rfl rfl
  have k1 := hval 1 23 v1 rfl rfl
  clear hA0 hval0 hval
  simp only [List.append_nil] at hW'
  obtain ⟨A, cap, l, rfl, hin, hd⟩ := open_bytes k0 h0
  obtain ⟨B, n, cap2, rfl, hR⟩ := open_calls k1 h1
  have hl : l.length ≤ 140737488355328 := by
    rcases hd with h | ⟨elems, spare, rfl, he⟩
    · omega
    · have := sized_slice hsz (j := 0) (t := 22) (e := 5) rfl rfl Try.underlying22
      rw [bytes8] at this
      simp only [reachBytes] at this
      omega
  have hlt : ∀ x ∈ p0 ++ p1, x.block < W.heap.size := fun x hx => by simpa using hW'.lt x hx
  have l0 : ∀ x ∈ p0, x.block < W.heap.size := fun x hx => hlt x (by simp [hx])
  have l1 : ∀ x ∈ p1, x.block < W.heap.size := fun x hx => hlt x (by simp [hx])
  refine (WireReads_walk A cap cap2 B l n W hin.1 hin.2.1 hin.2.2.1 hl hR).mono fun e W' ⟨he, hb⟩ => ?_
  subst he
  exact ⟨_, rfl, _, _, _, [], _, [], hW', trodAll_mk1 (shut_bool Try.underlying4 _), trodAll_mk2 (Below.trod wire_out (by kernel_rfl) (of_decide_eq_true (by kernel_rfl)) h0 hb l0) (Below.trod wire_out (by kernel_rfl) (of_decide_eq_true (by kernel_rfl)) h1 hb l1), rfl, hb.frame _, fun h => by cases h⟩
/-- THE STATEMENT. -/
theorem reads_holds : Rows.WireReadsSaid :=
  OpenClaim.holds_of_wide 3 Try.f3 rfl rfl rfl rfl rfl rfl rfl ⟨rfl, rfl, rfl, rfl, rfl⟩ rfl rfl rfl rfl rfl (by kernel_rfl) Try.func3 (by kernel_rfl)
    (of_decide_eq_true (by kernel_rfl)) (by unfold Func.isWrapper; first | (rw [if_pos (by decide +kernel)]; kernel_rfl) | (rw [if_neg (by decide +kernel)]; exact ⟨rfl, rfl⟩))
    (fun os started H enc _ => reads_lifted os started H enc)
#print axioms reads_holds
end Go.Proofs.Ytokgpifelinonaa
