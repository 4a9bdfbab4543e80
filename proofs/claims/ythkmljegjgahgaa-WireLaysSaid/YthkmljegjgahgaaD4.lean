/- The statement WireLays: for every row of bytes and one of each sort, the forms laid behind it are the document's, what is told is new memory, and what came in stays; no condition. -/
import Derived.Test.YthkmljegjgahgaaR6
import Derived.Test.YthkmljegjgahgaaC1
namespace Go.Proofs.Ythkmljegjgahgaa
open Go.ChangeShapes Go.WideShapes Go.ChangeAt Go.RowKit
theorem int_fits {x : Int} (h : (Lit.int .i64 x).wf = true) : fits x := by
  unfold fits
  simpa [Lit.wf, IntKind.min, IntKind.max, IntKind.signed, IntKind.bits] using h
theorem word_fits {x : Int} (h : (Lit.int .u64 x).wf = true) : 0 ≤ x ∧ x ≤ 18446744073709551615 := by
  simpa [Lit.wf, IntKind.min, IntKind.max, IntKind.signed, IntKind.bits] using h
theorem float_fits {b : Nat} (h : (Lit.float .f64 b).wf = true) : b < 18446744073709551616 := by
  simpa [Lit.wf] using h
theorem trod_f {H : Type} {enc : TypeId × Value → H} {P : Program} {W : World} {base : Nat} {sp : Nat → Bool} {held : Bool} {n : Nat} {t : TypeId} {cs : List Value} {x : DataW H × List MemPlace} (ht : P.underlying t = some (.float .f64))
    (h : DataW.trod enc P W base sp held n t cs = some x) : ∃ b : Nat, cs = [.float .f64 b] ∧ b < 18446744073709551616 := by
  cases n with
  | zero => simp [DataW.trod] at h
  | succ n =>
    unfold DataW.trod at h
    rw [ht] at h
    split at h
    all_goals first | (simp_all; done) | skip
    rename_i k k' b heq
    obtain rfl : FloatKind.f64 = k := by simpa using heq
    by_cases e : k' = FloatKind.f64 ∧ (Lit.float .f64 b).wf = true
    · obtain ⟨rfl, e2⟩ := e
      exact ⟨_, rfl, float_fits e2⟩
    · rw [if_neg e] at h; cases h
section
variable {H : Type} {enc : TypeId × Value → H} {W : World} {base b0 : Nat} {held : Bool} {r : Reach} {v : Value} {d : DataW H} {p : List MemPlace}
set_option maxRecDepth 100000 in
theorem open_all {sp : Nat → Bool} (hv : Value.okWide Try.prog W r b0 26 v) (h : DataW.Trod enc Try.prog W base sp held 26 v d p) :
    ∃ (n : Nat) (i : Int) (f : Nat) (s : ByteArray) (c : UInt8), v = .agg #[.int .u64 n, .int .i64 i, .float .f64 f, .string s, .int .u8 (c.toNat : Int)] ∧ n < 2 ^ 64 ∧ fits i ∧ f < 18446744073709551616 := by
  obtain ⟨cs, rfl, hsz⟩ := okWide_struct Try.underlying26 hv
  have hC : Try.prog.cellsOf 26 = 5 := by kernel_rfl
  obtain ⟨l⟩ := cs
  match l, hsz.trans hC with
  | [c0, c1, c2, c3, c4], _ =>
    obtain ⟨fuel, hf⟩ := h
    obtain ⟨xs, n, _, hx, _, hlen, hg⟩ := DataW.trod_struct Try.underlying26 hf
    have k0 : Try.prog.cellsOf 23 = 1 := by kernel_rfl
    have k1 : Try.prog.cellsOf 2 = 1 := by kernel_rfl
    have k2 : Try.prog.cellsOf 24 = 1 := by kernel_rfl
    have k3 : Try.prog.cellsOf 9 = 1 := by kernel_rfl
    have k4 : Try.prog.cellsOf 5 = 1 := by kernel_rfl
    match xs, hlen, hg, hx with
    | [y0, y1, y2, y3, y4], _, hg, hx =>
      have g0 : DataW.trod enc Try.prog W base sp held n 23 (([c0, c1, c2, c3, c4].drop 0).take (Try.prog.cellsOf 23)) = some y0 := hg 0 _ rfl
      have g1 : DataW.trod enc Try.prog W base sp held n 2 (([c0, c1, c2, c3, c4].drop 1).take (Try.prog.cellsOf 2)) = some y1 := hg 1 _ rfl
      have g2 : DataW.trod enc Try.prog W base sp held n 24 (([c0, c1, c2, c3, c4].drop 2).take (Try.prog.cellsOf 24)) = some y2 := hg 2 _ rfl
      have g3 : DataW.trod enc Try.prog W base sp held n 9 (([c0, c1, c2, c3, c4].drop 3).take (Try.prog.cellsOf 9)) = some y3 := hg 3 _ rfl
      have g4 : DataW.trod enc Try.prog W base sp held n 5 (([c0, c1, c2, c3, c4].drop 4).take (Try.prog.cellsOf 5)) = some y4 := hg 4 _ rfl
      rw [k0] at g0
      rw [k1] at g1
      rw [k2] at g2
      rw [k3] at g3
      rw [k4] at g4
      obtain ⟨z0, e0, _, w0⟩ := DataW.trod_int Try.underlying23 g0
      obtain ⟨z1, e1, _, w1⟩ := DataW.trod_int Try.underlying2 g1
      obtain ⟨z2, e2, w2⟩ := trod_f Try.underlying24 g2
      obtain ⟨z3, e3, f3, _⟩ := DataW.trod_string Try.underlying9 g3
      obtain ⟨z4, e4, _, w4⟩ := DataW.trod_int Try.underlying5 g4
      simp at e0 e1 e2 e3 e4
      subst e0 e1 e2 e3 e4 f3
      obtain ⟨a0, a1⟩ := word_fits w0
      have hb := byte_wf w4
      refine ⟨z0.toNat, z1, z2, z3, UInt8.ofNat z4.toNat, ?_, by omega, int_fits w1, w2⟩
      rw [byte_ofNat, Int.toNat_of_nonneg a0, show ((z4.toNat % 256 : Nat) : Int) = z4 by omega]
end
set_option maxHeartbeats 800000 in
set_option maxRecDepth 100000 in
theorem lays_lifted (os : Os) (started : os.Started) (H : Type) (enc : TypeId × Value → H) :
    ReturnsInHanded {} Try.checked os 3 .any (Rows.wireLaysSpec.pre6 enc Try.prog Try.f3 Rows.wireLaysRow.domain false) (Rows.wireLaysSpec.post enc Try.prog Try.f3 false true false false) := by
  refine returnsInHanded_of_change_sized (C := Try.checked) wire_own started (by kernel_rfl) Try.func3
    (ChangeSpec.witness6 (enc := enc) (C := Try.checked) false ⟨#[], #[.slice none 0 0, .agg #[.int .u64 0, .int .i64 0, .float .f64 0, .string ⟨#[]⟩, .int .u8 0]], []⟩ 8 (by kernel_rfl) (by kernel_rfl) (by kernel_rfl) (by kernel_rfl)) ?_
  intro W base args ds gs before hval0 hW _ hsz0 _
  have hsz : (DataW.weightsEach Try.prog (Try.f3.params.toList ++ Rows.wireLaysSpec.plain.varTypes Try.prog) (ds ++ gs)).all (· ≤ reachBytes) = true := hsz0
  clear hsz0
  have hval : ∀ (j : Nat) t v, Try.f3.params[j]? = some t → args[j]? = some v → Value.okWide Try.prog W .any base t v := hval0
  have hW' := hW
  obtain ⟨p, q, hA0, hV, rfl, _, _⟩ := hW
  have hA : DataW.TrodAll enc Try.prog W 0 (fun _ => true) true Try.f3.params.toList args.toList ds p := hA0
  rw [Try.params3] at hA hval hsz
  obtain ⟨v0, v1, d0, d1, p0, p1, rfl, rfl, rfl, h0, h1⟩ := trodAll_two hA
  obtain ⟨rfl, rfl⟩ := trodVars_none hV
  obtain ⟨A, cap, l, rfl, hin, hd⟩ := open_bytes (hval 0 22 v0 rfl rfl) h0
  obtain ⟨n, z, f, s, c, rfl, a1, a2, a3⟩ := open_all (hval 1 26 v1 rfl rfl) h1
  clear hA0 hval0
  simp only [List.append_nil] at hW'
  have hlt : ∀ x ∈ p0 ++ p1, x.block < W.heap.size := fun x hx => by simpa using hW'.lt x hx
  have l0 : ∀ x ∈ p0, x.block < W.heap.size := fun x hx => hlt x (by simp [hx])
  have l1 : ∀ x ∈ p1, x.block < W.heap.size := fun x hx => hlt x (by simp [hx])
  have hl : l.length + 602 ≤ 140737488355328 := by
    rcases hd with h | ⟨elems, spare, rfl, he⟩
    · omega
    · have := sized_slice hsz (j := 0) (t := 22) (e := 5) rfl rfl Try.underlying22
      rw [bytes8] at this
      simp only [reachBytes] at this
      omega
  refine (WireLays_walk A cap l n z f s c W hin.1 hin.2.1 hl a1 a2 a3).mono fun e W' ⟨he, hb⟩ => ?_
  subst he
  exact ⟨_, rfl, _, _, _, [], _, [], hW', trodAll_mk1 (shut_bool Try.underlying4 _), trodAll_mk2 (Below.trod wire_out (by kernel_rfl) (of_decide_eq_true (by kernel_rfl)) h0 hb l0) (Below.trod wire_out (by kernel_rfl) (of_decide_eq_true (by kernel_rfl)) h1 hb l1), rfl, hb.frame _, fun h => by cases h⟩
/-- THE STATEMENT. -/
theorem lays_holds : Rows.WireLaysSaid :=
  OpenClaim.holds_of_wide 3 Try.f3 rfl rfl rfl rfl rfl rfl rfl ⟨rfl, rfl, rfl, rfl, rfl⟩ rfl rfl rfl rfl rfl (by kernel_rfl) Try.func3 (by kernel_rfl)
    (of_decide_eq_true (by kernel_rfl)) (by unfold Func.isWrapper; first | (rw [if_pos (by decide +kernel)]; kernel_rfl) | (rw [if_neg (by decide +kernel)]; exact ⟨rfl, rfl⟩))
    (fun os started H enc _ => lays_lifted os started H enc)
#print axioms lays_holds
end Go.Proofs.Ythkmljegjgahgaa
