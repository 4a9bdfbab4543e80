/- The statement WireOrder, for arguments of bulk at most 1048576: of two of one sort the forms stand in their order, and so with anything behind them; the arguments read behind the call as they read before. -/
import Derived.Test.YtgchgccfngiafaaN4
import Derived.Test.YtgchgccfngiafaaC1
import Derived.JoinedCond
namespace Go.Proofs.Ytgchgccfngiafaa
open Go.ChangeShapes Go.WideShapes Go.ChangeAt Go.RowKit
theorem bulk_one {H : Type} (d : DataW H) : 1 ≤ Rows.uptoBulk d := by
  cases d with
  | lit l => cases l <;> simp [Rows.uptoBulk]
  | nil => simp [Rows.uptoBulk]
  | ptr d => simp [Rows.uptoBulk]
  | slice elems spare => simp [Rows.uptoBulk]
  | agg parts => simp [Rows.uptoBulk]
  | iface t d => simp [Rows.uptoBulk]
  | map entries => simp [Rows.uptoBulk]
  | held h => simp [Rows.uptoBulk]
theorem bulk_length {H : Type} (l : List (DataW H)) : l.length ≤ Rows.uptoBulkAll l := by
  induction l with
  | nil => simp [Rows.uptoBulkAll]
  | cons x r ih => have := bulk_one x; simp only [Rows.uptoBulkAll, List.length_cons]; omega
theorem int_fits {x : Int} (h : (Lit.int .i64 x).wf = true) : fits x := by
  unfold fits
  simpa [Lit.wf, IntKind.min, IntKind.max, IntKind.signed, IntKind.bits] using h
theorem word_fits {x : Int} (h : (Lit.int .u64 x).wf = true) : 0 ≤ x ∧ x ≤ 18446744073709551615 := by
  simpa [Lit.wf, IntKind.min, IntKind.max, IntKind.signed, IntKind.bits] using h
theorem float_fits {b : Nat} (h : (Lit.float .f64 b).wf = true) : b < 18446744073709551616 := by
  simpa [Lit.wf] using h
theorem trod_f {H : Type} {enc : TypeId × Value → H} {P : Program} {W : World} {base : Nat} {sp : Nat → Bool} {held : Bool} {n : Nat} {t : TypeId} {cs : List Value} {x : DataW H × List MemPlace} (ht : P.underlying t = some (.float .f64))
    (h : DataW.trod enc P W base sp held n t cs = some x) : ∃ b : Nat, cs = [.float .f64 b] ∧ b < 18446744073709551616 := by
  cases n with
  | zero => simp [DataW.trod] at h
  | succ n =>
    unfold DataW.trod at h
    rw [ht] at h
    split at h
    all_goals first | (simp_all; done) | skip
    rename_i k k' b heq
    obtain rfl : FloatKind.f64 = k := by simpa using heq
    by_cases e : k' = FloatKind.f64 ∧ (Lit.float .f64 b).wf = true
    · obtain ⟨rfl, e2⟩ := e
      exact ⟨_, rfl, float_fits e2⟩
    · rw [if_neg e] at h; cases h
section
variable {H : Type} {enc : TypeId × Value → H} {W : World} {base b0 : Nat} {held : Bool} {r : Reach} {v : Value} {d : DataW H} {p : List MemPlace}
set_option maxRecDepth 100000 in
theorem open_all {sp : Nat → Bool} (hv : Value.okWide Try.prog W r b0 26 v) (h : DataW.Trod enc Try.prog W base sp held 26 v d p) :
    ∃ (n : Nat) (i : Int) (f : Nat) (s : ByteArray) (c : Int), v = .agg #[.int .u64 n, .int .i64 i, .float .f64 f, .string s, .int .u8 c] ∧ n < 2 ^ 64 ∧ fits i ∧ f < 18446744073709551616 ∧ s.size ≤ Rows.uptoBulk d := by
  obtain ⟨cs, rfl, hsz⟩ := okWide_struct Try.underlying26 hv
  have hC : Try.prog.cellsOf 26 = 5 := by kernel_rfl
  obtain ⟨l⟩ := cs
  match l, hsz.trans hC with
  | [c0, c1, c2, c3, c4], _ =>
    obtain ⟨fuel, hf⟩ := h
    obtain ⟨xs, n, _, hx, _, hlen, hg⟩ := DataW.trod_struct Try.underlying26 hf
    have k0 : Try.prog.cellsOf 23 = 1 := by kernel_rfl
    have k1 : Try.prog.cellsOf 2 = 1 := by kernel_rfl
    have k2 : Try.prog.cellsOf 24 = 1 := by kernel_rfl
    have k3 : Try.prog.cellsOf 9 = 1 := by kernel_rfl
    have k4 : Try.prog.cellsOf 5 = 1 := by kernel_rfl
    match xs, hlen, hg, hx with
    | [y0, y1, y2, y3, y4], _, hg, hx =>
      have g0 : DataW.trod enc Try.prog W base sp held n 23 (([c0, c1, c2, c3, c4].drop 0).take (Try.prog.cellsOf 23)) = some y0 := hg 0 _ rfl
      have g1 : DataW.trod enc Try.prog W base sp held n 2 (([c0, c1, c2, c3, c4].drop 1).take (Try.prog.cellsOf 2)) = some y1 := hg 1 _ rfl
      have g2 : DataW.trod enc Try.prog W base sp held n 24 (([c0, c1, c2, c3, c4].drop 2).take (Try.prog.cellsOf 24)) = some y2 := hg 2 _ rfl
      have g3 : DataW.trod enc Try.prog W base sp held n 9 (([c0, c1, c2, c3, c4].drop 3).take (Try.prog.cellsOf 9)) = some y3 := hg 3 _ rfl
      have g4 : DataW.trod enc Try.prog W base sp held n 5 (([c0, c1, c2, c3, c4].drop 4).take (Try.prog.cellsOf 5)) = some y4 := hg 4 _ rfl
      rw [k0] at g0
      rw [k1] at g1
      rw [k2] at g2
      rw [k3] at g3
      rw [k4] at g4
      obtain ⟨z0, e0, _, w0⟩ := DataW.trod_int Try.underlying23 g0
      obtain ⟨z1, e1, _, w1⟩ := DataW.trod_int Try.underlying2 g1
      obtain ⟨z2, e2, w2⟩ := trod_f Try.underlying24 g2
      obtain ⟨z3, e3, f3, _⟩ := DataW.trod_string Try.underlying9 g3
      obtain ⟨z4, e4, _, _⟩ := DataW.trod_int Try.underlying5 g4
      simp at e0 e1 e2 e3 e4
      subst e0 e1 e2 e3 e4 f3
      obtain ⟨a0, a1⟩ := word_fits w0
      refine ⟨z0.toNat, z1, z2, z3, z4, by rw [Int.toNat_of_nonneg a0], by omega, int_fits w1, w2, ?_⟩
      injection hx with hd _
      rw [hd]
      have e : z3.data.toList.length = z3.size := by simp
      simp only [List.map_cons, List.map_nil, Rows.uptoBulk, Rows.uptoBulkAll]
      omega
theorem open_row {fuel : Nat} {cs : List Value} {x : DataW H × List MemPlace} (hf : DataW.trod enc Try.prog W base (fun _ => true) held fuel 22 cs = some x) :
    ∃ (A : Option Addr) (cap : Nat) (l : List UInt8), cs = [.slice A l.length cap] ∧ At W A l ∧ (A = none → cap = 0) ∧ l.length ≤ Rows.uptoBulk x.1 := by
  rcases open_ints Try.underlying22 Try.underlying5 cells8 hf with ⟨rfl, _⟩ | ⟨a, len, cap, zs, rfl, _, hl, hm, hz, hx, hcell, hwz⟩
  · exact ⟨none, 0, [], rfl, (fun h0 => absurd h0 (Nat.lt_irrefl 0)), fun _ => rfl, Nat.zero_le _⟩
  · simp only [if_true] at hz
    have hlen : ((zs.take len).map fun n => UInt8.ofNat n.toNat).length = len := by simp; omega
    refine ⟨some a, cap, (zs.take len).map fun n => UInt8.ofNat n.toNat, by rw [hlen], fun h0 => ?_, (fun h => by cases h), ?_⟩
    · rw [hlen] at h0
      obtain ⟨b, off, spot⟩ := a
      have hspot : spot = none := by simpa [Addr.add] using World.cell?_spot (hcell 0 (by omega))
      subst hspot
      have hcell' : ∀ i, i < zs.length → W.cell? ⟨b, off + i, none⟩ = some (.int .u8 (zs.getD i 0)) := fun i hi => by rw [← add_plain]; exact hcell i hi
      have hlt : b < W.heap.size := World.block_lt_of_cell? W _ (hcell' 0 (by omega))
      refine ⟨b, off, rfl, hlt, fun i hi => ?_⟩
      rw [hlen] at hi
      rw [hcell' i (by omega)]
      have hz' : i < zs.length := by omega
      have hw := byte_wf (hwz (zs.getD i 0) (by simp [List.getD, hz']))
      have e : ((zs.take len).map fun n => UInt8.ofNat n.toNat).getD i 0 = UInt8.ofNat (zs.getD i 0).toNat := by
        simp [List.getD, hi, hz']
      rw [e]
      unfold bv
      rw [byte_ofNat]
      congr 2
      omega
    · rw [hlen, hx]
      have h1 := bulk_length (lits (H := H) .u8 (zs.take len))
      have h2 : (lits (H := H) .u8 (zs.take len)).length = len := by simp [lits]; omega
      simp only [Rows.uptoBulk]
      omega
set_option maxRecDepth 100000 in
theorem open_pair (hv : Value.okWide Try.prog W r b0 78 v) (h : DataW.Trod enc Try.prog W base (fun _ => true) held 78 v d p) :
    ∃ (A B : Option Addr) (ca cb : Nat) (a b : List UInt8), v = .agg #[.slice A a.length ca, .slice B b.length cb] ∧ At W A a ∧ At W B b ∧ (A = none → ca = 0) ∧ (B = none → cb = 0) ∧ a.length ≤ Rows.uptoBulk d ∧ b.length ≤ Rows.uptoBulk d := by
  have hv' := hv
  simp only [Value.okWide, Try.underlying78] at hv'
  obtain ⟨cs, rfl, hsz, _⟩ := hv'
  have hC : Try.prog.cellsOf 78 = 2 := by kernel_rfl
  obtain ⟨l⟩ := cs
  match l, hsz.trans hC with
  | [c0, c1], _ =>
    obtain ⟨fuel, hf⟩ := h
    obtain ⟨xs, n, _, hx, _, hlen, hg⟩ := DataW.trod_array Try.underlying78 hf
    have k0 : Try.prog.cellsOf 22 = 1 := by kernel_rfl
    match xs, hlen, hg, hx with
    | [y0, y1], _, hg, hx =>
      have g0 : DataW.trod enc Try.prog W base (fun _ => true) held n 22 (([c0, c1].drop (0 * Try.prog.cellsOf 22)).take (Try.prog.cellsOf 22)) = some y0 := hg 0 (by omega)
      have g1 : DataW.trod enc Try.prog W base (fun _ => true) held n 22 (([c0, c1].drop (1 * Try.prog.cellsOf 22)).take (Try.prog.cellsOf 22)) = some y1 := hg 1 (by omega)
      rw [k0] at g0 g1
      obtain ⟨A, ca, a, e0, i0, i1, i2⟩ := open_row g0
      obtain ⟨B, cb, b, e1, j0, j1, j2⟩ := open_row g1
      simp at e0 e1
      subst e0 e1
      injection hx with hd _
      refine ⟨A, B, ca, cb, a, b, rfl, i0, j0, i1, j1, ?_, ?_⟩ <;> (rw [hd]; simp only [List.map_cons, List.map_nil, Rows.uptoBulk, Rows.uptoBulkAll]; omega)
end
set_option maxHeartbeats 800000 in
set_option maxRecDepth 100000 in
theorem order_contract (H : Type) (enc : TypeId × Value → H) (W : World) (base : Nat) (args : Array Value) (ds gs : List (DataW H)) (before : List MemPlace)
    (hval0 : ∀ (j : Nat) t v, Try.f6.params[j]? = some t → args[j]? = some v → Value.okWide Try.prog W .any base t v)
    (hW : DataW.Whole enc Try.prog Try.f6.params.toList Rows.wireOrderSpec.vars false W args.toList ds gs before) (hk : Rows.uptoSmall H (ds ++ gs) = true) :
    Calls Try.prog 6 args W fun e W' => ∃ v, e = .returned v ∧ Rows.wireOrderSpec.post enc Try.prog Try.f6 false true false false W args v W' := by
  have hval : ∀ (j : Nat) t v, Try.f6.params[j]? = some t → args[j]? = some v → Value.okWide Try.prog W .any base t v := hval0
  have hW' := hW
  obtain ⟨p, q, hA0, hV, rfl, _, _⟩ := hW
  have hA : DataW.TrodAll enc Try.prog W 0 (fun _ => true) true Try.f6.params.toList args.toList ds p := hA0
  rw [Try.params6] at hA hval
  obtain ⟨v0, v1, v2, d0, d1, d2, p0, p1, p2, rfl, rfl, rfl, h0, h1, h2⟩ := trodAll_three hA
  obtain ⟨rfl, rfl⟩ := trodVars_none hV
  have hbulk : Rows.uptoBulkAll ([d0, d1, d2] ++ []) ≤ 1048576 := of_decide_eq_true hk
  simp only [List.append_nil, Rows.uptoBulkAll] at hbulk
  obtain ⟨xn, xi, xf, xs, xc, rfl, a1, a2, a3, a4⟩ := open_all (hval 0 26 v0 rfl rfl) h0
  obtain ⟨yn, yi, yf, ys, yc, rfl, b1, b2, b3, b4⟩ := open_all (hval 1 26 v1 rfl rfl) h1
  obtain ⟨P, Q, cp, cq, pl, ql, rfl, c1, c2, c3, c4, c5, c6⟩ := open_pair (hval 2 78 v2 rfl rfl) h2
  clear hA0 hval0
  simp only [List.append_nil] at hW'
  have hlt : ∀ x ∈ p0 ++ p1 ++ p2, x.block < W.heap.size := fun x hx => by simpa using hW'.lt x hx
  have l0 : ∀ x ∈ p0, x.block < W.heap.size := fun x hx => hlt x (by simp [hx])
  have l1 : ∀ x ∈ p1, x.block < W.heap.size := fun x hx => hlt x (by simp [hx])
  have l2 : ∀ x ∈ p2, x.block < W.heap.size := fun x hx => hlt x (by simp [hx])
  refine (WireOrder_walk xn yn xf yf xi yi xc yc xs ys pl ql P Q cp cq W a1 b1 a2 b2 a3 b3 c1 c2 c3 c4 (by omega) (by omega) (by omega) (by omega)).mono fun e W' ⟨he, hb⟩ => ?_
  subst he
  exact ⟨_, rfl, _, _, _, [], _, [], hW', trodAll_mk1 (shut_bool Try.underlying4 _), trodAll_mk3 (Below.trod wire_out (by kernel_rfl) (of_decide_eq_true (by kernel_rfl)) h0 hb l0) (Below.trod wire_out (by kernel_rfl) (of_decide_eq_true (by kernel_rfl)) h1 hb l1) (Below.trod wire_out (by kernel_rfl) (of_decide_eq_true (by kernel_rfl)) h2 hb l2), rfl, hb.frame _, fun h => by cases h⟩
set_option maxRecDepth 100000 in
theorem order_lifted (os : Os) (started : os.Started) (H : Type) (enc : TypeId × Value → H) (F : Stop.Interp) :
    ReturnsInHanded {} Try.checked os 6 .any ((Rows.OpenSpec.upto Rows.wireOrderSpec).pre6 enc Try.prog Try.f6 Rows.wireOrderUptoRow.domain false) (((Rows.OpenSpec.upto Rows.wireOrderSpec).at F).post enc Try.prog Try.f6 false true false false) := by
  refine returnsInHanded_of_cond (C := Try.checked) (s := Rows.OpenSpec.upto Rows.wireOrderSpec) (k := Rows.uptoSmall) rfl wire_own started (by kernel_rfl) Try.func6
    (OpenSpec.witness (enc := enc) (C := Try.checked) (s := Rows.OpenSpec.upto Rows.wireOrderSpec) (k := Rows.uptoSmall) rfl false ⟨#[], #[.agg #[.int .u64 0, .int .i64 0, .float .f64 0, .string ⟨#[]⟩, .int .u8 0], .agg #[.int .u64 0, .int .i64 0, .float .f64 0, .string ⟨#[]⟩, .int .u8 0], .agg #[.slice none 0 0, .slice none 0 0]], []⟩ 8 (by kernel_rfl) (by kernel_rfl) (by kernel_rfl)
      (x := ([.agg [.lit (.int .u64 0), .lit (.int .i64 0), .lit (.float .f64 0), .lit (.string []), .lit (.int .u8 0)], .agg [.lit (.int .u64 0), .lit (.int .i64 0), .lit (.float .f64 0), .lit (.string []), .lit (.int .u8 0)], .agg [.nil, .nil]], [], [])) (by kernel_rfl) rfl (by kernel_rfl)) ?_
  intro W base args ds gs before hval hW _ hk _
  exact order_contract H enc W base args ds gs before hval hW hk
/-- THE STATEMENT. -/
theorem order_holds : Rows.WireOrderUptoSaid :=
  OpenClaim.holds_of_cond 6 Try.f6 rfl rfl rfl rfl rfl rfl rfl ⟨rfl, rfl, rfl, rfl, rfl⟩ rfl rfl rfl rfl rfl (by kernel_rfl) Try.func6 (by kernel_rfl)
    (of_decide_eq_true (by kernel_rfl)) (by unfold Func.isWrapper; first | (rw [if_pos (by decide +kernel)]; kernel_rfl) | (rw [if_neg (by decide +kernel)]; exact ⟨rfl, rfl⟩))
    (fun os started H enc _ F => order_lifted os started H enc F)
#print axioms order_holds
end Go.Proofs.Ytgchgccfngiafaa
