/- The statement WireLays, walked. -/
import Derived.Test.YthkmljegjgahgaaR5
import Derived.Great.BuildSlice
namespace Go.Proofs.Ythkmljegjgahgaa
open Go.RowKit
theorem take_in {P : Program} {md : Region.Mode} {ops : Array Oper} {Q : Exit → Act → World → Prop} {S : World → Prop} {i : Nat} {oi : Oper} {v : Value} {fuel : Nat} {listed : Array Bool} {a : Act} {w : World} (d : Option Nat) (hi : ops[i]? = some oi) (hd : oi.dst = d)
    (hs : Region.noSelect ops = true) (hf : Region.free md ops listed i = true) (hr : (Region.ready md ops listed).contains i = true)
    (hQ : ∀ c a w, Q (.panic c) (a.put d v) w → Q (.panic c) a w) (hy : YieldsIf P ops S oi v a) (hS : S w)
    (h : wpAnyH P md ops Q S fuel (listed.setIfInBounds i true) (a.put d v) w) : wpAnyH P md ops Q S (fuel + 1) listed a w := by
  subst hd
  exact wpAnyH_take hi hs hf hr hQ hy hS h
theorem encInt_le (z : Int) (h : fits z) : (encInt z).length ≤ 9 := by
  unfold fits at h
  unfold encInt
  split
  · have := nlen_8 z.toNat (by omega)
    rw [List.length_cons, digs_length]
    omega
  · have := nlen_8 (-(z + 1)).toNat (by omega)
    rw [List.length_cons, flip8_length, digs_length]
    omega
theorem extract_len (s : ByteArray) (k : Nat) (h : k ≤ 300) : (encText (s.extract 0 k).data.toList).length ≤ 602 := by
  have h1 := (escT_length (s.extract 0 k).data.toList).2
  have h2 : (s.extract 0 k).data.toList.length ≤ 300 := by simp; omega
  have h3 : (encText (s.extract 0 k).data.toList).length = (escT (s.extract 0 k).data.toList).length + 2 := by unfold encText; simp
  omega
/-- The struct that came in, in a box of the call's own. -/
def Box (w : World) (g n : Nat) (z : Int) (f : Nat) (s : ByteArray) (c : UInt8) (wk : World) : Prop :=
  Below w.heap.size w wk ∧ g < wk.heap.size ∧ wk.cell? ⟨g, 0, none⟩ = some (.int .u64 n) ∧ wk.cell? ⟨g, 1, none⟩ = some (.int .i64 z) ∧ wk.cell? ⟨g, 2, none⟩ = some (.float .f64 f) ∧ wk.cell? ⟨g, 3, none⟩ = some (.string s) ∧ wk.cell? ⟨g, 4, none⟩ = some (.int .u8 (c.toNat : Int))
theorem Box.step {w wk wk' : World} {g n : Nat} {z : Int} {f : Nat} {s : ByteArray} {c : UInt8} (h : Box w g n z f s c wk) (hb : Below wk.heap.size wk wk') : Box w g n z f s c wk' := by
  obtain ⟨h1, h2, c0, c1, c2, c3, c4⟩ := h
  have sz := hb.size
  exact ⟨h1.trans (hb.mono h1.size), by omega, (hb.cell (p := ⟨g, 0, none⟩) h2).trans c0, (hb.cell (p := ⟨g, 1, none⟩) h2).trans c1, (hb.cell (p := ⟨g, 2, none⟩) h2).trans c2, (hb.cell (p := ⟨g, 3, none⟩) h2).trans c3, (hb.cell (p := ⟨g, 4, none⟩) h2).trans c4⟩
theorem Box.start (w : World) (n : Nat) (z : Int) (f : Nat) (t : ByteArray) (c : UInt8) : Box w w.heap.size n z f t c (w.alloc (.cells #[.int .u64 n, .int .i64 z, .float .f64 f, .string t, .int .u8 (c.toNat : Int)] 26)) := by
  have hc : ∀ j, (w.alloc (.cells #[.int .u64 n, .int .i64 z, .float .f64 f, .string t, .int .u8 (c.toNat : Int)] 26)).cell? ⟨w.heap.size, j, none⟩ = (#[.int .u64 n, .int .i64 z, .float .f64 f, .string t, .int .u8 (c.toNat : Int)] : Array Value)[j]? := fun j => cell_of_row _ _ _ _ _ _ (heap_alloc_new w _)
  exact ⟨(Below.refl _ _).alloc (Nat.le_refl _) _, by simp, hc 0, hc 1, hc 2, hc 3, hc 4⟩
theorem Turning.drew {W wr : World} {ds : Nat → Nat} {i n : Nat} {D : Option Addr} (h : Turning W wr ds i n D) : Turning W wr.drew ds i n D :=
  ⟨h.1.drew, h.2.imp id fun ⟨e, L, hL, hm⟩ => ⟨e, L, hL, hm.below (Below.refl _ _).drew⟩⟩
def five {α : Type} (a b c d e : α) : Nat → α
  | 0 => a
  | 1 => b
  | 2 => c
  | 3 => d
  | _ => e
theorem five_cases {j : Nat} (h : j < 5) : j = 0 ∨ j = 1 ∨ j = 2 ∨ j = 3 ∨ j = 4 := by omega
/-- A slice of the call's own, between two blocks. -/
structure Has (m u : Nat) (A : Option Addr) (L : List UInt8) (w : World) : Prop where
  at_ : At w A L
  fr : ∀ b off, A = some ⟨b, off, none⟩ → m ≤ b ∧ b < u
  ul : u ≤ w.heap.size
theorem Has.below {m u B : Nat} {A : Option Addr} {L : List UInt8} {w w' : World} (h : Has m u A L w) (hb : Below B w w') (hu : u ≤ B) : Has m u A L w' :=
  ⟨fun h0 => by
    obtain ⟨b, off, e, hl, hc⟩ := h.at_ h0
    have hs := hb.size
    exact ⟨b, off, e, by omega, fun i hi => (hb.cell (p := ⟨b, off + i, none⟩) (by have := (h.fr b off e).2; show b < B; omega)).trans (hc i hi)⟩, h.fr, Nat.le_trans h.ul hb.size⟩
theorem Has.step {m u : Nat} {A : Option Addr} {L : List UInt8} {w w' : World} (h : Has m u A L w) (hb : Below w.heap.size w w') : Has m u A L w' := h.below hb h.ul
theorem Has.up {m u v : Nat} {A : Option Addr} {L : List UInt8} {w : World} (h : Has m u A L w) (hu : u ≤ v) (hv : v ≤ w.heap.size) : Has m v A L w := ⟨h.at_, fun b off e => by have := h.fr b off e; omega, hv⟩
theorem Own1.has {base m n c : Nat} {w : World} {A : Option Addr} {L : List UInt8} (h : Own1 base w (.slice A n c) L) (hm : m ≤ base) : Has m w.heap.size A L w := by
  obtain ⟨A', c', e, _, _, hA⟩ := h.at
  injection e with e1 _ _
  subst e1
  exact ⟨hA, fun b off e => by have := h.fresh b off e; omega, Nat.le_refl _⟩
def TellsH (m : Nat) (L : List UInt8) (wk : World) (e : Ending) (w' : World) : Prop := ∃ A c, e = .returned (.slice A L.length c) ∧ Has m w'.heap.size A L w' ∧ Below wk.heap.size wk w'
theorem TellsH.of {m : Nat} {wk w' : World} {L : List UInt8} {e : Ending} (h : Tells wk L e w') (hm : m ≤ wk.heap.size) : TellsH m L wk e w' := by
  obtain ⟨v, h1, h2, h3⟩ := h
  obtain ⟨A, c, rfl, _, _, hA⟩ := h2.at
  exact ⟨A, c, h1, h2.has hm, h3⟩
section
variable {ops : Array Oper} {o : Oper} {a : Act} {K : Act → World → Prop} {Q : Exit → Act → World → Prop} {E : Prop} {w : World}
theorem step_own (dd : Option Nat) (hdd : o.dst = dd) (hw : Region.wanted o (yielded ops a.tmps) = true) (s x : Operand) (ho : o.op = .call { callee := .builtin .append, args := #[s, x], argTypes := #[22, 22] })
    (base : Nat) (v : Value) (l : List UInt8) (hs : a.eval s = v) (h : Own1 base w v l) (A : Option Addr) (n c : Nat) (news : List UInt8) (hx : a.eval x = .slice A n c) (hA : At w A news) (hz : A = none → c = 0) (hn : news.length = n)
    (hm : l.length + news.length ≤ 140737488355328) (hb : base ≤ w.heap.size)
    (hK : ∀ v' w', Own1 base w' v' (l ++ news) → Below base w w' → K (a.put dd v') w') :
    if Region.wanted o (yielded ops a.tmps) = true then Oper.wp Try.prog o a w K Q else E := by
  subst hn hdd
  rw [if_pos hw]
  obtain ⟨v', w', h1, h2, h3, h4⟩ := run_app base w v l A c news o.type h hA hz hm hb
  unfold Oper.wp execOp
  simp only [ho, resolve, invoke, builtin, Sem.run_bind, Sem.run_pure, Result.andThen_ok, List.map_toArray, List.map_cons, List.map_nil, hs, hx, h1]
  exact hK v' w' h2 (below_app h (Below.refl _ _) hb h3)
end
theorem info22 : (Try.prog.info? 22).map (fun i => (i.zero, i.size)) = some (some (.slice none 0 0), 1) := by kernel_rfl
theorem fill_five (A0 A1 A2 A3 A4 : Option Addr) (n0 n1 n2 n3 n4 c0 c1 c2 c3 c4 : Nat) :
    Instr.fill (fun i => some (i * 1, 1)) ((Array.range (5 * 1)).map ((Value.slice none 0 0).cells[· % (Value.slice none 0 0).cells.size]!)) [(0, .slice A0 n0 c0), (1, .slice A1 n1 c1), (2, .slice A2 n2 c2), (3, .slice A3 n3 c3), (4, .slice A4 n4 c4)] =
      some #[.slice A0 n0 c0, .slice A1 n1 c1, .slice A2 n2 c2, .slice A3 n3 c3, .slice A4 n4 c4] := by kernel_rfl
section
variable {ops : Array Oper} {o : Oper} {a : Act} {K : Act → World → Prop} {Q : Exit → Act → World → Prop} {E : Prop} {w : World}
theorem step_five (dd : Option Nat) (hdd : o.dst = dd) (hw : Region.wanted o (yielded ops a.tmps) = true) (x0 x1 x2 x3 x4 : Operand) (ho : o.op = .buildSlice 37 5 #[(0, x0), (1, x1), (2, x2), (3, x3), (4, x4)])
    (A0 A1 A2 A3 A4 : Option Addr) (n0 n1 n2 n3 n4 c0 c1 c2 c3 c4 : Nat) (h0 : a.eval x0 = .slice A0 n0 c0) (h1 : a.eval x1 = .slice A1 n1 c1) (h2 : a.eval x2 = .slice A2 n2 c2) (h3 : a.eval x3 = .slice A3 n3 c3) (h4 : a.eval x4 = .slice A4 n4 c4)
    (hK : K (a.put dd (.slice (some ⟨w.heap.size, 0, none⟩) 5 5)) (w.alloc (.cells #[.slice A0 n0 c0, .slice A1 n1 c1, .slice A2 n2 c2, .slice A3 n3 c3, .slice A4 n4 c4] 22))) :
    if Region.wanted o (yielded ops a.tmps) = true then Oper.wp Try.prog o a w K Q else E := by
  subst hdd
  rw [if_pos hw]
  have hi : ∃ i0, Try.prog.info? 22 = some i0 ∧ i0.zero = some (.slice none 0 0) ∧ i0.size = 1 := by
    have h := info22
    cases hx : Try.prog.info? 22 with
    | none => rw [hx] at h; cases h
    | some i => rw [hx] at h; simp at h; exact ⟨i, rfl, h.1, h.2⟩
  obtain ⟨i0, e1, e2, e3⟩ := hi
  refine wp_buildSlice 37 22 5 _ ho _ i0 _ Try.underlying37 e1 e2 (by rw [e3]; decide) (by rw [e3]; decide) ?_ hK
  rw [e3]
  simp only [List.map_toArray, List.map_cons, List.map_nil, h0, h1, h2, h3, h4]
  exact fill_five A0 A1 A2 A3 A4 n0 n1 n2 n3 n4 c0 c1 c2 c3 c4
end
set_option maxRecDepth 100000 in
set_option maxHeartbeats 8000000 in
theorem WireLays_walk (A : Option Addr) (ca : Nat) (l : List UInt8) (n : Nat) (z : Int) (f : Nat) (s : ByteArray) (c : UInt8) (w : World) (hA : At w A l) (zA : A = none → ca = 0) (ml : l.length + 602 ≤ 140737488355328) (hn : n < 2 ^ 64) (hz : fits z) (hf : f < 18446744073709551616) :
    Calls Try.prog 3 #[.slice A l.length ca, .agg #[.int .u64 n, .int .i64 z, .float .f64 f, .string s, .int .u8 (c.toNat : Int)]] w fun e w' => e = .returned (.bool true) ∧ Below w.heap.size w w' := by
  have HA := Lib.hid hA
  have ZA := Lib.hid zA
  have HN := Lib.hid hn
  have HF := Lib.hid hf
  have HZ := Lib.hid hz
  clear hA zA hn hf hz
  go_enter Try.func3, Try.ntmps3
  go_upto_region 1 with fail
  go_cut [20] (fun v w' => ∃ k, k ≤ 300 ∧ v = .string (s.extract 0 k) ∧ w' = w.alloc (.cells #[.int .u64 n, .int .i64 z, .float .f64 f, .string (s.extract 0 k), .int .u8 (c.toNat : Int)] 26))
  case first =>
    go_wp2
    go_meet
    exact ⟨_, by omega, rfl, rfl⟩
  case rest =>
    obtain ⟨k, hk, rfl, rfl⟩ := hcut
    have ht := extract_len s k hk
    obtain ⟨t, hT⟩ : ∃ t, s.extract 0 k = t := ⟨_, rfl⟩
    have X0 := Lib.hid (Box.start w n z f t c)
    rw [hT] at ht ⊢
    obtain ⟨w0, hw0⟩ : ∃ w0, w.alloc (.cells #[.int .u64 n, .int .i64 z, .float .f64 f, .string t, .int .u8 (c.toNat : Int)] 26) = w0 := ⟨_, rfl⟩
    rw [hw0] at X0 ⊢
    clear hw0 hT hk
    have b0 := X0.out.1
    go_wp2_with fail
    refine (refOwn_any A l ca w0 (HA.out.below b0) ZA.out (by omega)).mono ?_
    rintro e w1 ⟨v1, rfl, ho1, hb1⟩
    obtain ⟨O, cO, rfl, zO, _, hO⟩ := ho1.at
    have fO := ho1.fresh
    have X1 := Lib.hid (X0.out.step hb1)
    clear ho1 hb1 b0 X0
    have q2 := X1.out.2.2.2.2.1
    go_wp2_with fail
    clear q2
    refine (Float_lays O l cO f w1.heap.size w1 HF.out hO zO (by omega) rfl).mono ?_
    rintro e w2 ⟨D2, c2, rfl, hD2, hb2⟩
    have X2 := Lib.hid (X1.out.step hb2)
    have O2 := Lib.hid (hO.below hb2)
    have q2 := X2.out.2.2.2.2.1
    go_wp2_with fail
    clear q2
    refine (Float_tells A l ca f w2 HF.out (HA.out.below X2.out.1) ZA.out (by omega)).mono ?_
    rintro e w3 ⟨E2, e2, rfl, hE2, fE2, hb3⟩
    have X3 := Lib.hid (X2.out.step hb3)
    have O3 := Lib.hid (O2.out.below hb3)
    have HB := Lib.hid hb3
    have D3 : (D2 = none ∧ flL f l = []) ∨ (D2 = some ⟨w1.heap.size, 0, none⟩ ∧ Mine w3 w1.heap.size (flL f l)) := hD2.imp id fun h => ⟨h.1, h.2.below hb3⟩
    have hlt12 : D2 = none ∨ w1.heap.size < w2.heap.size := hD2.imp (fun h => h.1) fun h => h.2.lt
    have hsz12 := hb2.size
    have hsz23 := hb3.size
    have hsz01 := X1.out.2.1
    clear hD2 hb2 hb3 X1 X2 O2 hO
    obtain ⟨LN, hLN⟩ : ∃ L, l ++ encNum n = L := ⟨_, rfl⟩
    obtain ⟨LI, hLI⟩ : ∃ L, l ++ encInt z = L := ⟨_, rfl⟩
    obtain ⟨LT, hLT⟩ : ∃ L, l ++ encText t.data.toList = L := ⟨_, rfl⟩
    obtain ⟨LB, hLB⟩ : ∃ L, l ++ [c] = L := ⟨_, rfl⟩
    obtain ⟨LF, hLF⟩ : ∃ L, flL f l = L := ⟨_, rfl⟩
    have bLN : LN.length ≤ 140737488355328 := by rw [← hLN, List.length_append]; have := encNum_length n HN.out; omega
    have bLI : LI.length ≤ 140737488355328 := by rw [← hLI, List.length_append]; have := encInt_le z HZ.out; omega
    have bLF : LF.length ≤ 140737488355328 := by
      rw [← hLF]
      unfold flL encFloat
      split
      · rw [List.length_append, digs_length]; omega
      · simp
    have bLT : LT.length ≤ 140737488355328 := by rw [← hLT, List.length_append]; omega
    have bLB : LB.length ≤ 140737488355328 := by rw [← hLB, List.length_append]; simp; omega
    obtain ⟨er, her⟩ : ∃ e, flE f = e := ⟨_, rfl⟩
    rw [hLF] at hE2 D3 ⊢
    rw [her]
    go_upto_region 5 with fail
    go_cut [10] (fun v w' => ∃ (d0 d1 d3 d4 G c0 c1 c3 c4 : Nat), v = .slice (some ⟨G, 0, none⟩) 5 5 ∧ (w3.heap.size ≤ d0 ∧ d0 < d1 ∧ d1 < d3 ∧ d3 < d4 ∧ d4 < G ∧ G < w'.heap.size) ∧ (Mine w' d0 LN ∧ Mine w' d1 LI ∧ Mine w' d3 LT ∧ Mine w' d4 LB) ∧
      (w'.cell? ⟨G, 0, none⟩ = some (.slice (some ⟨d0, 0, none⟩) LN.length c0) ∧ w'.cell? ⟨G, 1, none⟩ = some (.slice (some ⟨d1, 0, none⟩) LI.length c1) ∧ w'.cell? ⟨G, 2, none⟩ = some (.slice D2 LF.length c2) ∧ w'.cell? ⟨G, 3, none⟩ = some (.slice (some ⟨d3, 0, none⟩) LT.length c3) ∧ w'.cell? ⟨G, 4, none⟩ = some (.slice (some ⟨d4, 0, none⟩) LB.length c4)) ∧ Below w3.heap.size w3 w')
    case first => as_aux_lemma =>
      have k3 := fun wk (hb : Below w3.heap.size w3 wk) => (Num_any O l cO n wk HN.out (O3.out.below hb) zO (by omega)).mono fun _ _ h => Lays.of h rfl
      have k7 := fun wk (hb : Below w3.heap.size w3 wk) => (Int_any O l cO z wk HZ.out (O3.out.below hb) zO (by omega)).mono fun _ _ h => Lays.of h rfl
      have k12 := fun wk (hb : Below w3.heap.size w3 wk) => (Text_any O l cO t wk (O3.out.below hb) zO (by omega)).mono fun _ _ h => Lays.of h rfl
      have k16 := fun wk (hb : Below w3.heap.size w3 wk) => (Byte_any O l cO c wk (O3.out.below hb) zO (by omega)).mono fun _ _ h => Lays.of h rfl
      rw [hLN] at k3
      rw [hLI] at k7
      rw [hLT] at k12
      rw [hLB] at k16
      have K0 := Lib.hid (fun wk (hb : Below w3.heap.size w3 wk) => (⟨hb, (X3.out.step hb).2.2.1, (X3.out.step hb).2.2.2.1, (X3.out.step hb).2.2.2.2.2.1, (X3.out.step hb).2.2.2.2.2.2⟩ : Below w3.heap.size w3 wk ∧ wk.cell? ⟨w.heap.size, 0, none⟩ = some (.int .u64 n) ∧ wk.cell? ⟨w.heap.size, 1, none⟩ = some (.int .i64 z) ∧ wk.cell? ⟨w.heap.size, 3, none⟩ = some (.string t) ∧ wk.cell? ⟨w.heap.size, 4, none⟩ = some (.int .u8 (c.toNat : Int))))
      have C3 := Lib.hid k3
      have C7 := Lib.hid k7
      have C12 := Lib.hid k12
      have C16 := Lib.hid k16
      clear k3 k7 k12 k16 hLN hLI hLT hLB hLF her X3 O3 HB D3 hE2 fE2 fO hlt12 ht ml bLN bLT bLB
      refine wp_region_held_drew (S := (fun wk => Below w3.heap.size w3 wk ∧ wk.cell? ⟨w.heap.size, 0, none⟩ = some (.int .u64 n) ∧ wk.cell? ⟨w.heap.size, 1, none⟩ = some (.int .i64 z) ∧ wk.cell? ⟨w.heap.size, 3, none⟩ = some (.string t) ∧ wk.cell? ⟨w.heap.size, 4, none⟩ = some (.int .u8 (c.toNat : Int)))) (by kernel_rfl) (K0.out _ (Below.refl _ _).drew) (fun hHeld => ?_)
      refine take_in (i := 0) (v := ?_) (some 38) rfl rfl (by kernel_rfl) (by kernel_rfl) (by kernel_rfl) (fun _ _ _ h => h) (Or.inl ⟨by rfl, ?_⟩) (by assumption) ?_
      rotate_left
      · (intro w hSw; (try dsimp only at hSw); (try go_split_ands); go_simp; try with_reducible rfl)
      try simp only [Act.put, List.setIfInBounds_toArray, List.set_cons_zero, List.set_cons_succ]
      refine take_in (i := 1) (v := ?_) (some 39) rfl rfl (by kernel_rfl) (by kernel_rfl) (by kernel_rfl) (fun _ _ _ h => h) (Or.inl ⟨by rfl, ?_⟩) (by assumption) ?_
      rotate_left
      · (intro w hSw; (try dsimp only at hSw); (try go_split_ands); go_simp; try with_reducible rfl)
      try simp only [Act.put, List.setIfInBounds_toArray, List.set_cons_zero, List.set_cons_succ]
      refine take_in (i := 2) (v := ?_) (some 40) rfl rfl (by kernel_rfl) (by kernel_rfl) (by kernel_rfl) (fun _ _ _ h => h) (Or.inl ⟨by rfl, ?_⟩) (by assumption) ?_
      rotate_left
      · (intro w hSw; (try dsimp only at hSw); (try go_split_ands); go_simp; try with_reducible rfl)
      try simp only [Act.put, List.setIfInBounds_toArray, List.set_cons_zero, List.set_cons_succ]
      refine take_in (i := 4) (v := ?_) (some 42) rfl rfl (by kernel_rfl) (by kernel_rfl) (by kernel_rfl) (fun _ _ _ h => h) (Or.inl ⟨by rfl, ?_⟩) (by assumption) ?_
      rotate_left
      · (intro w hSw; (try dsimp only at hSw); (try go_split_ands); go_simp; try with_reducible rfl)
      try simp only [Act.put, List.setIfInBounds_toArray, List.set_cons_zero, List.set_cons_succ]
      refine take_in (i := 5) (v := ?_) (some 43) rfl rfl (by kernel_rfl) (by kernel_rfl) (by kernel_rfl) (fun _ _ _ h => h) (Or.inl ⟨by rfl, ?_⟩) (by assumption) ?_
      rotate_left
      · (intro w hSw; (try dsimp only at hSw); (try go_split_ands); go_simp; try with_reducible rfl)
      try simp only [Act.put, List.setIfInBounds_toArray, List.set_cons_zero, List.set_cons_succ]
      refine take_in (i := 6) (v := ?_) (some 44) rfl rfl (by kernel_rfl) (by kernel_rfl) (by kernel_rfl) (fun _ _ _ h => h) (Or.inl ⟨by rfl, ?_⟩) (by assumption) ?_
      rotate_left
      · (intro w hSw; (try dsimp only at hSw); (try go_split_ands); go_simp; try with_reducible rfl)
      try simp only [Act.put, List.setIfInBounds_toArray, List.set_cons_zero, List.set_cons_succ]
      refine take_in (i := 8) (v := ?_) (some 46) rfl rfl (by kernel_rfl) (by kernel_rfl) (by kernel_rfl) (fun _ _ _ h => h) (Or.inl ⟨by rfl, ?_⟩) (by assumption) ?_
      rotate_left
      · (intro w hSw; (try dsimp only at hSw); (try go_split_ands); go_simp; try with_reducible rfl)
      try simp only [Act.put, List.setIfInBounds_toArray, List.set_cons_zero, List.set_cons_succ]
      refine take_in (i := 9) (v := ?_) (some 47) rfl rfl (by kernel_rfl) (by kernel_rfl) (by kernel_rfl) (fun _ _ _ h => h) (Or.inl ⟨by rfl, ?_⟩) (by assumption) ?_
      rotate_left
      · (intro w hSw; (try dsimp only at hSw); (try go_split_ands); go_simp; try with_reducible rfl)
      try simp only [Act.put, List.setIfInBounds_toArray, List.set_cons_zero, List.set_cons_succ]
      refine take_in (i := 10) (v := ?_) (some 48) rfl rfl (by kernel_rfl) (by kernel_rfl) (by kernel_rfl) (fun _ _ _ h => h) (Or.inl ⟨by rfl, ?_⟩) (by assumption) ?_
      rotate_left
      · (intro w hSw; (try dsimp only at hSw); (try go_split_ands); go_simp; try with_reducible rfl)
      try simp only [Act.put, List.setIfInBounds_toArray, List.set_cons_zero, List.set_cons_succ]
      refine take_in (i := 11) (v := ?_) (some 49) rfl rfl (by kernel_rfl) (by kernel_rfl) (by kernel_rfl) (fun _ _ _ h => h) (Or.inl ⟨by rfl, ?_⟩) (by assumption) ?_
      rotate_left
      · (intro w hSw; (try dsimp only at hSw); (try go_split_ands); go_simp; try with_reducible rfl)
      try simp only [Act.put, List.setIfInBounds_toArray, List.set_cons_zero, List.set_cons_succ]
      refine take_in (i := 13) (v := ?_) (some 51) rfl rfl (by kernel_rfl) (by kernel_rfl) (by kernel_rfl) (fun _ _ _ h => h) (Or.inl ⟨by rfl, ?_⟩) (by assumption) ?_
      rotate_left
      · (intro w hSw; (try dsimp only at hSw); (try go_split_ands); go_simp; try with_reducible rfl)
      try simp only [Act.put, List.setIfInBounds_toArray, List.set_cons_zero, List.set_cons_succ]
      refine take_in (i := 14) (v := ?_) (some 52) rfl rfl (by kernel_rfl) (by kernel_rfl) (by kernel_rfl) (fun _ _ _ h => h) (Or.inl ⟨by rfl, ?_⟩) (by assumption) ?_
      rotate_left
      · (intro w hSw; (try dsimp only at hSw); (try go_split_ands); go_simp; try with_reducible rfl)
      try simp only [Act.put, List.setIfInBounds_toArray, List.set_cons_zero, List.set_cons_succ]
      refine take_in (i := 15) (v := ?_) (some 53) rfl rfl (by kernel_rfl) (by kernel_rfl) (by kernel_rfl) (fun _ _ _ h => h) (Or.inl ⟨by rfl, ?_⟩) (by assumption) ?_
      rotate_left
      · (intro w hSw; (try dsimp only at hSw); (try go_split_ands); go_simp; try with_reducible rfl)
      try simp only [Act.put, List.setIfInBounds_toArray, List.set_cons_zero, List.set_cons_succ]
      refine wpAnyH_ready (rs := [3]) (by kernel_rfl) (by simp) ?_
      refine AllReadyH.cons rfl (fun K hK => ?_) AllReadyH.nil
      go_simp
      refine (C3.out _ hHeld.1).mono ?_
      rintro e a1 ⟨u1, rfl, n1, p1⟩
      have hB := hHeld.1.trans (p1.mono hHeld.1.size)
      go_wp2_with fail
      refine hK.out _ _ (K0.out _ hB) (fun hHeld => ?_)
      clear hK K
      try simp only [Act.put, List.setIfInBounds_toArray, List.set_cons_zero, List.set_cons_succ]
      refine wpAnyH_ready (rs := [7]) (by kernel_rfl) (by simp) ?_
      refine AllReadyH.cons rfl (fun K hK => ?_) AllReadyH.nil
      go_simp
      refine (C7.out _ hHeld.1).mono ?_
      rintro e a2 ⟨u2, rfl, n2, p2⟩
      have hB := hHeld.1.trans (p2.mono hHeld.1.size)
      go_wp2_with fail
      refine hK.out _ _ (K0.out _ hB) (fun hHeld => ?_)
      clear hK K
      try simp only [Act.put, List.setIfInBounds_toArray, List.set_cons_zero, List.set_cons_succ]
      refine wpAnyH_ready (rs := [12]) (by kernel_rfl) (by simp) ?_
      refine AllReadyH.cons rfl (fun K hK => ?_) AllReadyH.nil
      go_simp
      refine (C12.out _ hHeld.1).mono ?_
      rintro e a3 ⟨u3, rfl, n3, p3⟩
      have hB := hHeld.1.trans (p3.mono hHeld.1.size)
      go_wp2_with fail
      refine hK.out _ _ (K0.out _ hB) (fun hHeld => ?_)
      clear hK K
      try simp only [Act.put, List.setIfInBounds_toArray, List.set_cons_zero, List.set_cons_succ]
      refine wpAnyH_ready (rs := [16]) (by kernel_rfl) (by simp) ?_
      refine AllReadyH.cons rfl (fun K hK => ?_) AllReadyH.nil
      go_simp
      refine (C16.out _ hHeld.1).mono ?_
      rintro e a4 ⟨u4, rfl, n4, p4⟩
      have hB := hHeld.1.trans (p4.mono hHeld.1.size)
      go_wp2_with fail
      refine hK.out _ _ (K0.out _ hB) (fun hHeld => ?_)
      clear hK K
      try simp only [Act.put, List.setIfInBounds_toArray, List.set_cons_zero, List.set_cons_succ]
      refine wpAnyH_ready (rs := [17]) (by kernel_rfl) (by simp) ?_
      refine AllReadyH.cons rfl (fun K hK => ?_) AllReadyH.nil
      refine step_five (some 55) rfl (by rfl) (.tmp 41) (.tmp 45) (.tmp 46) (.tmp 50) (.tmp 54) rfl _ _ _ _ _ _ _ _ _ _ _ _ _ _ _ rfl rfl rfl rfl rfl ?_
      refine hK.out _ _ (K0.out _ (hHeld.1.alloc hHeld.1.size _)) (fun hHeld => ?_)
      clear hK K
      try simp only [Act.put, List.setIfInBounds_toArray, List.set_cons_zero, List.set_cons_succ]
      refine take_in (i := 18) (v := ?_) (some 10) rfl rfl (by kernel_rfl) (by kernel_rfl) (by kernel_rfl) (fun _ _ _ h => h) (Or.inl ⟨by rfl, ?_⟩) (by assumption) ?_
      rotate_left
      · (intro w hSw; (try dsimp only at hSw); (try go_split_ands); go_simp; try with_reducible rfl)
      try simp only [Act.put, List.setIfInBounds_toArray, List.set_cons_zero, List.set_cons_succ]
      refine wpAnyH_done (by kernel_rfl) ?_ _
      go_wp2
      go_meet
      have q : ∀ o : Obj, Below a4.heap.size a4 (a4.alloc o) := fun o => (Below.refl _ _).alloc (Nat.le_refl _) o
      exact ⟨_, _, _, _, _, u1, u2, u3, u4, rfl, ⟨Nat.le_refl _, n1.lt, n2.lt, n3.lt, n4.lt, by simp⟩, ⟨(((n1.below p2).below p3).below p4).below (q _), ((n2.below p3).below p4).below (q _), (n3.below p4).below (q _), n4.below (q _)⟩, ⟨by rw [cell_of_row _ _ _ _ _ _ (heap_alloc_new a4 _)]; rfl, by rw [cell_of_row _ _ _ _ _ _ (heap_alloc_new a4 _)]; rfl, by rw [cell_of_row _ _ _ _ _ _ (heap_alloc_new a4 _)]; rfl, by rw [cell_of_row _ _ _ _ _ _ (heap_alloc_new a4 _)]; rfl, by rw [cell_of_row _ _ _ _ _ _ (heap_alloc_new a4 _)]; rfl⟩, hHeld.1⟩
    case rest =>
      obtain ⟨d0, d1, d3, d4, G, g0, g1, g3, g4, rfl, ⟨o0, o1, o2, o3, o4, o5⟩, ⟨m0, m1, m3, m4⟩, ⟨r0, r1, r2, r3, r4⟩, hb4⟩ := hcut
      rename World => w4
      have X4 := Lib.hid (X3.out.step hb4)
      have O4 := Lib.hid (O3.out.below hb4)
      have HML : Hid (l.length + [c].length ≤ 140737488355328) := by show _ ≤ _; simp; omega
      go_upto_region 6 with fail
      go_cut [11] (fun v w' => ∃ (E0 E1 E3 E4 : Option Addr) (H e0 e1 e3 e4 : Nat), v = .slice (some ⟨H, 0, none⟩) 5 5 ∧ (w4.heap.size ≤ H ∧ H < w'.heap.size) ∧ (Has w4.heap.size H E0 LN w' ∧ Has w4.heap.size H E1 LI w' ∧ Has w4.heap.size H E3 LT w' ∧ Has w4.heap.size H E4 LB w') ∧
        (w'.cell? ⟨H, 0, none⟩ = some (.slice E0 LN.length e0) ∧ w'.cell? ⟨H, 1, none⟩ = some (.slice E1 LI.length e1) ∧ w'.cell? ⟨H, 2, none⟩ = some (.slice E2 LF.length e2) ∧ w'.cell? ⟨H, 3, none⟩ = some (.slice E3 LT.length e3) ∧ w'.cell? ⟨H, 4, none⟩ = some (.slice E4 LB.length e4)) ∧ Below w4.heap.size w4 w')
      case first => as_aux_lemma =>
        have HAw := fun wk (hb : Below w4.heap.size w4 wk) => (HA.out.below X4.out.1).below hb
        have k3 := fun wk (hb : Below w4.heap.size w4 wk) => (refNum_any A l ca n wk HN.out (HAw wk hb) ZA.out (by omega)).mono fun _ _ h => TellsH.of h hb.size
        have k7 := fun wk (hb : Below w4.heap.size w4 wk) => (refInt_any A l ca z wk HZ.out (HAw wk hb) ZA.out (by omega)).mono fun _ _ h => TellsH.of h hb.size
        have k12 := fun wk (hb : Below w4.heap.size w4 wk) => (refText_any A l ca t wk (HAw wk hb) ZA.out (by omega)).mono fun _ _ h => TellsH.of h hb.size
        have k14 := fun wk (hb : Below w4.heap.size w4 wk) => refOwn_any A l ca wk (HAw wk hb) ZA.out (by omega)
        rw [hLN] at k3
        rw [hLI] at k7
        rw [hLT] at k12
        have K0 := Lib.hid (fun wk (hb : Below w4.heap.size w4 wk) => (⟨hb, (X4.out.step hb).2.2.1, (X4.out.step hb).2.2.2.1, (X4.out.step hb).2.2.2.2.2.1, (X4.out.step hb).2.2.2.2.2.2⟩ : Below w4.heap.size w4 wk ∧ wk.cell? ⟨w.heap.size, 0, none⟩ = some (.int .u64 n) ∧ wk.cell? ⟨w.heap.size, 1, none⟩ = some (.int .i64 z) ∧ wk.cell? ⟨w.heap.size, 3, none⟩ = some (.string t) ∧ wk.cell? ⟨w.heap.size, 4, none⟩ = some (.int .u8 (c.toNat : Int))))
        have C3 := Lib.hid k3
        have C7 := Lib.hid k7
        have C12 := Lib.hid k12
        have C14 := Lib.hid k14
        have HLB := Lib.hid hLB
        clear k3 k7 k12 k14 HAw hLN hLI hLT hLB hLF her X3 O3 X4 O4 HB D3 hE2 fE2 fO hlt12 ht ml bLN bLT bLB o0 o1 o2 o3 o4 o5 m0 m1 m3 m4 r0 r1 r2 r3 r4 hb4
        refine wp_region_held_drew (S := (fun wk => Below w4.heap.size w4 wk ∧ wk.cell? ⟨w.heap.size, 0, none⟩ = some (.int .u64 n) ∧ wk.cell? ⟨w.heap.size, 1, none⟩ = some (.int .i64 z) ∧ wk.cell? ⟨w.heap.size, 3, none⟩ = some (.string t) ∧ wk.cell? ⟨w.heap.size, 4, none⟩ = some (.int .u8 (c.toNat : Int)))) (by kernel_rfl) (K0.out _ (Below.refl _ _).drew) (fun hHeld => ?_)
        refine take_in (i := 0) (v := ?_) (some 56) rfl rfl (by kernel_rfl) (by kernel_rfl) (by kernel_rfl) (fun _ _ _ h => h) (Or.inl ⟨by rfl, ?_⟩) (by assumption) ?_
        rotate_left
        · (intro w hSw; (try dsimp only at hSw); (try go_split_ands); go_simp; try with_reducible rfl)
        try simp only [Act.put, List.setIfInBounds_toArray, List.set_cons_zero, List.set_cons_succ]
        refine take_in (i := 1) (v := ?_) (some 57) rfl rfl (by kernel_rfl) (by kernel_rfl) (by kernel_rfl) (fun _ _ _ h => h) (Or.inl ⟨by rfl, ?_⟩) (by assumption) ?_
        rotate_left
        · (intro w hSw; (try dsimp only at hSw); (try go_split_ands); go_simp; try with_reducible rfl)
        try simp only [Act.put, List.setIfInBounds_toArray, List.set_cons_zero, List.set_cons_succ]
        refine take_in (i := 2) (v := ?_) (some 58) rfl rfl (by kernel_rfl) (by kernel_rfl) (by kernel_rfl) (fun _ _ _ h => h) (Or.inl ⟨by rfl, ?_⟩) (by assumption) ?_
        rotate_left
        · (intro w hSw; (try dsimp only at hSw); (try go_split_ands); go_simp; try with_reducible rfl)
        try simp only [Act.put, List.setIfInBounds_toArray, List.set_cons_zero, List.set_cons_succ]
        refine take_in (i := 4) (v := ?_) (some 60) rfl rfl (by kernel_rfl) (by kernel_rfl) (by kernel_rfl) (fun _ _ _ h => h) (Or.inl ⟨by rfl, ?_⟩) (by assumption) ?_
        rotate_left
        · (intro w hSw; (try dsimp only at hSw); (try go_split_ands); go_simp; try with_reducible rfl)
        try simp only [Act.put, List.setIfInBounds_toArray, List.set_cons_zero, List.set_cons_succ]
        refine take_in (i := 5) (v := ?_) (some 61) rfl rfl (by kernel_rfl) (by kernel_rfl) (by kernel_rfl) (fun _ _ _ h => h) (Or.inl ⟨by rfl, ?_⟩) (by assumption) ?_
        rotate_left
        · (intro w hSw; (try dsimp only at hSw); (try go_split_ands); go_simp; try with_reducible rfl)
        try simp only [Act.put, List.setIfInBounds_toArray, List.set_cons_zero, List.set_cons_succ]
        refine take_in (i := 6) (v := ?_) (some 62) rfl rfl (by kernel_rfl) (by kernel_rfl) (by kernel_rfl) (fun _ _ _ h => h) (Or.inl ⟨by rfl, ?_⟩) (by assumption) ?_
        rotate_left
        · (intro w hSw; (try dsimp only at hSw); (try go_split_ands); go_simp; try with_reducible rfl)
        try simp only [Act.put, List.setIfInBounds_toArray, List.set_cons_zero, List.set_cons_succ]
        refine take_in (i := 8) (v := ?_) (some 64) rfl rfl (by kernel_rfl) (by kernel_rfl) (by kernel_rfl) (fun _ _ _ h => h) (Or.inl ⟨by rfl, ?_⟩) (by assumption) ?_
        rotate_left
        · (intro w hSw; (try dsimp only at hSw); (try go_split_ands); go_simp; try with_reducible rfl)
        try simp only [Act.put, List.setIfInBounds_toArray, List.set_cons_zero, List.set_cons_succ]
        refine take_in (i := 9) (v := ?_) (some 65) rfl rfl (by kernel_rfl) (by kernel_rfl) (by kernel_rfl) (fun _ _ _ h => h) (Or.inl ⟨by rfl, ?_⟩) (by assumption) ?_
        rotate_left
        · (intro w hSw; (try dsimp only at hSw); (try go_split_ands); go_simp; try with_reducible rfl)
        try simp only [Act.put, List.setIfInBounds_toArray, List.set_cons_zero, List.set_cons_succ]
        refine take_in (i := 10) (v := ?_) (some 66) rfl rfl (by kernel_rfl) (by kernel_rfl) (by kernel_rfl) (fun _ _ _ h => h) (Or.inl ⟨by rfl, ?_⟩) (by assumption) ?_
        rotate_left
        · (intro w hSw; (try dsimp only at hSw); (try go_split_ands); go_simp; try with_reducible rfl)
        try simp only [Act.put, List.setIfInBounds_toArray, List.set_cons_zero, List.set_cons_succ]
        refine take_in (i := 11) (v := ?_) (some 67) rfl rfl (by kernel_rfl) (by kernel_rfl) (by kernel_rfl) (fun _ _ _ h => h) (Or.inl ⟨by rfl, ?_⟩) (by assumption) ?_
        rotate_left
        · (intro w hSw; (try dsimp only at hSw); (try go_split_ands); go_simp; try with_reducible rfl)
        try simp only [Act.put, List.setIfInBounds_toArray, List.set_cons_zero, List.set_cons_succ]
        refine take_in (i := 13) (v := ?_) (some 69) rfl rfl (by kernel_rfl) (by kernel_rfl) (by kernel_rfl) (fun _ _ _ h => h) (Or.inl ⟨by rfl, ?_⟩) (by assumption) ?_
        rotate_left
        · (intro w hSw; (try dsimp only at hSw); (try go_split_ands); go_simp; try with_reducible rfl)
        try simp only [Act.put, List.setIfInBounds_toArray, List.set_cons_zero, List.set_cons_succ]
        refine take_in (i := 15) (v := ?_) (some 71) rfl rfl (by kernel_rfl) (by kernel_rfl) (by kernel_rfl) (fun _ _ _ h => h) (Or.inl ⟨by rfl, ?_⟩) (by assumption) ?_
        rotate_left
        · (intro w hSw; (try dsimp only at hSw); (try go_split_ands); go_simp; try with_reducible rfl)
        try simp only [Act.put, List.setIfInBounds_toArray, List.set_cons_zero, List.set_cons_succ]
        refine take_in (i := 16) (v := ?_) (some 72) rfl rfl (by kernel_rfl) (by kernel_rfl) (by kernel_rfl) (fun _ _ _ h => h) (Or.inl ⟨by rfl, ?_⟩) (by assumption) ?_
        rotate_left
        · (intro w hSw; (try dsimp only at hSw); (try go_split_ands); go_simp; try with_reducible rfl)
        try simp only [Act.put, List.setIfInBounds_toArray, List.set_cons_zero, List.set_cons_succ]
        refine wpAnyH_ready (rs := [3, 17]) (by kernel_rfl) (by simp) ?_
        refine AllReadyH.cons rfl (fun K hK => ?_) (AllReadyH.cons rfl (fun K hK => ?_) AllReadyH.nil)
        · go_simp
          refine (C3.out _ hHeld.1).mono ?_
          rintro e b3 ⟨E0, e0, rfl, fE0, pb⟩
          have hB := hHeld.1.trans (pb.mono hHeld.1.size)
          go_wp2_with fail
          refine hK.out _ _ (K0.out _ hB) (fun hHeld => ?_)
          clear hK K
          try simp only [Act.put, List.setIfInBounds_toArray, List.set_cons_zero, List.set_cons_succ]
          refine wpAnyH_ready (rs := [7, 17]) (by kernel_rfl) (by simp) ?_
          refine AllReadyH.cons rfl (fun K hK => ?_) (AllReadyH.cons rfl (fun K hK => ?_) AllReadyH.nil)
          · go_simp
            refine (C7.out _ hHeld.1).mono ?_
            rintro e b7 ⟨E1, e1, rfl, fE1, pb⟩
            have hB := hHeld.1.trans (pb.mono hHeld.1.size)
            go_wp2_with fail
            refine hK.out _ _ (K0.out _ hB) (fun hHeld => ?_)
            clear hK K
            try simp only [Act.put, List.setIfInBounds_toArray, List.set_cons_zero, List.set_cons_succ]
            replace fE0 := fE0.step pb
            refine wpAnyH_ready (rs := [12, 17]) (by kernel_rfl) (by simp) ?_
            refine AllReadyH.cons rfl (fun K hK => ?_) (AllReadyH.cons rfl (fun K hK => ?_) AllReadyH.nil)
            · go_simp
              refine (C12.out _ hHeld.1).mono ?_
              rintro e b12 ⟨E3, e3, rfl, fE3, pb⟩
              have hB := hHeld.1.trans (pb.mono hHeld.1.size)
              go_wp2_with fail
              refine hK.out _ _ (K0.out _ hB) (fun hHeld => ?_)
              clear hK K
              try simp only [Act.put, List.setIfInBounds_toArray, List.set_cons_zero, List.set_cons_succ]
              replace fE0 := fE0.step pb
              replace fE1 := fE1.step pb
              refine wpAnyH_ready (rs := [14, 17]) (by kernel_rfl) (by simp) ?_
              refine AllReadyH.cons rfl (fun K hK => ?_) (AllReadyH.cons rfl (fun K hK => ?_) AllReadyH.nil)
              · go_simp
                have hv0 := fE0.ul
                have hv1 := fE1.ul
                have hv3 := fE3.ul
                have hl6 := hHeld.1.size
                refine (C14.out _ hHeld.1).mono ?_
                rintro e b14 ⟨v6, rfl, ho6, pb⟩
                have hB := hHeld.1.trans (pb.mono hHeld.1.size)
                have hs6 := pb.size
                go_wp2_with fail
                refine hK.out _ _ (K0.out _ hB) (fun hHeld => ?_)
                clear hK K
                try simp only [Act.put, List.setIfInBounds_toArray, List.set_cons_zero, List.set_cons_succ]
                replace fE0 := fE0.step pb
                replace fE1 := fE1.step pb
                replace fE3 := fE3.step pb
                refine wpAnyH_ready (rs := [17]) (by kernel_rfl) (by simp) ?_
                refine AllReadyH.cons rfl (fun K hK => ?_) AllReadyH.nil
                go_simp
                refine hK.out _ _ (K0.out _ (hHeld.1.alloc hHeld.1.size _)) (fun hHeld => ?_)
                clear hK K
                try simp only [Act.put, List.setIfInBounds_toArray, List.set_cons_zero, List.set_cons_succ]
                have hq : Below b14.heap.size b14 (b14.alloc (Obj.cells #[Value.int .u8 (c.toNat : Int)] 5)) := (Below.refl _ _).alloc (Nat.le_refl _) _
                replace fE0 := fE0.step hq
                replace fE1 := fE1.step hq
                replace fE3 := fE3.step hq
                replace ho6 := Own1.below ho6 hq
                replace hs6 := Nat.le_trans hs6 (Below.size hq)
                have hS := at_one b14 _ c rfl
                refine wpAnyH_ready (rs := [18]) (by kernel_rfl) (by simp) ?_
                refine AllReadyH.cons rfl (fun K hK => ?_) AllReadyH.nil
                refine step_own (some 74) rfl (by rfl) (.tmp 70) (.tmp 73) rfl b12.heap.size v6 l rfl ho6 _ 1 1 [c] rfl hS (fun h => by cases h) rfl HML.out hs6 ?_
                intro v7 wz ho7 pz
                have hB := hHeld.1.trans (Below.mono pz hl6)
                refine hK.out _ _ (K0.out _ hB) (fun hHeld => ?_)
                clear hK K
                try simp only [Act.put, List.setIfInBounds_toArray, List.set_cons_zero, List.set_cons_succ]
                replace fE0 := fE0.below pz hv0
                replace fE1 := fE1.below pz hv1
                replace fE3 := fE3.below pz hv3
                rw [HLB.out] at ho7
                obtain ⟨E4, e4, rfl, _, _, _⟩ := ho7.at
                have fE4 := ho7.has hl6
                refine wpAnyH_ready (rs := [19]) (by kernel_rfl) (by simp) ?_
                refine AllReadyH.cons rfl (fun K hK => ?_) AllReadyH.nil
                refine step_five (some 75) rfl (by rfl) (.tmp 59) (.tmp 63) (.tmp 64) (.tmp 68) (.tmp 74) rfl _ _ _ _ _ _ _ _ _ _ _ _ _ _ _ rfl rfl rfl rfl rfl ?_
                refine hK.out _ _ (K0.out _ (hHeld.1.alloc hHeld.1.size _)) (fun hHeld => ?_)
                clear hK K
                try simp only [Act.put, List.setIfInBounds_toArray, List.set_cons_zero, List.set_cons_succ]
                refine take_in (i := 20) (v := ?_) (some 11) rfl rfl (by kernel_rfl) (by kernel_rfl) (by kernel_rfl) (fun _ _ _ h => h) (Or.inl ⟨by rfl, ?_⟩) (by assumption) ?_
                rotate_left
                · (intro w hSw; (try dsimp only at hSw); (try go_split_ands); go_simp; try with_reducible rfl)
                try simp only [Act.put, List.setIfInBounds_toArray, List.set_cons_zero, List.set_cons_succ]
                refine wpAnyH_done (by kernel_rfl) ?_ _
                go_wp2
                go_meet
                have q : ∀ o : Obj, Below wz.heap.size wz (wz.alloc o) := fun o => (Below.refl _ _).alloc (Nat.le_refl _) o
                exact ⟨E0, E1, E3, E4, _, e0, e1, e3, e4, rfl, ⟨hB.size, by simp⟩, ⟨(fE0.up fE0.ul (Nat.le_refl _)).step (q _), (fE1.up fE1.ul (Nat.le_refl _)).step (q _), (fE3.up fE3.ul (Nat.le_refl _)).step (q _), fE4.step (q _)⟩, ⟨by rw [cell_of_row _ _ _ _ _ _ (heap_alloc_new wz _)]; rfl, by rw [cell_of_row _ _ _ _ _ _ (heap_alloc_new wz _)]; rfl, by rw [cell_of_row _ _ _ _ _ _ (heap_alloc_new wz _)]; rfl, by rw [cell_of_row _ _ _ _ _ _ (heap_alloc_new wz _)]; rfl, by rw [cell_of_row _ _ _ _ _ _ (heap_alloc_new wz _)]; rfl⟩, hHeld.1⟩
              · go_simp
                refine hK.out _ _ (K0.out _ (hHeld.1.alloc hHeld.1.size _)) (fun hHeld => ?_)
                clear hK K
                try simp only [Act.put, List.setIfInBounds_toArray, List.set_cons_zero, List.set_cons_succ]
                have hq : Below b12.heap.size b12 (b12.alloc (Obj.cells #[Value.int .u8 (c.toNat : Int)] 5)) := (Below.refl _ _).alloc (Nat.le_refl _) _
                replace fE0 := fE0.step hq
                replace fE1 := fE1.step hq
                replace fE3 := fE3.step hq
                have hS := at_one b12 _ c rfl
                refine wpAnyH_ready (rs := [14]) (by kernel_rfl) (by simp) ?_
                refine AllReadyH.cons rfl (fun K hK => ?_) AllReadyH.nil
                go_simp
                have hv0 := fE0.ul
                have hv1 := fE1.ul
                have hv3 := fE3.ul
                have hl6 := hHeld.1.size
                refine (C14.out _ hHeld.1).mono ?_
                rintro e b14 ⟨v6, rfl, ho6, pb⟩
                have hB := hHeld.1.trans (pb.mono hHeld.1.size)
                have hs6 := pb.size
                go_wp2_with fail
                refine hK.out _ _ (K0.out _ hB) (fun hHeld => ?_)
                clear hK K
                try simp only [Act.put, List.setIfInBounds_toArray, List.set_cons_zero, List.set_cons_succ]
                replace fE0 := fE0.step pb
                replace fE1 := fE1.step pb
                replace fE3 := fE3.step pb
                replace hS := At.below hS pb
                refine wpAnyH_ready (rs := [18]) (by kernel_rfl) (by simp) ?_
                refine AllReadyH.cons rfl (fun K hK => ?_) AllReadyH.nil
                refine step_own (some 74) rfl (by rfl) (.tmp 70) (.tmp 73) rfl (b12.alloc (Obj.cells #[Value.int .u8 (c.toNat : Int)] 5)).heap.size v6 l rfl ho6 _ 1 1 [c] rfl hS (fun h => by cases h) rfl HML.out hs6 ?_
                intro v7 wz ho7 pz
                have hB := hHeld.1.trans (Below.mono pz hl6)
                refine hK.out _ _ (K0.out _ hB) (fun hHeld => ?_)
                clear hK K
                try simp only [Act.put, List.setIfInBounds_toArray, List.set_cons_zero, List.set_cons_succ]
                replace fE0 := fE0.below pz hv0
                replace fE1 := fE1.below pz hv1
                replace fE3 := fE3.below pz hv3
                rw [HLB.out] at ho7
                obtain ⟨E4, e4, rfl, _, _, _⟩ := ho7.at
                have fE4 := ho7.has hl6
                refine wpAnyH_ready (rs := [19]) (by kernel_rfl) (by simp) ?_
                refine AllReadyH.cons rfl (fun K hK => ?_) AllReadyH.nil
                refine step_five (some 75) rfl (by rfl) (.tmp 59) (.tmp 63) (.tmp 64) (.tmp 68) (.tmp 74) rfl _ _ _ _ _ _ _ _ _ _ _ _ _ _ _ rfl rfl rfl rfl rfl ?_
                refine hK.out _ _ (K0.out _ (hHeld.1.alloc hHeld.1.size _)) (fun hHeld => ?_)
                clear hK K
                try simp only [Act.put, List.setIfInBounds_toArray, List.set_cons_zero, List.set_cons_succ]
                refine take_in (i := 20) (v := ?_) (some 11) rfl rfl (by kernel_rfl) (by kernel_rfl) (by kernel_rfl) (fun _ _ _ h => h) (Or.inl ⟨by rfl, ?_⟩) (by assumption) ?_
                rotate_left
                · (intro w hSw; (try dsimp only at hSw); (try go_split_ands); go_simp; try with_reducible rfl)
                try simp only [Act.put, List.setIfInBounds_toArray, List.set_cons_zero, List.set_cons_succ]
                refine wpAnyH_done (by kernel_rfl) ?_ _
                go_wp2
                go_meet
                have q : ∀ o : Obj, Below wz.heap.size wz (wz.alloc o) := fun o => (Below.refl _ _).alloc (Nat.le_refl _) o
                exact ⟨E0, E1, E3, E4, _, e0, e1, e3, e4, rfl, ⟨hB.size, by simp⟩, ⟨(fE0.up fE0.ul (Nat.le_refl _)).step (q _), (fE1.up fE1.ul (Nat.le_refl _)).step (q _), (fE3.up fE3.ul (Nat.le_refl _)).step (q _), fE4.step (q _)⟩, ⟨by rw [cell_of_row _ _ _ _ _ _ (heap_alloc_new wz _)]; rfl, by rw [cell_of_row _ _ _ _ _ _ (heap_alloc_new wz _)]; rfl, by rw [cell_of_row _ _ _ _ _ _ (heap_alloc_new wz _)]; rfl, by rw [cell_of_row _ _ _ _ _ _ (heap_alloc_new wz _)]; rfl, by rw [cell_of_row _ _ _ _ _ _ (heap_alloc_new wz _)]; rfl⟩, hHeld.1⟩
            · go_simp
              refine hK.out _ _ (K0.out _ (hHeld.1.alloc hHeld.1.size _)) (fun hHeld => ?_)
              clear hK K
              try simp only [Act.put, List.setIfInBounds_toArray, List.set_cons_zero, List.set_cons_succ]
              have hq : Below b7.heap.size b7 (b7.alloc (Obj.cells #[Value.int .u8 (c.toNat : Int)] 5)) := (Below.refl _ _).alloc (Nat.le_refl _) _
              replace fE0 := fE0.step hq
              replace fE1 := fE1.step hq
              have hS := at_one b7 _ c rfl
              refine wpAnyH_ready (rs := [12]) (by kernel_rfl) (by simp) ?_
              refine AllReadyH.cons rfl (fun K hK => ?_) AllReadyH.nil
              go_simp
              refine (C12.out _ hHeld.1).mono ?_
              rintro e b12 ⟨E3, e3, rfl, fE3, pb⟩
              have hB := hHeld.1.trans (pb.mono hHeld.1.size)
              go_wp2_with fail
              refine hK.out _ _ (K0.out _ hB) (fun hHeld => ?_)
              clear hK K
              try simp only [Act.put, List.setIfInBounds_toArray, List.set_cons_zero, List.set_cons_succ]
              replace fE0 := fE0.step pb
              replace fE1 := fE1.step pb
              replace hS := At.below hS pb
              refine wpAnyH_ready (rs := [14]) (by kernel_rfl) (by simp) ?_
              refine AllReadyH.cons rfl (fun K hK => ?_) AllReadyH.nil
              go_simp
              have hv0 := fE0.ul
              have hv1 := fE1.ul
              have hv3 := fE3.ul
              have hl6 := hHeld.1.size
              refine (C14.out _ hHeld.1).mono ?_
              rintro e b14 ⟨v6, rfl, ho6, pb⟩
              have hB := hHeld.1.trans (pb.mono hHeld.1.size)
              have hs6 := pb.size
              go_wp2_with fail
              refine hK.out _ _ (K0.out _ hB) (fun hHeld => ?_)
              clear hK K
              try simp only [Act.put, List.setIfInBounds_toArray, List.set_cons_zero, List.set_cons_succ]
              replace fE0 := fE0.step pb
              replace fE1 := fE1.step pb
              replace fE3 := fE3.step pb
              replace hS := At.below hS pb
              refine wpAnyH_ready (rs := [18]) (by kernel_rfl) (by simp) ?_
              refine AllReadyH.cons rfl (fun K hK => ?_) AllReadyH.nil
              refine step_own (some 74) rfl (by rfl) (.tmp 70) (.tmp 73) rfl b12.heap.size v6 l rfl ho6 _ 1 1 [c] rfl hS (fun h => by cases h) rfl HML.out hs6 ?_
              intro v7 wz ho7 pz
              have hB := hHeld.1.trans (Below.mono pz hl6)
              refine hK.out _ _ (K0.out _ hB) (fun hHeld => ?_)
              clear hK K
              try simp only [Act.put, List.setIfInBounds_toArray, List.set_cons_zero, List.set_cons_succ]
              replace fE0 := fE0.below pz hv0
              replace fE1 := fE1.below pz hv1
              replace fE3 := fE3.below pz hv3
              rw [HLB.out] at ho7
              obtain ⟨E4, e4, rfl, _, _, _⟩ := ho7.at
              have fE4 := ho7.has hl6
              refine wpAnyH_ready (rs := [19]) (by kernel_rfl) (by simp) ?_
              refine AllReadyH.cons rfl (fun K hK => ?_) AllReadyH.nil
              refine step_five (some 75) rfl (by rfl) (.tmp 59) (.tmp 63) (.tmp 64) (.tmp 68) (.tmp 74) rfl _ _ _ _ _ _ _ _ _ _ _ _ _ _ _ rfl rfl rfl rfl rfl ?_
              refine hK.out _ _ (K0.out _ (hHeld.1.alloc hHeld.1.size _)) (fun hHeld => ?_)
              clear hK K
              try simp only [Act.put, List.setIfInBounds_toArray, List.set_cons_zero, List.set_cons_succ]
              refine take_in (i := 20) (v := ?_) (some 11) rfl rfl (by kernel_rfl) (by kernel_rfl) (by kernel_rfl) (fun _ _ _ h => h) (Or.inl ⟨by rfl, ?_⟩) (by assumption) ?_
              rotate_left
              · (intro w hSw; (try dsimp only at hSw); (try go_split_ands); go_simp; try with_reducible rfl)
              try simp only [Act.put, List.setIfInBounds_toArray, List.set_cons_zero, List.set_cons_succ]
              refine wpAnyH_done (by kernel_rfl) ?_ _
              go_wp2
              go_meet
              have q : ∀ o : Obj, Below wz.heap.size wz (wz.alloc o) := fun o => (Below.refl _ _).alloc (Nat.le_refl _) o
              exact ⟨E0, E1, E3, E4, _, e0, e1, e3, e4, rfl, ⟨hB.size, by simp⟩, ⟨(fE0.up fE0.ul (Nat.le_refl _)).step (q _), (fE1.up fE1.ul (Nat.le_refl _)).step (q _), (fE3.up fE3.ul (Nat.le_refl _)).step (q _), fE4.step (q _)⟩, ⟨by rw [cell_of_row _ _ _ _ _ _ (heap_alloc_new wz _)]; rfl, by rw [cell_of_row _ _ _ _ _ _ (heap_alloc_new wz _)]; rfl, by rw [cell_of_row _ _ _ _ _ _ (heap_alloc_new wz _)]; rfl, by rw [cell_of_row _ _ _ _ _ _ (heap_alloc_new wz _)]; rfl, by rw [cell_of_row _ _ _ _ _ _ (heap_alloc_new wz _)]; rfl⟩, hHeld.1⟩
          · go_simp
            refine hK.out _ _ (K0.out _ (hHeld.1.alloc hHeld.1.size _)) (fun hHeld => ?_)
            clear hK K
            try simp only [Act.put, List.setIfInBounds_toArray, List.set_cons_zero, List.set_cons_succ]
            have hq : Below b3.heap.size b3 (b3.alloc (Obj.cells #[Value.int .u8 (c.toNat : Int)] 5)) := (Below.refl _ _).alloc (Nat.le_refl _) _
            replace fE0 := fE0.step hq
            have hS := at_one b3 _ c rfl
            refine wpAnyH_ready (rs := [7]) (by kernel_rfl) (by simp) ?_
            refine AllReadyH.cons rfl (fun K hK => ?_) AllReadyH.nil
            go_simp
            refine (C7.out _ hHeld.1).mono ?_
            rintro e b7 ⟨E1, e1, rfl, fE1, pb⟩
            have hB := hHeld.1.trans (pb.mono hHeld.1.size)
            go_wp2_with fail
            refine hK.out _ _ (K0.out _ hB) (fun hHeld => ?_)
            clear hK K
            try simp only [Act.put, List.setIfInBounds_toArray, List.set_cons_zero, List.set_cons_succ]
            replace fE0 := fE0.step pb
            replace hS := At.below hS pb
            refine wpAnyH_ready (rs := [12]) (by kernel_rfl) (by simp) ?_
            refine AllReadyH.cons rfl (fun K hK => ?_) AllReadyH.nil
            go_simp
            refine (C12.out _ hHeld.1).mono ?_
            rintro e b12 ⟨E3, e3, rfl, fE3, pb⟩
            have hB := hHeld.1.trans (pb.mono hHeld.1.size)
            go_wp2_with fail
            refine hK.out _ _ (K0.out _ hB) (fun hHeld => ?_)
            clear hK K
            try simp only [Act.put, List.setIfInBounds_toArray, List.set_cons_zero, List.set_cons_succ]
            replace fE0 := fE0.step pb
            replace fE1 := fE1.step pb
            replace hS := At.below hS pb
            refine wpAnyH_ready (rs := [14]) (by kernel_rfl) (by simp) ?_
            refine AllReadyH.cons rfl (fun K hK => ?_) AllReadyH.nil
            go_simp
            have hv0 := fE0.ul
            have hv1 := fE1.ul
            have hv3 := fE3.ul
            have hl6 := hHeld.1.size
            refine (C14.out _ hHeld.1).mono ?_
            rintro e b14 ⟨v6, rfl, ho6, pb⟩
            have hB := hHeld.1.trans (pb.mono hHeld.1.size)
            have hs6 := pb.size
            go_wp2_with fail
            refine hK.out _ _ (K0.out _ hB) (fun hHeld => ?_)
            clear hK K
            try simp only [Act.put, List.setIfInBounds_toArray, List.set_cons_zero, List.set_cons_succ]
            replace fE0 := fE0.step pb
            replace fE1 := fE1.step pb
            replace fE3 := fE3.step pb
            replace hS := At.below hS pb
            refine wpAnyH_ready (rs := [18]) (by kernel_rfl) (by simp) ?_
            refine AllReadyH.cons rfl (fun K hK => ?_) AllReadyH.nil
            refine step_own (some 74) rfl (by rfl) (.tmp 70) (.tmp 73) rfl b12.heap.size v6 l rfl ho6 _ 1 1 [c] rfl hS (fun h => by cases h) rfl HML.out hs6 ?_
            intro v7 wz ho7 pz
            have hB := hHeld.1.trans (Below.mono pz hl6)
            refine hK.out _ _ (K0.out _ hB) (fun hHeld => ?_)
            clear hK K
            try simp only [Act.put, List.setIfInBounds_toArray, List.set_cons_zero, List.set_cons_succ]
            replace fE0 := fE0.below pz hv0
            replace fE1 := fE1.below pz hv1
            replace fE3 := fE3.below pz hv3
            rw [HLB.out] at ho7
            obtain ⟨E4, e4, rfl, _, _, _⟩ := ho7.at
            have fE4 := ho7.has hl6
            refine wpAnyH_ready (rs := [19]) (by kernel_rfl) (by simp) ?_
            refine AllReadyH.cons rfl (fun K hK => ?_) AllReadyH.nil
            refine step_five (some 75) rfl (by rfl) (.tmp 59) (.tmp 63) (.tmp 64) (.tmp 68) (.tmp 74) rfl _ _ _ _ _ _ _ _ _ _ _ _ _ _ _ rfl rfl rfl rfl rfl ?_
            refine hK.out _ _ (K0.out _ (hHeld.1.alloc hHeld.1.size _)) (fun hHeld => ?_)
            clear hK K
            try simp only [Act.put, List.setIfInBounds_toArray, List.set_cons_zero, List.set_cons_succ]
            refine take_in (i := 20) (v := ?_) (some 11) rfl rfl (by kernel_rfl) (by kernel_rfl) (by kernel_rfl) (fun _ _ _ h => h) (Or.inl ⟨by rfl, ?_⟩) (by assumption) ?_
            rotate_left
            · (intro w hSw; (try dsimp only at hSw); (try go_split_ands); go_simp; try with_reducible rfl)
            try simp only [Act.put, List.setIfInBounds_toArray, List.set_cons_zero, List.set_cons_succ]
            refine wpAnyH_done (by kernel_rfl) ?_ _
            go_wp2
            go_meet
            have q : ∀ o : Obj, Below wz.heap.size wz (wz.alloc o) := fun o => (Below.refl _ _).alloc (Nat.le_refl _) o
            exact ⟨E0, E1, E3, E4, _, e0, e1, e3, e4, rfl, ⟨hB.size, by simp⟩, ⟨(fE0.up fE0.ul (Nat.le_refl _)).step (q _), (fE1.up fE1.ul (Nat.le_refl _)).step (q _), (fE3.up fE3.ul (Nat.le_refl _)).step (q _), fE4.step (q _)⟩, ⟨by rw [cell_of_row _ _ _ _ _ _ (heap_alloc_new wz _)]; rfl, by rw [cell_of_row _ _ _ _ _ _ (heap_alloc_new wz _)]; rfl, by rw [cell_of_row _ _ _ _ _ _ (heap_alloc_new wz _)]; rfl, by rw [cell_of_row _ _ _ _ _ _ (heap_alloc_new wz _)]; rfl, by rw [cell_of_row _ _ _ _ _ _ (heap_alloc_new wz _)]; rfl⟩, hHeld.1⟩
        · go_simp
          refine hK.out _ _ (K0.out _ (hHeld.1.alloc hHeld.1.size _)) (fun hHeld => ?_)
          clear hK K
          try simp only [Act.put, List.setIfInBounds_toArray, List.set_cons_zero, List.set_cons_succ]
          have hq : Below w4.drew.heap.size w4.drew (w4.drew.alloc (Obj.cells #[Value.int .u8 (c.toNat : Int)] 5)) := (Below.refl _ _).alloc (Nat.le_refl _) _
          have hS := at_one w4.drew _ c rfl
          refine wpAnyH_ready (rs := [3]) (by kernel_rfl) (by simp) ?_
          refine AllReadyH.cons rfl (fun K hK => ?_) AllReadyH.nil
          go_simp
          refine (C3.out _ hHeld.1).mono ?_
          rintro e b3 ⟨E0, e0, rfl, fE0, pb⟩
          have hB := hHeld.1.trans (pb.mono hHeld.1.size)
          go_wp2_with fail
          refine hK.out _ _ (K0.out _ hB) (fun hHeld => ?_)
          clear hK K
          try simp only [Act.put, List.setIfInBounds_toArray, List.set_cons_zero, List.set_cons_succ]
          replace hS := At.below hS pb
          refine wpAnyH_ready (rs := [7]) (by kernel_rfl) (by simp) ?_
          refine AllReadyH.cons rfl (fun K hK => ?_) AllReadyH.nil
          go_simp
          refine (C7.out _ hHeld.1).mono ?_
          rintro e b7 ⟨E1, e1, rfl, fE1, pb⟩
          have hB := hHeld.1.trans (pb.mono hHeld.1.size)
          go_wp2_with fail
          refine hK.out _ _ (K0.out _ hB) (fun hHeld => ?_)
          clear hK K
          try simp only [Act.put, List.setIfInBounds_toArray, List.set_cons_zero, List.set_cons_succ]
          replace fE0 := fE0.step pb
          replace hS := At.below hS pb
          refine wpAnyH_ready (rs := [12]) (by kernel_rfl) (by simp) ?_
          refine AllReadyH.cons rfl (fun K hK => ?_) AllReadyH.nil
          go_simp
          refine (C12.out _ hHeld.1).mono ?_
          rintro e b12 ⟨E3, e3, rfl, fE3, pb⟩
          have hB := hHeld.1.trans (pb.mono hHeld.1.size)
          go_wp2_with fail
          refine hK.out _ _ (K0.out _ hB) (fun hHeld => ?_)
          clear hK K
          try simp only [Act.put, List.setIfInBounds_toArray, List.set_cons_zero, List.set_cons_succ]
          replace fE0 := fE0.step pb
          replace fE1 := fE1.step pb
          replace hS := At.below hS pb
          refine wpAnyH_ready (rs := [14]) (by kernel_rfl) (by simp) ?_
          refine AllReadyH.cons rfl (fun K hK => ?_) AllReadyH.nil
          go_simp
          have hv0 := fE0.ul
          have hv1 := fE1.ul
          have hv3 := fE3.ul
          have hl6 := hHeld.1.size
          refine (C14.out _ hHeld.1).mono ?_
          rintro e b14 ⟨v6, rfl, ho6, pb⟩
          have hB := hHeld.1.trans (pb.mono hHeld.1.size)
          have hs6 := pb.size
          go_wp2_with fail
          refine hK.out _ _ (K0.out _ hB) (fun hHeld => ?_)
          clear hK K
          try simp only [Act.put, List.setIfInBounds_toArray, List.set_cons_zero, List.set_cons_succ]
          replace fE0 := fE0.step pb
          replace fE1 := fE1.step pb
          replace fE3 := fE3.step pb
          replace hS := At.below hS pb
          refine wpAnyH_ready (rs := [18]) (by kernel_rfl) (by simp) ?_
          refine AllReadyH.cons rfl (fun K hK => ?_) AllReadyH.nil
          refine step_own (some 74) rfl (by rfl) (.tmp 70) (.tmp 73) rfl b12.heap.size v6 l rfl ho6 _ 1 1 [c] rfl hS (fun h => by cases h) rfl HML.out hs6 ?_
          intro v7 wz ho7 pz
          have hB := hHeld.1.trans (Below.mono pz hl6)
          refine hK.out _ _ (K0.out _ hB) (fun hHeld => ?_)
          clear hK K
          try simp only [Act.put, List.setIfInBounds_toArray, List.set_cons_zero, List.set_cons_succ]
          replace fE0 := fE0.below pz hv0
          replace fE1 := fE1.below pz hv1
          replace fE3 := fE3.below pz hv3
          rw [HLB.out] at ho7
          obtain ⟨E4, e4, rfl, _, _, _⟩ := ho7.at
          have fE4 := ho7.has hl6
          refine wpAnyH_ready (rs := [19]) (by kernel_rfl) (by simp) ?_
          refine AllReadyH.cons rfl (fun K hK => ?_) AllReadyH.nil
          refine step_five (some 75) rfl (by rfl) (.tmp 59) (.tmp 63) (.tmp 64) (.tmp 68) (.tmp 74) rfl _ _ _ _ _ _ _ _ _ _ _ _ _ _ _ rfl rfl rfl rfl rfl ?_
          refine hK.out _ _ (K0.out _ (hHeld.1.alloc hHeld.1.size _)) (fun hHeld => ?_)
          clear hK K
          try simp only [Act.put, List.setIfInBounds_toArray, List.set_cons_zero, List.set_cons_succ]
          refine take_in (i := 20) (v := ?_) (some 11) rfl rfl (by kernel_rfl) (by kernel_rfl) (by kernel_rfl) (fun _ _ _ h => h) (Or.inl ⟨by rfl, ?_⟩) (by assumption) ?_
          rotate_left
          · (intro w hSw; (try dsimp only at hSw); (try go_split_ands); go_simp; try with_reducible rfl)
          try simp only [Act.put, List.setIfInBounds_toArray, List.set_cons_zero, List.set_cons_succ]
          refine wpAnyH_done (by kernel_rfl) ?_ _
          go_wp2
          go_meet
          have q : ∀ o : Obj, Below wz.heap.size wz (wz.alloc o) := fun o => (Below.refl _ _).alloc (Nat.le_refl _) o
          exact ⟨E0, E1, E3, E4, _, e0, e1, e3, e4, rfl, ⟨hB.size, by simp⟩, ⟨(fE0.up fE0.ul (Nat.le_refl _)).step (q _), (fE1.up fE1.ul (Nat.le_refl _)).step (q _), (fE3.up fE3.ul (Nat.le_refl _)).step (q _), fE4.step (q _)⟩, ⟨by rw [cell_of_row _ _ _ _ _ _ (heap_alloc_new wz _)]; rfl, by rw [cell_of_row _ _ _ _ _ _ (heap_alloc_new wz _)]; rfl, by rw [cell_of_row _ _ _ _ _ _ (heap_alloc_new wz _)]; rfl, by rw [cell_of_row _ _ _ _ _ _ (heap_alloc_new wz _)]; rfl, by rw [cell_of_row _ _ _ _ _ _ (heap_alloc_new wz _)]; rfl⟩, hHeld.1⟩
      case rest =>
        obtain ⟨E0, E1, E3, E4, H, e0, e1, e3, e4, rfl, ⟨y0, y1⟩, ⟨h0, h1, h3, h4⟩, ⟨z0, z1, z2, z3, z4⟩, hb5⟩ := hcut
        rename World => w5
        have sz4 := hb4.size
        have sz5 := hb5.size
        have X5 := Lib.hid (X4.out.step hb5)
        have O5 := Lib.hid (O4.out.below hb5)
        obtain ⟨d2, q2, q3⟩ : ∃ d2, ((D2 = none ∧ LF = [] ∧ d2 = w5.heap.size) ∨ (D2 = some ⟨d2, 0, none⟩ ∧ Mine w5 d2 LF ∧ d2 < w2.heap.size)) ∧ w1.heap.size ≤ d2 := by
          rcases D3 with ⟨u1, u2⟩ | ⟨u1, u2⟩
          · exact ⟨_, .inl ⟨u1, u2, rfl⟩, by omega⟩
          · refine ⟨_, .inr ⟨u1, (u2.below hb4).below hb5, ?_⟩, Nat.le_refl _⟩
            rcases hlt12 with u3 | u3
            · rw [u3] at u1; cases u1
            · exact u3
        have q4 : d2 < w2.heap.size ∨ d2 = w5.heap.size := by rcases q2 with ⟨_, _, u⟩ | ⟨_, _, u⟩ <;> omega
        have R : Rows5 w5 G H (five (some ⟨d0, 0, none⟩) (some ⟨d1, 0, none⟩) D2 (some ⟨d3, 0, none⟩) (some ⟨d4, 0, none⟩)) (five d0 d1 d2 d3 d4) (five g0 g1 c2 g3 g4) (five E0 E1 E2 E3 E4) (five e0 e1 e2 e3 e4) (five LN LI LF LT LB) := {
          gl := by omega
          hl := y1
          gc := fun k hk => (hb5.cell (p := ⟨G, k, none⟩) (by show G < _; omega)).trans (match k, hk with | 0, _ => r0 | 1, _ => r1 | 2, _ => r2 | 3, _ => r3 | 4, _ => r4)
          hc := fun k hk => match k, hk with | 0, _ => z0 | 1, _ => z1 | 2, _ => z2 | 3, _ => z3 | 4, _ => z4
          dm := fun k hk => match k, hk with
            | 0, _ => .inr ⟨rfl, m0.below hb5⟩
            | 1, _ => .inr ⟨rfl, m1.below hb5⟩
            | 2, _ => q2.imp (fun u => ⟨u.1, u.2.1⟩) (fun u => ⟨u.1, u.2.1⟩)
            | 3, _ => .inr ⟨rfl, m3.below hb5⟩
            | 4, _ => .inr ⟨rfl, m4.below hb5⟩
          ea := fun k hk => match k, hk with | 0, _ => h0.at_ | 1, _ => h1.at_ | 2, _ => (hE2.below hb4).below hb5 | 3, _ => h3.at_ | 4, _ => h4.at_
          ne := fun k hk => match k, hk with
            | 0, _ => fun b off e j hj => by have := h0.fr b off e; rcases five_cases hj with rfl | rfl | rfl | rfl | rfl <;> simp only [five] <;> omega
            | 1, _ => fun b off e j hj => by have := h1.fr b off e; rcases five_cases hj with rfl | rfl | rfl | rfl | rfl <;> simp only [five] <;> omega
            | 2, _ => fun b off e j hj => by have := fE2 b off e; rcases five_cases hj with rfl | rfl | rfl | rfl | rfl <;> simp only [five] <;> omega
            | 3, _ => fun b off e j hj => by have := h3.fr b off e; rcases five_cases hj with rfl | rfl | rfl | rfl | rfl <;> simp only [five] <;> omega
            | 4, _ => fun b off e j hj => by have := h4.fr b off e; rcases five_cases hj with rfl | rfl | rfl | rfl | rfl <;> simp only [five] <;> omega
          gn := fun j hj => by rcases five_cases hj with rfl | rfl | rfl | rfl | rfl <;> simp only [five] <;> omega
          hn := fun j hj => by rcases five_cases hj with rfl | rfl | rfl | rfl | rfl <;> simp only [five] <;> omega
          dd := fun j k hj hk hjk => by
            rcases five_cases hj with rfl | rfl | rfl | rfl | rfl <;> rcases five_cases hk with rfl | rfl | rfl | rfl | rfl <;> simp only [five] <;> first | exact absurd rfl hjk | omega
          ll := fun k hk => match k, hk with | 0, _ => bLN | 1, _ => bLI | 2, _ => bLF | 3, _ => bLT | 4, _ => bLB }
        have low : ∀ j, j < 5 → w1.heap.size ≤ five d0 d1 d2 d3 d4 j := fun j hj => by rcases five_cases hj with rfl | rfl | rfl | rfl | rfl <;> simp only [five] <;> omega
        have B5 := Lib.hid X5.out.1
        have hb1low := fO
        have A5 := Lib.hid (HA.out.below B5.out)
        have sw1 : w.heap.size < w1.heap.size := hsz01
        have fA : ∀ b off, A = some ⟨b, off, none⟩ → 0 < l.length → b < w.heap.size := fun b off e h0 => by
          obtain ⟨b', off', e', hl', _⟩ := HA.out h0
          rw [e] at e'
          injection e' with e'
          injection e' with e1 _
          omega
        generalize five (some ⟨d0, 0, none⟩) (some ⟨d1, 0, none⟩) D2 (some ⟨d3, 0, none⟩) (some ⟨d4, 0, none⟩) = Ds at R
        generalize five d0 d1 d2 d3 d4 = ds at R low
        generalize five g0 g1 c2 g3 g4 = cs at R
        generalize five E0 E1 E2 E3 E4 = Es at R
        generalize five e0 e1 e2 e3 e4 = es at R
        generalize five LN LI LF LT LB = Ls at R
        have RR := Lib.hid R
        have LOW := Lib.hid low
        have FO := Lib.hid fO
        have FA := Lib.hid fA
        clear R low fO fA hb1low q2 q3 q4 D3 hlt12 hE2 fE2 h0 h1 h3 h4 z0 z1 z2 z3 z4 y0 y1 r0 r1 r2 r3 r4 m0 m1 m3 m4 o0 o1 o2 o3 o4 o5 hb4 hb5 X3 X4 O3 O4 HB hLN hLI hLT hLB hLF bLN bLI bLF bLT bLB ht her
        go_wp2_with fail
        go_loopw [78] (fun v wr => ∃ i : Nat, i ≤ 5 ∧ v = .int .i64 i ∧ Fl w5 wr (Upto ds i)) (fun v _ => 5 - (intOf v).toNat)
        case atStart => exact ⟨0, Nat.zero_le _, rfl, Fl.refl _ _⟩
        case round =>
          obtain ⟨i, hi, rfl, hfl⟩ := hrel
          by_cases hlt : i < 5
          · have HFL := Lib.hid hfl
            have pg := RR.out.g hfl hi hlt
            have ph := RR.out.h hfl hi hlt
            have PE := Lib.hid (RR.out.e hfl hi hlt)
            have PD := Lib.hid (RR.out.dat hfl hlt)
            have i1 : (i : Int) < 5 := by omega
            have i2 : (0 : Int) ≤ (i : Int) := by omega
            have hT : Turning w5 wr ds i (Ls i).length (Ds i) := ⟨hfl.weaken (fun b ⟨j, hj, e⟩ => ⟨j, by omega, e⟩), (RR.out.d hfl hlt).imp (fun h => ⟨h.1, by rw [h.2]; rfl⟩) fun h => ⟨h.1, _, rfl, h.2⟩⟩
            have HT := Lib.hid hT
            have hll : ((Ls i).length : Int) ≤ 140737488355328 := by have := RR.out.ll i hlt; omega
            clear hfl hT
            have CE := Lib.hid (EqualL (Ds i) (Es i) (Ls i) (Ls i) (Ls i).length (Ls i).length (cs i) (es i) wr.drew (PD.out.below (Below.refl _ _).drew) (PE.out.below (Below.refl _ _).drew) rfl rfl)
            rw [show (Ls i == Ls i) = true from beq_self_eq_true _] at CE
            clear PD PE
            go_upto_region 10 with fail
            refine wp_region_held_drew (S := (fun wk => wk.cell? ⟨G, i, none⟩ = some (.slice (Ds i) (Ls i).length (cs i)) ∧ wk.cell? ⟨H, i, none⟩ = some (.slice (Es i) (Ls i).length (es i)))) (by kernel_rfl) (⟨pg, ph⟩) (fun hHeld => ?_)
            refine take_in (i := 0) (v := ?_) (some 81) rfl rfl (by kernel_rfl) (by kernel_rfl) (by kernel_rfl) (fun _ _ _ h => h) (Or.inl ⟨by rfl, ?_⟩) (by assumption) ?_
            rotate_left
            · (intro w hSw; (try dsimp only at hSw); (try go_split_ands); go_simp; try with_reducible rfl)
            try simp only [Act.put, List.setIfInBounds_toArray, List.set_cons_zero, List.set_cons_succ]
            refine take_in (i := 1) (v := ?_) (some 82) rfl rfl (by kernel_rfl) (by kernel_rfl) (by kernel_rfl) (fun _ _ _ h => h) (Or.inl ⟨by rfl, ?_⟩) (by assumption) ?_
            rotate_left
            · (intro w hSw; (try dsimp only at hSw); (try go_split_ands); go_simp; try with_reducible rfl)
            try simp only [Act.put, List.setIfInBounds_toArray, List.set_cons_zero, List.set_cons_succ]
            refine take_in (i := 2) (v := ?_) (some 83) rfl rfl (by kernel_rfl) (by kernel_rfl) (by kernel_rfl) (fun _ _ _ h => h) (Or.inl ⟨by rfl, ?_⟩) (by assumption) ?_
            rotate_left
            · (intro w hSw; (try dsimp only at hSw); (try go_split_ands); go_simp; try with_reducible rfl)
            try simp only [Act.put, List.setIfInBounds_toArray, List.set_cons_zero, List.set_cons_succ]
            refine take_in (i := 3) (v := ?_) (some 84) rfl rfl (by kernel_rfl) (by kernel_rfl) (by kernel_rfl) (fun _ _ _ h => h) (Or.inl ⟨by rfl, ?_⟩) (by assumption) ?_
            rotate_left
            · (intro w hSw; (try dsimp only at hSw); (try go_split_ands); go_simp; try with_reducible rfl)
            try simp only [Act.put, List.setIfInBounds_toArray, List.set_cons_zero, List.set_cons_succ]
            refine take_in (i := 4) (v := ?_) (some 85) rfl rfl (by kernel_rfl) (by kernel_rfl) (by kernel_rfl) (fun _ _ _ h => h) (Or.inl ⟨by rfl, ?_⟩) (by assumption) ?_
            rotate_left
            · (intro w hSw; (try dsimp only at hSw); (try go_split_ands); go_simp; try with_reducible rfl)
            try simp only [Act.put, List.setIfInBounds_toArray, List.set_cons_zero, List.set_cons_succ]
            refine take_in (i := 5) (v := ?_) (some 86) rfl rfl (by kernel_rfl) (by kernel_rfl) (by kernel_rfl) (fun _ _ _ h => h) (Or.inl ⟨by rfl, ?_⟩) (by assumption) ?_
            rotate_left
            · (intro w hSw; (try dsimp only at hSw); (try go_split_ands); go_simp; try with_reducible rfl)
            try simp only [Act.put, List.setIfInBounds_toArray, List.set_cons_zero, List.set_cons_succ]
            refine take_in (i := 6) (v := ?_) (some 87) rfl rfl (by kernel_rfl) (by kernel_rfl) (by kernel_rfl) (fun _ _ _ h => h) (Or.inl ⟨by rfl, ?_⟩) (by assumption) ?_
            rotate_left
            · (intro w hSw; (try dsimp only at hSw); (try go_split_ands); go_simp; try with_reducible rfl)
            try simp only [Act.put, List.setIfInBounds_toArray, List.set_cons_zero, List.set_cons_succ]
            refine take_in (i := 7) (v := ?_) (some 88) rfl rfl (by kernel_rfl) (by kernel_rfl) (by kernel_rfl) (fun _ _ _ h => h) (Or.inl ⟨by rfl, ?_⟩) (by assumption) ?_
            rotate_left
            · (intro w hSw; (try dsimp only at hSw); (try go_split_ands); go_simp; try with_reducible rfl)
            try simp only [Act.put, List.setIfInBounds_toArray, List.set_cons_zero, List.set_cons_succ]
            refine wpAnyH_ready (rs := [8]) (by kernel_rfl) (by simp) ?_
            refine AllReadyH.cons rfl (fun K hK => ?_) AllReadyH.nil
            go_simp
            refine (CE.out).mono ?_
            rintro e w6 ⟨rfl, rfl⟩
            go_wp2_with fail
            refine hK.out _ _ (⟨pg, ph⟩) (fun hHeld => ?_)
            clear hK K
            try simp only [Act.put, List.setIfInBounds_toArray, List.set_cons_zero, List.set_cons_succ]
            refine take_in (i := 9) (v := ?_) (some 90) rfl rfl (by kernel_rfl) (by kernel_rfl) (by kernel_rfl) (fun _ _ _ h => h) (Or.inl ⟨by rfl, ?_⟩) (by assumption) ?_
            rotate_left
            · (intro w hSw; (try dsimp only at hSw); (try go_split_ands); go_simp; try with_reducible rfl)
            try simp only [Act.put, List.setIfInBounds_toArray, List.set_cons_zero, List.set_cons_succ]
            refine wpAnyH_done (by kernel_rfl) ?_ _
            go_wp2_with fail
            go_loopw [96] (fun v wr2 => ∃ j : Nat, j ≤ (Ls i).length ∧ v = .int .i64 j ∧ Turning w5 wr2 ds i (Ls i).length (Ds i)) (fun v _ => (Ls i).length - (intOf v).toNat)
            case atStart => exact ⟨0, Nat.zero_le _, rfl, HT.out.drew⟩
            case round =>
              obtain ⟨j, hj, rfl, hTu⟩ := hrel
              by_cases hlt2 : j < (Ls i).length
              · obtain ⟨eD, x, p1, p2⟩ := hTu.cell hlt2
                have p3 := RR.out.g hTu.1 (by omega) hlt
                rw [eD] at p3
                have HV := Lib.hid (flip_val x)
                have HS := Lib.hid (hTu.set eD j (x ^^^ 255))
                unfold bv at HS
                have j1 : (j : Int) < ((Ls i).length : Int) := by omega
                have j2 : (0 : Int) ≤ (j : Int) := by omega
                clear hTu pg ph
                go_wp2
                rw [HV.out]
                exact ⟨⟨j + 1, by omega, by go_num, HS.out⟩, by simp [intOf]; omega⟩
              · obtain rfl : j = (Ls i).length := by omega
                go_wp2
                exact ⟨⟨i + 1, by omega, by go_num, hTu.1⟩, by simp [intOf]; omega⟩
          · obtain rfl : i = 5 := by omega
            have O6 := Lib.hid (hfl.at_ O5.out (fun b off e ⟨j, hj, hbj⟩ => by have := FO.out b off e; have := LOW.out j hj; omega))
            have A6 : Hid (At wr A l) := Lib.hid fun h0 => hfl.at_ A5.out (fun b off e ⟨j, hj, hbj⟩ => by have := FA.out b off e h0; have := LOW.out j hj; omega) h0
            have B6 := Lib.hid (hfl.below (fun k ⟨j, hj, e⟩ => by have := LOW.out j hj; omega) B5.out (Nat.le_refl _))
            clear hfl
            go_wp2_with fail
            refine (awake_any wr).mono ?_
            rintro e w7 ⟨rfl, hb7⟩
            have B7 := Lib.hid (B6.out.trans (hb7.mono B6.out.size))
            have O7 := Lib.hid (O6.out.below hb7)
            have A7 := Lib.hid (A6.out.below hb7)
            clear hb7
            go_wp2_with fail
            refine (EqualL O A l l l.length l.length cO ca w7 O7.out A7.out rfl rfl).mono ?_
            rintro e w8 ⟨rfl, rfl⟩
            go_wp2
            go_ret
            exact ⟨by simp, B7.out⟩
end Go.Proofs.Ythkmljegjgahgaa
