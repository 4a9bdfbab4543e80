/- PutBatch. -/
import Derived.Test.YtchklaepilcbbaaGreatmJ2
namespace Go.Proofs.YtchklaepilcbbaaGreat
open Go.RowKit
theorem wpList_appG {ops : Array Oper} {rest : List Oper} {o : Oper} {a : Act} {Q : Exit → Act → World → Prop} {w0 w : World} (hg : o.guard = none) (s x : Operand) (ho : o.op = .call { callee := .builtin .append, args := #[s, x], argTypes := #[25, 25] })
    (v : Value) (l : List UInt8) (hs : a.eval s = v) (h : St w0 w v l) (u : Value) (news : List UInt8) (hx : a.eval x = u) (hu : GS w u news) (hm : l.length + news.length ≤ 140737488355328)
    (hK : ∀ v' w', St w0 w' v' (l ++ news) → wpList Tryz.prog ops Q rest (a.put o.dst v') w') : wpList Tryz.prog ops Q (o :: rest) a w := by
  obtain ⟨A, c, rfl, hA, hz⟩ := hu
  refine wpList_plain hg fun K' hK' => ?_
  obtain ⟨v', w', h1, h2, h3, _⟩ := run_app w0.heap.size w v l A c news o.type h.own hA hz hm h.bel.size
  unfold Oper.wp execOp
  simp only [ho, resolve, invoke, builtin, Sem.run_bind, Sem.run_pure, Result.andThen_ok, List.map_toArray, List.map_cons, List.map_nil, hs, hx, h1]
  exact hK' _ _ (hK v' w' ⟨h2, below_app h.own h.bel h.bel.size h3⟩)
theorem op_enc_len {o : OP} (h : o.may) (hw : o.wide) : o.enc.length ≤ 200 := by
  obtain ⟨_, w2, w3, w4, w5, w6, w7, w8, w9⟩ := hw
  have n1 := encNum_length o.id (by omega)
  have n2 := encNum_length o.pf (by omega)
  have n3 := encNum_length o.pt (by omega)
  have n4 := encNum_length o.fr (by omega)
  have n5 := encNum_length o.til (by omega)
  have hm : o.mid.length ≤ 150 := by
    have hk := h.2.2.2
    unfold OP.mid
    unfold OP.kindP at hk
    rcases hk with ⟨e, _, l, _⟩ | ⟨e, _, l, _⟩ | ⟨e | e, _⟩ | ⟨e, _, _, _, l, m, _⟩
    · have := str_len o.label
      have := labelB_size l
      unfold encStr at *
      simp [e]; omega
    · have := str_len o.label
      have := labelB_size l
      unfold encStr at *
      simp [e]; omega
    · simp [e]
    · simp [e]
    · have := str_len o.key
      have := (wordB_size l).1
      have := enc_len m w7
      unfold encStr at *
      simp [e]; omega
  unfold OP.enc
  simp
  omega
theorem encOps_len : ∀ {l : List OP}, (∀ o ∈ l, o.may ∧ o.wide) → (encOps l).length ≤ 200 * l.length
  | [], _ => by simp [encOps]
  | x :: l, h => by
    rw [encOps_cons, List.length_append, List.length_cons]
    have := op_enc_len (h x (by simp)).1 (h x (by simp)).2
    have := encOps_len (l := l) fun o ho => h o (by simp [ho])
    omega
theorem St.eq' {w0 w : World} {v : Value} {l m : List UInt8} (h : St w0 w v l) (e : l = m) : St w0 w v m := e ▸ h
section
set_option maxRecDepth 100000
set_option maxHeartbeats 4000000
theorem batchBytes_any (x : BP) (s : Value) (w : World) (hs : SO w s x.ops) (hm : x.may) (hw : x.wide) :
    Calls Tryz.prog 76 #[bval x s] w fun e w' => ∃ u, e = .returned u ∧ St w w' u x.enc := by
  obtain ⟨A, c, rfl, hA, hl⟩ := hs
  obtain ⟨num, st, ops⟩ := x
  obtain ⟨m1, m2, m3, m4, m5, m6⟩ := hm
  obtain ⟨_, _, hw⟩ := hw
  simp only at hA hl m1 m2 m3 m4 m5 m6 hw
  have HO := Lib.hid (fun o (h : o ∈ ops) => And.intro (m6 o h) (hw o h))
  have l1 := encNum_length num (by omega)
  have l2 := encNum_length st (by omega)
  have l3 := encNum_length ops.length (by omega)
  have HN : Hid (num < 2 ^ 64 ∧ st < 2 ^ 64 ∧ ops.length < 2 ^ 64) := Lib.hid ⟨by omega, by omega, by omega⟩
  have hcv : IntKind.u64.wrap (ops.length : Int) = (ops.length : Int) := by rw [IntKind.wrap_u64]; omega
  have HL : Hid (∀ k, (encOps (ops.take k)).length ≤ 51200) := Lib.hid fun k => by
    have := encOps_len (l := ops.take k) fun o ho => HO.out o (List.mem_of_mem_take ho)
    have : (ops.take k).length ≤ 256 := by rw [List.length_take]; omega
    omega
  have LL := Lib.hid (And.intro l1 (And.intro l2 l3))
  have HA := Lib.hid hA
  clear m1 m2 m3 m4 m6 hw hA l1 l2 l3
  go_enter Tryz.func76, Tryz.ntmps76
  go_upto_region 1 with fail
  have X0 := Lib.hid (Bx.new w #[.int .u64 (num : Int), .int .u64 (st : Int), .slice A ops.length c] 56)
  have HB0 := Lib.hid ((Below.refl w.heap.size w).alloc (Nat.le_refl _) (.cells #[.int .u64 (num : Int), .int .u64 (st : Int), .slice A ops.length c] 56))
  obtain ⟨W, hW⟩ : ∃ W, w.alloc (.cells #[.int .u64 (num : Int), .int .u64 (st : Int), .slice A ops.length c] 56) = W := ⟨_, rfl⟩
  rw [hW] at X0 HB0 ⊢
  clear hW
  have K0 := Lib.hid (fun (w' : World) (hb : Below W.heap.size W w') => (X0.out.below hb).c)
  go_region_held3 (fun w' => ∀ j, w'.cell? ⟨w.heap.size, j, none⟩ = (#[.int .u64 (num : Int), .int .u64 (st : Int), .slice A ops.length c] : Array Value)[j]?) (first
      | exact K0.out _ (Below.refl _ _).drew
      | exact K0.out _ S1.out.bel
      | exact K0.out _ S2.out.bel
      | fail) (first
    | (go_at_call 86; (with_reducible refine (NumS (w0 := W) num (Below.refl _ _).drew HN.out.1 (GS.nil _) (by simp)).mono ?_); rintro e1 w1 ⟨v1, rfl, h1⟩; have S1 := Lib.hid h1; clear h1)
    | (go_at_call 86; (with_reducible refine (NumS (w0 := W) st S1.out.bel HN.out.2.1 (S1.out.gs) (by have := LL.out.1; simp; omega)).mono ?_); rintro e2 w2 ⟨v2, rfl, h2⟩; have S2 := Lib.hid h2; clear h2)
    | fail)
  have q2 := K0.out _ S2.out.bel
  go_upto_region 3 with (go_at_call 86; (with_reducible refine (NumS (w0 := W) ops.length S2.out.bel HN.out.2.2 (S2.out.gs) (by have := LL.out; simp; omega)).mono ?_); rintro e3 w3 ⟨v3, rfl, h3⟩; have S3 := Lib.hid h3; clear h3)
  have q3 := K0.out _ S3.out.bel
  have S3e := Lib.hid (S3.out.eq' (m := (encNum num ++ (encNum st ++ encNum ops.length)) ++ encOps (ops.take 0)) (by simp [encOps]))
  clear q2 S3 S2 S1
  go_wp2
  go_loopw [3, 21] (fun v i wr => ∃ k : Nat, k ≤ ops.length ∧ i = .int .i64 k ∧ St W wr v ((encNum num ++ (encNum st ++ encNum ops.length)) ++ encOps (ops.take k))) (fun _ i _ => ops.length - (intOf i).toNat)
  case atStart => exact ⟨0, Nat.zero_le _, rfl, S3e.out⟩
  case round =>
    obtain ⟨k, hk, rfl, hS⟩ := hrel
    have HS := Lib.hid hS
    clear hS q3 S3e
    by_cases hlt : k < ops.length
    · obtain ⟨g, off, rfl, lg, cg⟩ := ((HA.out.below HB0.out).below HS.out.bel) (by omega)
      have r := cg k hlt
      obtain ⟨mo, wo⟩ := HO.out ops[k] (List.getElem_mem hlt)
      have HE : Hid (encOps (ops.take (k + 1)) = encOps (ops.take k) ++ OP.enc ops[k]) := Lib.hid (by rw [List.take_succ_eq_append_getElem hlt, encOps_append, encOps_cons, encOps_nil, List.append_nil])
      have CO := Lib.hid (fun W => opBytes_any ops[k] mo wo W)
      have L5 := Lib.hid (op_enc_len mo wo)
      have i0 : (k : Int) < (ops.length : Int) := by omega
      have i1 : (0 : Int) ≤ (k : Int) := by omega
      have i2 : IntKind.i64.wrap ((k : Int) + 1) = (k : Int) + 1 := by rw [IntKind.wrap_i64]; omega
      generalize ops[k] = o at *
      clear mo wo cg HA HO hcv
      obtain ⟨kind, edge, id, label, fr, til, key, ⟨kk, b, n, f, s⟩, pf, pt⟩ := o
      have hsf := store_float
      go_upto_region 6 with (refine wpList_load_mid rfl 43 (.tmp 23) rfl g (off + k * 14) rfl _ _ r Tryz.underlying43 rfl rowOp ?_)
      have S5 := Lib.hid (HS.out.next ((Below.refl wr.heap.size wr).alloc (Nat.le_refl _) (.cells (OP.cells ⟨kind, edge, id, label, fr, til, key, ⟨kk, b, n, f, s⟩, pf, pt⟩) 43)))
      clear r
      go_wp2_with (first
        | (go_at_call 57; (with_reducible refine (CO.out _).mono ?_); rintro e w5 ⟨u, rfl, h5⟩; have S6 := Lib.hid h5; have S7 := Lib.hid (S5.out.next h5.bel); clear h5)
        | (at_builtin; refine wpList_appG rfl (.tmp 25) (.tmp 27) rfl _ _ rfl S7.out _ _ rfl S6.out.gs (by have := LL.out; have := HL.out k; have := L5.out; simp; omega) ?_; intro v6 w6 h6; have S8 := Lib.hid h6; clear h6))
      exact ⟨⟨k + 1, by omega, by go_num, S8.out.eq' (by rw [HE.out]; simp)⟩, by simp [intOf]; omega⟩
    · have HE : Hid (ops.take k = ops) := Lib.hid (List.take_of_length_le (by omega))
      go_wp2
      go_ret
      exact ⟨_, rfl, St.of HB0.out (HS.out.eq' (by rw [HE.out]; simp [BP.enc]))⟩
theorem putBatch_any (x : BP) (s : Value) (w : World) (hs : SO w s x.ops) (hw : x.wide) :
    Calls Tryz.prog 75 #[bval x s, .func (.func 32) #[] #[], .func (.func 76) #[] #[]] w (Puts x.may x.enc w) := by
  have C1 := Lib.hid (fun W (hb : Below w.heap.size w W) => MayBatch_any x s W (hs.below hb) hw.2.2)
  have C2 := Lib.hid (fun (h : x.may) W (hb : Below w.heap.size w W) => batchBytes_any x s W (hs.below hb) h hw)
  obtain ⟨A, c, rfl, hA, hl⟩ := hs
  generalize x.may = MM at *
  generalize x.enc = EE at *
  obtain ⟨num, st, ops⟩ := x
  simp only at hA hl C1 C2
  clear hw hA
  have HB0 := Lib.hid ((Below.refl w.heap.size w).alloc (Nat.le_refl _) (.cells #[.int .u64 (num : Int), .int .u64 (st : Int), .slice A ops.length c] 56))
  have X0 := Lib.hid (Bx.new w #[.int .u64 (num : Int), .int .u64 (st : Int), .slice A ops.length c] 56)
  go_enter Tryz.func75, Tryz.ntmps75
  go_upto_if 11 with (go_at_call 32; (with_reducible refine (C1.out _ HB0.out).mono ?_); rintro e w1 ⟨c1, rfl, hc, hb⟩; have HC := Lib.hid hc; have B1 := Lib.hid hb; have q1 := (X0.out.below hb).c; clear hc hb)
  cases c1
  · go_wp2
    go_ret2
    exact .inr ⟨fun h => (by have := HC.out.2 h; cases this), rfl, al1 B1.out⟩
  · have hm := HC.out.1 rfl
    have HM := Lib.hid hm
    clear hm
    go_wp2_with (go_at_call 76; (with_reducible refine (C2.out HM.out _ (al1 B1.out)).mono ?_); rintro e w2 ⟨v2, rfl, h1⟩; have S2 := Lib.hid h1; clear h1)
    go_ret2
    exact .inl ⟨HM.out, _, rfl, St.of (al1 B1.out) S2.out⟩
theorem PutBatch_any (x : BP) (s : Value) (w : World) (hs : SO w s x.ops) (hw : x.wide) : Calls Tryz.prog 29 #[bval x s] w (Puts x.may x.enc w) := by
  have C1 := Lib.hid (fun W (hb : Below w.heap.size w W) => putBatch_any x s W (hs.below hb) hw)
  obtain ⟨A, c, rfl, hA, hl⟩ := hs
  generalize x.may = MM at *
  generalize x.enc = EE at *
  obtain ⟨num, st, ops⟩ := x
  simp only at hA hl C1
  clear hw hA
  have HB0 := Lib.hid ((Below.refl w.heap.size w).alloc (Nat.le_refl _) (.cells #[.int .u64 (num : Int), .int .u64 (st : Int), .slice A ops.length c] 56))
  go_enter Tryz.func29, Tryz.ntmps29
  go_wp2_with (go_at_call 75; (with_reducible refine (C1.out _ HB0.out).mono ?_); rintro e w1 h1; rcases h1 with ⟨hp, u, rfl, hs⟩ | ⟨hp, rfl, hb⟩)
  · go_ret2
    exact mono_alloc (.inl ⟨hp, _, rfl, hs⟩)
  · go_ret2
    exact mono_alloc (.inr ⟨hp, rfl, hb⟩)
end
end Go.Proofs.YtchklaepilcbbaaGreat
