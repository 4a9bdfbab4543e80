/- CodecRow's walk. -/
import Derived.Test.YtchklaepilcbbaaGreatmL1
import Derived.Deep.CutBlock
import Derived.Deep.RegionLaw
namespace Go.Proofs.YtchklaepilcbbaaGreat
open Go.RowKit
/-- What was laid is read. -/
theorem tookO_same {x y : OP} {E : Nat} (mx : x.may) (wx : x.wide) (h : Took OP.enc (fun o => o.may ∧ o.wide) x.enc OP.zero E y) : E = 0 ∧ y = x := by
  rcases h with ⟨rfl, hp, hl⟩ | ⟨_, _, hn⟩
  · exact ⟨rfl, (pc_op (p := []) (q := []) mx hp.1 wx hp.2 (by rw [hl])).1.symm⟩
  · exact absurd rfl (hn x ⟨mx, wx⟩)
theorem tookV_same {x y : VP} {E : Nat} (mx : x.may) (wx : x.wide) (h : Took VP.enc (fun v => v.may ∧ v.wide) x.enc VP.zero E y) : E = 0 ∧ y = x := by
  rcases h with ⟨rfl, hp, hl⟩ | ⟨_, _, hn⟩
  · exact ⟨rfl, (pc_value (p := []) (q := []) mx hp.1 wx hp.2 (by rw [hl])).1.symm⟩
  · exact absurd rfl (hn x ⟨mx, wx⟩)
/-- A slice of bytes and a slice of operations lie apart. -/
theorem own_apart {base base' : Nat} {w : World} {v u : Value} {l : List UInt8} {m : List OP} (h : Own1 base w v l) (g : OwnO base' w u m) : v.ownBlock = none ∨ v.ownBlock ≠ u.ownBlock := by
  rcases h.2 with ⟨rfl, _⟩ | ⟨q, cap, cur, rfl, _, hq, _⟩
  · exact .inl rfl
  · refine .inr fun e => ?_
    rcases g.2 with ⟨rfl, _⟩ | ⟨q', cap', cur', rfl, _, hq', _⟩
    · simp [Value.ownBlock] at e
    · simp [Value.ownBlock] at e
      subst e
      rw [hq] at hq'
      simp at hq'
theorem own_apart' {base base' : Nat} {w : World} {v u : Value} {l : List UInt8} {m : List OP} (h : Own1 base w v l) (g : OwnO base' w u m) : u.ownBlock = none ∨ u.ownBlock ≠ v.ownBlock := by
  rcases g.2 with ⟨rfl, _⟩ | ⟨q, cap, cur, rfl, _, hq, _⟩
  · exact .inl rfl
  · refine .inr fun e => ?_
    rcases h.2 with ⟨rfl, _⟩ | ⟨q', cap', cur', rfl, _, hq', _⟩
    · simp [Value.ownBlock] at e
    · simp [Value.ownBlock] at e
      subst e
      rw [hq] at hq'
      simp at hq'
/-- How far the rows have come: the forms and the operations of what may be. -/
structure RowI (W w : World) (vA vO : Value) (os : List OP) : Prop where
  own : Own1 W.heap.size w vA (encOps os)
  ops : OwnO W.heap.size w vO os
  bel : Below W.heap.size W w
  all : ∀ o ∈ os, o.may ∧ o.wide
theorem RowI.step {W w w' : World} {vA vO : Value} {os : List OP} (h : RowI W w vA vO os) (hb : Below w.heap.size w w') : RowI W w' vA vO os := ⟨h.own.below hb, h.ops.below hb, h.bel.trans (hb.mono h.bel.size), h.all⟩
/-- The two appends, one behind the other. -/
theorem RowI.both {W w w1 w3 : World} {vA vO vA' vO' : Value} {os : List OP} {o : OP} (h : RowI W w vA vO os) (ob : Obj) (mo : o.may) (wo : o.wide)
    (h1 : Own1 W.heap.size w1 vA' (encOps os ++ o.enc)) (g1 : w.grownBy w1 vA.ownBlock) (h3 : OwnO W.heap.size w3 vO' (os ++ [o])) (g3 : (w1.alloc ob).grownBy w3 vO.ownBlock) : RowI W w3 vA' vO' (os ++ [o]) := by
  have b1 : Below W.heap.size W w1 := h.bel.grown g1 h.bel.size fun k e => (World.ownsRow.lt h.own k e).1
  have o1 : OwnO W.heap.size (w1.alloc ob) vO os := World.ownsRow.alloc (World.ownsRow.kept h.ops g1 (own_apart' h.own h.ops)) ob
  have a1 : Own1 W.heap.size (w1.alloc ob) vA' (encOps os ++ o.enc) := World.ownsRow.alloc h1 ob
  refine ⟨?_, h3, (b1.alloc b1.size ob).grown g3 (Nat.le_trans b1.size (by simp)) fun k e => (World.ownsRow.lt o1 k e).1, fun y hy => ?_⟩
  · have := World.ownsRow.kept a1 g3 (own_apart a1 o1)
    rw [encOps_append, encOps_cons, encOps_nil, List.append_nil]
    exact this
  · rcases List.mem_append.1 hy with hy | hy
    · exact h.all y hy
    · rw [List.mem_singleton.1 hy]; exact ⟨mo, wo⟩
theorem RowI.both' {W w1 w2 w3 : World} {vA vO vA' vO' : Value} {os : List OP} {o : OP} (h' : RowI W w1 vA vO os) (mo : o.may) (wo : o.wide)
    (h1 : Own1 W.heap.size w2 vA' (encOps os ++ o.enc)) (g1 : w1.grownBy w2 vA.ownBlock) (h3 : OwnO W.heap.size w3 vO' (os ++ [o])) (g3 : w2.grownBy w3 vO.ownBlock) : RowI W w3 vA' vO' (os ++ [o]) := by
  have b1 : Below W.heap.size W w2 := h'.bel.grown g1 h'.bel.size fun k e => (World.ownsRow.lt h'.own k e).1
  have o1 : OwnO W.heap.size w2 vO os := World.ownsRow.kept h'.ops g1 (own_apart' h'.own h'.ops)
  refine ⟨?_, h3, b1.grown g3 b1.size fun k e => (World.ownsRow.lt o1 k e).1, fun y hy => ?_⟩
  · have := World.ownsRow.kept h1 g3 (own_apart h1 o1)
    rw [encOps_append, encOps_cons, encOps_nil, List.append_nil]
    exact this
  · rcases List.mem_append.1 hy with hy | hy
    · exact h'.all y hy
    · rw [List.mem_singleton.1 hy]; exact ⟨mo, wo⟩
section
variable {ops : Array Oper} {o : Oper} {a : Act} {K : Act → World → Prop} {Q : Exit → Act → World → Prop} {E : Prop} {w : World}
theorem step_appO' (hgd : o.guard = none) (s x : Operand) (ho : o.op = .call { callee := .builtin .append, args := #[s, x], argTypes := #[54, 54] })
    (base : Nat) (v : Value) (l : List OP) (hs : a.eval s = v) (h : OwnO base w v l) (g : Nat) (p : OP) (hx : a.eval x = .slice (some ⟨g, 0, none⟩) 1 1) (hA : w.rangeAt g 0 p.cells.toList)
    (hm : l.length + 1 ≤ 1000000000000) (hb : base ≤ w.heap.size)
    (hK : ∀ v' w', OwnO base w' v' (l ++ [p]) → w.grownBy w' v.ownBlock → (v'.ownBlock = v.ownBlock ∨ v'.ownBlock = some w.heap.size) → K (a.put o.dst v') w') :
    if Region.wanted o (yielded ops a.tmps) = true then Oper.wp Tryz.prog o a w K Q else E := step_appO (by simp [Region.wanted, hgd]) s x ho base v l hs h g p hx hA hm hb hK
theorem step_app' (hgd : o.guard = none) (s x : Operand) (ho : o.op = .call { callee := .builtin .append, args := #[s, x], argTypes := #[25, 25] })
    (base : Nat) (v : Value) (l : List UInt8) (hs : a.eval s = v) (h : Own1 base w v l) (A : Option Addr) (c : Nat) (news : List UInt8) (hx : a.eval x = .slice A news.length c) (hA : At w A news) (hz : A = none → c = 0)
    (hm : l.length + news.length ≤ 140737488355328) (hb : base ≤ w.heap.size)
    (hK : ∀ v' w', Own1 base w' v' (l ++ news) → w.grownBy w' v.ownBlock → (v'.ownBlock = v.ownBlock ∨ v'.ownBlock = some w.heap.size) → K (a.put o.dst v') w') :
    if Region.wanted o (yielded ops a.tmps) = true then Oper.wp Tryz.prog o a w K Q else E := step_app (by simp [Region.wanted, hgd]) s x ho base v l hs h A c news hx hA hz hm hb hK
end
theorem MayOp_says (o : OP) (hw : o.wide) (w : World) : Calls Tryz.prog 25 #[o.val] w (Says o.may w) := (MayOp_any o hw.2.2.2.2.2.2.1.2.2.1 w).mono fun _ _ h => h
theorem enc_head (os : List OP) (h0 : 0 < os.length) (h1 : os.length ≤ 255) : ∃ pre : List UInt8, pre.length = 5 ∧ BP.enc ⟨1, 0, os⟩ = pre ++ encOps os := by
  have n1 : nlen 1 = 1 := nlen_eq 1 1 (by omega) (by decide) (by decide)
  have n2 : nlen os.length = 1 := nlen_eq _ 1 (by omega) (by simp; omega) (fun _ => by simp; omega)
  refine ⟨encNum 1 ++ (encNum 0 ++ encNum os.length), ?_, by simp [BP.enc]⟩
  unfold encNum
  rw [n1, n2, nlen_zero]
  simp [digs_length]
theorem at_part {w : World} {A : Option Addr} {l : List UInt8} (h : At w A l) (lo : Nat) : At w (A.map (·.add (lo * 1))) (l.drop lo) := fun h0 => by
  have hl : lo < l.length := by
    rcases Nat.lt_or_ge lo l.length with h1 | h1
    · exact h1
    · rw [List.drop_eq_nil_of_le h1] at h0; simp at h0
  obtain ⟨b, off, rfl, hb, hc⟩ := h (by omega)
  refine ⟨b, off + lo, by simp only [Option.map_some]; rw [add_plain, Nat.mul_one], hb, fun i hi => ?_⟩
  have hi' : lo + i < l.length := by rw [List.length_drop] at hi; omega
  rw [Nat.add_assoc, hc (lo + i) hi']
  congr 2
  rw [List.getD_eq_getElem?_getD, List.getD_eq_getElem?_getD, List.getElem?_drop]
theorem size8 (W : World) : (sizeOf (Tryz.prog.elem 25)).run Tryz.prog W = .ok 1 W := by kernel_rfl
set_option maxRecDepth 100000 in
/-- What stands from the sixth byte on. -/
theorem reslice5 {w : World} {A : Option Addr} {l : List UInt8} {c : Nat} (hA : At w A l) (h : 5 < l.length) (hc : l.length ≤ c) :
    ∃ (A' : Option Addr) (c' : Nat), (∀ W, (Instr.slice 25 (.slice A l.length c) (some (.int .i64 5)) none none).run Tryz.prog W = .ok (.slice A' (l.length - 5) c') W) ∧ GS w (.slice A' (l.length - 5) c') (l.drop 5) := by
  obtain ⟨b, off, rfl, _, _⟩ := hA (by omega)
  refine ⟨if c = 5 then some ⟨b, off, none⟩ else (some (⟨b, off, none⟩ : Addr)).map (·.add (5 * 1)), c - 5, fun W => ?_, ?_⟩
  · rw [run_slice_l W 25 (some ⟨b, off, none⟩) l.length c Tryz.underlying25 .i64 (5 : Int) (by omega) (by omega), size8]
    rfl
  · rw [if_neg (by omega)]
    exact ⟨_, _, by rw [List.length_drop], at_part hA 5, fun e => by simp at e⟩
theorem Own1.form {base : Nat} {w : World} {v : Value} {l : List UInt8} (h : Own1 base w v l) : ∃ A c, v = .slice A l.length c := by
  rcases h.2 with ⟨rfl, h0⟩ | ⟨g, cap, cur, rfl, _⟩
  · exact ⟨none, 0, by rw [h0]⟩
  · exact ⟨_, _, rfl⟩
theorem enc_pos (o : OP) : 0 < o.enc.length := by unfold OP.enc; simp
theorem encOps_pos {os : List OP} (h : os ≠ []) : 0 < (encOps os).length := by
  cases os with
  | nil => exact absurd rfl h
  | cons o l => rw [encOps_cons, List.length_append]; have := enc_pos o; omega
/-- Fourteen cells from a place on. -/
def Here (w : World) (g k : Nat) (C : Array Value) : Prop := w.cell? ⟨g, k, none⟩ = C[0]? ∧ ∀ j, j < 14 → w.cell? ⟨g, k + j, none⟩ = C[j]?
theorem OAt.here {w : World} {g off : Nat} {o : OP} (h : w.rangeAt g off o.cells.toList) : Here w g off o.cells := by
  have e : ∀ j, j < 14 → w.cell? ⟨g, off + j, none⟩ = o.cells[j]? := fun j hj => by
    have hc : j < o.cells.toList.length := by rw [op_len]; exact hj
    rw [h j o.cells.toList[j] (List.getElem?_eq_getElem hc), ← List.getElem?_eq_getElem hc]
    simp
  exact ⟨e 0 (by omega), e⟩
theorem Here.below {w w' : World} {g k : Nat} {C : Array Value} (h : Here w g k C) (hb : Below w.heap.size w w') (hg : g < w.heap.size) : Here w' g k C :=
  ⟨(hb.cell (p := ⟨g, k, none⟩) hg).trans h.1, fun j hj => (hb.cell (p := ⟨g, k + j, none⟩) hg).trans (h.2 j hj)⟩
section
set_option maxRecDepth 100000
set_option maxHeartbeats 4000000
/-- The round of an operation that may not be; the start of one that may. -/
theorem Row_loop (sl : Value) (l : List OP) (v : VP) (w : World) (hs : SO w sl l) (hw : ∀ o ∈ l, o.wide) (hv : v.wide) :
    Calls Tryz.prog 7 #[sl, v.val] w fun e w' => e = .returned (.bool true) ∧ Below w.heap.size w w' := by
  obtain ⟨A, cp, rfl, hA, hl⟩ := hs
  have HA := Lib.hid hA
  have HW := Lib.hid hw
  have HV := Lib.hid hv
  obtain ⟨vk, vb, vn, vf, vs⟩ := v
  have X0 := Lib.hid (Bx.new w (VP.cells ⟨vk, vb, vn, vf, vs⟩) 24)
  have B0 := Lib.hid ((Below.refl w.heap.size w).alloc (Nat.le_refl _) (.cells (VP.cells ⟨vk, vb, vn, vf, vs⟩) 24))
  have hsf := store_float
  clear hA hw hv
  go_enter Tryz.func7, Tryz.ntmps7
  go_upto_block 0 with fail
  obtain ⟨W, hW⟩ : ∃ W, w.alloc (.cells (VP.cells ⟨vk, vb, vn, vf, vs⟩) 24) = W := ⟨_, rfl⟩
  rw [hW] at X0 B0 ⊢
  clear hW
  have I0 : Hid (RowI W W (.slice none 0 0) (.slice none 0 0) []) := Lib.hid ⟨Own1.nil _ _, OwnO.nil _ _, Below.refl _ _, fun o ho => by simp at ho⟩
  go_cut [5, 6] from 7 to 71 (fun vA vO w' => ∃ os : List OP, RowI W w' vA vO os ∧ os.length ≤ 40)
  case first =>
    go_wp2
    go_loopw [5, 6, 7] (fun vA vO i wr => ∃ (k : Nat) (os : List OP), i = .int .i64 k ∧ k ≤ l.length ∧ k ≤ 40 ∧ RowI W wr vA vO os ∧ os.length ≤ k) (fun _ _ i _ => l.length - (intOf i).toNat)
    case atStart => exact ⟨0, [], rfl, Nat.zero_le _, Nat.zero_le _, I0.out, Nat.le_refl _⟩
    case round =>
      clear X0 I0
      obtain ⟨m, os, rfl, hm1, hm2, hI, hos⟩ := hrel
      have I := Lib.hid hI
      have HOS := Lib.hid hos
      clear hI hos
      by_cases hlt : m < l.length
      · by_cases hlt2 : m < 40
        · obtain ⟨g, off, rfl, lg0, cg0⟩ := HA.out (by omega)
          have HB := Lib.hid (fun (w' : World) (hb : Below W.heap.size W w') => B0.out.trans (hb.mono B0.out.size))
          have r : wr.rangeAt g (off + m * 14) (l[m].cells.toList) := fun j u hu => ((HB.out _ I.out.bel).cell (p := ⟨g, off + m * 14 + j, none⟩) lg0).trans (cg0 m hlt j u hu)
          have H0 := Lib.hid (OAt.here (cg0 m hlt))
          have L0 := Lib.hid lg0
          have HH := Lib.hid (H0.out.below (HB.out _ I.out.bel) lg0)
          have LG := Lib.hid (Nat.lt_of_lt_of_le lg0 (HB.out _ I.out.bel).size)
          have wo := HW.out l[m] (List.getElem_mem hlt)
          have CP := Lib.hid (fun W => PutOp_any l[m] wo W)
          have CM := Lib.hid (fun W => MayOp_says l[m] wo W)
          have CS := Lib.hid (fun W (mo : l[m].may) => (SameOp_says l[m] l[m] wo wo (OP.may_v mo) (OP.may_v mo) W).mono fun _ _ h => h.yes rfl)
          have CT := Lib.hid (fun (u : Value) (W : World) (mo : l[m].may) (hu : GS W u (OP.enc l[m])) => (TakeOp_any u _ W hu (by have := op_enc_len mo wo; omega)).mono fun e w' h => (by
            obtain ⟨E, o, he, ht, hb⟩ := h
            obtain ⟨rfl, rfl⟩ := tookO_same mo wo ht
            exact ⟨he, hb⟩ : e = .returned (.tuple #[OP.val l[m], .int .i64 0]) ∧ Below W.heap.size W w'))
          have HL := Lib.hid (fun (mo : l[m].may) => op_enc_len mo wo)
          have WO := Lib.hid wo
          have i0 : (m : Int) < (l.length : Int) := by omega
          have i1 : (0 : Int) ≤ (m : Int) := by omega
          have i2 : IntKind.i64.wrap ((m : Int) + 1) = (m : Int) + 1 := by rw [IntKind.wrap_i64]; omega
          have t2 : decide ((m : Int) < 40) = true := by simp; omega
          generalize l[m] = o at *
          clear wo cg0 lg0 HA HW
          by_cases hm : o.may
          · have CPy := Lib.hid (fun W => (CP.out W).mono fun e w' p => (p.resolve_right (fun q => q.1 hm)).2)
            have CMy := Lib.hid (fun W => (CM.out W).mono fun _ _ h => h.yes hm)
            have CSy := Lib.hid (fun W => CS.out W hm)
            have CTy := Lib.hid (fun u W hu => CT.out u W hm hu)
            have HLy := Lib.hid (HL.out hm)
            have HM := Lib.hid hm
            obtain ⟨E, hE⟩ : ∃ E, OP.enc o = E := ⟨_, rfl⟩
            rw [hE] at CPy CTy HLy
            have HE := Lib.hid hE
            clear hm CP CM CS CT HL hE
            obtain ⟨kind, edge, id, label, fr, til, key, ⟨k, b, n, f, s⟩, pf, pt⟩ := o
            go_upto_region 7 with (first
              | refine wpList_load_mid rfl 43 (.tmp 31) rfl g (off + m * 14) rfl _ _ r Tryz.underlying43 rfl rowOp ?_
              | (go_at_call 18; (with_reducible refine (CPy.out _).mono ?_); rintro e w5 ⟨u, rfl, hs⟩; have I5 := Lib.hid (I.out.step hs.bel); have G5 := Lib.hid hs.gs; have H5 := Lib.hid (HH.out.below hs.bel LG.out); have L5 := Lib.hid (Nat.lt_of_lt_of_le LG.out hs.bel.size); have r5 : w5.rangeAt g (off + m * 14) (OP.cells ⟨kind, edge, id, label, fr, til, key, ⟨k, b, n, f, s⟩, pf, pt⟩).toList := (fun j u hu => (hs.bel.cell (p := ⟨g, off + m * 14 + j, none⟩) LG.out).trans (r j u hu)); clear hs r))
            go_upto_region 10 with (first
              | refine wpList_load_mid rfl 43 (.tmp 40) rfl g (off + m * 14) rfl _ _ r5 Tryz.underlying43 rfl rowOp ?_
              | (go_at_call 25; (with_reducible refine (CMy.out _).mono ?_); rintro e w6 ⟨rfl, hb⟩; have I6 := Lib.hid (I5.out.step hb); have G6 := Lib.hid (G5.out.below hb); have H6 := Lib.hid (H5.out.below hb L5.out); have L6 := Lib.hid (Nat.lt_of_lt_of_le L5.out hb.size); clear hb r5))
            go_upto_region 11 with (go_at_call 20; (with_reducible refine (CTy.out _ _ G6.out).mono ?_); rintro e w7 ⟨rfl, hb⟩; have I7 := Lib.hid (I6.out.step hb); have G7 := Lib.hid (G6.out.below hb); have H7 := Lib.hid (H6.out.below hb L6.out); have L7 := Lib.hid (Nat.lt_of_lt_of_le L6.out hb.size); clear hb)
            have hbl := (Below.refl w7.heap.size w7).alloc (Nat.le_refl _) (.cells (OP.cells ⟨kind, edge, id, label, fr, til, key, ⟨k, b, n, f, s⟩, pf, pt⟩) 43)
            have X8 := Lib.hid (Bx.new w7 (OP.cells ⟨kind, edge, id, label, fr, til, key, ⟨k, b, n, f, s⟩, pf, pt⟩) 43)
            have I8 := Lib.hid (I7.out.step hbl)
            have G8 := Lib.hid (G7.out.below hbl)
            have H8 := Lib.hid (H7.out.below hbl L7.out)
            have L8 := Lib.hid (Nat.lt_of_lt_of_le L7.out hbl.size)
            obtain ⟨W8, hW8⟩ : ∃ W8, w7.alloc (.cells (OP.cells ⟨kind, edge, id, label, fr, til, key, ⟨k, b, n, f, s⟩, pf, pt⟩) 43) = W8 := ⟨_, rfl⟩
            rw [hW8] at X8 I8 G8 H8 L8 ⊢
            clear hW8 hbl I5 G5 H5 L5 I6 G6 H6 L6 I7 G7 H7 HH LG I
            have K0 := Lib.hid (fun (w' : World) (hb : Below W8.heap.size W8 w') => (⟨(X8.out.below hb).c, (H8.out.below hb L8.out).1, (H8.out.below hb L8.out).2⟩ : (∀ j, w'.cell? ⟨w7.heap.size, j, none⟩ = (OP.cells ⟨kind, edge, id, label, fr, til, key, ⟨k, b, n, f, s⟩, pf, pt⟩)[j]?) ∧ w'.cell? ⟨g, off + m * 14, none⟩ = (OP.cells ⟨kind, edge, id, label, fr, til, key, ⟨k, b, n, f, s⟩, pf, pt⟩)[0]? ∧ ∀ j, j < 14 → w'.cell? ⟨g, off + m * 14 + j, none⟩ = (OP.cells ⟨kind, edge, id, label, fr, til, key, ⟨k, b, n, f, s⟩, pf, pt⟩)[j]?))
            go_region_held3 (fun w' => (∀ j, w'.cell? ⟨w7.heap.size, j, none⟩ = (OP.cells ⟨kind, edge, id, label, fr, til, key, ⟨k, b, n, f, s⟩, pf, pt⟩)[j]?) ∧ w'.cell? ⟨g, off + m * 14, none⟩ = (OP.cells ⟨kind, edge, id, label, fr, til, key, ⟨k, b, n, f, s⟩, pf, pt⟩)[0]? ∧ ∀ j, j < 14 → w'.cell? ⟨g, off + m * 14 + j, none⟩ = (OP.cells ⟨kind, edge, id, label, fr, til, key, ⟨k, b, n, f, s⟩, pf, pt⟩)[j]?) (first
                | exact K0.out _ (Below.refl _ _).drew
                | exact K0.out _ B9.out
                | fail) (first
              | (go_at_call 23; (with_reducible refine (CSy.out _).mono ?_); rintro e1' w9 ⟨rfl, hb⟩; have B9 := Lib.hid (show Below W8.heap.size W8 w9 from (Below.refl _ _).drew.trans hb); clear hb)
              | fail)
            have I9 := Lib.hid (I8.out.step B9.out)
            have G9 := Lib.hid (G8.out.below B9.out)
            have H9 := Lib.hid (H8.out.below B9.out L8.out)
            have L9 := Lib.hid (Nat.lt_of_lt_of_le L8.out B9.out.size)
            go_upto_region 13 with fail
            clear I8 G8 H8 L8 K0 B9
            obtain ⟨Au, cu, hu, hAt, hz⟩ := G9.out
            subst hu
            have I10 := Lib.hid (I9.out.step (Below.refl _ _).drew)
            have A10 := Lib.hid (hAt.below (Below.refl _ _).drew)
            have OB : Hid (RowI W (w9.alloc (.cells (OP.cells ⟨kind, edge, id, label, fr, til, key, ⟨k, b, n, f, s⟩, pf, pt⟩) 43)).drew u5 u6 os) := Lib.hid ((I9.out.step ((Below.refl _ _).alloc (Nat.le_refl _) (.cells (OP.cells ⟨kind, edge, id, label, fr, til, key, ⟨k, b, n, f, s⟩, pf, pt⟩) 43))).step (Below.refl _ _).drew)
            have OB2 : Hid (At (w9.alloc (.cells (OP.cells ⟨kind, edge, id, label, fr, til, key, ⟨k, b, n, f, s⟩, pf, pt⟩) 43)).drew Au E) := Lib.hid ((hAt.below ((Below.refl _ _).alloc (Nat.le_refl _) (.cells (OP.cells ⟨kind, edge, id, label, fr, til, key, ⟨k, b, n, f, s⟩, pf, pt⟩) 43))).below (Below.refl _ _).drew)
            have OB4 : Hid (Bx (w9.alloc (.cells (OP.cells ⟨kind, edge, id, label, fr, til, key, ⟨k, b, n, f, s⟩, pf, pt⟩) 43)).drew w9.heap.size (OP.cells ⟨kind, edge, id, label, fr, til, key, ⟨k, b, n, f, s⟩, pf, pt⟩)) := Lib.hid ((Bx.new w9 (OP.cells ⟨kind, edge, id, label, fr, til, key, ⟨k, b, n, f, s⟩, pf, pt⟩) 43).below (Below.refl _ _).drew)
            have K0 := Lib.hid (fun (w' : World) (hb : Below W.heap.size W w') => (⟨(H0.out.below (HB.out _ hb) L0.out).1, (H0.out.below (HB.out _ hb) L0.out).2⟩ : w'.cell? ⟨g, off + m * 14, none⟩ = (OP.cells ⟨kind, edge, id, label, fr, til, key, ⟨k, b, n, f, s⟩, pf, pt⟩)[0]? ∧ ∀ j, j < 14 → w'.cell? ⟨g, off + m * 14 + j, none⟩ = (OP.cells ⟨kind, edge, id, label, fr, til, key, ⟨k, b, n, f, s⟩, pf, pt⟩)[j]?))
            have LE1 : Hid ((encOps os).length + E.length ≤ 140737488355328) := Lib.hid (by have := HLy.out; have := encOps_len I10.out.all; have := HOS.out; omega)
            have LE2 : Hid (os.length + 1 ≤ 1000000000000) := Lib.hid (by have := HOS.out; omega)
            clear hAt G9 H9 L9
            go_region_held3 (fun w' => w'.cell? ⟨g, off + m * 14, none⟩ = (OP.cells ⟨kind, edge, id, label, fr, til, key, ⟨k, b, n, f, s⟩, pf, pt⟩)[0]? ∧ ∀ j, j < 14 → w'.cell? ⟨g, off + m * 14 + j, none⟩ = (OP.cells ⟨kind, edge, id, label, fr, til, key, ⟨k, b, n, f, s⟩, pf, pt⟩)[j]?) (first
                | exact K0.out _ I10.out.bel
                | exact K0.out _ OB.out.bel
                | exact K0.out _ B11.out
                | exact K0.out _ (B11.out.alloc B11.out.size _)
                | exact K0.out _ B21.out
                | exact K0.out _ I13.out.bel
                | fail) (first
              | (refine step_app' rfl (.tmp 62) (.tmp 63) rfl W.heap.size u5 (encOps os) rfl I10.out.own Au cu E rfl A10.out hz LE1.out I10.out.bel.size ?_; intro v11 w11 h1 h2 h3; have M11 := Lib.hid (And.intro h1 (And.intro h2 h3)); have B11 := Lib.hid (I10.out.bel.grown h2 I10.out.bel.size fun k e => (World.ownsRow.lt I10.out.own k e).1); have O12 := Lib.hid (show OwnO W.heap.size (w11.alloc (.cells (OP.cells ⟨kind, edge, id, label, fr, til, key, ⟨k, b, n, f, s⟩, pf, pt⟩) 43)) u6 os from World.ownsRow.alloc (World.ownsRow.kept I10.out.ops h2 (own_apart' I10.out.own I10.out.ops)) _); have R12 := Lib.hid (Bx.range (Bx.new w11 (OP.cells ⟨kind, edge, id, label, fr, til, key, ⟨k, b, n, f, s⟩, pf, pt⟩) 43)); have Z12 := Lib.hid (show W.heap.size ≤ (w11.alloc (.cells (OP.cells ⟨kind, edge, id, label, fr, til, key, ⟨k, b, n, f, s⟩, pf, pt⟩) 43)).heap.size from (B11.out.alloc B11.out.size _).size); clear h1 h2 h3)
              | (refine step_app' rfl (.tmp 62) (.tmp 63) rfl W.heap.size u5 (encOps os) rfl OB.out.own Au cu E rfl OB2.out hz LE1.out OB.out.bel.size ?_; intro v21 w21 h1 h2 h3; have M21 := Lib.hid (And.intro h1 (And.intro h2 h3)); have B21 := Lib.hid (OB.out.bel.grown h2 OB.out.bel.size fun k e => (World.ownsRow.lt OB.out.own k e).1); have O22 := Lib.hid (show OwnO W.heap.size w21 u6 os from World.ownsRow.kept OB.out.ops h2 (own_apart' OB.out.own OB.out.ops)); have R22 := Lib.hid (Bx.range (OB4.out.grown h2 (fun q e => Nat.ne_of_lt (World.ownsRow.lt I9.out.own q e).2))); have Z22 := Lib.hid (show W.heap.size ≤ w21.heap.size from Nat.le_trans OB.out.bel.size h2.size); clear h1 h2 h3)
              | (refine step_appO' rfl (.tmp 65) (.tmp 70) rfl W.heap.size u6 os rfl O12.out w11.heap.size ⟨kind, edge, id, label, fr, til, key, ⟨k, b, n, f, s⟩, pf, pt⟩ rfl R12.out LE2.out Z12.out ?_; intro v13 w13 h1 h2 h3; have I13 := Lib.hid (RowI.both I10.out (.cells (OP.cells ⟨kind, edge, id, label, fr, til, key, ⟨k, b, n, f, s⟩, pf, pt⟩) 43) HM.out WO.out (by rw [HE.out]; exact M11.out.1) M11.out.2.1 h1 h2); clear h1 h2 h3)
              | (refine step_appO' rfl (.tmp 65) (.tmp 70) rfl W.heap.size u6 os rfl O22.out w9.heap.size ⟨kind, edge, id, label, fr, til, key, ⟨k, b, n, f, s⟩, pf, pt⟩ rfl R22.out LE2.out Z22.out ?_; intro v13 w13 h1 h2 h3; have I13 := Lib.hid (RowI.both' OB.out HM.out WO.out (by rw [HE.out]; exact M21.out.1) M21.out.2.1 h1 h2); clear h1 h2 h3)
              | fail)
            all_goals
              as_aux_lemma =>
              go_wp2
              exact ⟨⟨m + 1, _, by go_num, by omega, by omega, I13.out, by have := HOS.out; simp; omega⟩, by simp [intOf]; omega⟩
          · have CPn := Lib.hid (fun W => (CP.out W).mono fun e w' p => (⟨(p.resolve_left (fun q => hm q.1)).2.1, p.bel⟩ : _ ∧ Below W.heap.size W w'))
            have CMn := Lib.hid (fun W => (CM.out W).mono fun _ _ h => h.no hm)
            clear hm CP CM CS CT HL
            obtain ⟨kind, edge, id, label, fr, til, key, ⟨k, b, n, f, s⟩, pf, pt⟩ := o
            as_aux_lemma =>
            go_upto_region 7 with (first
              | refine wpList_load_mid rfl 43 (.tmp 31) rfl g (off + m * 14) rfl _ _ r Tryz.underlying43 rfl rowOp ?_
              | (go_at_call 18; (with_reducible refine (CPn.out _).mono ?_); rintro e w5 ⟨rfl, hb⟩; have I5 := Lib.hid (I.out.step hb); have r5 : w5.rangeAt g (off + m * 14) (OP.cells ⟨kind, edge, id, label, fr, til, key, ⟨k, b, n, f, s⟩, pf, pt⟩).toList := (fun j u hu => (hb.cell (p := ⟨g, off + m * 14 + j, none⟩) LG.out).trans (r j u hu)); clear hb r))
            go_wp2_with (first
              | refine wpList_load_mid rfl 43 (.tmp 40) rfl g (off + m * 14) rfl _ _ r5 Tryz.underlying43 rfl rowOp ?_
              | (go_at_call 25; (with_reducible refine (CMn.out _).mono ?_); rintro e w6 ⟨rfl, hb⟩; have I6 := Lib.hid (I5.out.step hb); clear hb))
            exact ⟨⟨m + 1, os, by go_num, by omega, by omega, I6.out, by have := HOS.out; omega⟩, by simp [intOf]; omega⟩
        · have t2 : decide ((m : Int) < 40) = false := by simp; omega
          go_wp2
          go_meet
          exact ⟨os, I.out, by have := HOS.out; omega⟩
      · go_wp2
        go_meet
        exact ⟨os, I.out, by have := HOS.out; omega⟩
  case rest =>
  as_aux_lemma =>
  obtain ⟨os, hI, hos⟩ := hcut
  have I := Lib.hid hI
  have HOS := Lib.hid hos
  have X1 := Lib.hid (X0.out.below hI.bel)
  have q1 := X1.out.c
  have CM := Lib.hid (fun W => May_any vk vb vn vf vs W HV.out.2.2.1)
  have HM := Lib.hid (mayB_iff (v := ⟨vk, vb, vn, vf, vs⟩))
  simp only at HM
  clear hI hos X0 I0
  by_cases mv : VP.may ⟨vk, vb, vn, vf, vs⟩
  · have CP := Lib.hid (fun W => (PutValue_any ⟨vk, vb, vn, vf, vs⟩ HV.out W).mono fun e w' p => (p.resolve_right (fun q => q.1 mv)).2)
    have e1 : mayB vk vb vn vf vs = true := HM.out.2 mv
    rw [e1] at CM
    have CT := Lib.hid (fun (u : Value) (W : World) (hu : GS W u (VP.enc ⟨vk, vb, vn, vf, vs⟩)) => (TakeValue_any u _ W hu (by have := enc_len mv HV.out; omega)).mono fun e w' h => (by
      obtain ⟨E, o, he, ht, hb⟩ := h
      obtain ⟨rfl, rfl⟩ := tookV_same mv HV.out ht
      exact ⟨he, hb⟩ : e = .returned (.tuple #[VP.val ⟨vk, vb, vn, vf, vs⟩, .int .i64 0]) ∧ Below W.heap.size W w'))
    have CL := Lib.hid (fun W => Like_any vk vb vn vf vs vk vb vn vf vs W)
    rw [like_iff.2 ⟨rfl, rfl, rfl, rfl, rfl⟩] at CL
    generalize VP.enc ⟨vk, vb, vn, vf, vs⟩ = EV at *
    clear mv e1 HM
    as_aux_lemma =>
    go_upto_region 15 with (go_at_call 10; (with_reducible refine (CP.out _).mono ?_); rintro e w1 ⟨u, rfl, hs⟩; have I1 := Lib.hid (I.out.step hs.bel); have X2 := Lib.hid (X1.out.below hs.bel); have G1 := Lib.hid hs.gs; have q2 := X2.out.c; clear hs)
    go_upto_region 17 with (go_at_call 22; (with_reducible refine (CM.out _).mono ?_); rintro e w2 ⟨rfl, hb⟩; have I2 := Lib.hid (I1.out.step hb); have X3 := Lib.hid (X2.out.below hb); have G2 := Lib.hid (G1.out.below hb); clear hb q2)
    go_upto_region 19 with (go_at_call 12; (with_reducible refine (CT.out _ _ G2.out).mono ?_); rintro e w3 ⟨rfl, hb⟩; have I3 := Lib.hid ((I2.out.step hb).step ((Below.refl _ _).alloc (Nat.le_refl _) (.cells (VP.cells ⟨vk, vb, vn, vf, vs⟩) 24))); have X4 := Lib.hid ((X3.out.below hb).below ((Below.refl _ _).alloc (Nat.le_refl _) (.cells (VP.cells ⟨vk, vb, vn, vf, vs⟩) 24))); have q4 := X4.out.c; clear hb)
    go_upto_region 21 with (go_at_call 14; (with_reducible refine (CL.out _).mono ?_); rintro e w4 ⟨rfl, hb⟩; have IT := Lib.hid (I3.out.step hb); clear hb q4)
    clear q1 CP CM CT CL
    obtain ⟨AO, cO, hv6⟩ := IT.out.ops.form
    obtain ⟨AA, cA, hv5⟩ := IT.out.own.form
    subst hv5 hv6
    by_cases h0 : os = []
    · subst h0
      as_aux_lemma =>
      go_wp2_with (go_at_call 17; (with_reducible refine (wakes_any _).mono ?_); rintro e ww ⟨rfl, hb⟩; have BW := Lib.hid ((IT.out.step hb).bel); clear hb)
      go_ret
      exact ⟨rfl, B0.out.trans (BW.out.mono B0.out.size)⟩
    · have hp := encOps_pos h0
      have hl0 : 0 < os.length := List.length_pos_iff.2 h0
      obtain ⟨pre, hpre, hEB⟩ := enc_head os hl0 (by have := HOS.out; omega)
      have hm : BP.may ⟨1, 0, os⟩ := ⟨Nat.le_refl _, show 1 ≤ 1073741824 by omega, show 0 < 1099511627776 by omega, hl0, show os.length ≤ 256 by have := HOS.out; omega, fun o ho => (IT.out.all o ho).1⟩
      have CB := Lib.hid ((PutBatch_any ⟨1, 0, os⟩ _ _ IT.out.ops.so ⟨show 1 < 18446744073709551616 by omega, show 0 < 18446744073709551616 by omega, fun o ho => (IT.out.all o ho).2⟩).mono fun e w' p => (p.resolve_right (fun q => q.1 hm)).2)
      rw [hEB] at CB
      have HP := Lib.hid (And.intro hpre hp)
      have z0 : ((os.length : Int) == 0) = false := by rw [beq_eq_false_iff_ne]; omega
      have LE := Lib.hid (show (encOps os).length ≤ 8000 by have := encOps_len IT.out.all; have := HOS.out; omega)
      clear hm hpre hEB hp hl0 h0
      as_aux_lemma =>
      go_upto_region 24 with (go_at_call 29; (refine (CB.out).mono ?_); rintro e wp ⟨u, rfl, hs⟩; have S1 := Lib.hid hs; clear hs)
      clear z0 CB
      have IP := Lib.hid (IT.out.step S1.out.bel)
      obtain ⟨Ap, cp2, hu, hcp, _⟩ := S1.out.form
      subst hu
      have hlen : (pre ++ encOps os).length = (encOps os).length + 5 := by rw [List.length_append, HP.out.1]; omega
      have hdrop : (pre ++ encOps os).drop 5 = encOps os := by rw [← HP.out.1, List.drop_left]
      have GP := S1.out.gs
      obtain ⟨A', c', eA, hAp, _⟩ := GP
      injection eA with e1 _ e2
      subst e1 e2
      obtain ⟨A5, c5, hres, G5⟩ := reslice5 hAp (by rw [hlen]; have := HP.out.2; omega) hcp
      rw [hdrop] at G5
      have GA := IP.out.own.gs
      rw [hlen] at hres G5 ⊢
      have z1 : (((encOps os).length + 5 : Nat) : Int) = ((encOps os).length : Int) + 5 := by omega
      have z3 : (0 : Int) ≤ ((encOps os).length : Int) := by omega
      have z4 : ((encOps os).length : Int) ≤ 8000 := by have := LE.out; omega
      have e5 : (encOps os).length + 5 - 5 = (encOps os).length := by omega
      rw [e5] at hres G5
      have G5h := Lib.hid G5
      have GAh := Lib.hid GA
      obtain ⟨sx, hsx⟩ : ∃ sx, (⟨(encOps os).toArray⟩ : ByteArray) = sx := ⟨_, rfl⟩
      have K0 := Lib.hid (fun (w' : World) (hb : Below wp.heap.size wp w') => (⟨by rw [← hsx]; exact conv_gs (G5h.out.below hb), by rw [← hsx]; exact conv_gs (GAh.out.below hb)⟩ : (convert 25 9 (.slice A5 (encOps os).length c5)).run Tryz.prog w' = .ok (.string sx) w' ∧ (convert 25 9 (.slice AA (encOps os).length cA)).run Tryz.prog w' = .ok (.string sx) w'))
      generalize (encOps os).length = n5 at *
      obtain ⟨N5, hN5⟩ : ∃ N : Nat, n5 + 5 = N := ⟨_, rfl⟩
      rw [hN5] at hres z1 ⊢
      have z2 : ((N5 : Int) == (n5 : Int) + 5) = true := by rw [beq_iff_eq]; omega
      have z5 : IntKind.i64.wrap ((n5 : Int) + 5) = (n5 : Int) + 5 := by rw [IntKind.wrap_i64]; omega
      clear G5 GA hAp hlen hdrop hsx hN5 e5 z1 hcp
      go_region_held3 (fun w' => (convert 25 9 (.slice A5 n5 c5)).run Tryz.prog w' = .ok (.string sx) w' ∧ (convert 25 9 (.slice AA n5 cA)).run Tryz.prog w' = .ok (.string sx) w') (first
          | exact K0.out _ (Below.refl _ _).drew
          | exact K0.out _ B9.out
          | fail) (first
        | (go_at_call 17; (with_reducible refine (wakes_any _).mono ?_); rintro e' w9 ⟨rfl, hb⟩; have B9 := Lib.hid (show Below wp.heap.size wp w9 from (Below.refl _ _).drew.trans hb); clear hb)
        | fail)
      go_wp2
      go_ret
      exact ⟨rfl, B0.out.trans ((IP.out.step B9.out).bel.mono B0.out.size)⟩

  · have CP := Lib.hid (fun W => (PutValue_any ⟨vk, vb, vn, vf, vs⟩ HV.out W).mono fun e w' p => (⟨(p.resolve_left (fun q => mv q.1)).2.1, p.bel⟩ : _ ∧ Below W.heap.size W w'))
    have e1 : mayB vk vb vn vf vs = false := by cases h : mayB vk vb vn vf vs; · rfl
                                                · exact absurd (HM.out.1 h) mv
    rw [e1] at CM
    clear mv e1 HM
    as_aux_lemma =>
    go_upto_region 15 with (go_at_call 10; (with_reducible refine (CP.out _).mono ?_); rintro e w1 ⟨rfl, hb⟩; have I1 := Lib.hid (I.out.step hb); have X2 := Lib.hid (X1.out.below hb); have q2 := X2.out.c; clear hb)
    go_upto_region 21 with (go_at_call 22; (with_reducible refine (CM.out _).mono ?_); rintro e w2 ⟨rfl, hb⟩; have IT := Lib.hid (I1.out.step hb); clear hb q2)
    clear q1 CP CM
    obtain ⟨AO, cO, hv6⟩ := IT.out.ops.form
    obtain ⟨AA, cA, hv5⟩ := IT.out.own.form
    subst hv5 hv6
    by_cases h0 : os = []
    · subst h0
      as_aux_lemma =>
      go_wp2_with (go_at_call 17; (with_reducible refine (wakes_any _).mono ?_); rintro e ww ⟨rfl, hb⟩; have BW := Lib.hid ((IT.out.step hb).bel); clear hb)
      go_ret
      exact ⟨rfl, B0.out.trans (BW.out.mono B0.out.size)⟩
    · have hp := encOps_pos h0
      have hl0 : 0 < os.length := List.length_pos_iff.2 h0
      obtain ⟨pre, hpre, hEB⟩ := enc_head os hl0 (by have := HOS.out; omega)
      have hm : BP.may ⟨1, 0, os⟩ := ⟨Nat.le_refl _, show 1 ≤ 1073741824 by omega, show 0 < 1099511627776 by omega, hl0, show os.length ≤ 256 by have := HOS.out; omega, fun o ho => (IT.out.all o ho).1⟩
      have CB := Lib.hid ((PutBatch_any ⟨1, 0, os⟩ _ _ IT.out.ops.so ⟨show 1 < 18446744073709551616 by omega, show 0 < 18446744073709551616 by omega, fun o ho => (IT.out.all o ho).2⟩).mono fun e w' p => (p.resolve_right (fun q => q.1 hm)).2)
      rw [hEB] at CB
      have HP := Lib.hid (And.intro hpre hp)
      have z0 : ((os.length : Int) == 0) = false := by rw [beq_eq_false_iff_ne]; omega
      have LE := Lib.hid (show (encOps os).length ≤ 8000 by have := encOps_len IT.out.all; have := HOS.out; omega)
      clear hm hpre hEB hp hl0 h0
      as_aux_lemma =>
      go_upto_region 24 with (go_at_call 29; (refine (CB.out).mono ?_); rintro e wp ⟨u, rfl, hs⟩; have S1 := Lib.hid hs; clear hs)
      clear z0 CB
      have IP := Lib.hid (IT.out.step S1.out.bel)
      obtain ⟨Ap, cp2, hu, hcp, _⟩ := S1.out.form
      subst hu
      have hlen : (pre ++ encOps os).length = (encOps os).length + 5 := by rw [List.length_append, HP.out.1]; omega
      have hdrop : (pre ++ encOps os).drop 5 = encOps os := by rw [← HP.out.1, List.drop_left]
      have GP := S1.out.gs
      obtain ⟨A', c', eA, hAp, _⟩ := GP
      injection eA with e1 _ e2
      subst e1 e2
      obtain ⟨A5, c5, hres, G5⟩ := reslice5 hAp (by rw [hlen]; have := HP.out.2; omega) hcp
      rw [hdrop] at G5
      have GA := IP.out.own.gs
      rw [hlen] at hres G5 ⊢
      have z1 : (((encOps os).length + 5 : Nat) : Int) = ((encOps os).length : Int) + 5 := by omega
      have z3 : (0 : Int) ≤ ((encOps os).length : Int) := by omega
      have z4 : ((encOps os).length : Int) ≤ 8000 := by have := LE.out; omega
      have e5 : (encOps os).length + 5 - 5 = (encOps os).length := by omega
      rw [e5] at hres G5
      have G5h := Lib.hid G5
      have GAh := Lib.hid GA
      obtain ⟨sx, hsx⟩ : ∃ sx, (⟨(encOps os).toArray⟩ : ByteArray) = sx := ⟨_, rfl⟩
      have K0 := Lib.hid (fun (w' : World) (hb : Below wp.heap.size wp w') => (⟨by rw [← hsx]; exact conv_gs (G5h.out.below hb), by rw [← hsx]; exact conv_gs (GAh.out.below hb)⟩ : (convert 25 9 (.slice A5 (encOps os).length c5)).run Tryz.prog w' = .ok (.string sx) w' ∧ (convert 25 9 (.slice AA (encOps os).length cA)).run Tryz.prog w' = .ok (.string sx) w'))
      generalize (encOps os).length = n5 at *
      obtain ⟨N5, hN5⟩ : ∃ N : Nat, n5 + 5 = N := ⟨_, rfl⟩
      rw [hN5] at hres z1 ⊢
      have z2 : ((N5 : Int) == (n5 : Int) + 5) = true := by rw [beq_iff_eq]; omega
      have z5 : IntKind.i64.wrap ((n5 : Int) + 5) = (n5 : Int) + 5 := by rw [IntKind.wrap_i64]; omega
      clear G5 GA hAp hlen hdrop hsx hN5 e5 z1 hcp
      go_region_held3 (fun w' => (convert 25 9 (.slice A5 n5 c5)).run Tryz.prog w' = .ok (.string sx) w' ∧ (convert 25 9 (.slice AA n5 cA)).run Tryz.prog w' = .ok (.string sx) w') (first
          | exact K0.out _ (Below.refl _ _).drew
          | exact K0.out _ B9.out
          | fail) (first
        | (go_at_call 17; (with_reducible refine (wakes_any _).mono ?_); rintro e' w9 ⟨rfl, hb⟩; have B9 := Lib.hid (show Below wp.heap.size wp w9 from (Below.refl _ _).drew.trans hb); clear hb)
        | fail)
      go_wp2
      go_ret
      exact ⟨rfl, B0.out.trans ((IP.out.step B9.out).bel.mono B0.out.size)⟩

end
end Go.Proofs.YtchklaepilcbbaaGreat
