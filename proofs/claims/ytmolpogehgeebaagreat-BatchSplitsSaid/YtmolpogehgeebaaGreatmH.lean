/- The laws of batch: append of operations, the boxes of states. -/
/- BatchSplits: a batch in two parts. -/
import Derived.Test.YtmolpogehgeebaaGreatmD
import Derived.Test.YtmolpogehgeebaaGreatmA
import Derived.Test.YtmolpogehgeebaaGreatmG
import Derived.Test.YtmolpogehgeebaaGreatmE
namespace Go.Proofs.YtmolpogehgeebaaGreat
open Go.RowKit
theorem Co.OAt.cells {w : World} {b off : Nat} {l : List Co.OP} (h : ∀ i (h : i < l.length), w.rangeAt b (off + i * 14) (l[i].cells.toList)) : ∀ j u, (Co.cellsO l)[j]? = some u → w.cell? ((⟨b, off, none⟩ : Addr).add j) = some u := fun j u hj => by
  have hl : j < l.length * 14 := by have := (List.getElem?_eq_some_iff.1 hj).1; rwa [Co.cellsO_length] at this
  have hi : j / 14 < l.length := by omega
  have h1 := Co.cellsO_get l (j / 14) hi (j % 14) (by omega)
  rw [show j / 14 * 14 + j % 14 = j by omega, hj] at h1
  have h2 := h (j / 14) hi (j % 14) u h1.symm
  rw [show off + j / 14 * 14 + j % 14 = off + j by omega] at h2
  rw [Se.add_plain]
  exact h2
theorem Co.cellsO_one' (l : List Co.OP) : ∀ u ∈ Co.cellsO l, u.oneCell' = true := fun u hu => by
  obtain ⟨o, _, h⟩ := List.mem_flatMap.1 hu
  exact Array.all_eq_true_iff_forall_mem.1 (Co.one14 o) u (by simpa using h)
/-- append of operations onto what the call owns. -/
theorem Co.run_appOs (base : Nat) (w : World) (v : Value) (l : List Co.OP) (x : Value) (news : List Co.OP) (ty : TypeId) (h : Co.OwnO base w v l) (hx : CO w x news)
    (hm : l.length + news.length ≤ 1000000000000) (hb : base ≤ w.heap.size) :
    ∃ v' w', (Builtin.append_ #[27, 27] ty #[v, x]).run Tryz.prog w = .ok v' w' ∧ Co.OwnO base w' v' (l ++ news) ∧ w.grownBy w' v.ownBlock := by
  obtain ⟨A, c, rfl, hc1, hc2, hz, hA⟩ := hx
  obtain ⟨i0, hi, hz0, hz1, hz2⟩ := info_parts Co.infoO
  have own : ∀ (ad : Addr), (∀ j u, (Co.cellsO news)[j]? = some u → w.cell? (ad.add j) = some u) → ∃ v' w', (Builtin.append_ #[27, 27] ty #[v, .slice (some ad) news.length c]).run Tryz.prog w = .ok v' w' ∧ Co.OwnO base w' v' (l ++ news) ∧ w.grownBy w' v.ownBlock := fun ad hcl => by
    obtain ⟨v', w', h1, h2, h3, _, _⟩ := run_append_own_at (P := Tryz.prog) w base 27 ty 35 i0 _ 14 136 Tryz.underlying27 hi hz0 hz1 hz2 rfl (by omega) v _ _ h ad news.length c (Co.cellsO news) (by rw [Co.cellsO_length]) hcl (Co.cellsO_one' news)
      (by unfold maxLen; omega) (by omega) hb
    exact ⟨v', w', h1, by rw [Co.OwnO, Co.cellsO_append, List.length_append]; exact h2, h3⟩
  rcases Nat.eq_zero_or_pos news.length with h0 | h0
  · obtain rfl := List.eq_nil_of_length_eq_zero h0
    cases A with
    | none =>
      obtain rfl := hz rfl
      exact ⟨v, w, run_append_owned_none (P := Tryz.prog) w base 27 ty 35 i0 14 Tryz.underlying27 hi v _ _ h, by simpa using h, World.grownBy.refl _ _⟩
    | some ad => exact own ad (fun j u hj => by simp [Co.cellsO] at hj)
  · obtain ⟨b, off, rfl, _, hc⟩ := hA h0
    exact own _ (Co.OAt.cells hc)
theorem Bx.apart {w w' : World} {p : Nat} {C : Array Value} {v : Value} (h : Bx w p C) (hg : w.grownBy w' v.ownBlock) (hne : v.ownBlock ≠ some p) : Bx w' p C := h.grown hg fun r hr e => hne (by rw [hr]; first | exact congrArg some e | exact congrArg some e.symm)
/-- append in a region that draws its order. -/
theorem Co.step_appOs {ops : Array Oper} {o : Oper} {a : Act} {w : World} {K : Act → World → Prop} {Q : Exit → Act → World → Prop} {E : Prop} (hgd : o.guard = none) (s x : Operand)
    (ho : o.op = .call { callee := .builtin .append, args := #[s, x], argTypes := #[27, 27] })
    (base : Nat) (v : Value) (l : List Co.OP) (hs : a.eval s = v) (h : Co.OwnO base w v l) (y : Value) (news : List Co.OP) (hx : a.eval x = y) (hA : CO w y news)
    (hm : l.length + news.length ≤ 1000000000000) (hb : base ≤ w.heap.size)
    (hK : ∀ v' w', Co.OwnO base w' v' (l ++ news) → Below base w w' → w.grownBy w' v.ownBlock → K (a.put o.dst v') w') :
    if Region.wanted o (yielded ops a.tmps) = true then Oper.wp Tryz.prog o a w K Q else E := by
  rw [if_pos (by simp [Region.wanted, hgd])]
  obtain ⟨v', w', h1, h2, h3⟩ := Co.run_appOs base w v l y news o.type h hA hm hb
  unfold Oper.wp execOp
  simp only [ho, resolve, invoke, builtin, Sem.run_bind, Sem.run_pure, Result.andThen_ok, List.map_toArray, List.map_cons, List.map_nil, hs, hx, h1]
  exact hK v' w' h2 ((Below.refl _ _).grown h3 hb fun k hk => (World.ownsRow.lt h k hk).1) h3
/-- A box of a state, with lists of the call's own. -/
structure SB (base p : Nat) (w : World) (s : St) : Prop where
  blk : Blk 76 w p
  low : base ≤ p
  sat : ∃ A1 c1 A2 c2, Bx w p #[.slice A1 s.ns.length c1, .slice A2 s.es.length c2] ∧ LE base w (.slice A1 s.ns.length c1) s.ns ∧ LE base w (.slice A2 s.es.length c2) s.es
theorem SB.below {base p : Nat} {w w' : World} {s : St} (h : SB base p w s) (hb : Below w.heap.size w w') : SB base p w' s := by
  obtain ⟨A1, c1, A2, c2, h1, h2, h3⟩ := h.sat
  exact ⟨h.blk.below hb, h.low, A1, c1, A2, c2, h1.below hb, h2.below hb, h3.below hb⟩
theorem SB.lt {base p : Nat} {w : World} {s : St} (h : SB base p w s) : p < w.heap.size := by
  obtain ⟨C, fr, h1⟩ := h.blk
  exact (Array.getElem?_eq_some_iff.1 h1).1
theorem SB.mono {base base' p : Nat} {w : World} {s : St} (h : SB base p w s) (hb : base' ≤ base) : SB base' p w s := by
  obtain ⟨A1, c1, A2, c2, h1, h2, h3⟩ := h.sat
  exact ⟨h.blk, Nat.le_trans hb h.low, A1, c1, A2, c2, h1, h2.mono hb, h3.mono hb⟩
/-- A box is filled. -/
theorem SB.fill {base p : Nat} {W : World} {c0 c1 a b : Value} {z : St} (h : Bx W p #[c0, c1]) (ht : Blk 76 W p) (hp : base ≤ p) (ho : SOwn base W (.agg #[a, b]) z) :
    ∃ W2, (W.setCell ⟨p, 0, none⟩ a).setCell ⟨p, 1, none⟩ b = W2 ∧ SB base p W2 z ∧ W.grownBy W2 (some p) := by
  obtain ⟨h1, h2⟩ := put2 h a b
  obtain ⟨a', b', e, ha, hb⟩ := ho
  injection e with e
  injection e with e
  injection e with e1 e
  injection e with e2 _
  subst e1 e2
  obtain ⟨An, cn, rfl, _⟩ := ha.form
  obtain ⟨Ae, ce, rfl, _⟩ := hb.form
  exact ⟨_, rfl, ⟨(ht.set p 0 _).set p 1 _, hp, An, cn, Ae, ce, h1, ha.grownBox ht h2, hb.grownBox ht h2⟩, h2⟩
theorem SB.new {base : Nat} {w : World} {a b : Value} {z : St} (ho : SOwn base w (.agg #[a, b]) z) (hb : base ≤ w.heap.size) : SB base w.heap.size (w.alloc (.cells #[a, b] 76)) z := by
  obtain ⟨a', b', e, h1, h2⟩ := ho
  injection e with e
  injection e with e
  injection e with e1 e
  injection e with e2 _
  subst e1 e2
  obtain ⟨An, cn, rfl, _⟩ := h1.form
  obtain ⟨Ae, ce, rfl, _⟩ := h2.form
  have hB : Below w.heap.size w (w.alloc (.cells #[.slice An z.ns.length cn, .slice Ae z.es.length ce] 76)) := (Below.refl _ _).alloc (Nat.le_refl _) _
  exact ⟨Blk.new w _ _, hb, An, cn, Ae, ce, Bx.new w _ _, h1.below hB, h2.below hB⟩
theorem SB.at {base p : Nat} {w : World} {s : St} (h : SB base p w s) : ∃ A1 c1 A2 c2, Bx w p #[.slice A1 s.ns.length c1, .slice A2 s.es.length c2] ∧ SAt w (.agg #[.slice A1 s.ns.length c1, .slice A2 s.es.length c2]) s := by
  obtain ⟨A1, c1, A2, c2, h1, h2, h3⟩ := h.sat
  exact ⟨A1, c1, A2, c2, h1, _, _, rfl, h2.se, h3.se⟩
/-- What a call of Apply gives. -/
def ASt (s : St) (ops : List Co.OP) (w : World) (e : Ending) (w' : World) : Prop := ∃ A1 n1 c1 A2 n2 c2 n z, e = .returned (.tuple #[.agg #[.slice A1 n1 c1, .slice A2 n2 c2], .int .i64 n]) ∧ Below w.heap.size w w' ∧ SOwn w.heap.size w' (.agg #[.slice A1 n1 c1, .slice A2 n2 c2]) z ∧ BApplied s ops n z ∧ (n ≠ 0 → z = ⟨[], []⟩)
theorem apply_ae {s : St} {ops : List Co.OP} {w : World} {v sv : Value} {nn mm : Nat} (h : SAt w v s) (hg : s.good nn mm) (hnm : nn ≤ 50000 ∧ mm ≤ 50000) (ho : Co.SO w sv ops) (hw : ∀ o ∈ ops, o.wide) : Calls Tryz.prog 36 #[v, sv] w (ASt s ops w) :=
  (bApply_any v sv s ops nn mm w h (hg.wide (by omega) (by omega)) (fun _ => hg) hnm ho hw).mono fun e w' ⟨u, n, z, h1, h2, h3, h4, h5⟩ => by
    obtain ⟨a, b, rfl, k1, k2⟩ := h3
    obtain ⟨An, cn, rfl, _⟩ := k1.form
    obtain ⟨Ae, ce, rfl, _⟩ := k2.form
    exact ⟨_, _, _, _, _, _, n, z, h1, h2, ⟨_, _, rfl, k1, k2⟩, h4, h5⟩
end Go.Proofs.YtmolpogehgeebaaGreat


namespace Go.Proofs.YtmolpogehgeebaaGreat
open List (setIfInBounds_toArray set_cons_zero set_cons_succ)
open Go.RowKit
theorem CO.cut {w : World} {A : Option Addr} {c m : Nat} {l : List Co.OP} (h : CO w (.slice A l.length c) l) (hm : m ≤ l.length) : CO w (.slice A m c) (l.take m) := by
  obtain ⟨A', c', e, h1, h2, h3, h4⟩ := h
  injection e with e1 _ e2
  subst e1 e2
  have hl : (l.take m).length = m := by rw [List.length_take]; omega
  refine ⟨A, c, by rw [hl], by omega, h2, h3, fun h0 => ?_⟩
  obtain ⟨b, off, e, k1, k2⟩ := h4 (by omega)
  exact ⟨b, off, e, k1, fun i hi => by
    have := k2 i (by omega)
    simpa using this⟩
theorem take_wide {l : List Co.OP} (h : ∀ o ∈ l, o.wide) (m : Nat) : ∀ o ∈ l.take m, o.wide := fun o ho => h o (List.mem_of_mem_take ho)
theorem St.good.ok {s : St} {n m : Nat} (h : s.good n m) (hn : n ≤ 100000) : OkL s.ns ∧ OkL s.es := ⟨fun x hx => ⟨(h.ns x hx).may, (h.ns x hx).wide hn⟩, fun x hx => ⟨(h.es x hx).may, (h.es x hx).wide hn⟩⟩
theorem says_yes {P : Prop} {w w' : World} {e : Ending} (h : Says P w e w') (hp : P) : e = .returned (.bool true) ∧ Below w.heap.size w w' := by
  obtain ⟨c, rfl, h1, h2⟩ := h
  exact ⟨by rw [h1.2 hp], h2⟩
/-- Where the batches ahead have come to. -/
structure Ahead (p k : Nat) (w wr : World) (s : St) : Prop where
  box : SB w.heap.size p wr s
  bel : Below w.heap.size w wr
  may : s.may
  good : s.good (80 * k) (40 * k)
theorem St.good.mono {s : St} {n m n' m' : Nat} (h : s.good n m) (h1 : n ≤ n') (h2 : m ≤ m') : s.good n' m' := ⟨fun x hx => (h.ns x hx).mono h1, fun x hx => (h.es x hx).mono h1, Nat.le_trans h.ln h2, Nat.le_trans h.le h2⟩
theorem Ahead.below {p k : Nat} {w wr w' : World} {s : St} (h : Ahead p k w wr s) (hb : Below wr.heap.size wr w') : Ahead p k w w' s := ⟨h.box.below hb, h.bel.trans (hb.mono h.bel.size), h.may, h.good⟩
theorem Ahead.next {p k : Nat} {w wr : World} {s : St} (h : Ahead p k w wr s) : Ahead p (k + 1) w wr s := ⟨h.box, h.bel, h.may, h.good.mono (by omega) (by omega)⟩
set_option linter.unusedSimpArgs false
set_option maxRecDepth 100000
set_option maxHeartbeats 16000000
theorem Splits_walk (v0 sa sb : Value) (L : List (List Co.OP)) (la lb : List Co.OP) (w : World) (h0 : SA w v0 L) (hL : ∀ l ∈ L, ∀ o ∈ l, o.wide) (ha : CO w sa la) (hla : ∀ o ∈ la, o.wide) (hb : CO w sb lb) (hlb : ∀ o ∈ lb, o.wide) :
    Calls Tryz.prog 7 #[v0, sa, sb] w fun e w' => e = .returned (.bool true) ∧ Below w.heap.size w w' := by
  have CW := Lib.hid wakes_any
  obtain ⟨A, c, rfl, hA, hn⟩ := h0
  have HA := Lib.hid hA
  have HL := Lib.hid hL
  obtain ⟨Aa, ca, ea, a1, a2⟩ := id ha
  obtain ⟨Ab, cb, eb, b1, b2⟩ := id hb
  subst ea eb
  obtain ⟨m, hm⟩ : ∃ m : Nat, m = min la.length 40 := ⟨_, rfl⟩
  obtain ⟨n, hn2⟩ : ∃ n : Nat, n = min lb.length 40 := ⟨_, rfl⟩
  have ma : min (la.length : Int) 40 = (m : Int) := by omega
  have mb : min (lb.length : Int) 40 = (n : Int) := by omega
  have CA := Lib.hid (CO.cut (m := m) ha (by omega))
  have CB := Lib.hid (CO.cut (m := n) hb (by omega))
  have WA := Lib.hid (take_wide hla m)
  have WB := Lib.hid (take_wide hlb n)
  have la1 : (la.take m).length = m := by rw [List.length_take]; omega
  have lb1 : (lb.take n).length = n := by rw [List.length_take]; omega
  generalize la.take m = X at *
  generalize lb.take n = Y at *
  have m40 : (m : Int) ≤ 40 := by omega
  have n40 : (n : Int) ≤ 40 := by omega
  have mc : (m : Int) ≤ (ca : Int) := by omega
  have nc : (n : Int) ≤ (cb : Int) := by omega
  have hlen : (L.length : Int) ≤ 9223372036854775807 := by omega
  clear ha hb hla hlb hL hA hn a1 a2 b1 b2 hm hn2
  go_enter Tryz.func7, Tryz.ntmps7
  go_upto_region 1 with fail
  go_quiet (fail)
  have S0 := Lib.hid (show Ahead w.heap.size 0 w ((w.drewN nq).alloc (.cells #[.slice none 0 0, .slice none 0 0] 76)) ⟨[], []⟩ from Ahead.mk (show SB w.heap.size (w.drewN nq).heap.size ((w.drewN nq).alloc (.cells #[.slice none 0 0, .slice none 0 0] 76)) ⟨[], []⟩ from SB.new (SOwn.nil _ _) (Nat.le_refl _)) ((bel_drewN nq (Below.refl _ _)).alloc (Nat.le_refl _) _) empty_may empty_good)
  go_wp2
  go_loopw [8] (fun i wr => ∃ (k : Nat) (s : St), k ≤ L.length ∧ k ≤ 6 ∧ i = .int .i64 k ∧ Ahead w.heap.size k w wr s) (fun i _ => 6 - (intOf i).toNat)
  case atStart => exact ⟨0, _, Nat.zero_le _, by omega, rfl, S0.out⟩
  case round =>
    obtain ⟨k, s, hk, hk6, rfl, hb⟩ := hrel
    have HB := Lib.hid hb
    clear hb S0
    have i1 : (0 : Int) ≤ (k : Int) := by omega
    have i2 : (k : Int) ≤ 6 := by omega
    go_upto_region 4 with fail
    go_cut [34] from 27 to 33 (fun t wd => t = .bool (decide (k < L.length ∧ k < 6)) ∧ wd = wr)
    case first =>
      by_cases h1 : k < L.length
      · have j1 : (k : Int) < (L.length : Int) := by omega
        by_cases h2 : k < 6
        · have j2 : (k : Int) < 6 := by omega
          go_wp2_with fail
          go_meet
          exact ⟨by simp [h1, h2], rfl⟩
        · have j2 : ¬ (k : Int) < 6 := by omega
          go_wp2_with fail
          go_meet
          exact ⟨by simp [h2], rfl⟩
      · have j1 : ¬ (k : Int) < (L.length : Int) := by omega
        go_wp2_with fail
        go_meet
        exact ⟨by simp [h1], rfl⟩
    obtain ⟨rfl, hwc⟩ := hcut
    obtain rfl : wr = wc := hwc.symm
    by_cases hlt : k < L.length ∧ k < 6
    · have ht : decide (k < L.length ∧ k < 6) = true := decide_eq_true hlt
      rw [ht]
      clear ht
      obtain ⟨hl, h6⟩ := hlt
      obtain ⟨b, off, rfl, lb, cb⟩ := HA.out (by omega)
      obtain ⟨lv, r1, r2⟩ := cb k hl
      have WL := Lib.hid (HL.out _ (List.getElem_mem hl))
      generalize L[k] = l at *
      obtain ⟨Al, cl, el, q1, q2⟩ := id r2
      subst el
      have r3 := Lib.hid (show ∀ W, Below w.heap.size w W → W.cell? ⟨b, off + k, none⟩ = some (.slice Al l.length cl) from fun W hB => (hB.cell (p := ⟨b, off + k, none⟩) lb).trans r1)
      obtain ⟨ml, hml⟩ : ∃ m : Nat, m = min l.length 40 := ⟨_, rfl⟩
      have mm : min (l.length : Int) 40 = (ml : Int) := by omega
      have m1 : (ml : Int) ≤ (cl : Int) := by omega
      have m2 : (l.take ml).length ≤ 40 := by rw [List.length_take]; omega
      have CL := Lib.hid (CO.cut (m := ml) r2 (by omega)).so
      have WT := Lib.hid (take_wide WL.out ml)
      have i0 : (k : Int) < (L.length : Int) := by omega
      have i6 : (k : Int) < 6 := by omega
      clear r1 r2 cb hml
      generalize l.take ml = T at *
      obtain ⟨A1, c1, A2, c2, hx1, hx2⟩ := HB.out.box.at
      have X1 := Lib.hid hx1
      have CA6 := Lib.hid (fun W (hb : Below wr.heap.size wr W) => apply_ae (nn := 80 * k) (mm := 40 * k) (hx2.below hb) HB.out.good (by omega) (CL.out.below (HB.out.bel.trans (hb.mono HB.out.bel.size))) WT.out)
      have K6 := Lib.hid (show ∀ w', Below wr.heap.size wr w' → (∀ j, w'.cell? ⟨w.heap.size, j, none⟩ = #[.slice A1 s.ns.length c1, .slice A2 s.es.length c2][j]?) ∧ w'.cell? ⟨b, off + k, none⟩ = some (.slice Al l.length cl) from fun w' hb => ⟨(hx1.below hb).c, r3.out _ (HB.out.bel.trans (hb.mono HB.out.bel.size))⟩)
      clear hx1 hx2
      go_upto_region 6 with fail
      go_cut [9, 10] from 37 to 52 (fun t1 t2 wd => ∃ p n z, t1 = .pointer (some ⟨p, 0, none⟩) ∧ t2 = .int .i64 n ∧ SB wr.heap.size p wd z ∧ Below wr.heap.size wr wd ∧ BApplied s T n z ∧ (n ≠ 0 → z = ⟨[], []⟩))
      case first =>
        refine wp_region_held_drew (S := (fun w' => (∀ j, w'.cell? ⟨w.heap.size, j, none⟩ = #[.slice A1 s.ns.length c1, .slice A2 s.es.length c2][j]?) ∧ w'.cell? ⟨b, off + k, none⟩ = some (.slice Al l.length cl))) (by kernel_rfl) (K6.out _ (Below.refl _ _).drew) (fun hHeld => ?_)
        refine take_in (i := 0) (v := ?_) (some 38) rfl rfl (by kernel_rfl) (by kernel_rfl) (by kernel_rfl) (fun _ _ _ h => h) (Or.inl ⟨by rfl, ?_⟩) (by assumption) ?_
        rotate_left
        · (intro w hSw; (try dsimp only at hSw); (try go_split_ands); go_simp; try with_reducible rfl)
        try simp only [Act.put, setIfInBounds_toArray, set_cons_zero, set_cons_succ]
        refine take_in (i := 1) (v := ?_) (some 39) rfl rfl (by kernel_rfl) (by kernel_rfl) (by kernel_rfl) (fun _ _ _ h => h) (Or.inl ⟨by rfl, ?_⟩) (by assumption) ?_
        rotate_left
        · (intro w hSw; (try dsimp only at hSw); (try go_split_ands); go_simp; try with_reducible rfl)
        try simp only [Act.put, setIfInBounds_toArray, set_cons_zero, set_cons_succ]
        refine take_in (i := 2) (v := ?_) (some 40) rfl rfl (by kernel_rfl) (by kernel_rfl) (by kernel_rfl) (fun _ _ _ h => h) (Or.inl ⟨by rfl, ?_⟩) (by assumption) ?_
        rotate_left
        · (intro w hSw; (try dsimp only at hSw); (try go_split_ands); go_simp; try with_reducible rfl)
        try simp only [Act.put, setIfInBounds_toArray, set_cons_zero, set_cons_succ]
        refine take_in (i := 3) (v := ?_) (some 41) rfl rfl (by kernel_rfl) (by kernel_rfl) (by kernel_rfl) (fun _ _ _ h => h) (Or.inl ⟨by rfl, ?_⟩) (by assumption) ?_
        rotate_left
        · (intro w hSw; (try dsimp only at hSw); (try go_split_ands); go_simp; try with_reducible rfl)
        try simp only [Act.put, setIfInBounds_toArray, set_cons_zero, set_cons_succ]
        refine take_in (i := 4) (v := ?_) (some 42) rfl rfl (by kernel_rfl) (by kernel_rfl) (by kernel_rfl) (fun _ _ _ h => h) (Or.inl ⟨by rfl, ?_⟩) (by assumption) ?_
        rotate_left
        · (intro w hSw; (try dsimp only at hSw); (try go_split_ands); go_simp; try with_reducible rfl)
        try simp only [Act.put, setIfInBounds_toArray, set_cons_zero, set_cons_succ]
        refine take_in (i := 5) (v := ?_) (some 43) rfl rfl (by kernel_rfl) (by kernel_rfl) (by kernel_rfl) (fun _ _ _ h => h) (Or.inl ⟨by rfl, ?_⟩) (by assumption) ?_
        rotate_left
        · (intro w hSw; (try dsimp only at hSw); (try go_split_ands); go_simp; try with_reducible rfl)
        try simp only [Act.put, setIfInBounds_toArray, set_cons_zero, set_cons_succ]
        refine take_in (i := 6) (v := ?_) (some 44) rfl rfl (by kernel_rfl) (by kernel_rfl) (by kernel_rfl) (fun _ _ _ h => h) (Or.inl ⟨by rfl, ?_⟩) (by assumption) ?_
        rotate_left
        · (intro w hSw; (try dsimp only at hSw); (try go_split_ands); go_simp; try with_reducible rfl)
        try simp only [Act.put, setIfInBounds_toArray, set_cons_zero, set_cons_succ]
        refine take_in (i := 7) (v := ?_) (some 45) rfl rfl (by kernel_rfl) (by kernel_rfl) (by kernel_rfl) (fun _ _ _ h => h) (Or.inl ⟨by rfl, ?_⟩) (by assumption) ?_
        rotate_left
        · (intro w hSw; (try dsimp only at hSw); (try go_split_ands); go_simp; try with_reducible rfl)
        try simp only [Act.put, setIfInBounds_toArray, set_cons_zero, set_cons_succ]
        refine take_in (i := 8) (v := ?_) (some 46) rfl rfl (by kernel_rfl) (by kernel_rfl) (by kernel_rfl) (fun _ _ _ h => h) (Or.inl ⟨by rfl, ?_⟩) (by assumption) ?_
        rotate_left
        · (intro w hSw; (try dsimp only at hSw); (try go_split_ands); go_simp; try with_reducible rfl)
        try simp only [Act.put, setIfInBounds_toArray, set_cons_zero, set_cons_succ]
        refine take_in (i := 9) (v := ?_) (some 47) rfl rfl (by kernel_rfl) (by kernel_rfl) (by kernel_rfl) (fun _ _ _ h => h) (Or.inl ⟨by rfl, ?_⟩) (by assumption) ?_
        rotate_left
        · (intro w hSw; (try dsimp only at hSw); (try go_split_ands); go_simp; try with_reducible rfl)
        try simp only [Act.put, setIfInBounds_toArray, set_cons_zero, set_cons_succ]
        refine take_in (i := 10) (v := ?_) (some 48) rfl rfl (by kernel_rfl) (by kernel_rfl) (by kernel_rfl) (fun _ _ _ h => h) (Or.inl ⟨by rfl, ?_⟩) (by assumption) ?_
        rotate_left
        · (intro w hSw; (try dsimp only at hSw); (try go_split_ands); go_simp; try with_reducible rfl)
        try simp only [Act.put, setIfInBounds_toArray, set_cons_zero, set_cons_succ]
        refine take_in (i := 11) (v := ?_) (some 49) rfl rfl (by kernel_rfl) (by kernel_rfl) (by kernel_rfl) (fun _ _ _ h => h) (Or.inl ⟨by rfl, ?_⟩) (by assumption) ?_
        rotate_left
        · (intro w hSw; (try dsimp only at hSw); (try go_split_ands); go_simp; try with_reducible rfl)
        try simp only [Act.put, setIfInBounds_toArray, set_cons_zero, set_cons_succ]
        refine wpAnyH_ready (rs := [12, 16]) (by kernel_rfl) (by simp) ?_
        refine (AllReadyH.cons rfl (fun K hK => ?_) (AllReadyH.cons rfl (fun K hK => ?_) AllReadyH.nil))
        · go_simp
          (with_reducible refine (CA6.out _ (show Below wr.heap.size wr wr.drew from (Below.refl _ _).drew)).mono ?_)
          rintro e wR6Z ⟨A3, n3, c3, A4, n4, c4, nnR6, z, rfl, hb, ho, hq, hz⟩
          have HR6Z := Lib.hid ((show Below wr.heap.size wr wr.drew from (Below.refl _ _).drew).trans (hb.mono (show Below wr.heap.size wr wr.drew from (Below.refl _ _).drew).size))
          have HQR6 := Lib.hid hq
          have HZR6 := Lib.hid hz
          have OWZ := Lib.hid (ho.mono (show Below wr.heap.size wr wr.drew from (Below.refl _ _).drew).size)
          clear hb hq hz ho
          go_wp2_with fail
          refine hK.out _ _ (K6.out _ HR6Z.out) (fun hHeld => ?_)
          clear hK K
          try simp only [Act.put, setIfInBounds_toArray, set_cons_zero, set_cons_succ]
          refine take_in (i := 13) (v := ?_) (some 37) rfl rfl (by kernel_rfl) (by kernel_rfl) (by kernel_rfl) (fun _ _ _ h => h) (Or.inl ⟨by rfl, ?_⟩) (by assumption) ?_
          rotate_left
          · (intro w hSw; (try dsimp only at hSw); (try go_split_ands); go_simp; try with_reducible rfl)
          try simp only [Act.put, setIfInBounds_toArray, set_cons_zero, set_cons_succ]
          refine take_in (i := 14) (v := ?_) (some 51) rfl rfl (by kernel_rfl) (by kernel_rfl) (by kernel_rfl) (fun _ _ _ h => h) (Or.inl ⟨by rfl, ?_⟩) (by assumption) ?_
          rotate_left
          · (intro w hSw; (try dsimp only at hSw); (try go_split_ands); go_simp; try with_reducible rfl)
          try simp only [Act.put, setIfInBounds_toArray, set_cons_zero, set_cons_succ]
          refine take_in (i := 15) (v := ?_) (some 52) rfl rfl (by kernel_rfl) (by kernel_rfl) (by kernel_rfl) (fun _ _ _ h => h) (Or.inl ⟨by rfl, ?_⟩) (by assumption) ?_
          rotate_left
          · (intro w hSw; (try dsimp only at hSw); (try go_split_ands); go_simp; try with_reducible rfl)
          try simp only [Act.put, setIfInBounds_toArray, set_cons_zero, set_cons_succ]
          refine wpAnyH_ready (rs := [16]) (by kernel_rfl) (by simp) ?_
          refine (AllReadyH.cons rfl (fun K hK => ?_) AllReadyH.nil)
          go_simp
          refine hK.out _ _ (K6.out _ (HR6Z.out.alloc HR6Z.out.size _)) (fun hHeld => ?_)
          clear hK K
          try simp only [Act.put, setIfInBounds_toArray, set_cons_zero, set_cons_succ]
          obtain ⟨wR6ZA, hWR6⟩ : ∃ W, wR6Z.alloc (.cells #[.slice none 0 0, .slice none 0 0] 76) = W := ⟨_, rfl⟩
          have HR6ZA := Lib.hid (show Below wr.heap.size wr wR6ZA by rw [← hWR6]; exact HR6Z.out.alloc HR6Z.out.size _)
          have YBZA := Lib.hid (show Bx wR6ZA wR6Z.heap.size #[.slice none 0 0, .slice none 0 0] by rw [← hWR6]; exact Bx.new wR6Z _ _)
          have YTZA := Lib.hid (show Blk 76 wR6ZA wR6Z.heap.size by rw [← hWR6]; exact Blk.new wR6Z _ _)
          have hbA : Below wR6Z.heap.size wR6Z wR6ZA := by rw [← hWR6]; exact (Below.refl _ _).alloc (Nat.le_refl _) _
          have OWZA := Lib.hid (OWZ.out.below hbA)
          have y2 := YBZA.out.c
          have y3 := YBZA.out.fr
          clear hbA
          try rw [hWR6] at hHeld
          try rw [hWR6]
          clear hWR6
          refine wpAnyH_ready (rs := [17]) (by kernel_rfl) (by simp) ?_
          refine (AllReadyH.cons rfl (fun K hK => ?_) AllReadyH.nil)
          go_simp
          refine hK.out _ _ (K6.out _ (HR6ZA.out.grown (put2 YBZA.out _ _).2 HR6ZA.out.size fun q hq => by have e := Option.some.inj hq; have h1 : wr.heap.size ≤ q := (by rw [← e]; exact HR6Z.out.size); exact h1)) (fun hHeld => ?_)
          clear hK K
          try simp only [Act.put, setIfInBounds_toArray, set_cons_zero, set_cons_succ]
          clear y2 y3
          refine take_in (i := 18) (v := ?_) (some 10) rfl rfl (by kernel_rfl) (by kernel_rfl) (by kernel_rfl) (fun _ _ _ h => h) (Or.inl ⟨by rfl, ?_⟩) (by assumption) ?_
          rotate_left
          · (intro w hSw; (try dsimp only at hSw); (try go_split_ands); go_simp; try with_reducible rfl)
          try simp only [Act.put, setIfInBounds_toArray, set_cons_zero, set_cons_succ]
          refine wpAnyH_done (by kernel_rfl) ?_ _
          obtain ⟨W9, hW9, X9, G9⟩ := SB.fill YBZA.out YTZA.out HR6Z.out.size OWZA.out
          rw [hW9]
          have HX9 := Lib.hid X9
          have HG9 := Lib.hid (HR6ZA.out.grown G9 HR6ZA.out.size fun q hq => by have e := Option.some.inj hq; have h1 : wr.heap.size ≤ q := (by rw [← e]; exact HR6Z.out.size); exact h1)
          clear hW9 X9 G9
          go_wp2_with fail
          go_meet
          exact ⟨_, _, _, rfl, rfl, HX9.out, HG9.out, HQR6.out, HZR6.out⟩
        · go_simp
          refine hK.out _ _ (K6.out _ ((show Below wr.heap.size wr wr.drew from (Below.refl _ _).drew).alloc (show Below wr.heap.size wr wr.drew from (Below.refl _ _).drew).size _)) (fun hHeld => ?_)
          clear hK K
          try simp only [Act.put, setIfInBounds_toArray, set_cons_zero, set_cons_succ]
          obtain ⟨wR6A, hWR6⟩ : ∃ W, (wr.alloc (.cells #[.slice none 0 0, .slice none 0 0] 76)).drew = W := ⟨_, rfl⟩
          have HR6A := Lib.hid (show Below wr.heap.size wr wR6A by rw [← hWR6]; exact ((Below.refl _ _).alloc (Nat.le_refl _) _).drew)
          have YBA := Lib.hid (show Bx wR6A wr.heap.size #[.slice none 0 0, .slice none 0 0] by rw [← hWR6]; exact (Bx.new wr _ _).below (Below.refl _ _).drew)
          have YTA := Lib.hid (show Blk 76 wR6A wr.heap.size by rw [← hWR6]; exact (Blk.new wr _ _).below (Below.refl _ _).drew)
          try rw [hWR6] at hHeld
          try rw [hWR6]
          clear hWR6
          refine wpAnyH_ready (rs := [12]) (by kernel_rfl) (by simp) ?_
          refine (AllReadyH.cons rfl (fun K hK => ?_) AllReadyH.nil)
          go_simp
          (with_reducible refine (CA6.out _ HR6A.out).mono ?_)
          rintro e wR6AZ ⟨A3, n3, c3, A4, n4, c4, nnR6, z, rfl, hb, ho, hq, hz⟩
          have HR6AZ := Lib.hid (HR6A.out.trans (hb.mono HR6A.out.size))
          have HQR6 := Lib.hid hq
          have HZR6 := Lib.hid hz
          have OWAZ := Lib.hid (ho.mono HR6A.out.size)
          have YBAZ := Lib.hid (YBA.out.below hb)
          have YTAZ := Lib.hid (YTA.out.below hb)
          have y2 := YBAZ.out.c
          have y3 := YBAZ.out.fr
          clear hb hq hz ho
          go_wp2_with fail
          refine hK.out _ _ (K6.out _ HR6AZ.out) (fun hHeld => ?_)
          clear hK K
          try simp only [Act.put, setIfInBounds_toArray, set_cons_zero, set_cons_succ]
          refine take_in (i := 13) (v := ?_) (some 37) rfl rfl (by kernel_rfl) (by kernel_rfl) (by kernel_rfl) (fun _ _ _ h => h) (Or.inl ⟨by rfl, ?_⟩) (by assumption) ?_
          rotate_left
          · (intro w hSw; (try dsimp only at hSw); (try go_split_ands); go_simp; try with_reducible rfl)
          try simp only [Act.put, setIfInBounds_toArray, set_cons_zero, set_cons_succ]
          refine take_in (i := 14) (v := ?_) (some 51) rfl rfl (by kernel_rfl) (by kernel_rfl) (by kernel_rfl) (fun _ _ _ h => h) (Or.inl ⟨by rfl, ?_⟩) (by assumption) ?_
          rotate_left
          · (intro w hSw; (try dsimp only at hSw); (try go_split_ands); go_simp; try with_reducible rfl)
          try simp only [Act.put, setIfInBounds_toArray, set_cons_zero, set_cons_succ]
          refine take_in (i := 15) (v := ?_) (some 52) rfl rfl (by kernel_rfl) (by kernel_rfl) (by kernel_rfl) (fun _ _ _ h => h) (Or.inl ⟨by rfl, ?_⟩) (by assumption) ?_
          rotate_left
          · (intro w hSw; (try dsimp only at hSw); (try go_split_ands); go_simp; try with_reducible rfl)
          try simp only [Act.put, setIfInBounds_toArray, set_cons_zero, set_cons_succ]
          refine wpAnyH_ready (rs := [17]) (by kernel_rfl) (by simp) ?_
          refine (AllReadyH.cons rfl (fun K hK => ?_) AllReadyH.nil)
          go_simp
          refine hK.out _ _ (K6.out _ (HR6AZ.out.grown (put2 YBAZ.out _ _).2 HR6AZ.out.size fun q hq => by have e := Option.some.inj hq; have h1 : wr.heap.size ≤ q := (by rw [← e]; exact (Nat.le_refl _)); exact h1)) (fun hHeld => ?_)
          clear hK K
          try simp only [Act.put, setIfInBounds_toArray, set_cons_zero, set_cons_succ]
          clear y2 y3
          refine take_in (i := 18) (v := ?_) (some 10) rfl rfl (by kernel_rfl) (by kernel_rfl) (by kernel_rfl) (fun _ _ _ h => h) (Or.inl ⟨by rfl, ?_⟩) (by assumption) ?_
          rotate_left
          · (intro w hSw; (try dsimp only at hSw); (try go_split_ands); go_simp; try with_reducible rfl)
          try simp only [Act.put, setIfInBounds_toArray, set_cons_zero, set_cons_succ]
          refine wpAnyH_done (by kernel_rfl) ?_ _
          obtain ⟨W9, hW9, X9, G9⟩ := SB.fill YBAZ.out YTAZ.out (Nat.le_refl _) OWAZ.out
          rw [hW9]
          have HX9 := Lib.hid X9
          have HG9 := Lib.hid (HR6AZ.out.grown G9 HR6AZ.out.size fun q hq => by have e := Option.some.inj hq; have h1 : wr.heap.size ≤ q := (by rw [← e]; exact (Nat.le_refl _)); exact h1)
          clear hW9 X9 G9
          go_wp2_with fail
          go_meet
          exact ⟨_, _, _, rfl, rfl, HX9.out, HG9.out, HQR6.out, HZR6.out⟩
      obtain ⟨p9, n9, z, rfl, rfl, hbx, hbc, hq, hz⟩ := hcut
      have AHc := Lib.hid (HB.out.below hbc)
      have HQ := Lib.hid hq
      obtain ⟨A3, c3, A4, c4, hy1, hy2, hy3⟩ := hbx.sat
      have X7 := Lib.hid (X1.out.below hbc)
      by_cases h0 : n9 = 0
      · subst h0
        have OZ := Lib.hid (show SOwn w.heap.size wc (.agg #[.slice A3 z.ns.length c3, .slice A4 z.es.length c4]) z from ⟨_, _, rfl, hy2.mono HB.out.bel.size, hy3.mono HB.out.bel.size⟩)
        have y0 := hy1.c
        have x0 := X7.out.c
        have x1 := X7.out.fr
        clear hbx hbc hq hz hy1 hy2 hy3 K6 CA6
        go_wp2_with fail
        obtain ⟨W9, hW9, X9, G9⟩ := SB.fill X7.out AHc.out.box.blk (Nat.le_refl _) OZ.out
        rw [hW9]
        obtain ⟨_, _, zm⟩ := HQ.out.ok
        exact ⟨⟨k + 1, z, by omega, by omega, by go_num, X9, AHc.out.bel.grown G9 AHc.out.bel.size (fun q hq => by have e := Option.some.inj hq; omega), zm, (HQ.out.good HB.out.good).mono (by omega) (by omega)⟩, by simp [intOf]; omega⟩
      · clear hbx hbc hq hz hy1 hy2 hy3 K6 CA6
        go_wp2_with fail
        exact ⟨⟨k + 1, s, by omega, by omega, by go_num, AHc.out.next⟩, by simp [intOf]; omega⟩
    · have ht : decide (k < L.length ∧ k < 6) = false := decide_eq_false hlt
      rw [ht]
      clear ht hlt
      have HB6 := Lib.hid (show s.good 480 240 from HB.out.good.mono (by omega) (by omega))
      have HOK := Lib.hid (HB6.out.ok (by omega))
      obtain ⟨A1, c1, A2, c2, hx1, hx2⟩ := HB.out.box.at
      have X1 := Lib.hid hx1
      have S1 := Lib.hid hx2
      have lxy : X.length ≤ 40 ∧ Y.length ≤ 40 := by omega
      have CA9 := Lib.hid (fun W v (hb : Below wr.heap.size wr W) (ho : Co.OwnO wr.heap.size W v (X ++ Y)) => apply_ae (hx2.below hb) HB6.out (by omega) ho.so (fun o ho => by rcases List.mem_append.1 ho with h | h; exact WA.out o h; exact WB.out o h))
      have K9 := Lib.hid (show ∀ w', Below wr.heap.size wr w' → ∀ j, w'.cell? ⟨w.heap.size, j, none⟩ = #[.slice A1 s.ns.length c1, .slice A2 s.es.length c2][j]? from fun w' hb => (hx1.below hb).c)
      clear hx1 hx2
      go_upto_region 9 with fail
      go_cut [11, 12] from 56 to 64 (fun t1 t2 wd => ∃ p n z, t1 = .pointer (some ⟨p, 0, none⟩) ∧ t2 = .int .i64 n ∧ SB wr.heap.size p wd z ∧ Below wr.heap.size wr wd ∧ BApplied s (X ++ Y) n z ∧ (n ≠ 0 → z = ⟨[], []⟩))
      case first =>
        refine wp_region_held_drew (S := (fun w' => ∀ j, w'.cell? ⟨w.heap.size, j, none⟩ = #[.slice A1 s.ns.length c1, .slice A2 s.es.length c2][j]?)) (by kernel_rfl) (K9.out _ (Below.refl _ _).drew) (fun hHeld => ?_)
        refine take_in (i := 0) (v := ?_) (some 57) rfl rfl (by kernel_rfl) (by kernel_rfl) (by kernel_rfl) (fun _ _ _ h => h) (Or.inl ⟨by rfl, ?_⟩) (by assumption) ?_
        rotate_left
        · (intro w hSw; (try dsimp only at hSw); (try go_split_ands); go_simp; try with_reducible rfl)
        try simp only [Act.put, setIfInBounds_toArray, set_cons_zero, set_cons_succ]
        refine take_in (i := 1) (v := ?_) (some 58) rfl rfl (by kernel_rfl) (by kernel_rfl) (by kernel_rfl) (fun _ _ _ h => h) (Or.inl ⟨by rfl, ?_⟩) (by assumption) ?_
        rotate_left
        · (intro w hSw; (try dsimp only at hSw); (try go_split_ands); go_simp; try with_reducible rfl)
        try simp only [Act.put, setIfInBounds_toArray, set_cons_zero, set_cons_succ]
        refine take_in (i := 3) (v := ?_) (some 60) rfl rfl (by kernel_rfl) (by kernel_rfl) (by kernel_rfl) (fun _ _ _ h => h) (Or.inl ⟨by rfl, ?_⟩) (by assumption) ?_
        rotate_left
        · (intro w hSw; (try dsimp only at hSw); (try go_split_ands); go_simp; try with_reducible rfl)
        try simp only [Act.put, setIfInBounds_toArray, set_cons_zero, set_cons_succ]
        refine wpAnyH_ready (rs := [2, 9]) (by kernel_rfl) (by simp) ?_
        refine (AllReadyH.cons rfl (fun K hK => ?_) (AllReadyH.cons rfl (fun K hK => ?_) AllReadyH.nil))
        · refine Co.step_appOs rfl (.const (.slice none 0 0)) (.tmp 58) rfl wr.heap.size _ [] rfl (World.ownsRow_nil _ _ _ 14) _ X rfl (CA.out.below (HB.out.bel.trans (((show Below wr.heap.size wr wr.drew from (Below.refl _ _).drew)).mono HB.out.bel.size))) (by (try simp only [List.length_nil]); omega) (show Below wr.heap.size wr wr.drew from (Below.refl _ _).drew).size ?_
          intro vR9a wR9a ho hb hg
          have hb2 : Below wr.heap.size wr wR9a := ((show Below wr.heap.size wr wr.drew from (Below.refl _ _).drew)).trans hb
          have HR9a := Lib.hid hb2
          have OAa := Lib.hid ho
          clear ho hb hb2 hg
          refine hK.out _ _ (K9.out _ HR9a.out) (fun hHeld => ?_)
          clear hK K
          try simp only [Act.put, setIfInBounds_toArray, set_cons_zero, set_cons_succ]
          refine wpAnyH_ready (rs := [4, 9]) (by kernel_rfl) (by simp) ?_
          refine (AllReadyH.cons rfl (fun K hK => ?_) (AllReadyH.cons rfl (fun K hK => ?_) AllReadyH.nil))
          · refine Co.step_appOs rfl (.tmp 59) (.tmp 60) rfl wr.heap.size _ X rfl OAa.out _ Y rfl (CB.out.below (HB.out.bel.trans ((HR9a.out).mono HB.out.bel.size))) (by (try simp only [List.length_nil]); omega) HR9a.out.size ?_
            intro vR9ab wR9ab ho hb hg
            have hb2 : Below wr.heap.size wr wR9ab := (HR9a.out).trans hb
            have HR9ab := Lib.hid hb2
            have OAab := Lib.hid ho
            clear ho hb hb2 hg
            refine hK.out _ _ (K9.out _ HR9ab.out) (fun hHeld => ?_)
            clear hK K
            try simp only [Act.put, setIfInBounds_toArray, set_cons_zero, set_cons_succ]
            refine wpAnyH_ready (rs := [5, 9]) (by kernel_rfl) (by simp) ?_
            refine (AllReadyH.cons rfl (fun K hK => ?_) (AllReadyH.cons rfl (fun K hK => ?_) AllReadyH.nil))
            · go_simp
              (with_reducible refine (CA9.out _ _ HR9ab.out OAab.out).mono ?_)
              rintro e wR9abZ ⟨A3, n3, c3, A4, n4, c4, nnR9, z, rfl, hb, ho, hq, hz⟩
              have HR9abZ := Lib.hid (HR9ab.out.trans (hb.mono HR9ab.out.size))
              have HQR9 := Lib.hid hq
              have HZR9 := Lib.hid hz
              have OWabZ := Lib.hid (ho.mono HR9ab.out.size)
              clear hb hq hz ho
              go_wp2_with fail
              refine hK.out _ _ (K9.out _ HR9abZ.out) (fun hHeld => ?_)
              clear hK K
              try simp only [Act.put, setIfInBounds_toArray, set_cons_zero, set_cons_succ]
              refine take_in (i := 6) (v := ?_) (some 56) rfl rfl (by kernel_rfl) (by kernel_rfl) (by kernel_rfl) (fun _ _ _ h => h) (Or.inl ⟨by rfl, ?_⟩) (by assumption) ?_
              rotate_left
              · (intro w hSw; (try dsimp only at hSw); (try go_split_ands); go_simp; try with_reducible rfl)
              try simp only [Act.put, setIfInBounds_toArray, set_cons_zero, set_cons_succ]
              refine take_in (i := 7) (v := ?_) (some 63) rfl rfl (by kernel_rfl) (by kernel_rfl) (by kernel_rfl) (fun _ _ _ h => h) (Or.inl ⟨by rfl, ?_⟩) (by assumption) ?_
              rotate_left
              · (intro w hSw; (try dsimp only at hSw); (try go_split_ands); go_simp; try with_reducible rfl)
              try simp only [Act.put, setIfInBounds_toArray, set_cons_zero, set_cons_succ]
              refine take_in (i := 8) (v := ?_) (some 64) rfl rfl (by kernel_rfl) (by kernel_rfl) (by kernel_rfl) (fun _ _ _ h => h) (Or.inl ⟨by rfl, ?_⟩) (by assumption) ?_
              rotate_left
              · (intro w hSw; (try dsimp only at hSw); (try go_split_ands); go_simp; try with_reducible rfl)
              try simp only [Act.put, setIfInBounds_toArray, set_cons_zero, set_cons_succ]
              refine wpAnyH_ready (rs := [9]) (by kernel_rfl) (by simp) ?_
              refine (AllReadyH.cons rfl (fun K hK => ?_) AllReadyH.nil)
              go_simp
              refine hK.out _ _ (K9.out _ (HR9abZ.out.alloc HR9abZ.out.size _)) (fun hHeld => ?_)
              clear hK K
              try simp only [Act.put, setIfInBounds_toArray, set_cons_zero, set_cons_succ]
              obtain ⟨wR9abZA, hWR9⟩ : ∃ W, wR9abZ.alloc (.cells #[.slice none 0 0, .slice none 0 0] 76) = W := ⟨_, rfl⟩
              have HR9abZA := Lib.hid (show Below wr.heap.size wr wR9abZA by rw [← hWR9]; exact HR9abZ.out.alloc HR9abZ.out.size _)
              have YBabZA := Lib.hid (show Bx wR9abZA wR9abZ.heap.size #[.slice none 0 0, .slice none 0 0] by rw [← hWR9]; exact Bx.new wR9abZ _ _)
              have YTabZA := Lib.hid (show Blk 76 wR9abZA wR9abZ.heap.size by rw [← hWR9]; exact Blk.new wR9abZ _ _)
              have hbA : Below wR9abZ.heap.size wR9abZ wR9abZA := by rw [← hWR9]; exact (Below.refl _ _).alloc (Nat.le_refl _) _
              have OWabZA := Lib.hid (OWabZ.out.below hbA)
              have y2 := YBabZA.out.c
              have y3 := YBabZA.out.fr
              clear hbA
              try rw [hWR9] at hHeld
              try rw [hWR9]
              clear hWR9
              refine wpAnyH_ready (rs := [10]) (by kernel_rfl) (by simp) ?_
              refine (AllReadyH.cons rfl (fun K hK => ?_) AllReadyH.nil)
              go_simp
              refine hK.out _ _ (K9.out _ (HR9abZA.out.grown (put2 YBabZA.out _ _).2 HR9abZA.out.size fun q hq => by have e := Option.some.inj hq; have h1 : wr.heap.size ≤ q := (by rw [← e]; exact HR9abZ.out.size); exact h1)) (fun hHeld => ?_)
              clear hK K
              try simp only [Act.put, setIfInBounds_toArray, set_cons_zero, set_cons_succ]
              clear y2 y3
              refine take_in (i := 11) (v := ?_) (some 12) rfl rfl (by kernel_rfl) (by kernel_rfl) (by kernel_rfl) (fun _ _ _ h => h) (Or.inl ⟨by rfl, ?_⟩) (by assumption) ?_
              rotate_left
              · (intro w hSw; (try dsimp only at hSw); (try go_split_ands); go_simp; try with_reducible rfl)
              try simp only [Act.put, setIfInBounds_toArray, set_cons_zero, set_cons_succ]
              refine wpAnyH_done (by kernel_rfl) ?_ _
              obtain ⟨W9, hW9, X9, G9⟩ := SB.fill YBabZA.out YTabZA.out HR9abZ.out.size OWabZA.out
              rw [hW9]
              have HX9 := Lib.hid X9
              have HG9 := Lib.hid (HR9abZA.out.grown G9 HR9abZA.out.size fun q hq => by have e := Option.some.inj hq; have h1 : wr.heap.size ≤ q := (by rw [← e]; exact HR9abZ.out.size); exact h1)
              clear hW9 X9 G9
              go_wp2_with fail
              go_meet
              exact ⟨_, _, _, rfl, rfl, HX9.out, HG9.out, HQR9.out, HZR9.out⟩
            · go_simp
              refine hK.out _ _ (K9.out _ (HR9ab.out.alloc HR9ab.out.size _)) (fun hHeld => ?_)
              clear hK K
              try simp only [Act.put, setIfInBounds_toArray, set_cons_zero, set_cons_succ]
              obtain ⟨wR9abA, hWR9⟩ : ∃ W, wR9ab.alloc (.cells #[.slice none 0 0, .slice none 0 0] 76) = W := ⟨_, rfl⟩
              have HR9abA := Lib.hid (show Below wr.heap.size wr wR9abA by rw [← hWR9]; exact HR9ab.out.alloc HR9ab.out.size _)
              have YBabA := Lib.hid (show Bx wR9abA wR9ab.heap.size #[.slice none 0 0, .slice none 0 0] by rw [← hWR9]; exact Bx.new wR9ab _ _)
              have YTabA := Lib.hid (show Blk 76 wR9abA wR9ab.heap.size by rw [← hWR9]; exact Blk.new wR9ab _ _)
              have hbA : Below wR9ab.heap.size wR9ab wR9abA := by rw [← hWR9]; exact (Below.refl _ _).alloc (Nat.le_refl _) _
              have OAabA := Lib.hid (OAab.out.below hbA)
              clear hbA
              try rw [hWR9] at hHeld
              try rw [hWR9]
              clear hWR9
              refine wpAnyH_ready (rs := [5]) (by kernel_rfl) (by simp) ?_
              refine (AllReadyH.cons rfl (fun K hK => ?_) AllReadyH.nil)
              go_simp
              (with_reducible refine (CA9.out _ _ HR9abA.out OAabA.out).mono ?_)
              rintro e wR9abAZ ⟨A3, n3, c3, A4, n4, c4, nnR9, z, rfl, hb, ho, hq, hz⟩
              have HR9abAZ := Lib.hid (HR9abA.out.trans (hb.mono HR9abA.out.size))
              have HQR9 := Lib.hid hq
              have HZR9 := Lib.hid hz
              have OWabAZ := Lib.hid (ho.mono HR9abA.out.size)
              have YBabAZ := Lib.hid (YBabA.out.below hb)
              have YTabAZ := Lib.hid (YTabA.out.below hb)
              have y2 := YBabAZ.out.c
              have y3 := YBabAZ.out.fr
              clear hb hq hz ho
              go_wp2_with fail
              refine hK.out _ _ (K9.out _ HR9abAZ.out) (fun hHeld => ?_)
              clear hK K
              try simp only [Act.put, setIfInBounds_toArray, set_cons_zero, set_cons_succ]
              refine take_in (i := 6) (v := ?_) (some 56) rfl rfl (by kernel_rfl) (by kernel_rfl) (by kernel_rfl) (fun _ _ _ h => h) (Or.inl ⟨by rfl, ?_⟩) (by assumption) ?_
              rotate_left
              · (intro w hSw; (try dsimp only at hSw); (try go_split_ands); go_simp; try with_reducible rfl)
              try simp only [Act.put, setIfInBounds_toArray, set_cons_zero, set_cons_succ]
              refine take_in (i := 7) (v := ?_) (some 63) rfl rfl (by kernel_rfl) (by kernel_rfl) (by kernel_rfl) (fun _ _ _ h => h) (Or.inl ⟨by rfl, ?_⟩) (by assumption) ?_
              rotate_left
              · (intro w hSw; (try dsimp only at hSw); (try go_split_ands); go_simp; try with_reducible rfl)
              try simp only [Act.put, setIfInBounds_toArray, set_cons_zero, set_cons_succ]
              refine take_in (i := 8) (v := ?_) (some 64) rfl rfl (by kernel_rfl) (by kernel_rfl) (by kernel_rfl) (fun _ _ _ h => h) (Or.inl ⟨by rfl, ?_⟩) (by assumption) ?_
              rotate_left
              · (intro w hSw; (try dsimp only at hSw); (try go_split_ands); go_simp; try with_reducible rfl)
              try simp only [Act.put, setIfInBounds_toArray, set_cons_zero, set_cons_succ]
              refine wpAnyH_ready (rs := [10]) (by kernel_rfl) (by simp) ?_
              refine (AllReadyH.cons rfl (fun K hK => ?_) AllReadyH.nil)
              go_simp
              refine hK.out _ _ (K9.out _ (HR9abAZ.out.grown (put2 YBabAZ.out _ _).2 HR9abAZ.out.size fun q hq => by have e := Option.some.inj hq; have h1 : wr.heap.size ≤ q := (by rw [← e]; exact HR9ab.out.size); exact h1)) (fun hHeld => ?_)
              clear hK K
              try simp only [Act.put, setIfInBounds_toArray, set_cons_zero, set_cons_succ]
              clear y2 y3
              refine take_in (i := 11) (v := ?_) (some 12) rfl rfl (by kernel_rfl) (by kernel_rfl) (by kernel_rfl) (fun _ _ _ h => h) (Or.inl ⟨by rfl, ?_⟩) (by assumption) ?_
              rotate_left
              · (intro w hSw; (try dsimp only at hSw); (try go_split_ands); go_simp; try with_reducible rfl)
              try simp only [Act.put, setIfInBounds_toArray, set_cons_zero, set_cons_succ]
              refine wpAnyH_done (by kernel_rfl) ?_ _
              obtain ⟨W9, hW9, X9, G9⟩ := SB.fill YBabAZ.out YTabAZ.out HR9ab.out.size OWabAZ.out
              rw [hW9]
              have HX9 := Lib.hid X9
              have HG9 := Lib.hid (HR9abAZ.out.grown G9 HR9abAZ.out.size fun q hq => by have e := Option.some.inj hq; have h1 : wr.heap.size ≤ q := (by rw [← e]; exact HR9ab.out.size); exact h1)
              clear hW9 X9 G9
              go_wp2_with fail
              go_meet
              exact ⟨_, _, _, rfl, rfl, HX9.out, HG9.out, HQR9.out, HZR9.out⟩
          · go_simp
            refine hK.out _ _ (K9.out _ (HR9a.out.alloc HR9a.out.size _)) (fun hHeld => ?_)
            clear hK K
            try simp only [Act.put, setIfInBounds_toArray, set_cons_zero, set_cons_succ]
            obtain ⟨wR9aA, hWR9⟩ : ∃ W, wR9a.alloc (.cells #[.slice none 0 0, .slice none 0 0] 76) = W := ⟨_, rfl⟩
            have HR9aA := Lib.hid (show Below wr.heap.size wr wR9aA by rw [← hWR9]; exact HR9a.out.alloc HR9a.out.size _)
            have YBaA := Lib.hid (show Bx wR9aA wR9a.heap.size #[.slice none 0 0, .slice none 0 0] by rw [← hWR9]; exact Bx.new wR9a _ _)
            have YTaA := Lib.hid (show Blk 76 wR9aA wR9a.heap.size by rw [← hWR9]; exact Blk.new wR9a _ _)
            have hbA : Below wR9a.heap.size wR9a wR9aA := by rw [← hWR9]; exact (Below.refl _ _).alloc (Nat.le_refl _) _
            have OAaA := Lib.hid (OAa.out.below hbA)
            clear hbA
            try rw [hWR9] at hHeld
            try rw [hWR9]
            clear hWR9
            refine wpAnyH_ready (rs := [4]) (by kernel_rfl) (by simp) ?_
            refine (AllReadyH.cons rfl (fun K hK => ?_) AllReadyH.nil)
            refine Co.step_appOs rfl (.tmp 59) (.tmp 60) rfl wr.heap.size _ X rfl OAaA.out _ Y rfl (CB.out.below (HB.out.bel.trans ((HR9aA.out).mono HB.out.bel.size))) (by (try simp only [List.length_nil]); omega) HR9aA.out.size ?_
            intro vR9aAb wR9aAb ho hb hg
            have hb2 : Below wr.heap.size wr wR9aAb := (HR9aA.out).trans hb
            have HR9aAb := Lib.hid hb2
            have OAaAb := Lib.hid ho
            have YBaAb := Lib.hid (YBaA.out.apart hg (YTaA.out.ne OAaA.out (by decide)))
            have YTaAb := Lib.hid (YTaA.out.grown hg (YTaA.out.ne OAaA.out (by decide)))
            clear ho hb hb2 hg
            refine hK.out _ _ (K9.out _ HR9aAb.out) (fun hHeld => ?_)
            clear hK K
            try simp only [Act.put, setIfInBounds_toArray, set_cons_zero, set_cons_succ]
            refine wpAnyH_ready (rs := [5]) (by kernel_rfl) (by simp) ?_
            refine (AllReadyH.cons rfl (fun K hK => ?_) AllReadyH.nil)
            go_simp
            (with_reducible refine (CA9.out _ _ HR9aAb.out OAaAb.out).mono ?_)
            rintro e wR9aAbZ ⟨A3, n3, c3, A4, n4, c4, nnR9, z, rfl, hb, ho, hq, hz⟩
            have HR9aAbZ := Lib.hid (HR9aAb.out.trans (hb.mono HR9aAb.out.size))
            have HQR9 := Lib.hid hq
            have HZR9 := Lib.hid hz
            have OWaAbZ := Lib.hid (ho.mono HR9aAb.out.size)
            have YBaAbZ := Lib.hid (YBaAb.out.below hb)
            have YTaAbZ := Lib.hid (YTaAb.out.below hb)
            have y2 := YBaAbZ.out.c
            have y3 := YBaAbZ.out.fr
            clear hb hq hz ho
            go_wp2_with fail
            refine hK.out _ _ (K9.out _ HR9aAbZ.out) (fun hHeld => ?_)
            clear hK K
            try simp only [Act.put, setIfInBounds_toArray, set_cons_zero, set_cons_succ]
            refine take_in (i := 6) (v := ?_) (some 56) rfl rfl (by kernel_rfl) (by kernel_rfl) (by kernel_rfl) (fun _ _ _ h => h) (Or.inl ⟨by rfl, ?_⟩) (by assumption) ?_
            rotate_left
            · (intro w hSw; (try dsimp only at hSw); (try go_split_ands); go_simp; try with_reducible rfl)
            try simp only [Act.put, setIfInBounds_toArray, set_cons_zero, set_cons_succ]
            refine take_in (i := 7) (v := ?_) (some 63) rfl rfl (by kernel_rfl) (by kernel_rfl) (by kernel_rfl) (fun _ _ _ h => h) (Or.inl ⟨by rfl, ?_⟩) (by assumption) ?_
            rotate_left
            · (intro w hSw; (try dsimp only at hSw); (try go_split_ands); go_simp; try with_reducible rfl)
            try simp only [Act.put, setIfInBounds_toArray, set_cons_zero, set_cons_succ]
            refine take_in (i := 8) (v := ?_) (some 64) rfl rfl (by kernel_rfl) (by kernel_rfl) (by kernel_rfl) (fun _ _ _ h => h) (Or.inl ⟨by rfl, ?_⟩) (by assumption) ?_
            rotate_left
            · (intro w hSw; (try dsimp only at hSw); (try go_split_ands); go_simp; try with_reducible rfl)
            try simp only [Act.put, setIfInBounds_toArray, set_cons_zero, set_cons_succ]
            refine wpAnyH_ready (rs := [10]) (by kernel_rfl) (by simp) ?_
            refine (AllReadyH.cons rfl (fun K hK => ?_) AllReadyH.nil)
            go_simp
            refine hK.out _ _ (K9.out _ (HR9aAbZ.out.grown (put2 YBaAbZ.out _ _).2 HR9aAbZ.out.size fun q hq => by have e := Option.some.inj hq; have h1 : wr.heap.size ≤ q := (by rw [← e]; exact HR9a.out.size); exact h1)) (fun hHeld => ?_)
            clear hK K
            try simp only [Act.put, setIfInBounds_toArray, set_cons_zero, set_cons_succ]
            clear y2 y3
            refine take_in (i := 11) (v := ?_) (some 12) rfl rfl (by kernel_rfl) (by kernel_rfl) (by kernel_rfl) (fun _ _ _ h => h) (Or.inl ⟨by rfl, ?_⟩) (by assumption) ?_
            rotate_left
            · (intro w hSw; (try dsimp only at hSw); (try go_split_ands); go_simp; try with_reducible rfl)
            try simp only [Act.put, setIfInBounds_toArray, set_cons_zero, set_cons_succ]
            refine wpAnyH_done (by kernel_rfl) ?_ _
            obtain ⟨W9, hW9, X9, G9⟩ := SB.fill YBaAbZ.out YTaAbZ.out HR9a.out.size OWaAbZ.out
            rw [hW9]
            have HX9 := Lib.hid X9
            have HG9 := Lib.hid (HR9aAbZ.out.grown G9 HR9aAbZ.out.size fun q hq => by have e := Option.some.inj hq; have h1 : wr.heap.size ≤ q := (by rw [← e]; exact HR9a.out.size); exact h1)
            clear hW9 X9 G9
            go_wp2_with fail
            go_meet
            exact ⟨_, _, _, rfl, rfl, HX9.out, HG9.out, HQR9.out, HZR9.out⟩
        · go_simp
          refine hK.out _ _ (K9.out _ ((show Below wr.heap.size wr wr.drew from (Below.refl _ _).drew).alloc (show Below wr.heap.size wr wr.drew from (Below.refl _ _).drew).size _)) (fun hHeld => ?_)
          clear hK K
          try simp only [Act.put, setIfInBounds_toArray, set_cons_zero, set_cons_succ]
          obtain ⟨wR9A, hWR9⟩ : ∃ W, (wr.alloc (.cells #[.slice none 0 0, .slice none 0 0] 76)).drew = W := ⟨_, rfl⟩
          have HR9A := Lib.hid (show Below wr.heap.size wr wR9A by rw [← hWR9]; exact ((Below.refl _ _).alloc (Nat.le_refl _) _).drew)
          have YBA := Lib.hid (show Bx wR9A wr.heap.size #[.slice none 0 0, .slice none 0 0] by rw [← hWR9]; exact (Bx.new wr _ _).below (Below.refl _ _).drew)
          have YTA := Lib.hid (show Blk 76 wR9A wr.heap.size by rw [← hWR9]; exact (Blk.new wr _ _).below (Below.refl _ _).drew)
          try rw [hWR9] at hHeld
          try rw [hWR9]
          clear hWR9
          refine wpAnyH_ready (rs := [2]) (by kernel_rfl) (by simp) ?_
          refine (AllReadyH.cons rfl (fun K hK => ?_) AllReadyH.nil)
          refine Co.step_appOs rfl (.const (.slice none 0 0)) (.tmp 58) rfl wr.heap.size _ [] rfl (World.ownsRow_nil _ _ _ 14) _ X rfl (CA.out.below (HB.out.bel.trans ((HR9A.out).mono HB.out.bel.size))) (by (try simp only [List.length_nil]); omega) HR9A.out.size ?_
          intro vR9Aa wR9Aa ho hb hg
          have hb2 : Below wr.heap.size wr wR9Aa := (HR9A.out).trans hb
          have HR9Aa := Lib.hid hb2
          have OAAa := Lib.hid ho
          have YBAa := Lib.hid (YBA.out.apart hg (by intro hN; cases hN))
          have YTAa := Lib.hid (YTA.out.grown hg (by intro hN; cases hN))
          clear ho hb hb2 hg
          refine hK.out _ _ (K9.out _ HR9Aa.out) (fun hHeld => ?_)
          clear hK K
          try simp only [Act.put, setIfInBounds_toArray, set_cons_zero, set_cons_succ]
          refine wpAnyH_ready (rs := [4]) (by kernel_rfl) (by simp) ?_
          refine (AllReadyH.cons rfl (fun K hK => ?_) AllReadyH.nil)
          refine Co.step_appOs rfl (.tmp 59) (.tmp 60) rfl wr.heap.size _ X rfl OAAa.out _ Y rfl (CB.out.below (HB.out.bel.trans ((HR9Aa.out).mono HB.out.bel.size))) (by (try simp only [List.length_nil]); omega) HR9Aa.out.size ?_
          intro vR9Aab wR9Aab ho hb hg
          have hb2 : Below wr.heap.size wr wR9Aab := (HR9Aa.out).trans hb
          have HR9Aab := Lib.hid hb2
          have OAAab := Lib.hid ho
          have YBAab := Lib.hid (YBAa.out.apart hg (YTAa.out.ne OAAa.out (by decide)))
          have YTAab := Lib.hid (YTAa.out.grown hg (YTAa.out.ne OAAa.out (by decide)))
          clear ho hb hb2 hg
          refine hK.out _ _ (K9.out _ HR9Aab.out) (fun hHeld => ?_)
          clear hK K
          try simp only [Act.put, setIfInBounds_toArray, set_cons_zero, set_cons_succ]
          refine wpAnyH_ready (rs := [5]) (by kernel_rfl) (by simp) ?_
          refine (AllReadyH.cons rfl (fun K hK => ?_) AllReadyH.nil)
          go_simp
          (with_reducible refine (CA9.out _ _ HR9Aab.out OAAab.out).mono ?_)
          rintro e wR9AabZ ⟨A3, n3, c3, A4, n4, c4, nnR9, z, rfl, hb, ho, hq, hz⟩
          have HR9AabZ := Lib.hid (HR9Aab.out.trans (hb.mono HR9Aab.out.size))
          have HQR9 := Lib.hid hq
          have HZR9 := Lib.hid hz
          have OWAabZ := Lib.hid (ho.mono HR9Aab.out.size)
          have YBAabZ := Lib.hid (YBAab.out.below hb)
          have YTAabZ := Lib.hid (YTAab.out.below hb)
          have y2 := YBAabZ.out.c
          have y3 := YBAabZ.out.fr
          clear hb hq hz ho
          go_wp2_with fail
          refine hK.out _ _ (K9.out _ HR9AabZ.out) (fun hHeld => ?_)
          clear hK K
          try simp only [Act.put, setIfInBounds_toArray, set_cons_zero, set_cons_succ]
          refine take_in (i := 6) (v := ?_) (some 56) rfl rfl (by kernel_rfl) (by kernel_rfl) (by kernel_rfl) (fun _ _ _ h => h) (Or.inl ⟨by rfl, ?_⟩) (by assumption) ?_
          rotate_left
          · (intro w hSw; (try dsimp only at hSw); (try go_split_ands); go_simp; try with_reducible rfl)
          try simp only [Act.put, setIfInBounds_toArray, set_cons_zero, set_cons_succ]
          refine take_in (i := 7) (v := ?_) (some 63) rfl rfl (by kernel_rfl) (by kernel_rfl) (by kernel_rfl) (fun _ _ _ h => h) (Or.inl ⟨by rfl, ?_⟩) (by assumption) ?_
          rotate_left
          · (intro w hSw; (try dsimp only at hSw); (try go_split_ands); go_simp; try with_reducible rfl)
          try simp only [Act.put, setIfInBounds_toArray, set_cons_zero, set_cons_succ]
          refine take_in (i := 8) (v := ?_) (some 64) rfl rfl (by kernel_rfl) (by kernel_rfl) (by kernel_rfl) (fun _ _ _ h => h) (Or.inl ⟨by rfl, ?_⟩) (by assumption) ?_
          rotate_left
          · (intro w hSw; (try dsimp only at hSw); (try go_split_ands); go_simp; try with_reducible rfl)
          try simp only [Act.put, setIfInBounds_toArray, set_cons_zero, set_cons_succ]
          refine wpAnyH_ready (rs := [10]) (by kernel_rfl) (by simp) ?_
          refine (AllReadyH.cons rfl (fun K hK => ?_) AllReadyH.nil)
          go_simp
          refine hK.out _ _ (K9.out _ (HR9AabZ.out.grown (put2 YBAabZ.out _ _).2 HR9AabZ.out.size fun q hq => by have e := Option.some.inj hq; have h1 : wr.heap.size ≤ q := (by rw [← e]; exact (Nat.le_refl _)); exact h1)) (fun hHeld => ?_)
          clear hK K
          try simp only [Act.put, setIfInBounds_toArray, set_cons_zero, set_cons_succ]
          clear y2 y3
          refine take_in (i := 11) (v := ?_) (some 12) rfl rfl (by kernel_rfl) (by kernel_rfl) (by kernel_rfl) (fun _ _ _ h => h) (Or.inl ⟨by rfl, ?_⟩) (by assumption) ?_
          rotate_left
          · (intro w hSw; (try dsimp only at hSw); (try go_split_ands); go_simp; try with_reducible rfl)
          try simp only [Act.put, setIfInBounds_toArray, set_cons_zero, set_cons_succ]
          refine wpAnyH_done (by kernel_rfl) ?_ _
          obtain ⟨W9, hW9, X9, G9⟩ := SB.fill YBAabZ.out YTAabZ.out (Nat.le_refl _) OWAabZ.out
          rw [hW9]
          have HX9 := Lib.hid X9
          have HG9 := Lib.hid (HR9AabZ.out.grown G9 HR9AabZ.out.size fun q hq => by have e := Option.some.inj hq; have h1 : wr.heap.size ≤ q := (by rw [← e]; exact (Nat.le_refl _)); exact h1)
          clear hW9 X9 G9
          go_wp2_with fail
          go_meet
          exact ⟨_, _, _, rfl, rfl, HX9.out, HG9.out, HQR9.out, HZR9.out⟩
      obtain ⟨p11, nx, zx, rfl, rfl, hbx, hbc, hq, hz⟩ := hcut
      have B9 := Lib.hid (HB.out.bel.trans (hbc.mono HB.out.bel.size))
      have HQ9 := Lib.hid hq
      have G9 := Lib.hid (show zx.good 640 320 from (by
        by_cases e : nx = 0
        · subst e; exact (hq.good HB6.out).mono (by simp; omega) (by simp; omega)
        · rw [hz e]; exact empty_good.mono (by omega) (by omega)))
      obtain ⟨A3, c3, A4, c4, hy1, hy2⟩ := hbx.at
      have X11 := Lib.hid hy1
      have S11 := Lib.hid hy2
      have X2 := Lib.hid (X1.out.below hbc)
      have CA10 := Lib.hid (apply_ae (S1.out.below hbc) HB6.out (by omega) (CA.out.so.below B9.out) WA.out)
      have x0 := X2.out.c
      clear hbx hbc hq hz hy1 hy2 K9 CA9
      go_upto_region 11 with (go_at_call 36; (with_reducible refine (CA10.out).mono ?_); rintro e w2 ⟨A5, n5, c5, A6, n6, c6, na, za, rfl, hb, ho, hq, hz⟩; have B10 := Lib.hid (B9.out.trans (hb.mono B9.out.size)); have X11b := Lib.hid (X11.out.below hb); have S11b := Lib.hid (S11.out.below hb); have HQ10 := Lib.hid hq; have HZ10 := Lib.hid hz; have S13 := Lib.hid ho.at; clear hb ho hq hz)
      have hA : Below w2.heap.size w2 (w2.alloc (.cells #[.slice A5 n5 c5, .slice A6 n6 c6] 76)) := (Below.refl _ _).alloc (Nat.le_refl _) _
      have G10 := Lib.hid (show za.good 560 280 from (by
        by_cases e : na = 0
        · subst e; exact (HQ10.out.good HB6.out).mono (by omega) (by omega)
        · rw [HZ10.out e]; exact empty_good.mono (by omega) (by omega)))
      have X13 := Lib.hid (Bx.new w2 #[.slice A5 n5 c5, .slice A6 n6 c6] 76)
      have S13 := Lib.hid (S13.out.below hA)
      have X11c := Lib.hid (X11b.out.below hA)
      have S11c := Lib.hid (S11b.out.below hA)
      have B11 := Lib.hid (B10.out.trans (hA.mono B10.out.size))
      clear hA
      obtain ⟨w3, hw3⟩ : ∃ W, w2.alloc (.cells #[.slice A5 n5 c5, .slice A6 n6 c6] 76) = W := ⟨_, rfl⟩
      rw [hw3] at X13 S13 X11c S11c B11
      try rw [hw3]
      clear hw3 x0
      obtain ⟨p13, hp13⟩ : ∃ q, w2.heap.size = q := ⟨_, rfl⟩
      rw [hp13] at X13
      try rw [hp13]
      clear hp13
      have CA11 := Lib.hid (apply_ae S13.out G10.out (by omega) (CB.out.so.below B11.out) WB.out)
      have x0 := X13.out.c
      go_upto_region 12 with (go_at_call 36; (with_reducible refine (CA11.out).mono ?_); rintro e w4 ⟨A7, n7, c7, A8, n8, c8, nb, zb, rfl, hb, ho, hq, hz⟩; have B12 := Lib.hid (B11.out.trans (hb.mono B11.out.size)); have X11d := Lib.hid (X11c.out.below hb); have S11d := Lib.hid (S11c.out.below hb); have HQ11 := Lib.hid hq; have HZ11 := Lib.hid hz; have S15 := Lib.hid ho.at; clear hb ho hq hz)
      have hA : Below w4.heap.size w4 (w4.alloc (.cells #[.slice A7 n7 c7, .slice A8 n8 c8] 76)) := (Below.refl _ _).alloc (Nat.le_refl _) _
      have G11 := Lib.hid (show zb.good 640 320 from (by
        by_cases e : nb = 0
        · subst e; exact (HQ11.out.good G10.out).mono (by omega) (by omega)
        · rw [HZ11.out e]; exact empty_good.mono (by omega) (by omega)))
      have X15 := Lib.hid (Bx.new w4 #[.slice A7 n7 c7, .slice A8 n8 c8] 76)
      have S15 := Lib.hid (S15.out.below hA)
      have X11e := Lib.hid (X11d.out.below hA)
      have S11e := Lib.hid (S11d.out.below hA)
      have B13 := Lib.hid (B12.out.trans (hA.mono B12.out.size))
      clear hA
      obtain ⟨w5, hw5⟩ : ∃ W, w4.alloc (.cells #[.slice A7 n7 c7, .slice A8 n8 c8] 76) = W := ⟨_, rfl⟩
      rw [hw5] at X15 S15 X11e S11e B13
      try rw [hw5]
      clear hw5 x0
      obtain ⟨p15, hp15⟩ : ∃ q, w4.heap.size = q := ⟨_, rfl⟩
      rw [hp15] at X15
      try rw [hp15]
      clear hp15
      have SP := Lib.hid (splits HB.out.may (a := X) (b := Y) (by omega) (by omega) HQ9.out HQ10.out (fun _ => HQ11.out))
      have x0 := X11e.out.c
      have x1 := X15.out.c
      have CS := Lib.hid (bSame_any _ _ zx zb w5 S11e.out S15.out (G9.out.ok (by omega)).1 (G9.out.ok (by omega)).2 (G11.out.ok (by omega)).1 (G11.out.ok (by omega)).2)
      by_cases ha : na = 0
      · by_cases hb : nb = 0
        · obtain ⟨hx, hzz⟩ := SP.out.1 ha hb
          subst ha hb hx hzz
          go_wp2_with (first
            | (go_at_call 38; (with_reducible refine (CS.out).mono ?_); intro e w6 hs; obtain ⟨rfl, hbs⟩ := says_yes hs rfl; have B14 := Lib.hid (B13.out.trans (hbs.mono B13.out.size)); clear hs hbs)
            | (go_at_call 39; (with_reducible refine (CW.out _).mono ?_); rintro e w7 ⟨rfl, hb7⟩; have B15 := Lib.hid (B14.out.trans (hb7.mono B14.out.size)); clear hb7)
            | fail)
          go_ret
          exact ⟨rfl, B15.out⟩
        · have hx := SP.out.2.1 ha hb
          subst ha hx
          go_wp2_with (go_at_call 39; (with_reducible refine (CW.out _).mono ?_); rintro e w7 ⟨rfl, hb7⟩; have B15 := Lib.hid (B13.out.trans (hb7.mono B13.out.size)); clear hb7)
          go_ret
          exact ⟨rfl, B15.out⟩
      · by_cases hd : na = 33
        · subst hd
          go_wp2_with (go_at_call 39; (with_reducible refine (CW.out _).mono ?_); rintro e w7 ⟨rfl, hb7⟩; have B15 := Lib.hid (B13.out.trans (hb7.mono B13.out.size)); clear hb7)
          go_ret
          exact ⟨rfl, B15.out⟩
        · have hx := SP.out.2.2 ha hd
          subst hx
          go_wp2_with (go_at_call 39; (with_reducible refine (CW.out _).mono ?_); rintro e w7 ⟨rfl, hb7⟩; have B15 := Lib.hid (B13.out.trans (hb7.mono B13.out.size)); clear hb7)
          go_ret
          exact ⟨rfl, B15.out⟩
end Go.Proofs.YtmolpogehgeebaaGreat


