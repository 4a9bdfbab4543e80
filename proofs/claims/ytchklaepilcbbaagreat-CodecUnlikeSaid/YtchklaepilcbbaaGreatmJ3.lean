/- Two batches held against each other. -/
import Derived.Test.YtchklaepilcbbaaGreatmJ2
import Derived.Test.YtchklaepilcbbaaGreatmZ3
namespace Go.Proofs.YtchklaepilcbbaaGreat
open Go.RowKit
section
set_option maxRecDepth 100000
set_option maxHeartbeats 4000000
theorem SameOp_says (x y : OP) (hx : x.wide) (hy : y.wide) (mx : x.v.may) (my : y.v.may) (w : World) : Calls Tryz.prog 23 #[x.val, y.val] w (Says (x = y) w) :=
  (SameOp_any x y hx hy mx my w).mono fun _ _ h => h
theorem EqualFunc_any (va vb : Value) (l m : List OP) (w : World) (ha : SO w va l) (hb : SO w vb m) (hl : ∀ o ∈ l, o.wide ∧ o.v.may) (hm : ∀ o ∈ m, o.wide ∧ o.v.may) :
    Calls Tryz.prog 79 #[va, vb, .func (.func 23) #[] #[]] w (Says (l = m) w) := by
  obtain ⟨A, c, rfl, hA, ha⟩ := ha
  obtain ⟨B, d, rfl, hB, hb⟩ := hb
  have HA := Lib.hid hA
  have HB := Lib.hid hB
  have HL := Lib.hid hl
  have HM := Lib.hid hm
  clear hA hB hl hm
  by_cases hne : l.length = m.length
  case neg =>
    have HN : Hid (¬ l = m) := Lib.hid fun e => hne (by rw [e])
    have hne' : ((l.length : Int) != (m.length : Int)) = true := by simp; omega
    clear hne
    go_enter Tryz.func79, Tryz.ntmps79
    go_wp2
    go_ret
    exact ⟨false, rfl, by simp [HN.out], Below.refl _ _⟩
  have HE := Lib.hid hne
  have hne' : ((l.length : Int) != (m.length : Int)) = false := by simp [hne]
  clear hne
  go_enter Tryz.func79, Tryz.ntmps79
  go_wp2
  clear hne'
  go_loopw [17] (fun i wr => ∃ k : Nat, k ≤ l.length ∧ i = .int .i64 k ∧ (∀ j (h : j < l.length) (g : j < m.length), j < k → l[j] = m[j]) ∧ Below w.heap.size w wr) (fun i _ => l.length - (intOf i).toNat)
  case atStart => exact ⟨0, Nat.zero_le _, rfl, fun j _ _ h => absurd h (Nat.not_lt_zero j), Below.refl _ _⟩
  case round =>
    obtain ⟨k, hk, rfl, hp, hbl⟩ := hrel
    have HP := Lib.hid hp
    have HBl := Lib.hid hbl
    clear hp hbl
    by_cases hlt : k < l.length
    · have hlt2 : k < m.length := by have := HE.out; omega
      obtain ⟨g, og, rfl, lg, cg⟩ := (HA.out.below HBl.out) (by omega)
      obtain ⟨q, oq, rfl, lq, cq⟩ := (HB.out.below HBl.out) (by omega)
      have r := cg k hlt
      have r2 := cq k hlt2
      obtain ⟨w1, v1⟩ := HL.out l[k] (List.getElem_mem hlt)
      obtain ⟨w2, v2⟩ := HM.out m[k] (List.getElem_mem hlt2)
      have CS := Lib.hid (fun W => SameOp_says l[k] m[k] w1 w2 v1 v2 W)
      have HK : Hid (l[k] = m[k] → ∀ j (h : j < l.length) (g : j < m.length), j < k + 1 → l[j] = m[j]) := Lib.hid fun h j h1 g1 h2 => if e : j = k then (by subst e; exact h) else HP.out j h1 g1 (by omega)
      have HN : Hid (¬ l[k] = m[k] → ¬ l = m) := Lib.hid fun h e => h (by subst e; rfl)
      generalize l[k] = o at *
      generalize m[k] = p at *
      have i0 : (k : Int) < (l.length : Int) := by omega
      have i3 : (k : Int) < (m.length : Int) := by omega
      have i1 : (0 : Int) ≤ (k : Int) := by omega
      clear w1 w2 v1 v2 cg cq HA HB HL HM HP
      obtain ⟨kind, edge, id, label, fr, til, key, ⟨kk, b, n, f, s⟩, pf, pt⟩ := o
      obtain ⟨kind', edge', id', label', fr', til', key', ⟨kk', b', n', f', s'⟩, pf', pt'⟩ := p
      have hsf := store_float
      go_upto_region 6 with (refine wpList_load_mid rfl 43 (.tmp 20) rfl g (og + k * 14) rfl _ _ r Tryz.underlying43 rfl rowOp ?_)
      have b1 := Lib.hid ((Below.refl wr.heap.size wr).alloc (Nat.le_refl _) (.cells (OP.cells ⟨kind, edge, id, label, fr, til, key, ⟨kk, b, n, f, s⟩, pf, pt⟩) 43))
      have r3 : (wr.alloc (.cells (OP.cells ⟨kind, edge, id, label, fr, til, key, ⟨kk, b, n, f, s⟩, pf, pt⟩) 43)).rangeAt q (oq + k * 14) (OP.cells ⟨kind', edge', id', label', fr', til', key', ⟨kk', b', n', f', s'⟩, pf', pt'⟩).toList := fun j v hv => (b1.out.cell (p := ⟨q, oq + k * 14 + j, none⟩) lq).trans (r2 j v hv)
      clear r r2
      go_upto_region 7 with (refine wpList_load_mid rfl 43 (.tmp 24) rfl q (oq + k * 14) rfl _ _ r3 Tryz.underlying43 rfl rowOp ?_)
      clear r3
      go_upto_if 30 with (go_at_call 23; (with_reducible refine (CS.out _).mono ?_); rintro e w1 ⟨c1, rfl, hc, hb⟩; have HC := Lib.hid hc; have B1 := Lib.hid hb; clear hc hb)
      have B2 : Hid (Below w.heap.size w w1) := Lib.hid (HBl.out.trans ((((Below.refl wr.heap.size wr).alloc (Nat.le_refl _) _).alloc (by simp) _).trans (B1.out.mono (by simp; omega)) |>.mono HBl.out.size))
      cases c1
      · go_wp2
        go_ret
        exact ⟨false, rfl, by have := HN.out (fun e => by have := HC.out.2 e; cases this); simp [this], B2.out⟩
      · have HK2 := Lib.hid (HK.out (HC.out.1 rfl))
        clear HK HN
        go_wp2
        exact ⟨⟨k + 1, by omega, by go_num, HK2.out, B2.out⟩, by simp [intOf]; omega⟩
    · have HT : Hid (l = m) := Lib.hid (List.ext_getElem HE.out fun j h1 h2 => HP.out j h1 h2 (by omega))
      clear HP
      go_wp2
      go_ret
      exact ⟨true, rfl, by simp [HT.out], HBl.out⟩
theorem SameBatch_any (x y : BP) (s t : Value) (w : World) (hs : SO w s x.ops) (ht : SO w t y.ops) (hx : ∀ o ∈ x.ops, o.wide ∧ o.v.may) (hy : ∀ o ∈ y.ops, o.wide ∧ o.v.may) :
    Calls Tryz.prog 34 #[bval x s, bval y t] w (Says (x = y) w) := by
  have C := Lib.hid (fun W (hb : Below w.heap.size w W) => EqualFunc_any s t x.ops y.ops W (hs.below hb) (ht.below hb) hx hy)
  obtain ⟨A, c, rfl, hA, ha⟩ := hs
  obtain ⟨B, d, rfl, hB, hb⟩ := ht
  obtain ⟨n, st, ops⟩ := x
  obtain ⟨n', st', ops'⟩ := y
  simp only at hA hB ha hb C
  clear hA hB hx hy
  have HB2 := Lib.hid (((Below.refl w.heap.size w).alloc (Nat.le_refl _) (.cells #[.int .u64 (n : Int), .int .u64 (st : Int), .slice A ops.length c] 56)).alloc (by simp) (.cells #[.int .u64 (n' : Int), .int .u64 (st' : Int), .slice B ops'.length d] 56))
  have C2 := Lib.hid (C.out _ HB2.out)
  clear C
  by_cases h1 : n = n'
  case neg =>
    have HF : Hid (¬ (BP.mk n st ops) = ⟨n', st', ops'⟩) := Lib.hid fun h => h1 (congrArg BP.number h)
    have t1 := nat_ne h1
    clear h1 C2
    go_enter Tryz.func34, Tryz.ntmps34
    go_wp2
    go_ret
    exact ⟨false, rfl, by simp only [HF.out, Bool.false_eq_true], HB2.out⟩
  subst h1
  by_cases h2 : st = st'
  case neg =>
    have HF : Hid (¬ (BP.mk n st ops) = ⟨n, st', ops'⟩) := Lib.hid fun h => h2 (congrArg BP.stamp h)
    have t1 := nat_ne h2
    clear h2 C2
    go_enter Tryz.func34, Tryz.ntmps34
    go_wp2
    go_ret
    exact ⟨false, rfl, by simp only [HF.out, Bool.false_eq_true], HB2.out⟩
  subst h2
  go_enter Tryz.func34, Tryz.ntmps34
  go_wp2_with (go_at_call 79; ((with_reducible refine (C2.out).mono ?_); rintro e w1 ⟨c1, rfl, hc, hb⟩; have HC := Lib.hid hc; have B1 := Lib.hid hb; clear hc hb))
  go_ret
  exact ⟨c1, rfl, HC.out.trans ⟨fun h => by rw [h], fun h => congrArg BP.ops h⟩, HB2.out.trans (B1.out.mono (by simp; omega))⟩
end
end Go.Proofs.YtchklaepilcbbaaGreat
