/- Same, of two properties, of two lists of them, of two entities. -/
/- The chapter's example: what Make and Apply answer there; an entity laid in a box. -/
/- Blocks of a type; append of an operation; a box that stays. -/
import Derived.Test.YtmolpogehgeebaaGreatbED6d
import Derived.Test.YtmolpogehgeebaaGreatbH3
import Derived.Test.YtmolpogehgeebaaGreatbJ7
import Derived.Test.YtmolpogehgeebaaGreatbCOJ
namespace Go.Proofs.YtmolpogehgeebaaGreat
open Go.RowKit
theorem Prp.eq {p q : Prp} (h1 : p.k = q.k) (h2 : p.l = q.l) : p = q := by
  cases p; cases q; simp only at h1 h2; subst h1 h2; rfl
/-- The values of these properties may be. -/
def WM (ps : List Prp) : Prop := ∀ p ∈ ps, ∀ y ∈ p.l, y.v.wide ∧ y.v.may
theorem may_wm {x : Ent} (h : x.may) : WM x.ps := fun p hp => line_wm (h.ps.line p hp).1
section
set_option maxRecDepth 100000
set_option maxHeartbeats 8000000
theorem sameProp_any (k k' : ByteArray) (u u' : Value) (l l' : List Pie) (w : World) (h : SL w u l) (h' : SL w u' l') (hl : ∀ y ∈ l, y.v.wide ∧ y.v.may) (hl' : ∀ y ∈ l', y.v.wide ∧ y.v.may) :
    Calls Tryz.prog 138 #[.agg #[.string k, u], .agg #[.string k', u']] w (Says ((⟨k, l⟩ : Prp) = ⟨k', l'⟩) w) := by
  have HB := Lib.hid (((Below.refl w.heap.size w).alloc (Nat.le_refl _) (.cells #[.string k, u] 62)).alloc (by simp) (.cells #[.string k', u'] 62))
  have CS := Lib.hid (fun W (hb : Below w.heap.size w W) => pSame_any u u' l l' W (h.below hb) (h'.below hb) hl hl')
  obtain ⟨A, c, rfl, _, _⟩ := h
  obtain ⟨A', c', rfl, _, _⟩ := h'
  clear hl hl'
  by_cases hk : k = k'
  · subst hk
    have HE : Hid (∀ c : Bool, (c = true ↔ l = l') → (c = true ↔ (⟨k, l⟩ : Prp) = ⟨k, l'⟩)) := Lib.hid fun c h => h.trans ⟨fun e => by rw [e], fun e => by injection e⟩
    go_enter Tryz.func138, Tryz.ntmps138
    go_wp2_with (go_at_call 78; (with_reducible refine (CS.out _ HB.out).mono ?_); rintro e w1 ⟨c, rfl, hc, hb⟩; have HC := Lib.hid (HE.out c hc); have B1 := Lib.hid (HB.out.trans (hb.mono HB.out.size)); clear hc hb)
    go_ret
    exact ⟨c, rfl, HC.out, B1.out⟩
  · have HN : Hid (¬ (⟨k, l⟩ : Prp) = ⟨k', l'⟩) := Lib.hid fun e => hk (by injection e)
    have t0 : (k.toList == k'.toList) = false := by
      rw [beq_eq_false_iff_ne]; exact fun e => hk (toList_inj e)
    clear hk
    go_enter Tryz.func138, Tryz.ntmps138
    go_wp2
    go_ret
    exact ⟨false, rfl, ⟨fun h => (by cases h), fun h => absurd h HN.out⟩, HB.out⟩
theorem EqualR_any (va vb : Value) (l m : List Prp) (w : World) (ha : SP w va l) (hb : SP w vb m) (hl : WM l) (hm : WM m) :
    Calls Tryz.prog 137 #[va, vb, .func (.func 138) #[] #[]] w (Says (l = m) w) := by
  obtain ⟨A, c, rfl, hA, ha⟩ := ha
  obtain ⟨B, d, rfl, hB, hb⟩ := hb
  have HA := Lib.hid hA
  have HB := Lib.hid hB
  have HL := Lib.hid hl
  have HM := Lib.hid hm
  clear hA hB hl hm
  by_cases hne : l.length = m.length
  case neg =>
    have HN : Hid (¬ l = m) := Lib.hid fun e => hne (by rw [e])
    have hne' : ((l.length : Int) != (m.length : Int)) = true := by simp; omega
    clear hne
    go_enter Tryz.func137, Tryz.ntmps137
    go_wp2
    go_ret
    exact ⟨false, rfl, by simp [HN.out], Below.refl _ _⟩
  have HE := Lib.hid hne
  have hne' : ((l.length : Int) != (m.length : Int)) = false := by simp [hne]
  clear hne
  go_enter Tryz.func137, Tryz.ntmps137
  go_wp2
  clear hne'
  go_loopw [17] (fun i wr => ∃ k : Nat, k ≤ l.length ∧ i = .int .i64 k ∧ (∀ j (h : j < l.length) (g : j < m.length), j < k → l[j] = m[j]) ∧ Below w.heap.size w wr) (fun i _ => l.length - (intOf i).toNat)
  case atStart => exact ⟨0, Nat.zero_le _, rfl, fun j _ _ h => absurd h (Nat.not_lt_zero j), Below.refl _ _⟩
  case round =>
    obtain ⟨k, hk, rfl, hp, hbl⟩ := hrel
    have HP := Lib.hid hp
    have HBl := Lib.hid hbl
    clear hp hbl
    by_cases hlt : k < l.length
    · have hlt2 : k < m.length := by have := HE.out; omega
      obtain ⟨g, og, rfl, lg, cg⟩ := (HA.out.below HBl.out) (by omega)
      obtain ⟨q, oq, rfl, lq, cq⟩ := (HB.out.below HBl.out) (by omega)
      obtain ⟨r0, u, r1, hu⟩ := cg k hlt
      obtain ⟨s0, u', s1, hu'⟩ := cq k hlt2
      have HK : Hid (l[k] = m[k] → ∀ j (h : j < l.length) (g : j < m.length), j < k + 1 → l[j] = m[j]) := Lib.hid fun h j h1 g1 h2 => if e : j = k then (by subst e; exact h) else HP.out j h1 g1 (by omega)
      have HN : Hid (¬ l[k] = m[k] → ¬ l = m) := Lib.hid fun h e => h (by subst e; rfl)
      have CS := Lib.hid (fun W (hb : Below wr.heap.size wr W) => sameProp_any l[k].k m[k].k u u' l[k].l m[k].l W (hu.below hb) (hu'.below hb) (HL.out _ (List.getElem_mem hlt)) (HM.out _ (List.getElem_mem hlt2)))
      generalize l[k] = x at *
      generalize m[k] = y at *
      obtain ⟨xk, xl⟩ := x
      obtain ⟨yk, yl⟩ := y
      obtain ⟨A1, c1, rfl, _, _⟩ := hu
      obtain ⟨A2, c2, rfl, _, _⟩ := hu'
      have LG := Lib.hid lg
      have LQ := Lib.hid lq
      have i0 : (k : Int) < (l.length : Int) := by omega
      have i3 : (k : Int) < (m.length : Int) := by omega
      have i1 : (0 : Int) ≤ (k : Int) := by omega
      clear cg cq HA HB HL HM HP lg lq
      simp only at r0 r1 s0 s1 CS
      have b1 := Lib.hid (((Below.refl wr.heap.size wr).alloc (Nat.le_refl _) (.cells #[.string xk, .slice A1 xl.length c1] 62)))
      have s2 := (b1.out.cell (p := ⟨q, oq + k * 2, none⟩) LQ.out).trans s0
      have s3 := (b1.out.cell (p := ⟨q, oq + k * 2 + 1, none⟩) LQ.out).trans s1
      have b2 := Lib.hid (b1.out.alloc (by simp) (.cells #[.string yk, .slice A2 yl.length c2] 62))
      go_upto_if 30 with (go_at_call 138; (with_reducible refine (CS.out _ (by first | exact Below.refl _ _ | exact b2.out)).mono ?_); rintro e w1 ⟨c1, rfl, hc, hb⟩; have HC := Lib.hid hc; have B1 := Lib.hid hb; clear hc hb)
      have B2 : Hid (Below w.heap.size w w1) := Lib.hid (by
        first
        | exact HBl.out.trans (B1.out.mono HBl.out.size)
        | exact HBl.out.trans ((b2.out.trans (B1.out.mono b2.out.size)).mono HBl.out.size))
      cases c1
      · go_wp2
        go_ret
        exact ⟨false, rfl, by have := HN.out (fun e => by have := HC.out.2 e; cases this); simp [this], B2.out⟩
      · have HK2 := Lib.hid (HK.out (HC.out.1 rfl))
        clear HK HN
        go_wp2
        exact ⟨⟨k + 1, by omega, by go_num, HK2.out, B2.out⟩, by simp [intOf]; omega⟩
    · have HT : Hid (l = m) := Lib.hid (List.ext_getElem HE.out fun j h1 h2 => HP.out j h1 h2 (by omega))
      clear HP
      go_wp2
      go_ret
      exact ⟨true, rfl, by simp [HT.out], HBl.out⟩
theorem sameL_iff (L M : List (Int × Int)) : Se.sameL L M = true ↔ L = M := by unfold Se.sameL; exact decide_eq_true_iff
theorem Ent.eq_iff (x y : Ent) : x = y ↔ x.edge = y.edge ∧ x.id = y.id ∧ x.lab = y.lab ∧ x.fr = y.fr ∧ x.til = y.til ∧ x.val = y.val ∧ x.ps = y.ps := by
  cases x; cases y; simp
/-- Two entities are the same. -/
def SameE (x y : Ent) : Prop := x = y
theorem eSame_any (va vb : Value) (x y : Ent) (w : World) (ha : EAt w va x) (hb : EAt w vb y) (hx : WM x.ps) (hy : WM y.ps) (lx : x.val.length ≤ 4000000000000) (ly : y.val.length ≤ 4000000000000) :
    Calls Tryz.prog 74 #[va, vb] w (Says (SameE x y) w) := by
  obtain ⟨sv, sp, rfl, hv, hp⟩ := ha
  obtain ⟨tv, tp, rfl, gv, gp⟩ := hb
  have CE := Lib.hid (fun W (hb : Below w.heap.size w W) => Se.Equal_any sv tv x.val y.val W (hv.below hb) (gv.below hb) lx ly)
  have CR := Lib.hid (fun W (hb : Below w.heap.size w W) => EqualR_any sp tp x.ps y.ps W (hp.below hb) (gp.below hb) hx hy)
  obtain ⟨A1, c1, rfl, _⟩ := hv
  obtain ⟨A2, c2, rfl, _, _⟩ := hp
  obtain ⟨A3, c3, rfl, _⟩ := gv
  obtain ⟨A4, c4, rfl, _, _⟩ := gp
  obtain ⟨xe, xid, xlab, xfr, xtil, xval, xps⟩ := x
  obtain ⟨ye, yid, ylab, yfr, ytil, yval, yps⟩ := y
  clear hx hy lx ly
  simp only at CE CR ⊢
  have HB := Lib.hid (((Below.refl w.heap.size w).alloc (Nat.le_refl _) (.cells #[.bool xe, .int .u64 xid, .string xlab, .int .u64 xfr, .int .u64 xtil, .slice A1 xval.length c1, .slice A2 xps.length c2] 38)).alloc (by simp) (.cells #[.bool ye, .int .u64 yid, .string ylab, .int .u64 yfr, .int .u64 ytil, .slice A3 yval.length c3, .slice A4 yps.length c4] 38))
  have HI := Lib.hid (Ent.eq_iff ⟨xe, xid, xlab, xfr, xtil, xval, xps⟩ ⟨ye, yid, ylab, yfr, ytil, yval, yps⟩)
  by_cases h0 : xe = ye
  case neg =>
    have HN : Hid (¬ SameE (Ent.mk xe xid xlab xfr xtil xval xps) (Ent.mk ye yid ylab yfr ytil yval yps)) := Lib.hid fun e => h0 (HI.out.1 e).1
    have t0 : (xe == ye) = false := by simpa using h0
    clear h0
    go_enter Tryz.func74, Tryz.ntmps74
    go_wp2
    go_ret
    exact ⟨false, rfl, ⟨fun h => (by cases h), fun h => absurd h HN.out⟩, HB.out⟩
  subst h0
  by_cases h1 : xid = yid
  case neg =>
    have HN : Hid (¬ SameE (Ent.mk xe xid xlab xfr xtil xval xps) (Ent.mk xe yid ylab yfr ytil yval yps)) := Lib.hid fun e => h1 (HI.out.1 e).2.1
    have t0 : (xid == yid) = false := by simpa using h1
    clear h1
    go_enter Tryz.func74, Tryz.ntmps74
    go_wp2
    go_ret
    exact ⟨false, rfl, ⟨fun h => (by cases h), fun h => absurd h HN.out⟩, HB.out⟩
  subst h1
  by_cases h2 : xlab = ylab
  case neg =>
    have HN : Hid (¬ SameE (Ent.mk xe xid xlab xfr xtil xval xps) (Ent.mk xe xid ylab yfr ytil yval yps)) := Lib.hid fun e => h2 (HI.out.1 e).2.2.1
    have t0 : (xlab.toList == ylab.toList) = false := by rw [beq_eq_false_iff_ne]; exact fun e => h2 (toList_inj e)
    clear h2
    go_enter Tryz.func74, Tryz.ntmps74
    go_wp2
    go_ret
    exact ⟨false, rfl, ⟨fun h => (by cases h), fun h => absurd h HN.out⟩, HB.out⟩
  subst h2
  by_cases h3 : xfr = yfr
  case neg =>
    have HN : Hid (¬ SameE (Ent.mk xe xid xlab xfr xtil xval xps) (Ent.mk xe xid xlab yfr ytil yval yps)) := Lib.hid fun e => h3 (HI.out.1 e).2.2.2.1
    have t0 : (xfr == yfr) = false := by simpa using h3
    clear h3
    go_enter Tryz.func74, Tryz.ntmps74
    go_wp2
    go_ret
    exact ⟨false, rfl, ⟨fun h => (by cases h), fun h => absurd h HN.out⟩, HB.out⟩
  subst h3
  by_cases h4 : xtil = ytil
  case neg =>
    have HN : Hid (¬ SameE (Ent.mk xe xid xlab xfr xtil xval xps) (Ent.mk xe xid xlab xfr ytil yval yps)) := Lib.hid fun e => h4 (HI.out.1 e).2.2.2.2.1
    have t0 : (xtil == ytil) = false := by simpa using h4
    clear h4
    go_enter Tryz.func74, Tryz.ntmps74
    go_wp2
    go_ret
    exact ⟨false, rfl, ⟨fun h => (by cases h), fun h => absurd h HN.out⟩, HB.out⟩
  subst h4
  have HI2 : Hid (SameE (Ent.mk xe xid xlab xfr xtil xval xps) (Ent.mk xe xid xlab xfr xtil yval yps) ↔ (xval = yval ∧ xps = yps)) := Lib.hid ⟨fun e => ⟨(HI.out.1 e).2.2.2.2.2.1, (HI.out.1 e).2.2.2.2.2.2⟩, fun e => by unfold SameE; rw [e.1, e.2]⟩
  obtain ⟨s, hs⟩ : ∃ s, Se.sameL xval yval = s := ⟨_, rfl⟩
  have HS : Hid (s = true ↔ xval = yval) := Lib.hid (by rw [← hs]; exact sameL_iff _ _)
  rw [hs] at CE
  clear hs HI
  cases s
  · have HN : Hid (¬ SameE (Ent.mk xe xid xlab xfr xtil xval xps) (Ent.mk xe xid xlab xfr xtil yval yps)) := Lib.hid fun e => by have := HS.out.2 (HI2.out.1 e).1; cases this
    go_enter Tryz.func74, Tryz.ntmps74
    go_wp2_with (go_at_call 77; (with_reducible refine (CE.out _ HB.out).mono ?_); rintro e w1 ⟨rfl, hb⟩; have B1 := Lib.hid (HB.out.trans (hb.mono HB.out.size)); clear hb)
    go_ret
    exact ⟨false, rfl, ⟨fun h => (by cases h), fun h => absurd h HN.out⟩, B1.out⟩
  · have HV := Lib.hid (HS.out.1 rfl)
    have X0 := Lib.hid ((Bx.new w #[.bool xe, .int .u64 xid, .string xlab, .int .u64 xfr, .int .u64 xtil, .slice A1 xval.length c1, .slice A2 xps.length c2] 38).below ((Below.refl _ _).alloc (Nat.le_refl _) (.cells #[.bool xe, .int .u64 xid, .string xlab, .int .u64 xfr, .int .u64 xtil, .slice A3 yval.length c3, .slice A4 yps.length c4] 38)))
    have Y0 := Lib.hid (Bx.new (w.alloc (.cells #[.bool xe, .int .u64 xid, .string xlab, .int .u64 xfr, .int .u64 xtil, .slice A1 xval.length c1, .slice A2 xps.length c2] 38)) #[.bool xe, .int .u64 xid, .string xlab, .int .u64 xfr, .int .u64 xtil, .slice A3 yval.length c3, .slice A4 yps.length c4] 38)
    rw [show (w.alloc (.cells #[.bool xe, .int .u64 xid, .string xlab, .int .u64 xfr, .int .u64 xtil, .slice A1 xval.length c1, .slice A2 xps.length c2] 38)).heap.size = w.heap.size + 1 by simp] at Y0
    have HE : Hid (∀ c : Bool, (c = true ↔ xps = yps) → (c = true ↔ SameE (Ent.mk xe xid xlab xfr xtil xval xps) (Ent.mk xe xid xlab xfr xtil yval yps))) := Lib.hid fun c h => h.trans ⟨fun e => HI2.out.2 ⟨HV.out, e⟩, fun e => (HI2.out.1 e).2⟩
    go_enter Tryz.func74, Tryz.ntmps74
    go_wp2_with (first
      | (go_at_call 77; (with_reducible refine (CE.out _ HB.out).mono ?_); rintro e w1 ⟨rfl, hb⟩; have B1 := Lib.hid (HB.out.trans (hb.mono HB.out.size)); have x6 := (X0.out.below hb).c 6; have y6 := (Y0.out.below hb).c 6; clear hb)
      | (go_at_call 137; (with_reducible refine (CR.out _ B1.out).mono ?_); rintro e w2 ⟨c, rfl, hc, hb⟩; have HC := Lib.hid (HE.out c hc); have B2 := Lib.hid (B1.out.trans (hb.mono B1.out.size)); clear hc hb)
      | fail)
    go_ret
    exact ⟨c, rfl, HC.out, B2.out⟩
end
end Go.Proofs.YtmolpogehgeebaaGreat


namespace Go.Proofs.YtmolpogehgeebaaGreat
open Go.RowKit
/-- An entity and a number are answered. -/
def AE (Q : Int → Ent → Prop) (w : World) (e : Ending) (w' : World) : Prop := ∃ (u : Value) (n : Int) (y : Ent), e = .returned (.tuple #[u, .int .i64 n]) ∧ EOwn w.heap.size w' u y ∧ Below w.heap.size w w' ∧ Q n y
theorem applyAE {x : Ent} {o : Co.OP} {w w' : World} {e : Ending} (h : ApplyEnd x o w e w') : AE (fun n y => (¬ x.may ∧ n = 5) ∨ (x.may ∧ ¬ FitsE x o ∧ n = 1) ∨ (x.may ∧ FitsE x o ∧ n ≠ 0 ∧ EntRefused x o n) ∨ (x.may ∧ FitsE x o ∧ n = 0 ∧ Applied x o y)) w e w' := by
  obtain ⟨u, n, rfl, hb, ⟨h1, h2, h3⟩ | ⟨h1, h2, h3, h4⟩ | ⟨h1, h2, h3, h4, h5⟩ | ⟨h1, h2, h3, y, h4, h5⟩⟩ := h
  · exact ⟨u, n, noE, rfl, h3, hb, .inl ⟨h1, h2⟩⟩
  · exact ⟨u, n, noE, rfl, h4, hb, .inr (.inl ⟨h1, h2, h3⟩)⟩
  · exact ⟨u, n, noE, rfl, h5, hb, .inr (.inr (.inl ⟨h1, h2, h3, h4⟩))⟩
  · exact ⟨u, n, y, rfl, h4, hb, .inr (.inr (.inr ⟨h1, h2, h3, h5⟩))⟩
theorem AE.imp {Q R : Int → Ent → Prop} {w w' : World} {e : Ending} (h : AE Q w e w') (hr : ∀ n y, Q n y → R n y) : AE R w e w' := by
  obtain ⟨u, n, y, h1, h2, h3, h4⟩ := h
  exact ⟨u, n, y, h1, h2, h3, hr n y h4⟩
theorem applyTo {x y : Ent} {o : Co.OP} {w w' : World} {e : Ending} (h : ApplyEnd x o w e w') (hm : x.may) (hf : FitsE x o) (ha : Applied x o y) (hr : ∀ n, ¬ EntRefused x o n) : AE (fun n z => n = 0 ∧ z = y) w e w' :=
  (applyAE h).imp fun n z hq => by
    rcases hq with ⟨h, _⟩ | ⟨_, h, _⟩ | ⟨_, _, _, h⟩ | ⟨_, _, h, hz⟩
    · exact absurd hm h
    · exact absurd hf h
    · exact absurd h (hr n)
    · exact ⟨h, hz.one ha⟩
theorem applyNo {x : Ent} {o : Co.OP} {m : Int} {w w' : World} {e : Ending} (h : ApplyEnd x o w e w') (hm : x.may) (hf : FitsE x o) (ha : ∀ y, ¬ Applied x o y) (hr : ∀ n, EntRefused x o n → n = m) : AE (fun n _ => n = m) w e w' :=
  (applyAE h).imp fun n z hq => by
    rcases hq with ⟨h, _⟩ | ⟨_, h, _⟩ | ⟨_, _, _, h⟩ | ⟨_, _, h, hz⟩
    · exact absurd hm h
    · exact absurd hf h
    · exact hr n h
    · exact absurd hz (ha z)
theorem makeAE {o : Co.OP} {w w' : World} {e : Ending} (h : MakeEnd o w e w') : AE (fun n y => (¬ (o.may ∧ (o.kind = 1 ∨ o.kind = 2)) ∧ n = 1) ∨ (o.may ∧ (o.kind = 1 ∨ o.kind = 2) ∧ n = 0 ∧ y = o.ent)) w e w' := by
  obtain ⟨u, n, rfl, hb, ⟨h1, h2, h3⟩ | ⟨h1, h2, h3, h4⟩⟩ := h
  · exact ⟨u, n, _, rfl, h3, hb, .inl ⟨h1, h2⟩⟩
  · exact ⟨u, n, _, rfl, h4, hb, .inr ⟨h1, h2, h3, rfl⟩⟩
theorem makeTo {o : Co.OP} {w w' : World} {e : Ending} (h : MakeEnd o w e w') (hm : o.may) (hk : o.kind = 1 ∨ o.kind = 2) : AE (fun n y => n = 0 ∧ y = o.ent) w e w' :=
  (makeAE h).imp fun n y hq => by
    rcases hq with ⟨h, _⟩ | ⟨_, _, h1, h2⟩
    · exact absurd ⟨hm, hk⟩ h
    · exact ⟨h1, h2⟩
/-- The box p holds this entity; its lists are one's own. -/
def BoxE (B : Nat) (w : World) (p : Nat) (x : Ent) : Prop := ∃ A c A' n' c', Bx w p (x.cells (.slice A x.val.length c) (.slice A' n' c')) ∧ EOwn B w (.agg (x.cells (.slice A x.val.length c) (.slice A' n' c'))) x ∧ HT w p
theorem BoxE.below {B p : Nat} {w w' : World} {x : Ent} (h : BoxE B w p x) (hb : Below w.heap.size w w') : BoxE B w' p x := by
  obtain ⟨A, c, A', n', c', h1, h2, h3⟩ := h
  exact ⟨A, c, A', n', c', h1.below hb, h2.below hb, h3.below hb⟩
theorem BoxE.mono {B B' p : Nat} {w : World} {x : Ent} (h : BoxE B w p x) (hb : B' ≤ B) : BoxE B' w p x := by
  obtain ⟨A, c, A', n', c', h1, h2, h3⟩ := h
  exact ⟨A, c, A', n', c', h1, h2.mono hb, h3⟩
theorem boxE_new {B : Nat} {w : World} {x : Ent} {A A' : Option Addr} {c n' c' : Nat} (h : EOwn B w (.agg (x.cells (.slice A x.val.length c) (.slice A' n' c'))) x) : BoxE B (w.alloc (.cells (x.cells (.slice A x.val.length c) (.slice A' n' c')) 38)) w.heap.size x :=
  ⟨A, c, A', n', c', Bx.new w _ _, h.below ((Below.refl _ _).alloc (Nat.le_refl _) _), HT.new _ _⟩
theorem box_put {B p : Nat} {w : World} {x : Ent} {A A' : Option Addr} {c n' c' : Nat} {c0 c1 c2 c3 c4 c5 c6 : Value} (h : Bx w p #[c0, c1, c2, c3, c4, c5, c6]) (ht : HT w p) (ho : EOwn B w (.agg (x.cells (.slice A x.val.length c) (.slice A' n' c'))) x) :
    ∃ W2, (((((((w.setCell ⟨p, 0, none⟩ (.bool x.edge)).setCell ⟨p, 1, none⟩ (.int .u64 x.id)).setCell ⟨p, 2, none⟩ (.string x.lab)).setCell ⟨p, 3, none⟩ (.int .u64 x.fr)).setCell ⟨p, 4, none⟩ (.int .u64 x.til)).setCell ⟨p, 5, none⟩ (.slice A x.val.length c)).setCell ⟨p, 6, none⟩ (.slice A' n' c')) = W2 ∧ BoxE B W2 p x ∧ w.grownBy W2 (some p) := by
  obtain ⟨X8, G8⟩ := put7 h (.bool x.edge) (.int .u64 x.id) (.string x.lab) (.int .u64 x.fr) (.int .u64 x.til) (.slice A x.val.length c) (.slice A' n' c')
  obtain ⟨sv, sp, rs, e, h1, h2, h3⟩ := ho
  simp at e
  obtain ⟨rfl, rfl⟩ := e
  have HE : EOwn B _ (.agg (x.cells (.slice A x.val.length c) (.slice A' n' c'))) x := ⟨_, _, rs, rfl, World.ownsRow.kept h1 G8 (Se.OwnP.free h1 ht), World.ownsRow.kept h2 G8 (OwnR.free h2 ht), h3.len, fun i hi hg => ⟨(h3.at' i hi hg).1, World.ownsRow.kept (h3.at' i hi hg).2 G8 ((h3.at' i hi hg).2.free ht)⟩⟩
  exact ⟨_, rfl, ⟨A, c, A', n', c', X8, HE, (((((((ht.set p 0 _).set p 1 _).set p 2 _).set p 3 _).set p 4 _).set p 5 _).set p 6 _)⟩, G8⟩
theorem box_below {B p : Nat} {w0 w : World} {c0 c1 c2 c3 c4 c5 c6 : Value} (h : Bx w p #[c0, c1, c2, c3, c4, c5, c6]) (hb : Below B w0 w) (hB : B ≤ w.heap.size) (hp : B ≤ p) (x0 x1 x2 x3 x4 x5 x6 : Value) :
    Below B w0 (((((((w.setCell ⟨p, 0, none⟩ x0).setCell ⟨p, 1, none⟩ x1).setCell ⟨p, 2, none⟩ x2).setCell ⟨p, 3, none⟩ x3).setCell ⟨p, 4, none⟩ x4).setCell ⟨p, 5, none⟩ x5).setCell ⟨p, 6, none⟩ x6) :=
  hb.grown (put7 h x0 x1 x2 x3 x4 x5 x6).2 hB fun q hq => by
    have e : p = q := Option.some.inj hq
    omega
theorem f_small : (0 : Nat) < 18446744073709551616 := by decide
theorem k_wf (k : Int) (h : 0 ≤ k ∧ k ≤ 9) : (Lit.int .i64 k).wf = true := by
  simp [Lit.wf, IntKind.min, IntKind.max, IntKind.signed, IntKind.bits]; omega
theorem exE2_good : exE2.good 4 := applied_ex2.good exE1_good
theorem exE3_good : exE3.good 6 := applied_ex3.good exE2_good
section
set_option maxRecDepth 100000
set_option maxHeartbeats 8000000
theorem num13_any (n : Int) (w : World) : Calls Tryz.prog 34 #[.int .i64 n] w fun e w' => e = .returned (.agg #[.int .i64 2, .bool false, .int .i64 n, .float .f64 0, .string ⟨#[]⟩]) ∧ Below w.heap.size w w' := by
  have hsf := store_float
  go_enter Tryz.func34, Tryz.ntmps34
  go_wp2
  go_returns
  exact ⟨rfl, by go_grown⟩
theorem P13_any (a b : Int) (w : World) : Calls Tryz.prog 33 #[.int .u64 a, .int .u64 b] w fun e w' => e = .returned (.agg #[.int .u64 a, .int .u64 b]) ∧ Below w.heap.size w w' := by
  go_enter Tryz.func33, Tryz.ntmps33
  go_wp2
  go_returns
  exact ⟨rfl, by go_grown⟩
theorem exMake (w : World) : Calls Tryz.prog 16 #[.agg #[.int .i64 1, .bool false, .int .u64 1, .string ⟨#[110]⟩, .int .u64 0, .int .u64 0, .string ⟨#[]⟩, .int .i64 0, .bool false, .int .i64 0, .float .f64 0, .string ⟨#[]⟩, .int .u64 2, .int .u64 9]] w (AE (fun n y => n = 0 ∧ y = exE1) w) :=
  (Make_any exO1 w f_small).mono fun _ _ h => makeTo h exO1_may (.inl rfl)
theorem exApply2 (v : Value) (w : World) (h : EAt w v exE1) : Calls Tryz.prog 21 #[v, .agg #[.int .i64 5, .bool false, .int .u64 1, .string ⟨#[]⟩, .int .u64 0, .int .u64 0, .string ⟨#[107]⟩, .int .i64 2, .bool false, .int .i64 5, .float .f64 0, .string ⟨#[]⟩, .int .u64 3, .int .u64 6]] w (AE (fun n y => n = 0 ∧ y = exE2) w) :=
  (Apply_any v exE1 exO2 w h (exE1_good.wide (by omega)) num5_ok.1 f_small (k_wf 5 (by omega))).mono fun _ _ h => applyTo h exE1_good.may ⟨.inr (.inr rfl), exO2_may, rfl, rfl⟩ applied_ex2 fun n hr => by
    obtain ⟨_, ⟨g, _⟩ | ⟨_, _, _, g, _⟩⟩ := hr
    · exact g covers_ex
    · exact absurd g (by decide)
theorem exApply3 (v : Value) (w : World) (h : EAt w v exE2) : Calls Tryz.prog 21 #[v, .agg #[.int .i64 4, .bool false, .int .u64 1, .string ⟨#[]⟩, .int .u64 0, .int .u64 0, .string ⟨#[]⟩, .int .i64 0, .bool false, .int .i64 0, .float .f64 0, .string ⟨#[]⟩, .int .u64 4, .int .u64 5]] w (AE (fun n y => n = 0 ∧ y = exE3) w) :=
  (Apply_any v exE2 exO3 w h (exE2_good.wide (by omega)) none_wide f_small (k_wf 4 (by omega))).mono fun _ _ h => applyTo h exE2_may ⟨.inr (.inl rfl), exO3_may, rfl, rfl⟩ applied_ex3 fun n hr => by
    exact absurd hr.1 (by decide)
theorem exApply4 (v : Value) (w : World) (h : EAt w v exE3) : Calls Tryz.prog 21 #[v, .agg #[.int .i64 5, .bool false, .int .u64 1, .string ⟨#[]⟩, .int .u64 0, .int .u64 0, .string ⟨#[107]⟩, .int .i64 2, .bool false, .int .i64 7, .float .f64 0, .string ⟨#[]⟩, .int .u64 3, .int .u64 6]] w (AE (fun n _ => n = 34) w) :=
  (Apply_any v exE3 exO4 w h (exE3_good.wide (by omega)) (numV_ok 7 (by unfold fits; omega)).1 f_small (k_wf 5 (by omega))).mono fun _ _ h => applyNo h exE3_may ⟨.inr (.inr rfl), exO4_may, rfl, rfl⟩ (fun y hy => by
    rcases hy with ⟨e, _⟩ | ⟨e, _⟩ | ⟨_, hc, _⟩
    · exact absurd e (by decide)
    · exact absurd e (by decide)
    · exact refused_ex hc) fun n hr => by
    obtain ⟨_, ⟨_, g⟩ | ⟨g, _⟩⟩ := hr
    · exact g
    · exact absurd g refused_ex
end
end Go.Proofs.YtmolpogehgeebaaGreat


namespace Go.Proofs.YtmolpogehgeebaaGreat
open Go.RowKit
theorem Co.wpList_appO (w : World) {ops : Array Oper} {rest : List Oper} {o : Oper} {a : Act} {Q : Exit → Act → World → Prop} (hg : o.guard = none) (s x : Operand) (ho : o.op = .call { callee := .builtin .append, args := #[s, x], argTypes := #[27, 27] })
    (base : Nat) (v : Value) (l : List Co.OP) (hs : a.eval s = v) (h : Co.OwnO base w v l) (g : Nat) (p : Co.OP) (hx : a.eval x = .slice (some ⟨g, 0, none⟩) 1 1) (hA : w.rangeAt g 0 p.cells.toList)
    (hm : l.length + 1 ≤ 1000000000000) (hb : base ≤ w.heap.size)
    (hK : ∀ v' w', Co.OwnO base w' v' (l ++ [p]) → Below base w w' → w.grownBy w' v.ownBlock → wpList Tryz.prog ops Q rest (a.put o.dst v') w') : wpList Tryz.prog ops Q (o :: rest) a w := by
  refine wpList_plain hg fun K hK' => ?_
  obtain ⟨v', w', h1, h2, h3, _⟩ := Co.run_appO base w v l g p o.type h hA hm hb
  unfold Oper.wp execOp
  simp only [ho, resolve, invoke, builtin, Sem.run_bind, Sem.run_pure, Result.andThen_ok, List.map_toArray, List.map_cons, List.map_nil, hs, hx, h1]
  exact hK' _ _ (hK v' w' h2 ((Below.refl _ _).grown h3 hb fun k hk => (World.ownsRow.lt h k hk).1) h3)
/-- A block of this type. -/
def Blk (t : TypeId) (w : World) (p : Nat) : Prop := ∃ C fr, w.heap[p]? = some (.cells C t fr)
theorem Blk.new (w : World) (C : Array Value) (t : TypeId) : Blk t (w.alloc (.cells C t)) w.heap.size := ⟨C, _, heap_alloc_new w _⟩
theorem Blk.below {t : TypeId} {w w' : World} {p : Nat} (h : Blk t w p) (hb : Below w.heap.size w w') : Blk t w' p := by
  obtain ⟨C, fr, h⟩ := h
  exact ⟨C, fr, (hb.block p (Array.getElem?_eq_some_iff.1 h).1).trans h⟩
theorem Blk.grown {t : TypeId} {w w' : World} {p : Nat} {row : Option Nat} (h : Blk t w p) (hg : w.grownBy w' row) (hne : row ≠ some p) : Blk t w' p := by
  obtain ⟨C, fr, h⟩ := h
  exact ⟨C, fr, (hg.block p (Array.getElem?_eq_some_iff.1 h).1 fun e => hne e.symm).trans h⟩
theorem Blk.ne {t e : TypeId} {base n size p : Nat} {w : World} {v : Value} {xs : List Value} (ht : Blk t w p) (h : w.ownsRow base e size v n xs) (he : e ≠ t) : v.ownBlock ≠ some p := by
  rcases h.2 with ⟨rfl, _⟩ | ⟨g, cap, cur, rfl, _, hg, _⟩
  · exact fun h => by cases h
  · intro e2
    obtain ⟨C, fr, h2⟩ := ht
    have : g = p := Option.some.inj e2
    subst this
    rw [hg] at h2
    injection h2 with h2
    injection h2 with _ h3 _
    exact he h3
theorem Co.range_new (w : World) (o : Co.OP) (t : TypeId) : (w.alloc (.cells o.cells t)).rangeAt w.heap.size 0 o.cells.toList := fun j v hv => by
  rw [Nat.zero_add, cell_of_row _ _ _ _ _ _ (heap_alloc_new w _), ← Array.getElem?_toList]
  exact hv
theorem BoxE.far {B p q : Nat} {w w' : World} {x : Ent} (h : BoxE B w p x) (hg : w.grownBy w' (some q)) (hq : HT w q) (hne : p ≠ q) : BoxE B w' p x := by
  obtain ⟨A, c, A', n', c', h1, ⟨sv, sp, rs, e, k1, k2, k3⟩, h3⟩ := h
  exact ⟨A, c, A', n', c', h1.grown hg fun r hr e => hne (by rw [← e]; exact (Option.some.inj hr).symm), ⟨sv, sp, rs, e, World.ownsRow.kept k1 hg (Se.OwnP.free k1 hq), World.ownsRow.kept k2 hg (OwnR.free k2 hq), k3.len, fun i hi hj => ⟨(k3.at' i hi hj).1, World.ownsRow.kept (k3.at' i hi hj).2 hg ((k3.at' i hi hj).2.free hq)⟩⟩, h3.grown hg fun r hr e => hne (by rw [e]; exact (Option.some.inj hr).symm)⟩
theorem BoxE.ht {B p : Nat} {w : World} {x : Ent} (h : BoxE B w p x) : HT w p := by
  obtain ⟨_, _, _, _, _, _, _, h⟩ := h; exact h
end Go.Proofs.YtmolpogehgeebaaGreat


