/- Same of states, Get. -/
import Derived.Test.YtmolpogehgeebaaGreatmC
namespace Go.Proofs.YtmolpogehgeebaaGreat
open Go.RowKit
/-- Entities that may be, and can be gone through. -/
def OkL (l : List Ent) : Prop := ∀ x ∈ l, x.may ∧ x.wide
def SameS (s z : St) : Prop := s = z
def EqL (l m : List Ent) : Prop := l = m
theorem sameS_iff (s z : St) : SameS s z ↔ EqL s.ns z.ns ∧ EqL s.es z.es := by
  unfold SameS EqL
  cases s; cases z; simp
section
set_option linter.unusedSimpArgs false
set_option maxRecDepth 100000
set_option maxHeartbeats 8000000
theorem EqualE_any (va vb : Value) (l m : List Ent) (w : World) (ha : SE w va l) (hb : SE w vb m) (hl : OkL l) (hm : OkL m) :
    Calls Tryz.prog 114 #[va, vb, .func (.func 74) #[] #[]] w (Says (EqL l m) w) := by
  obtain ⟨A, c, rfl, hA, ha⟩ := ha
  obtain ⟨B, d, rfl, hB, hb⟩ := hb
  have HA := Lib.hid hA
  have HB := Lib.hid hB
  have HL := Lib.hid hl
  have HM := Lib.hid hm
  clear hA hB hl hm
  by_cases hne : l.length = m.length
  case neg =>
    have HN : Hid (¬ EqL l m) := Lib.hid fun e => hne (by rw [show l = m from e])
    have hne' : ((l.length : Int) != (m.length : Int)) = true := by simp; omega
    clear hne
    go_enter Tryz.func114, Tryz.ntmps114
    go_wp2
    go_ret
    exact ⟨false, rfl, by simp [HN.out], Below.refl _ _⟩
  have HE := Lib.hid hne
  have hne' : ((l.length : Int) != (m.length : Int)) = false := by simp [hne]
  clear hne
  go_enter Tryz.func114, Tryz.ntmps114
  go_wp2
  clear hne'
  go_loopw [17] (fun i wr => ∃ k : Nat, k ≤ l.length ∧ i = .int .i64 k ∧ (∀ j (h : j < l.length) (g : j < m.length), j < k → l[j] = m[j]) ∧ Below w.heap.size w wr) (fun i _ => l.length - (intOf i).toNat)
  case atStart => exact ⟨0, Nat.zero_le _, rfl, fun j _ _ h => absurd h (Nat.not_lt_zero j), Below.refl _ _⟩
  case round =>
    obtain ⟨k, hk, rfl, hp, hbl⟩ := hrel
    have HP := Lib.hid hp
    have HBl := Lib.hid hbl
    clear hp hbl
    by_cases hlt : k < l.length
    · have hlt2 : k < m.length := by have := HE.out; omega
      obtain ⟨g, og, rfl, lg, cg⟩ := (HA.out.below HBl.out) (by omega)
      obtain ⟨q, oq, rfl, lq, cq⟩ := (HB.out.below HBl.out) (by omega)
      obtain ⟨sv, sp, r, hsv, hsp⟩ := cg k hlt
      obtain ⟨tv, tp, r2, htv, htp⟩ := cq k hlt2
      have HK : Hid (SameE l[k] m[k] → ∀ j (h : j < l.length) (g : j < m.length), j < k + 1 → l[j] = m[j]) := Lib.hid fun h j h1 g1 h2 => if e : j = k then (by subst e; exact h) else HP.out j h1 g1 (by omega)
      have HN : Hid (¬ SameE l[k] m[k] → ¬ EqL l m) := Lib.hid fun h e => h (by unfold EqL at e; subst e; rfl)
      have hx := HL.out _ (List.getElem_mem hlt)
      have hy := HM.out _ (List.getElem_mem hlt2)
      have CS := Lib.hid (fun W (hb : Below wr.heap.size wr W) => eSame_any (.agg (l[k].cells sv sp)) (.agg (m[k].cells tv tp)) l[k] m[k] W ⟨sv, sp, rfl, hsv.below hb, hsp.below hb⟩ ⟨tv, tp, rfl, htv.below hb, htp.below hb⟩ (may_wm hx.1) (may_wm hy.1) (by have := hx.2.lenV; omega) (by have := hy.2.lenV; omega))
      have LQ := Lib.hid lq
      have i0 : (k : Int) < (l.length : Int) := by omega
      have i3 : (k : Int) < (m.length : Int) := by omega
      have i1 : (0 : Int) ≤ (k : Int) := by omega
      clear cg cq HA HB HL HM HP lq hx hy
      generalize l[k] = x at *
      generalize m[k] = y at *
      obtain ⟨xe, xid, xlab, xfr, xtil, xval, xps⟩ := x
      obtain ⟨ye, yid, ylab, yfr, ytil, yval, yps⟩ := y
      obtain ⟨Av, cv, rfl, _⟩ := hsv
      obtain ⟨Ap, cp, rfl, _, _⟩ := hsp
      obtain ⟨Bv, dv, rfl, _⟩ := htv
      obtain ⟨Bp, dp, rfl, _, _⟩ := htp
      simp only at r r2 CS
      go_upto_region 6 with (refine wpList_load_mid rfl 38 (.tmp 20) rfl g (og + k * 7) rfl _ _ r Tryz.underlying38 rfl rowEnt ?_)
      have HA1 := Lib.hid ((Below.refl wr.heap.size wr).alloc (Nat.le_refl _) (.cells #[.bool xe, .int .u64 xid, .string xlab, .int .u64 xfr, .int .u64 xtil, .slice Av xval.length cv, .slice Ap xps.length cp] 38))
      have X1 := Lib.hid (Bx.new wr #[.bool xe, .int .u64 xid, .string xlab, .int .u64 xfr, .int .u64 xtil, .slice Av xval.length cv, .slice Ap xps.length cp] 38)
      obtain ⟨V, hV⟩ : ∃ W, wr.alloc (.cells #[.bool xe, .int .u64 xid, .string xlab, .int .u64 xfr, .int .u64 xtil, .slice Av xval.length cv, .slice Ap xps.length cp] 38) = W := ⟨_, rfl⟩
      rw [hV] at HA1 X1
      try rw [hV]
      clear hV r
      obtain ⟨p8, hp8⟩ : ∃ r, wr.heap.size = r := ⟨_, rfl⟩
      have Z8 := Lib.hid hp8
      rw [hp8] at X1
      try rw [hp8]
      clear hp8
      have R2 : World.rangeAt V q (oq + k * 7) (#[.bool ye, .int .u64 yid, .string ylab, .int .u64 yfr, .int .u64 ytil, .slice Bv yval.length dv, .slice Bp yps.length dp] : Array Value).toList := fun j v hv => (HA1.out.cell (p := ⟨q, oq + k * 7 + j, none⟩) LQ.out).trans (r2 j v hv)
      clear r2
      go_upto_region 7 with (refine wpList_load_mid rfl 38 (.tmp 24) rfl q (oq + k * 7) rfl _ _ R2 Tryz.underlying38 rfl rowEnt ?_)
      clear R2
      have HA2 := Lib.hid (HA1.out.alloc HA1.out.size (.cells #[.bool ye, .int .u64 yid, .string ylab, .int .u64 yfr, .int .u64 ytil, .slice Bv yval.length dv, .slice Bp yps.length dp] 38))
      have X2 := Lib.hid (X1.out.below ((Below.refl V.heap.size V).alloc (Nat.le_refl _) (.cells #[.bool ye, .int .u64 yid, .string ylab, .int .u64 yfr, .int .u64 ytil, .slice Bv yval.length dv, .slice Bp yps.length dp] 38)))
      have Y2 := Lib.hid (Bx.new V #[.bool ye, .int .u64 yid, .string ylab, .int .u64 yfr, .int .u64 ytil, .slice Bv yval.length dv, .slice Bp yps.length dp] 38)
      obtain ⟨V2, hV2⟩ : ∃ W, V.alloc (.cells #[.bool ye, .int .u64 yid, .string ylab, .int .u64 yfr, .int .u64 ytil, .slice Bv yval.length dv, .slice Bp yps.length dp] 38) = W := ⟨_, rfl⟩
      rw [hV2] at HA2 X2 Y2
      try rw [hV2]
      clear hV2
      have x0 := X2.out.c
      have y0 := Y2.out.c
      go_wp2_with (go_at_call 74; (with_reducible refine (CS.out _ HA2.out).mono ?_); rintro e w1 ⟨c1, rfl, hc, hb⟩; have HC := Lib.hid hc; have B1 := Lib.hid (HBl.out.trans ((HA2.out.trans (hb.mono HA2.out.size)).mono HBl.out.size)); clear hc hb x0 y0; cases c1)
      · go_ret
        exact ⟨false, rfl, by simp [HN.out (fun e => by have := HC.out.2 e; cases this)], B1.out⟩
      · exact ⟨⟨k + 1, by omega, by go_num, HK.out (HC.out.1 (by trivial)), B1.out⟩, by simp [intOf]; omega⟩
    · have HT : Hid (EqL l m) := Lib.hid (List.ext_getElem HE.out fun j h1 h2 => HP.out j h1 h2 (by omega))
      clear HP
      go_wp2
      go_ret
      exact ⟨true, rfl, by simp [HT.out], HBl.out⟩
theorem bSame_any (va vb : Value) (s z : St) (w : World) (ha : SAt w va s) (hb : SAt w vb z) (h1 : OkL s.ns) (h2 : OkL s.es) (h3 : OkL z.ns) (h4 : OkL z.es) :
    Calls Tryz.prog 38 #[va, vb] w (Says (SameS s z) w) := by
  obtain ⟨sn, se, rfl, hn, he⟩ := ha
  obtain ⟨zn, ze, rfl, kn, ke⟩ := hb
  have C1 := Lib.hid (fun W (hb : Below w.heap.size w W) => EqualE_any sn zn s.ns z.ns W (hn.below hb) (kn.below hb) h1 h3)
  have C2 := Lib.hid (fun W (hb : Below w.heap.size w W) => EqualE_any se ze s.es z.es W (he.below hb) (ke.below hb) h2 h4)
  have HS := Lib.hid (sameS_iff s z)
  obtain ⟨A1, c1, rfl, _, _⟩ := hn
  obtain ⟨A2, c2, rfl, _, _⟩ := he
  obtain ⟨A3, c3, rfl, _, _⟩ := kn
  obtain ⟨A4, c4, rfl, _, _⟩ := ke
  clear h1 h2 h3 h4
  obtain ⟨P1, hP1⟩ : ∃ P, EqL s.ns z.ns = P := ⟨_, rfl⟩
  obtain ⟨P2, hP2⟩ : ∃ P, EqL s.es z.es = P := ⟨_, rfl⟩
  rw [hP1] at C1 HS
  rw [hP2] at C2 HS
  clear hP1 hP2
  have B0 := Lib.hid (((Below.refl w.heap.size w).alloc (Nat.le_refl _) (.cells #[.slice A1 s.ns.length c1, .slice A2 s.es.length c2] 76)).alloc (by simp) (.cells #[.slice A3 z.ns.length c3, .slice A4 z.es.length c4] 76))
  have X0 := Lib.hid ((Bx.new w #[.slice A1 s.ns.length c1, .slice A2 s.es.length c2] 76).below ((Below.refl _ _).alloc (Nat.le_refl _) (.cells #[.slice A3 z.ns.length c3, .slice A4 z.es.length c4] 76)))
  have Y0 := Lib.hid (Bx.new (w.alloc (.cells #[.slice A1 s.ns.length c1, .slice A2 s.es.length c2] 76)) #[.slice A3 z.ns.length c3, .slice A4 z.es.length c4] 76)
  rw [show (w.alloc (.cells #[.slice A1 s.ns.length c1, .slice A2 s.es.length c2] 76)).heap.size = w.heap.size + 1 by simp] at Y0
  go_enter Tryz.func38, Tryz.ntmps38
  go_upto_region 1 with fail
  obtain ⟨W0, hW0⟩ : ∃ W, (w.alloc (.cells #[.slice A1 s.ns.length c1, .slice A2 s.es.length c2] 76)).alloc (.cells #[.slice A3 z.ns.length c3, .slice A4 z.es.length c4] 76) = W := ⟨_, rfl⟩
  rw [hW0] at B0 X0 Y0
  try rw [hW0]
  clear hW0
  have x0 := X0.out.c
  have y0 := Y0.out.c
  go_wp2_with (first
    | (go_at_call 114; (with_reducible refine (C1.out _ B0.out).mono ?_); rintro e w1 ⟨d1, rfl, hc, hb⟩; have HC1 := Lib.hid hc; have B1 := Lib.hid (B0.out.trans (hb.mono B0.out.size)); have X1 := Lib.hid (X0.out.below hb); have Y1 := Lib.hid (Y0.out.below hb); clear hc hb x0 y0; have x0 := X1.out.c; have y0 := Y1.out.c; cases d1)
    | (go_at_call 114; (with_reducible refine (C2.out _ B1.out).mono ?_); rintro e w2 ⟨d2, rfl, hc, hb⟩; have HC2 := Lib.hid hc; have B2 := Lib.hid (B1.out.trans (hb.mono B1.out.size)); clear hc hb x0 y0)
    | fail)
  · go_ret
    exact ⟨false, rfl, by rw [HS.out, ← HC1.out]; simp, B1.out⟩
  · go_ret
    exact ⟨d2, rfl, by rw [HS.out, ← HC1.out, ← HC2.out]; simp, B2.out⟩
theorem Bx.list {w : World} {p : Nat} {s : St} {A1 A2 : Option Addr} {c1 c2 : Nat} (h : Bx w p #[.slice A1 s.ns.length c1, .slice A2 s.es.length c2]) (edge : Bool) : ∃ A c, w.cell? ⟨p, jOf edge, none⟩ = some (.slice A (s.list edge).length c) ∧ (∀ W, SE W (.slice A1 s.ns.length c1) s.ns → SE W (.slice A2 s.es.length c2) s.es → SE W (.slice A (s.list edge).length c) (s.list edge)) := by
  cases edge
  · exact ⟨A1, c1, h.c 0, fun _ a _ => a⟩
  · exact ⟨A2, c2, h.c 1, fun _ _ b => b⟩
end
end Go.Proofs.YtmolpogehgeebaaGreat


