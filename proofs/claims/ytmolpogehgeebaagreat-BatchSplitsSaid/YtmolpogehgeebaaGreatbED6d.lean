/- What an entity becomes by an operation: Apply, where its kind is none of the three. -/
/- What an entity becomes by an operation: Apply. -/
/- An operation makes one entity of another; the chapter's example. No program. -/
/- The chapter's example, in plain words. No program. -/
import Derived.Test.YtmolpogehgeebaaGreatbED1
import Derived.Test.YtmolpogehgeebaaGreatbED6a
import Derived.Test.YtmolpogehgeebaaGreatbED6b
import Derived.Test.YtmolpogehgeebaaGreatbED6c
import Derived.Test.YtmolpogehgeebaaGreatbH3
namespace Go.Proofs.YtmolpogehgeebaaGreat
open Go.RowKit
section
set_option maxRecDepth 100000
set_option maxHeartbeats 16000000
theorem Apply_else (v : Value) (x : Ent) (o : Co.OP) (w : World) (h : EAt w v x) (hx : x.wide) (hvw : o.v.wide) (hf : o.v.f < 18446744073709551616) (hkw : (Lit.int .i64 o.kind).wf = true) (hkk : o.kind ≠ 3 ∧ o.kind ≠ 4 ∧ o.kind ≠ 5) :
    Calls Tryz.prog 21 #[v, o.val] w (ApplyEnd x o w) := by
  have CO := Lib.hid (fun W => Co.MayOp_any o hf W)
  obtain ⟨sv, sp, rfl, hv, hp⟩ := h
  have HE := Lib.hid (show EAt w (.agg (x.cells sv sp)) x from ⟨sv, sp, rfl, hv, hp⟩)
  have HX := Lib.hid hx
  have CM := Lib.hid (fun W (hb : Below w.heap.size w W) => eMay_any (.agg (x.cells sv sp)) x W (HE.out.below hb) hx)
  have CC := Lib.hid (fun W (hb : Below w.heap.size w W) (hm : x.may) => eClone_any (.agg (x.cells sv sp)) x W (HE.out.below hb) hm hx)
  have EF := Lib.hid (fun W => effects_any W)
  have LK := Lib.hid (fun W m (h : EffM W m) => h.look o.kind hkw)
  have E3 := Lib.hid (fun base p W (h : Held base p W x) (hb : base ≤ W.heap.size) (hm : x.may) (ho : o.may) (hk : o.kind = 3) => eff_keep base p x o W h hb hx hm ho hk)
  have E4 := Lib.hid (fun base p W (h : Held base p W x) (hb : base ≤ W.heap.size) (hm : x.may) (ho : o.may) (hk : o.kind = 4) => eff_drop base p x o W h hb hx hm ho hk)
  have E5 := Lib.hid (fun base p W (h : Held base p W x) (hb : base ≤ W.heap.size) (hm : x.may) (ho : o.may) (hk : o.kind = 5) => eff_set base p x o W h hb hx hm ho hvw hk)
  obtain ⟨Av, cv, rfl, _⟩ := hv
  obtain ⟨Ap, cp, rfl, _, _⟩ := hp
  have HKK := Lib.hid hkk
  clear hx hvw hf hkw hkk
  have hsf := store_float
  obtain ⟨xe, xid, xlab, xfr, xtil, val, ps⟩ := x
  obtain ⟨kind, edge, id, label, fr, til, key, ⟨k, b, n, f, s⟩, pf, pt⟩ := o
  simp only at CM CC LK HE CO HKK ⊢
  have B0 := Lib.hid ((((Below.refl w.heap.size w).alloc (Nat.le_refl _) (.cells #[.bool xe, .int .u64 xid, .string xlab, .int .u64 xfr, .int .u64 xtil, .slice Av val.length cv, .slice Ap ps.length cp] 38)).alloc (by simp) (.cells #[.int .i64 kind, .bool edge, .int .u64 id, .string label, .int .u64 fr, .int .u64 til, .string key, .int .i64 k, .bool b, .int .i64 n, .float .f64 f, .string s, .int .u64 pf, .int .u64 pt] 35)).alloc (by simp; omega) (.cells #[.bool false, .int .u64 0, .string ⟨#[]⟩, .int .u64 0, .int .u64 0, .slice none 0 0, .slice none 0 0] 38))
  have X0 := Lib.hid (((Bx.new w #[.bool xe, .int .u64 xid, .string xlab, .int .u64 xfr, .int .u64 xtil, .slice Av val.length cv, .slice Ap ps.length cp] 38).below ((Below.refl _ _).alloc (Nat.le_refl _) (.cells #[.int .i64 kind, .bool edge, .int .u64 id, .string label, .int .u64 fr, .int .u64 til, .string key, .int .i64 k, .bool b, .int .i64 n, .float .f64 f, .string s, .int .u64 pf, .int .u64 pt] 35))).below ((Below.refl _ _).alloc (Nat.le_refl _) (.cells #[.bool false, .int .u64 0, .string ⟨#[]⟩, .int .u64 0, .int .u64 0, .slice none 0 0, .slice none 0 0] 38)))
  have O0 := Lib.hid ((Bx.new (w.alloc (.cells #[.bool xe, .int .u64 xid, .string xlab, .int .u64 xfr, .int .u64 xtil, .slice Av val.length cv, .slice Ap ps.length cp] 38)) #[.int .i64 kind, .bool edge, .int .u64 id, .string label, .int .u64 fr, .int .u64 til, .string key, .int .i64 k, .bool b, .int .i64 n, .float .f64 f, .string s, .int .u64 pf, .int .u64 pt] 35).below ((Below.refl _ _).alloc (Nat.le_refl _) (.cells #[.bool false, .int .u64 0, .string ⟨#[]⟩, .int .u64 0, .int .u64 0, .slice none 0 0, .slice none 0 0] 38)))
  have Y0 := Lib.hid (Bx.new ((w.alloc (.cells #[.bool xe, .int .u64 xid, .string xlab, .int .u64 xfr, .int .u64 xtil, .slice Av val.length cv, .slice Ap ps.length cp] 38)).alloc (.cells #[.int .i64 kind, .bool edge, .int .u64 id, .string label, .int .u64 fr, .int .u64 til, .string key, .int .i64 k, .bool b, .int .i64 n, .float .f64 f, .string s, .int .u64 pf, .int .u64 pt] 35)) #[.bool false, .int .u64 0, .string ⟨#[]⟩, .int .u64 0, .int .u64 0, .slice none 0 0, .slice none 0 0] 38)
  rw [show (w.alloc (.cells #[.bool xe, .int .u64 xid, .string xlab, .int .u64 xfr, .int .u64 xtil, .slice Av val.length cv, .slice Ap ps.length cp] 38)).heap.size = w.heap.size + 1 by simp] at O0
  rw [show ((w.alloc (.cells #[.bool xe, .int .u64 xid, .string xlab, .int .u64 xfr, .int .u64 xtil, .slice Av val.length cv, .slice Ap ps.length cp] 38)).alloc (.cells #[.int .i64 kind, .bool edge, .int .u64 id, .string label, .int .u64 fr, .int .u64 til, .string key, .int .i64 k, .bool b, .int .i64 n, .float .f64 f, .string s, .int .u64 pf, .int .u64 pt] 35)).heap.size = w.heap.size + 1 + 1 by simp] at Y0
  go_enter Tryz.func21, Tryz.ntmps21
  go_upto_region 1 with fail
  obtain ⟨W0, hW0⟩ : ∃ W, ((w.alloc (.cells #[.bool xe, .int .u64 xid, .string xlab, .int .u64 xfr, .int .u64 xtil, .slice Av val.length cv, .slice Ap ps.length cp] 38)).alloc (.cells #[.int .i64 kind, .bool edge, .int .u64 id, .string label, .int .u64 fr, .int .u64 til, .string key, .int .i64 k, .bool b, .int .i64 n, .float .f64 f, .string s, .int .u64 pf, .int .u64 pt] 35)).alloc (.cells #[.bool false, .int .u64 0, .string ⟨#[]⟩, .int .u64 0, .int .u64 0, .slice none 0 0, .slice none 0 0] 38) = W := ⟨_, rfl⟩
  rw [hW0] at B0 X0 O0 Y0
  try rw [hW0]
  clear hW0
  obtain ⟨p1, hp1⟩ : ∃ q, w.heap.size = q := ⟨_, rfl⟩
  obtain ⟨p2, hp2⟩ : ∃ q, w.heap.size + 1 = q := ⟨_, rfl⟩
  obtain ⟨p3, hp3⟩ : ∃ q, w.heap.size + 1 + 1 = q := ⟨_, rfl⟩
  rw [hp1] at X0
  rw [hp2] at O0
  rw [hp3] at Y0
  have HP1 := Lib.hid (show w.heap.size ≤ p3 by omega)
  try rw [hp3]
  try rw [hp2]
  try rw [hp1]
  clear hp1 hp2 hp3
  have x0 := X0.out.c
  go_upto_region 3 with (first
    | (go_at_call 25; (with_reducible refine (CM.out _ B0.out).mono ?_); rintro e w1 ⟨c1, rfl, hc1, hb⟩; have HC1 := Lib.hid hc1; have B1 := Lib.hid (B0.out.trans (hb.mono B0.out.size)); have X1 := Lib.hid (X0.out.below hb); have O1 := Lib.hid (O0.out.below hb); have Y1 := Lib.hid (Y0.out.below hb); clear hb hc1 x0; have x0 := X1.out.c; have o0 := O1.out.c; have y0 := Y1.out.c; have y1 := Y1.out.fr; cases c1)
    | fail)
  · obtain ⟨W9, hW9, X9, B9, E9⟩ := make_put (base := w.heap.size) Y1.out HP1.out (Se.OwnP.nil w.heap.size _) (.inl rfl) B1.out B1.out.size false 0 0 0 ⟨#[]⟩
    rw [hW9]
    have HB9 := Lib.hid B9
    have HE9 := Lib.hid E9
    clear hW9 B9 E9
    have s0 := X9.c 0
    have s1 := X9.c 1
    have s2 := X9.c 2
    have s3 := X9.c 3
    have s4 := X9.c 4
    have s5 := X9.c 5
    have s6 := X9.c 6
    refine bodyPost_ret (v := .tuple #[.agg #[.bool false, .int .u64 0, .string ⟨#[]⟩, .int .u64 0, .int .u64 0, .slice none 0 0, .slice none 0 0], .int .i64 5]) (by simp [results, Tryz.results21, go_sem, s0, s1, s2, s3, s4, s5, s6]) rfl ?_
    exact ⟨_, _, rfl, HB9.out, .inl ⟨fun h => by have := HC1.out.2 h; simp at this, rfl, HE9.out⟩⟩
  · have HM := Lib.hid (HC1.out.1 (by trivial))
    clear CM
    obtain ⟨hk3, hk4, hk5⟩ := HKK.out
    clear HKK
    clear x0 o0 y0 y1
    have HD : decide (kind = 3 ∨ kind = 4 ∨ kind = 5) = false := by simp [hk3, hk4, hk5]
    have HF : fnOf kind = .nilFunc := by unfold fnOf; rw [if_neg hk3, if_neg hk4, if_neg hk5]
    have LK3 := Lib.hid (fun W m (h : EffM W m) => show (Instr.lookup 158 (.map (some m)) (.int .i64 kind) true).run Tryz.prog W = .ok (.tuple #[.nilFunc, .bool false]) W by rw [LK.out W m h, HD, HF])
    have HNK := Lib.hid (show ¬ (kind = 3 ∨ kind = 4 ∨ kind = 5) by omega)
    have K0 : Hid (∀ w', Below w1.heap.size w1 w' → w'.cell? ⟨p2, 0, none⟩ = some (.int .i64 kind)) := Lib.hid fun w' hb => (O1.out.below hb).c 0
    clear HD HF hk3 hk4 hk5
    go_region_held3 (fun w' => w'.cell? ⟨p2, 0, none⟩ = some (.int .i64 kind)) (first
      | exact K0.out _ (Below.refl _ _).drew
      | exact K0.out _ HV.out
      | fail) (first
      | (go_at_call 84; (with_reducible refine (EF.out _).mono ?_); rintro e w2 ⟨m, rfl, hm, hb⟩; have lk := LK3.out _ _ hm; have HV := Lib.hid (show Below w1.heap.size w1 w2 from (Below.refl _ _).drew.trans hb); clear hb)
      | fail)
    have Y2 := Lib.hid (Y1.out.below HV.out)
    have B2 := Lib.hid (B1.out.trans (HV.out.mono B1.out.size))
    clear lk LK3 K0
    have y0 := Y2.out.c
    have y1 := Y2.out.fr
    go_wp2_with fail
    obtain ⟨W9, hW9, X9, B9, E9⟩ := make_put (base := w.heap.size) Y2.out HP1.out (Se.OwnP.nil w.heap.size _) (.inl rfl) B2.out B2.out.size false 0 0 0 ⟨#[]⟩
    rw [hW9]
    have HB9 := Lib.hid B9
    have HE9 := Lib.hid E9
    clear hW9 B9 E9
    have s0 := X9.c 0
    have s1 := X9.c 1
    have s2 := X9.c 2
    have s3 := X9.c 3
    have s4 := X9.c 4
    have s5 := X9.c 5
    have s6 := X9.c 6
    refine bodyPost_ret (v := .tuple #[.agg #[.bool false, .int .u64 0, .string ⟨#[]⟩, .int .u64 0, .int .u64 0, .slice none 0 0, .slice none 0 0], .int .i64 1]) (by simp [results, Tryz.results21, go_sem, s0, s1, s2, s3, s4, s5, s6]) rfl ?_
    exact ⟨_, _, rfl, HB9.out, .inr (.inl ⟨HM.out, fun h => HNK.out h.1, rfl, HE9.out⟩)⟩
end
end Go.Proofs.YtmolpogehgeebaaGreat


namespace Go.Proofs.YtmolpogehgeebaaGreat
open Go.RowKit
theorem Apply_any (v : Value) (x : Ent) (o : Co.OP) (w : World) (h : EAt w v x) (hx : x.wide) (hvw : o.v.wide) (hf : o.v.f < 18446744073709551616) (hkw : (Lit.int .i64 o.kind).wf = true) :
    Calls Tryz.prog 21 #[v, o.val] w (ApplyEnd x o w) := by
  by_cases h3 : o.kind = 3
  · exact Apply_3 v x o w h hx hvw hf hkw h3
  · by_cases h4 : o.kind = 4
    · exact Apply_4 v x o w h hx hvw hf hkw h4
    · by_cases h5 : o.kind = 5
      · exact Apply_5 v x o w h hx hvw hf hkw h5
      · exact Apply_else v x o w h hx hvw hf hkw ⟨h3, h4, h5⟩
end Go.Proofs.YtmolpogehgeebaaGreat


namespace Go.Proofs.YtmolpogehgeebaaGreat
open Go.RowKit
theorem Ent.kin.from {x y z : Ent} (h : x.kin y) (k : x.kin z) : y.kin z := ⟨k.edge.trans h.edge.symm, k.id.trans h.id.symm, k.lab.trans h.lab.symm, k.fr.trans h.fr.symm, k.til.trans h.til.symm⟩
theorem bool_of {a b : Bool} {P : Prop} (h : a = true ↔ P) (k : b = true ↔ P) : a = b := Bool.eq_iff_iff.2 (h.trans k.symm)
/-- What an operation makes is known. -/
theorem Applied.one {x y z : Ent} {o : Co.OP} (h : Applied x o y) (k : Applied x o z) : y = z := by
  rcases h with ⟨hk, h1, h2, h3, h4⟩ | ⟨hk, h1, h2, h3, h4⟩ | ⟨hk, _, h1, h2, h3, h4⟩
  · rcases k with ⟨_, k1, k2, k3, k4⟩ | ⟨e, _⟩ | ⟨e, _⟩
    · exact Ent.ext h2 k2 (h1.from k1) (fun t => bool_of (h3 t) (k3 t)) fun q t => by rw [h4, k4]
    · omega
    · omega
  · rcases k with ⟨e, _⟩ | ⟨_, k1, k2, k3, k4⟩ | ⟨e, _⟩
    · omega
    · refine Ent.ext h2 k2 (h1.from k1) (fun t => bool_of (h3 t) (k3 t)) fun q t => ?_
      by_cases g : (o.pf : Int) ≤ t ∧ t < o.pt
      · rw [(h4 q t).1 g, (k4 q t).1 g]
      · rw [(h4 q t).2 g, (k4 q t).2 g]
    · omega
  · rcases k with ⟨e, _⟩ | ⟨e, _⟩ | ⟨_, _, k1, k2, k3, k4⟩
    · omega
    · omega
    · refine Ent.ext h2 k2 (h1.from k1) (fun t => by rw [h3, k3]) fun q t => ?_
      by_cases g : q = o.key ∧ (o.pf : Int) ≤ t ∧ t < o.pt
      · rw [(h4 q t).1 g, (k4 q t).1 g]
      · rw [(h4 q t).2 g, (k4 q t).2 g]
theorem Applied.kin {x y : Ent} {o : Co.OP} (h : Applied x o y) : x.kin y := by
  rcases h with ⟨_, h1, _⟩ | ⟨_, h1, _⟩ | ⟨_, _, h1, _⟩ <;> exact h1
theorem Applied.may {x y : Ent} {o : Co.OP} (h : Applied x o y) : y.may := by
  rcases h with ⟨_, _, h1, _⟩ | ⟨_, _, h1, _⟩ | ⟨_, _, _, h1, _⟩ <;> exact h1
theorem Applied.still {x y : Ent} {o : Co.OP} {B : List Int} (h : Applied x o y) (hx : x.still B) : y.still ((o.pf : Int) :: (o.pt : Int) :: B) := by
  rcases h with ⟨_, h1⟩ | ⟨_, h1⟩ | ⟨_, _, h1⟩
  · exact h1.still hx
  · exact h1.still hx
  · exact h1.still hx
theorem made_still (o : Co.OP) : (Ent.mk o.edge o.id o.label o.fr o.til [((o.pf : Int), (o.pt : Int))] []).still [(o.pf : Int), (o.pt : Int)] := by
  refine ⟨fun t ht => ?_, fun k t _ => rfl⟩
  simp only [List.mem_cons, List.not_mem_nil, or_false, not_or] at ht
  simp only [Se.Iset.has_cons, Se.Iset.has_nil, Bool.or_false]
  rw [Bool.eq_iff_iff, Se.Iset.hasP_iff, Se.Iset.hasP_iff]
  omega
theorem made_may {o : Co.OP} (h : o.may) (hk : o.kind = 1 ∨ o.kind = 2) : (Ent.mk o.edge o.id o.label o.fr o.til [((o.pf : Int), (o.pt : Int))] []).may := by
  have hp := may_period h
  have hid := h.1
  have hl : Co.labelB o.label = true → (o.label = ByteArray.empty ∨ Co.wordB o.label = true) := fun g => by
    unfold Co.labelB at g
    simpa using g
  refine ⟨by unfold Co.idP at hid; show (1 : Int) ≤ (o.id : Int) ∧ (o.id : Int) ≤ 1099511627776; omega, ?_, ?_, ⟨fun p hp' => ?_, by simp⟩, by simp, ⟨by simp, by simp, by simp⟩⟩
  · rcases h.2.2.2 with g | g | g | g
    · exact hl g.2.2.1
    · exact hl g.2.2.1
    · exact .inl g.2.1
    · exact .inl g.2.1
  · rcases h.2.2.2 with g | g | g | g
    · refine ⟨fun e => ?_, fun _ => ⟨?_, ?_⟩⟩
      · have : o.edge = true := e
        rw [g.2.1] at this; cases this
      · show (o.fr : Int) = 0; rw [g.2.2.2.1]; rfl
      · show (o.til : Int) = 0; rw [g.2.2.2.2.1]; rfl
    · refine ⟨fun _ => ?_, fun e => ?_⟩
      · have h1 := g.2.2.2.1
        have h2 := g.2.2.2.2.1
        unfold Co.idP at h1 h2
        show ((1 : Int) ≤ (o.fr : Int) ∧ (o.fr : Int) ≤ 1099511627776) ∧ (1 : Int) ≤ (o.til : Int) ∧ (o.til : Int) ≤ 1099511627776
        omega
      · have : o.edge = false := e
        rw [g.2.1] at this; cases this
    · omega
    · omega
  · have e : p = ((o.pf : Int), (o.pt : Int)) := by simpa using hp'
    rw [e, Se.Iset.mayP_iff]
    exact hp
/-- Whose lists change but at so few instants, and whose numbers lie in their ranges, is not too long. -/
theorem may_wide {x : Ent} (h : x.may) {B : List Int} (hs : x.still B) (hB : B.length ≤ 100000) (hw : Se.Iset.Wide x.val) (ha : ∀ p ∈ x.ps, ∀ y ∈ p.l, 0 ≤ y.a ∧ 0 ≤ y.b) : x.wide := by
  obtain ⟨h1, h2⟩ := hs.lens h
  exact ⟨hw, by omega, fun p hp => by have := h2 p hp; omega, fun p hp y hy => ((h.ps.line p hp).1.good y hy).2.2.1, ha⟩
/-- Nothing of it lies ahead of all time. -/
structure Ent.late (x : Ent) : Prop where
  val : ∀ t, t < 0 → Se.Iset.has x.val t = false
  ps : ∀ k t, t < 0 → atK x.ps k t = VP.none
theorem Ent.late.wides {x : Ent} (h : x.late) (hm : x.may) : Se.Iset.Wide x.val ∧ ∀ p ∈ x.ps, ∀ y ∈ p.l, 0 ≤ y.a ∧ 0 ≤ y.b := by
  refine ⟨hm.val.wide h.val, fun p hp y hy => ?_⟩
  obtain ⟨hl, _, _⟩ := hm.ps.line p hp
  have hg := hl.good y hy
  have : 0 ≤ y.a := Classical.byContradiction fun n => by
    have e := h.ps p.k y.a (by omega)
    unfold atK at e
    rw [lineK_mem hm.ps.row hp, Pl.means_at VP.none hl.par hy (Int.le_refl _) hg.1] at e
    exact none_ok (by rw [← e]; exact hg.2.2)
  exact ⟨this, by have := hg.1; omega⟩
theorem late_of {x : Ent} (hw : Se.Iset.Wide x.val) (ha : ∀ p ∈ x.ps, ∀ y ∈ p.l, 0 ≤ y.a ∧ 0 ≤ y.b) : x.late := by
  refine ⟨fun t ht => Se.Iset.has_neg _ hw t ht, fun k t ht => ?_⟩
  unfold atK
  rcases lineK_case x.ps k with ⟨p, hp, rfl, e⟩ | ⟨_, e⟩
  · rw [e]
    exact Pl.means_none _ _ _ fun y hy g => by have := (ha p hp y hy).1; omega
  · rw [e]; rfl
theorem Applied.late {x y : Ent} {o : Co.OP} (h : Applied x o y) (hx : x.late) : y.late := by
  have h0 : ∀ t : Int, t < 0 → ¬ ((o.pf : Int) ≤ t ∧ t < o.pt) := fun t ht g => by omega
  rcases h with ⟨_, _, _, h3, h4⟩ | ⟨_, _, _, h3, h4⟩ | ⟨_, _, _, _, h3, h4⟩
  · refine ⟨fun t ht => ?_, fun k t ht => by rw [h4]; exact hx.ps k t ht⟩
    rw [← Bool.not_eq_true, h3]
    rintro (g | g)
    · rw [hx.val t ht] at g; cases g
    · exact h0 t ht g
  · refine ⟨fun t ht => ?_, fun k t ht => by rw [(h4 k t).2 (h0 t ht)]; exact hx.ps k t ht⟩
    rw [← Bool.not_eq_true, h3]
    rintro ⟨g, _⟩
    rw [hx.val t ht] at g; cases g
  · exact ⟨fun t ht => by rw [h3]; exact hx.val t ht, fun k t ht => by rw [(h4 k t).2 fun g => h0 t ht g.2]; exact hx.ps k t ht⟩
theorem made_late (o : Co.OP) : (Ent.mk o.edge o.id o.label o.fr o.til [((o.pf : Int), (o.pt : Int))] []).late := by
  refine ⟨fun t ht => ?_, fun k t _ => rfl⟩
  simp only [Se.Iset.has_cons, Se.Iset.has_nil, Bool.or_false]
  rw [← Bool.not_eq_true, Se.Iset.hasP_iff]
  omega
/-- All that is wanted of an entity to go on with it. -/
structure Ent.good (x : Ent) (n : Nat) : Prop where
  may : x.may
  late : x.late
  still : ∃ B, x.still B ∧ B.length ≤ n
theorem Ent.good.wide {x : Ent} {n : Nat} (h : x.good n) (hn : n ≤ 100000) : x.wide := by
  obtain ⟨B, hs, hB⟩ := h.still
  exact may_wide h.may hs (by omega) (h.late.wides h.may).1 (h.late.wides h.may).2
theorem Ent.good.lens {x : Ent} {n : Nat} (h : x.good n) : x.val.length ≤ n ∧ ∀ p ∈ x.ps, p.l.length ≤ n := by
  obtain ⟨B, hs, hB⟩ := h.still
  have := hs.lens h.may
  exact ⟨by omega, fun p hp => by have := this.2 p hp; omega⟩
theorem Ent.good.mono {x : Ent} {n m : Nat} (h : x.good n) (hn : n ≤ m) : x.good m := ⟨h.may, h.late, by obtain ⟨B, h1, h2⟩ := h.still; exact ⟨B, h1, by omega⟩⟩
theorem Applied.good {x y : Ent} {o : Co.OP} {n : Nat} (h : Applied x o y) (hx : x.good n) : y.good (n + 2) := by
  obtain ⟨B, h1, h2⟩ := hx.still
  exact ⟨h.may, h.late hx.late, _, h.still h1, by simp; omega⟩
theorem made_good {o : Co.OP} (h : o.may) (hk : o.kind = 1 ∨ o.kind = 2) : (Ent.mk o.edge o.id o.label o.fr o.til [((o.pf : Int), (o.pt : Int))] []).good 2 :=
  ⟨made_may h hk, made_late o, _, made_still o, by simp⟩
end Go.Proofs.YtmolpogehgeebaaGreat


namespace Go.Proofs.YtmolpogehgeebaaGreat
open Go.RowKit
abbrev bn : ByteArray := ⟨#[110]⟩
abbrev bk : ByteArray := ⟨#[107]⟩
abbrev nul : ByteArray := ⟨#[]⟩
/-- The operations of the example. -/
def exO1 : Co.OP := ⟨1, false, 1, bn, 0, 0, nul, VP.none, 2, 9⟩
def exO2 : Co.OP := ⟨5, false, 1, nul, 0, 0, bk, numV 5, 3, 6⟩
def exO3 : Co.OP := ⟨4, false, 1, nul, 0, 0, nul, VP.none, 4, 5⟩
def exO4 : Co.OP := ⟨5, false, 1, nul, 0, 0, bk, numV 7, 3, 6⟩
def exE (V : List (Int × Int)) (ps : List Prp) : Ent := ⟨false, 1, bn, 0, 0, V, ps⟩
abbrev exL2 : List Pie := [⟨3, 6, numV 5⟩]
abbrev exL3 : List Pie := [⟨3, 4, numV 5⟩, ⟨5, 6, numV 5⟩]
abbrev exE1 : Ent := exE [(2, 9)] []
abbrev exE2 : Ent := exE [(2, 9)] [⟨bk, exL2⟩]
abbrev exE3 : Ent := exE [(2, 4), (5, 9)] [⟨bk, exL3⟩]
theorem at_one (k : ByteArray) (L : List Pie) (k' : ByteArray) (t : Int) : (k' = k → atK [⟨k, L⟩] k' t = Pl.means VP.none L t) ∧ (k' ≠ k → atK [⟨k, L⟩] k' t = VP.none) := by
  unfold atK lineK
  refine ⟨fun e => by rw [if_pos e.symm], fun e => by rw [if_neg fun g => e g.symm]; rfl⟩
theorem word_n : Co.wordB bn = true := by decide
theorem word_k : Co.wordB bk = true := by decide
theorem exE_may {V : List (Int × Int)} {L : List Pie} (hV : Se.Iset.NF V) (hL : Pl.Line okV L) (hn : L ≠ []) (hi : inside V L) : (exE V [⟨bk, L⟩]).may :=
  ⟨by show (1 : Int) ≤ 1 ∧ (1 : Int) ≤ 1099511627776; omega, .inr word_n, ⟨fun e => (by cases e), fun _ => ⟨rfl, rfl⟩⟩, hV, by show (1 : Nat) ≤ 16; omega,
    ⟨fun p hp => by rw [List.mem_singleton.1 hp]; exact word_k, List.pairwise_singleton _ _, fun p hp => by rw [List.mem_singleton.1 hp]; exact ⟨hL, hn, hi⟩⟩⟩
theorem num5_ok : okV (numV 5) := numV_ok 5 (by unfold fits; omega)
theorem exL2_line : Pl.Line okV exL2 := ⟨fun x hx => by rw [List.mem_singleton.1 hx]; exact ⟨by show (3 : Int) < 6; omega, by show (6 : Int) ≤ 1099511627776; omega, num5_ok⟩, trivial⟩
theorem exL3_line : Pl.Line okV exL3 := by
  refine ⟨fun x hx => ?_, ⟨?_, trivial⟩⟩
  · rcases List.mem_cons.1 hx with rfl | hx
    · exact ⟨by show (3 : Int) < 4; omega, by show (4 : Int) ≤ 1099511627776; omega, num5_ok⟩
    · rw [List.mem_singleton.1 hx]
      exact ⟨by show (5 : Int) < 6; omega, by show (6 : Int) ≤ 1099511627776; omega, num5_ok⟩
  · left
    show (4 : Int) < 5
    omega
theorem exL2_means (t : Int) : Pl.means VP.none exL2 t = if 3 ≤ t ∧ t < 6 then numV 5 else VP.none := rfl
theorem exL3_means (t : Int) : Pl.means VP.none exL3 t = if 3 ≤ t ∧ t < 4 then numV 5 else if 5 ≤ t ∧ t < 6 then numV 5 else VP.none := rfl
theorem has_V1 (t : Int) : Se.Iset.has [(2, 9)] t = true ↔ 2 ≤ t ∧ t < 9 := has_one (by omega) t
theorem has_V3 (t : Int) : Se.Iset.has [(2, 4), (5, 9)] t = true ↔ (2 ≤ t ∧ t < 4) ∨ (5 ≤ t ∧ t < 9) := by
  rw [Se.Iset.has_cons, Se.Iset.has_cons, Se.Iset.has_nil, Bool.or_false, Bool.or_eq_true, Se.Iset.hasP_iff, Se.Iset.hasP_iff]
  simp
theorem nf_V1 : Se.Iset.NF [(2, 9)] := ⟨fun p hp => by rw [List.mem_singleton.1 hp]; rfl, List.pairwise_singleton _ _⟩
theorem nf_V3 : Se.Iset.NF [(2, 4), (5, 9)] := ⟨fun p hp => by
  rcases List.mem_cons.1 hp with rfl | hp
  · rfl
  · rw [List.mem_singleton.1 hp]; rfl, by simp⟩
theorem exE2_may : exE2.may := exE_may nf_V1 exL2_line (by simp) fun t ht => by
  rw [exL2_means] at ht
  rw [has_V1]
  split at ht
  · omega
  · exact absurd rfl ht
theorem exE3_may : exE3.may := exE_may nf_V3 exL3_line (by simp) fun t ht => by
  rw [exL3_means] at ht
  rw [has_V3]
  split at ht
  · omega
  · split at ht
    · omega
    · exact absurd rfl ht
theorem exO1_may : exO1.may := ⟨⟨by decide, by decide⟩, by decide, by decide, .inl ⟨rfl, rfl, by decide, rfl, rfl, rfl, rfl⟩⟩
theorem exO2_may : exO2.may := ⟨⟨by decide, by decide⟩, by decide, by decide, .inr (.inr (.inr ⟨rfl, rfl, rfl, rfl, word_k, numV_may 5, by decide, by decide⟩))⟩
theorem exO3_may : exO3.may := ⟨⟨by decide, by decide⟩, by decide, by decide, .inr (.inr (.inl ⟨.inr rfl, rfl, rfl, rfl, rfl, rfl⟩))⟩
theorem exO4_may : exO4.may := ⟨⟨by decide, by decide⟩, by decide, by decide, .inr (.inr (.inr ⟨rfl, rfl, rfl, rfl, word_k, numV_may 7, by decide, by decide⟩))⟩
theorem covers_ex : Se.Iset.covers [((2 : Int), (9 : Int))] [((3 : Int), (6 : Int))] := fun t ht => by
  have h := (has_one (show (3 : Int) < 6 ∧ (6 : Int) ≤ 1099511627776 by omega) t).1 ht
  rw [has_V1]; omega
theorem applied_ex2 : Applied exE1 exO2 exE2 := by
  refine .inr (.inr ⟨rfl, covers_ex, ⟨rfl, rfl, rfl, rfl, rfl⟩, exE2_may, rfl, fun k' t => ?_⟩)
  show (k' = bk ∧ (3 : Int) ≤ t ∧ t < 6 → atK [⟨bk, exL2⟩] k' t = numV 5) ∧ (¬ (k' = bk ∧ (3 : Int) ≤ t ∧ t < 6) → atK [⟨bk, exL2⟩] k' t = VP.none)
  obtain ⟨h1, h2⟩ := at_one bk exL2 k' t
  by_cases hk : k' = bk
  · rw [h1 hk, exL2_means]
    exact ⟨fun g => if_pos g.2, fun g => if_neg fun n => g ⟨hk, n⟩⟩
  · rw [h2 hk]
    exact ⟨fun g => absurd g.1 hk, fun _ => rfl⟩
theorem applied_ex3 : Applied exE2 exO3 exE3 := by
  refine .inr (.inl ⟨rfl, ⟨rfl, rfl, rfl, rfl, rfl⟩, exE3_may, fun t => ?_, fun k' t => ?_⟩)
  · show Se.Iset.has [(2, 4), (5, 9)] t = true ↔ Se.Iset.has [(2, 9)] t = true ∧ ¬ ((4 : Int) ≤ t ∧ t < 5)
    rw [has_V1, has_V3]; omega
  · show ((4 : Int) ≤ t ∧ t < 5 → atK [⟨bk, exL3⟩] k' t = VP.none) ∧ (¬ ((4 : Int) ≤ t ∧ t < 5) → atK [⟨bk, exL3⟩] k' t = atK [⟨bk, exL2⟩] k' t)
    obtain ⟨h1, h2⟩ := at_one bk exL2 k' t
    obtain ⟨h3, h4⟩ := at_one bk exL3 k' t
    by_cases hk : k' = bk
    · rw [h1 hk, h3 hk, exL2_means, exL3_means]
      refine ⟨fun g => ?_, fun g => ?_⟩
      · rw [if_neg (by omega), if_neg (by omega)]
      · by_cases a : 3 ≤ t ∧ t < 4
        · rw [if_pos a, if_pos (by omega)]
        · rw [if_neg a]
          by_cases b : 5 ≤ t ∧ t < 6
          · rw [if_pos b, if_pos (by omega)]
          · rw [if_neg b, if_neg (by omega)]
    · rw [h2 hk, h4 hk]
      exact ⟨fun _ => rfl, fun _ => rfl⟩
theorem exE1_good : exE1.good 2 := by
  have h := made_good exO1_may (.inl rfl)
  exact h
theorem refused_ex : ¬ Se.Iset.covers [((2 : Int), (4 : Int)), (5, 9)] [((3 : Int), (6 : Int))] := fun h => by
  have := (has_V3 4).1 (h 4 ((has_one (show (3 : Int) < 6 ∧ (6 : Int) ≤ 1099511627776 by omega) 4).2 (by omega)))
  omega
end Go.Proofs.YtmolpogehgeebaaGreat


