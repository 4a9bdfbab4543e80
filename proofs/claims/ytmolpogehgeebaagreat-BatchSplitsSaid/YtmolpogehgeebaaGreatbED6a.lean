/- What an entity becomes by an operation: Apply, where its kind is 3. -/
import Derived.Test.YtmolpogehgeebaaGreatbED1
namespace Go.Proofs.YtmolpogehgeebaaGreat
open Go.RowKit
section
set_option maxRecDepth 100000
set_option maxHeartbeats 16000000
theorem Apply_3 (v : Value) (x : Ent) (o : Co.OP) (w : World) (h : EAt w v x) (hx : x.wide) (hvw : o.v.wide) (hf : o.v.f < 18446744073709551616) (hkw : (Lit.int .i64 o.kind).wf = true) (hkk : o.kind = 3) :
    Calls Tryz.prog 21 #[v, o.val] w (ApplyEnd x o w) := by
  have CO := Lib.hid (fun W => Co.MayOp_any o hf W)
  obtain ⟨sv, sp, rfl, hv, hp⟩ := h
  have HE := Lib.hid (show EAt w (.agg (x.cells sv sp)) x from ⟨sv, sp, rfl, hv, hp⟩)
  have HX := Lib.hid hx
  have CM := Lib.hid (fun W (hb : Below w.heap.size w W) => eMay_any (.agg (x.cells sv sp)) x W (HE.out.below hb) hx)
  have CC := Lib.hid (fun W (hb : Below w.heap.size w W) (hm : x.may) => eClone_any (.agg (x.cells sv sp)) x W (HE.out.below hb) hm hx)
  have EF := Lib.hid (fun W => effects_any W)
  have LK := Lib.hid (fun W m (h : EffM W m) => h.look o.kind hkw)
  have E3 := Lib.hid (fun base p W (h : Held base p W x) (hb : base ≤ W.heap.size) (hm : x.may) (ho : o.may) (hk : o.kind = 3) => eff_keep base p x o W h hb hx hm ho hk)
  have E4 := Lib.hid (fun base p W (h : Held base p W x) (hb : base ≤ W.heap.size) (hm : x.may) (ho : o.may) (hk : o.kind = 4) => eff_drop base p x o W h hb hx hm ho hk)
  have E5 := Lib.hid (fun base p W (h : Held base p W x) (hb : base ≤ W.heap.size) (hm : x.may) (ho : o.may) (hk : o.kind = 5) => eff_set base p x o W h hb hx hm ho hvw hk)
  obtain ⟨Av, cv, rfl, _⟩ := hv
  obtain ⟨Ap, cp, rfl, _, _⟩ := hp
  have HKK := Lib.hid hkk
  clear hx hvw hf hkw hkk
  have hsf := store_float
  obtain ⟨xe, xid, xlab, xfr, xtil, val, ps⟩ := x
  obtain ⟨kind, edge, id, label, fr, til, key, ⟨k, b, n, f, s⟩, pf, pt⟩ := o
  simp only at CM CC LK HE CO HKK ⊢
  have B0 := Lib.hid ((((Below.refl w.heap.size w).alloc (Nat.le_refl _) (.cells #[.bool xe, .int .u64 xid, .string xlab, .int .u64 xfr, .int .u64 xtil, .slice Av val.length cv, .slice Ap ps.length cp] 38)).alloc (by simp) (.cells #[.int .i64 kind, .bool edge, .int .u64 id, .string label, .int .u64 fr, .int .u64 til, .string key, .int .i64 k, .bool b, .int .i64 n, .float .f64 f, .string s, .int .u64 pf, .int .u64 pt] 35)).alloc (by simp; omega) (.cells #[.bool false, .int .u64 0, .string ⟨#[]⟩, .int .u64 0, .int .u64 0, .slice none 0 0, .slice none 0 0] 38))
  have X0 := Lib.hid (((Bx.new w #[.bool xe, .int .u64 xid, .string xlab, .int .u64 xfr, .int .u64 xtil, .slice Av val.length cv, .slice Ap ps.length cp] 38).below ((Below.refl _ _).alloc (Nat.le_refl _) (.cells #[.int .i64 kind, .bool edge, .int .u64 id, .string label, .int .u64 fr, .int .u64 til, .string key, .int .i64 k, .bool b, .int .i64 n, .float .f64 f, .string s, .int .u64 pf, .int .u64 pt] 35))).below ((Below.refl _ _).alloc (Nat.le_refl _) (.cells #[.bool false, .int .u64 0, .string ⟨#[]⟩, .int .u64 0, .int .u64 0, .slice none 0 0, .slice none 0 0] 38)))
  have O0 := Lib.hid ((Bx.new (w.alloc (.cells #[.bool xe, .int .u64 xid, .string xlab, .int .u64 xfr, .int .u64 xtil, .slice Av val.length cv, .slice Ap ps.length cp] 38)) #[.int .i64 kind, .bool edge, .int .u64 id, .string label, .int .u64 fr, .int .u64 til, .string key, .int .i64 k, .bool b, .int .i64 n, .float .f64 f, .string s, .int .u64 pf, .int .u64 pt] 35).below ((Below.refl _ _).alloc (Nat.le_refl _) (.cells #[.bool false, .int .u64 0, .string ⟨#[]⟩, .int .u64 0, .int .u64 0, .slice none 0 0, .slice none 0 0] 38)))
  have Y0 := Lib.hid (Bx.new ((w.alloc (.cells #[.bool xe, .int .u64 xid, .string xlab, .int .u64 xfr, .int .u64 xtil, .slice Av val.length cv, .slice Ap ps.length cp] 38)).alloc (.cells #[.int .i64 kind, .bool edge, .int .u64 id, .string label, .int .u64 fr, .int .u64 til, .string key, .int .i64 k, .bool b, .int .i64 n, .float .f64 f, .string s, .int .u64 pf, .int .u64 pt] 35)) #[.bool false, .int .u64 0, .string ⟨#[]⟩, .int .u64 0, .int .u64 0, .slice none 0 0, .slice none 0 0] 38)
  rw [show (w.alloc (.cells #[.bool xe, .int .u64 xid, .string xlab, .int .u64 xfr, .int .u64 xtil, .slice Av val.length cv, .slice Ap ps.length cp] 38)).heap.size = w.heap.size + 1 by simp] at O0
  rw [show ((w.alloc (.cells #[.bool xe, .int .u64 xid, .string xlab, .int .u64 xfr, .int .u64 xtil, .slice Av val.length cv, .slice Ap ps.length cp] 38)).alloc (.cells #[.int .i64 kind, .bool edge, .int .u64 id, .string label, .int .u64 fr, .int .u64 til, .string key, .int .i64 k, .bool b, .int .i64 n, .float .f64 f, .string s, .int .u64 pf, .int .u64 pt] 35)).heap.size = w.heap.size + 1 + 1 by simp] at Y0
  go_enter Tryz.func21, Tryz.ntmps21
  go_upto_region 1 with fail
  obtain ⟨W0, hW0⟩ : ∃ W, ((w.alloc (.cells #[.bool xe, .int .u64 xid, .string xlab, .int .u64 xfr, .int .u64 xtil, .slice Av val.length cv, .slice Ap ps.length cp] 38)).alloc (.cells #[.int .i64 kind, .bool edge, .int .u64 id, .string label, .int .u64 fr, .int .u64 til, .string key, .int .i64 k, .bool b, .int .i64 n, .float .f64 f, .string s, .int .u64 pf, .int .u64 pt] 35)).alloc (.cells #[.bool false, .int .u64 0, .string ⟨#[]⟩, .int .u64 0, .int .u64 0, .slice none 0 0, .slice none 0 0] 38) = W := ⟨_, rfl⟩
  rw [hW0] at B0 X0 O0 Y0
  try rw [hW0]
  clear hW0
  obtain ⟨p1, hp1⟩ : ∃ q, w.heap.size = q := ⟨_, rfl⟩
  obtain ⟨p2, hp2⟩ : ∃ q, w.heap.size + 1 = q := ⟨_, rfl⟩
  obtain ⟨p3, hp3⟩ : ∃ q, w.heap.size + 1 + 1 = q := ⟨_, rfl⟩
  rw [hp1] at X0
  rw [hp2] at O0
  rw [hp3] at Y0
  have HP1 := Lib.hid (show w.heap.size ≤ p3 by omega)
  try rw [hp3]
  try rw [hp2]
  try rw [hp1]
  clear hp1 hp2 hp3
  have x0 := X0.out.c
  go_upto_region 3 with (first
    | (go_at_call 25; (with_reducible refine (CM.out _ B0.out).mono ?_); rintro e w1 ⟨c1, rfl, hc1, hb⟩; have HC1 := Lib.hid hc1; have B1 := Lib.hid (B0.out.trans (hb.mono B0.out.size)); have X1 := Lib.hid (X0.out.below hb); have O1 := Lib.hid (O0.out.below hb); have Y1 := Lib.hid (Y0.out.below hb); clear hb hc1 x0; have x0 := X1.out.c; have o0 := O1.out.c; have y0 := Y1.out.c; have y1 := Y1.out.fr; cases c1)
    | fail)
  · obtain ⟨W9, hW9, X9, B9, E9⟩ := make_put (base := w.heap.size) Y1.out HP1.out (Se.OwnP.nil w.heap.size _) (.inl rfl) B1.out B1.out.size false 0 0 0 ⟨#[]⟩
    rw [hW9]
    have HB9 := Lib.hid B9
    have HE9 := Lib.hid E9
    clear hW9 B9 E9
    have s0 := X9.c 0
    have s1 := X9.c 1
    have s2 := X9.c 2
    have s3 := X9.c 3
    have s4 := X9.c 4
    have s5 := X9.c 5
    have s6 := X9.c 6
    refine bodyPost_ret (v := .tuple #[.agg #[.bool false, .int .u64 0, .string ⟨#[]⟩, .int .u64 0, .int .u64 0, .slice none 0 0, .slice none 0 0], .int .i64 5]) (by simp [results, Tryz.results21, go_sem, s0, s1, s2, s3, s4, s5, s6]) rfl ?_
    exact ⟨_, _, rfl, HB9.out, .inl ⟨fun h => by have := HC1.out.2 h; simp at this, rfl, HE9.out⟩⟩
  · have HM := Lib.hid (HC1.out.1 (by trivial))
    clear CM
    have hk3 := HKK.out
    clear HKK
    subst hk3
    clear x0 o0 y0 y1
    have LK3 := Lib.hid (fun W m (h : EffM W m) => show (Instr.lookup 158 (.map (some m)) (.int .i64 3) true).run Tryz.prog W = .ok (.tuple #[.func (.func 153) #[] #[], .bool true]) W from LK.out W m h)
    have K0 : Hid (∀ w', Below w1.heap.size w1 w' → w'.cell? ⟨p2, 0, none⟩ = some (.int .i64 3)) := Lib.hid fun w' hb => (O1.out.below hb).c 0
    obtain ⟨b2, hb2⟩ : ∃ b, ((id : Int) != xid) = b := ⟨_, rfl⟩
    have HB2 := Lib.hid hb2
    go_region_held3 (fun w' => w'.cell? ⟨p2, 0, none⟩ = some (.int .i64 3)) (first
      | exact K0.out _ (Below.refl _ _).drew
      | exact K0.out _ HV.out
      | fail) (first
      | (go_at_call 84; (with_reducible refine (EF.out _).mono ?_); rintro e w2 ⟨m, rfl, hm, hb⟩; have lk := LK3.out _ _ hm; have HV := Lib.hid (show Below w1.heap.size w1 w2 from (Below.refl _ _).drew.trans hb); clear hb)
      | fail)
    have O2 := Lib.hid (O1.out.below HV.out)
    have X2 := Lib.hid (X1.out.below HV.out)
    have Y2 := Lib.hid (Y1.out.below HV.out)
    have B2 := Lib.hid (B1.out.trans (HV.out.mono B1.out.size))
    clear lk LK3 K0
    have x0 := X2.out.c
    have o0 := O2.out.c
    by_cases he : edge = xe
    all_goals have HED := Lib.hid he
    all_goals (try subst he)
    all_goals go_upto_region 6 with (first
      | (go_at_call 79; (with_reducible refine (CO.out _).mono ?_); rintro e w3 ⟨c3, rfl, hc3, hb⟩; have HC3 := Lib.hid hc3; have B3 := Lib.hid (B2.out.trans (hb.mono B2.out.size)); have X3 := Lib.hid (X2.out.below hb); have O3 := Lib.hid (O2.out.below hb); have Y3 := Lib.hid (Y2.out.below hb); clear hb hc3 x0 o0; have x0 := X3.out.c; have o0 := O3.out.c; have y0 := Y3.out.c; have y1 := Y3.out.fr; cases c3 <;> cases b2)
      | fail)
    all_goals first
      | (
        obtain ⟨W9, hW9, X9, B9, E9⟩ := make_put (base := w.heap.size) Y3.out HP1.out (Se.OwnP.nil w.heap.size _) (.inl rfl) B3.out B3.out.size false 0 0 0 ⟨#[]⟩
        rw [hW9]
        have HB9 := Lib.hid B9
        have HE9 := Lib.hid E9
        clear hW9 B9 E9
        have s0 := X9.c 0
        have s1 := X9.c 1
        have s2 := X9.c 2
        have s3 := X9.c 3
        have s4 := X9.c 4
        have s5 := X9.c 5
        have s6 := X9.c 6
        refine bodyPost_ret (v := .tuple #[.agg #[.bool false, .int .u64 0, .string ⟨#[]⟩, .int .u64 0, .int .u64 0, .slice none 0 0, .slice none 0 0], .int .i64 1]) (by simp [results, Tryz.results21, go_sem, s0, s1, s2, s3, s4, s5, s6]) rfl ?_
        exact ⟨_, _, rfl, HB9.out, .inr (.inl ⟨HM.out, fun h => (by first | (have := HC3.out.2 h.2.1; simp at this; done) | exact HED.out h.2.2.1 | (have h1 := h.2.2.2; have h2 := HB2.out; simp only at h1; rw [h1] at h2; simp at h2; done)), rfl, HE9.out⟩)⟩)
      | skip
    have HFIT := Lib.hid (show FitsE ⟨edge, xid, xlab, xfr, xtil, val, ps⟩ ⟨3, edge, id, label, fr, til, key, ⟨k, b, n, f, s⟩, pf, pt⟩ from ⟨.inl rfl, HC3.out.1 (by trivial), rfl, by simpa using HB2.out⟩)
    clear HB2 hb2 HC3 HED
    go_upto_region 7 with (first
      | (go_at_call 85; (with_reducible refine (CC.out _ B3.out HM.out).mono ?_); rintro e w4 ⟨u, rfl, hu, hb⟩; obtain ⟨su, sq, rs, rfl, hu1, hu2, hu3⟩ := hu; have HU1 := Lib.hid hu1; have HU2 := Lib.hid hu2; have HU3 := Lib.hid hu3; obtain ⟨Au, cu, rfl, _⟩ := hu1.at; obtain ⟨Aq, cq, rfl, _⟩ := hu2.form; have B4 := Lib.hid (B3.out.trans (hb.mono B3.out.size)); have K4 := Lib.hid hb; have O4 := Lib.hid (O3.out.below hb); have Y4 := Lib.hid (Y3.out.below hb); have L34 := Lib.hid (show p3 < w3.heap.size from Y3.out.lt); clear hb hu1 hu2 hu3 x0 o0 y0 y1)
      | fail)
    have BA := Lib.hid ((Below.refl w4.heap.size w4).alloc (Nat.le_refl _) (.cells #[.bool edge, .int .u64 xid, .string xlab, .int .u64 xfr, .int .u64 xtil, .slice Au val.length cu, .slice Aq rs.length cq] 38))
    have HH := Lib.hid (show Held w3.heap.size w4.heap.size (w4.alloc (.cells #[.bool edge, .int .u64 xid, .string xlab, .int .u64 xfr, .int .u64 xtil, .slice Au val.length cu, .slice Aq rs.length cq] 38)) ⟨edge, xid, xlab, xfr, xtil, val, ps⟩ from ⟨Au, val.length, cu, Aq, rs.length, cq, rs, Bx.new _ _ _, HT.new _ _, HU1.out.below BA.out, HU2.out.below BA.out, HU3.out.below BA.out⟩)
    have O5 := Lib.hid (O4.out.below BA.out)
    have Y5 := Lib.hid (Y4.out.below BA.out)
    have B5 := Lib.hid (B4.out.trans (BA.out.mono B4.out.size))
    have SZ := Lib.hid (show w3.heap.size ≤ (w4.alloc (.cells #[.bool edge, .int .u64 xid, .string xlab, .int .u64 xfr, .int .u64 xtil, .slice Au val.length cu, .slice Aq rs.length cq] 38)).heap.size from Nat.le_trans K4.out.size BA.out.size)
    have HP4 := Lib.hid (show w.heap.size ≤ w4.heap.size from B4.out.size)
    have HW3 := Lib.hid (show w.heap.size ≤ w3.heap.size from B3.out.size)
    have L4 := Lib.hid (show p3 < w4.heap.size from Y4.out.lt)
    obtain ⟨W5, hW5⟩ : ∃ W, w4.alloc (.cells #[.bool edge, .int .u64 xid, .string xlab, .int .u64 xfr, .int .u64 xtil, .slice Au val.length cu, .slice Aq rs.length cq] 38) = W := ⟨_, rfl⟩
    rw [hW5] at HH O5 Y5 B5 SZ
    try rw [hW5]
    clear hW5 BA
    obtain ⟨p4, hp4⟩ : ∃ q, w4.heap.size = q := ⟨_, rfl⟩
    rw [hp4] at HH HP4 L4
    try rw [hp4]
    clear hp4
    have o0 := O5.out.c
    go_upto_region 8 with (first
      | (go_at_call 153; (refine (E3.out _ _ _ HH.out SZ.out HM.out HFIT.out.2.1 (by trivial)).mono ?_); rintro e w5 ⟨n, rfl, hbut, hend⟩; have HBT := Lib.hid hbut; have HEND := Lib.hid hend; clear hbut hend o0)
      | fail)
    have B6 := Lib.hid (B5.out.trans (HBT.out.below HP4.out HW3.out))
    have Y6 := Lib.hid (Y5.out.butB HBT.out L34.out (by have := L4.out; omega))
    have SZ5 := Lib.hid (show w3.heap.size ≤ w5.heap.size from Nat.le_trans SZ.out HBT.out.size)
    clear HH O5 Y5 B5 HU1 HU2 HU3 Y4 O4
    rcases HEND.out with ⟨hn, hr⟩ | ⟨rfl, y, hy, hl16, ha⟩
    · have HR := Lib.hid hr
      have HN := Lib.hid hn
      have t0 : (n != 0) = true := by simpa using hn
      have y0 := Y6.out.c
      have y1 := Y6.out.fr
      clear hn hr HEND
      go_wp2_with fail
      obtain ⟨W9, hW9, X9, B9, E9⟩ := make_put (base := w.heap.size) Y6.out HP1.out (Se.OwnP.nil w.heap.size _) (.inl rfl) B6.out B6.out.size false 0 0 0 ⟨#[]⟩
      rw [hW9]
      have HB9 := Lib.hid B9
      have HE9 := Lib.hid E9
      clear hW9 B9 E9
      have s0 := X9.c 0
      have s1 := X9.c 1
      have s2 := X9.c 2
      have s3 := X9.c 3
      have s4 := X9.c 4
      have s5 := X9.c 5
      have s6 := X9.c 6
      refine bodyPost_ret (v := .tuple #[.agg #[.bool false, .int .u64 0, .string ⟨#[]⟩, .int .u64 0, .int .u64 0, .slice none 0 0, .slice none 0 0], .int .i64 n]) (by simp [results, Tryz.results21, go_sem, s0, s1, s2, s3, s4, s5, s6]) rfl ?_
      exact ⟨_, _, rfl, HB9.out, .inr (.inr (.inl ⟨HM.out, HFIT.out, HN.out, HR.out, HE9.out⟩))⟩
    · obtain ⟨ye, yid, ylab, yfr, ytil, yval, yps⟩ := y
      simp only at ha hl16
      have HA := Lib.hid ha
      obtain ⟨A, n1, c, A', n', c', rs2, hbx, hht, hv, hr, hro⟩ := hy
      obtain rfl : n' = rs2.length := by
        obtain ⟨_, _, e, _⟩ := hr.form
        cases e; rfl
      have HBX := Lib.hid (show Bx w5 p4 #[.bool ye, .int .u64 yid, .string ylab, .int .u64 yfr, .int .u64 ytil, .slice A n1 c, .slice A' rs2.length c'] from hbx)
      have HHT := Lib.hid hht
      have HV := Lib.hid (show Se.OwnP w3.heap.size w5 (.slice A n1 c) yval from hv)
      have HRR := Lib.hid hr
      have CD := Lib.hid (Delete_any w3.heap.size (.slice A' rs2.length c') rs2 yps w5 hr hro SZ5.out (by omega))
      have HFR := Lib.hid (show ∀ q, (Value.slice A' rs2.length c').ownBlock = some q → q ≠ p4 ∧ w3.heap.size ≤ q from fun q hq => ⟨fun e => by
        rcases hr.free hht with g | g
        · rw [g] at hq; cases hq
        · exact g (by rw [hq, e]), (World.ownsRow.lt hr q hq).1⟩)
      have x6 := HBX.out.c 6
      clear hbx hht hv hr hro HEND ha hl16
      go_upto_region 11 with (first
        | (go_at_call 86; (with_reducible refine CD.out.mono ?_); rintro e w6 ⟨u, rs3, rfl, ho, hrows, hg⟩; obtain ⟨A3, c3, rfl, _, _, _⟩ := ho.form; have X7 := Lib.hid (HBX.out.grown hg fun q hq => (HFR.out q hq).1); have s6 := X7.out.c 6; have f6 := X7.out.fr 6; have HO := Lib.hid ho; have HRW := Lib.hid hrows; have HG := Lib.hid hg; clear ho hrows hg x6)
        | fail)
      have T6 := Lib.hid (HHT.out.grown HG.out fun q hq => fun e => (HFR.out q hq).1 e.symm)
      have G7 := grownBy_set w6 p4 6 (.slice A3 rs3.length c3)
      have X8 := Lib.hid (show Bx (w6.setCell ⟨p4, 6, none⟩ (.slice A3 rs3.length c3)) p4 #[.bool ye, .int .u64 yid, .string ylab, .int .u64 yfr, .int .u64 ytil, .slice A n1 c, .slice A3 rs3.length c3] from X7.out.set 6 _ (by simp))
      have V6 := World.ownsRow.kept HV.out HG.out (apart_PR HV.out HRR.out)
      have V8 := Lib.hid (show Se.OwnP w3.heap.size (w6.setCell ⟨p4, 6, none⟩ (.slice A3 rs3.length c3)) (.slice A n1 c) yval from World.ownsRow.kept V6 G7 (Se.OwnP.free V6 T6.out))
      have R8 := Lib.hid (show OwnR w3.heap.size (w6.setCell ⟨p4, 6, none⟩ (.slice A3 rs3.length c3)) (.slice A3 rs3.length c3) rs3 from World.ownsRow.kept HO.out G7 (OwnR.free HO.out T6.out))
      have Q8 := Lib.hid (show RowsO w3.heap.size (w6.setCell ⟨p4, 6, none⟩ (.slice A3 rs3.length c3)) rs3 (full yps) from ⟨HRW.out.len, fun i hi hgi => ⟨(HRW.out.at' i hi hgi).1, World.ownsRow.kept (HRW.out.at' i hi hgi).2 G7 ((HRW.out.at' i hi hgi).2.free T6.out)⟩⟩)
      have Y8 := Lib.hid ((Y6.out.grown HG.out fun q hq e => by have h1 := (HFR.out q hq).2; have h2 := L34.out; omega).other (g := p4) 6 (.slice A3 rs3.length c3) (by have := L4.out; omega))
      have B8 := Lib.hid ((B6.out.grown HG.out B6.out.size fun q hq => by have h1 := (HFR.out q hq).2; have h2 := HW3.out; omega).setCell (p := ⟨p4, 6, none⟩) HP4.out (.slice A3 rs3.length c3))
      obtain ⟨W8, hW8⟩ : ∃ W, w6.setCell ⟨p4, 6, none⟩ (.slice A3 rs3.length c3) = W := ⟨_, rfl⟩
      rw [hW8] at X8 V8 R8 Q8 Y8 B8
      try rw [hW8]
      clear hW8 V6 G7 s6 f6 X7 HO HRW HG T6 HV HRR CD HBX HHT
      have x0 := X8.out.c
      have y0 := Y8.out.c
      have y1 := Y8.out.fr
      go_wp2_with fail
      obtain ⟨W9, hW9, X9, B9, E9⟩ := res_put (x := ⟨ye, yid, ylab, yfr, ytil, yval, full yps⟩) Y8.out HP1.out L34.out HW3.out V8.out R8.out Q8.out B8.out B8.out.size
      simp only at hW9
      rw [hW9]
      have HB9 := Lib.hid B9
      have HE9 := Lib.hid E9
      clear hW9 B9 E9
      have s0 := X9.c 0
      have s1 := X9.c 1
      have s2 := X9.c 2
      have s3 := X9.c 3
      have s4 := X9.c 4
      have s5 := X9.c 5
      have s6 := X9.c 6
      try simp only at s0 s1 s2 s3 s4 s5 s6
      refine bodyPost_ret (v := .tuple #[.agg #[.bool ye, .int .u64 yid, .string ylab, .int .u64 yfr, .int .u64 ytil, .slice A n1 c, .slice A3 rs3.length c3], .int .i64 0]) (by simp [results, Tryz.results21, go_sem, s0, s1, s2, s3, s4, s5, s6]) rfl ?_
      exact ⟨_, _, rfl, HB9.out, .inr (.inr (.inr ⟨HM.out, HFIT.out, rfl, _, HE9.out, HA.out⟩))⟩
end
end Go.Proofs.YtmolpogehgeebaaGreat


