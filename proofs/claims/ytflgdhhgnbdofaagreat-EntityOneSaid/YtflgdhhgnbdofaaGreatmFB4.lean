/- Nodes that operations make: grown. -/
import Derived.Test.YtflgdhhgnbdofaaGreatmFB3
import Derived.Test.YtflgdhhgnbdofaaGreatmG31
namespace Go.Proofs.YtflgdhhgnbdofaaGreat
open Go.RowKit
/-- A node that operations made of one that was made. -/
structure Grown (x : Ent) (n : Nat) : Prop where
  good : x.good n
  edge : x.edge = false
  id : x.id = 1
  lab : x.lab = bn
  fr : x.fr = 0
  til : x.til = 0
theorem Grown.applied {x y : Ent} {o : Co.OP} {n : Nat} (h : Grown x n) (ha : Applied x o y) : Grown y (n + 2) :=
  ⟨ha.good h.good, ha.kin.edge.trans h.edge, ha.kin.id.trans h.id, ha.kin.lab.trans h.lab, ha.kin.fr.trans h.fr, ha.kin.til.trans h.til⟩
theorem Grown.mono {x : Ent} {n m : Nat} (h : Grown x n) (hn : n ≤ m) : Grown x m := ⟨h.good.mono hn, h.edge, h.id, h.lab, h.fr, h.til⟩
def GrownEnd (w : World) (e : Ending) (w' : World) : Prop := ∃ u x, e = .returned (.tuple #[u, .bool true]) ∧ EOwn w.heap.size w' u x ∧ Grown x 62 ∧ Below w.heap.size w w'
/-- How far grown has come. -/
structure GI (p4 p6 : Nat) (w w' : World) (x : Ent) (n : Nat) : Prop where
  box : BoxE w.heap.size w' p6 x
  res : Bx w' p4 #[.bool false, .int .u64 0, .string ⟨#[]⟩, .int .u64 0, .int .u64 0, .slice none 0 0, .slice none 0 0]
  rht : HT w' p4
  bel : Below w.heap.size w w'
  gr : Grown x n
theorem GI.below {p4 p6 n : Nat} {w a b : World} {x : Ent} (h : GI p4 p6 w a x n) (hb : Below a.heap.size a b) : GI p4 p6 w b x n :=
  ⟨h.box.below hb, h.res.below hb, h.rht.below hb, h.bel.trans (hb.mono h.bel.size), h.gr⟩
theorem GI.grown {p4 p6 n : Nat} {w a b : World} {x y : Ent} {m : Nat} (h : GI p4 p6 w a x n) (hb : BoxE w.heap.size b p6 y) (hg : a.grownBy b (some p6)) (hne : p4 ≠ p6) (hp : w.heap.size ≤ p6) (gr : Grown y m) : GI p4 p6 w b y m := by
  exact ⟨hb, h.res.grown hg fun q hq e => hne (by rw [← e]; exact (Option.some.inj hq).symm), h.rht.grown hg fun q hq e => hne (by rw [e]; exact (Option.some.inj hq).symm), h.bel.grown hg h.bel.size fun q hq => by have e : p6 = q := Option.some.inj hq; omega, gr⟩
theorem fits_wf {k : Int} (h : fits k) : (Lit.int .i64 k).wf = true := by
  unfold fits at h
  simp [Lit.wf, IntKind.min, IntKind.max, IntKind.signed, IntKind.bits]; omega
theorem rowOp : (Tryz.prog.info? 35).map (·.size) = some 14 := by kernel_rfl
theorem made_grown (c d : Nat) (h : c < d ∧ d ≤ 1099511627776) : Grown (Co.OP.ent ⟨1, false, 1, bn, 0, 0, nul, VP.none, c, d⟩) 2 ∧ Co.OP.may ⟨1, false, 1, bn, 0, 0, nul, VP.none, c, d⟩ := by
  have hm : Co.OP.may ⟨1, false, 1, bn, 0, 0, nul, VP.none, c, d⟩ := ⟨⟨Nat.le_refl _, by show (1 : Nat) ≤ 1099511627776; decide⟩, h.1, h.2, .inl ⟨rfl, rfl, by show Co.labelB bn = true; decide, rfl, rfl, rfl, rfl⟩⟩
  exact ⟨⟨made_good hm (.inl rfl), rfl, rfl, rfl, rfl, rfl⟩, hm⟩
section
set_option maxRecDepth 100000
set_option maxHeartbeats 16000000
theorem grown_any (c d : Nat) (sv : Value) (l : List Co.OP) (w : World) (h : Co.SO w sv l) (hw : ∀ o ∈ l, o.wide) :
    Calls Tryz.prog 21 #[.agg #[.int .u64 (c : Int), .int .u64 (d : Int)], sv] w (GrownEnd w) := by
  obtain ⟨A, cl, rfl, hA, hm⟩ := h
  have HA := Lib.hid hA
  have HW := Lib.hid hw
  have CP := Lib.hid P13_any
  have CM := Lib.hid (fun W => perMay_says (c : Int) (d : Int) W)
  have hsf := store_float
  clear hA hw
  have B0 := Lib.hid (((Below.refl w.heap.size w).alloc (Nat.le_refl _) (.cells #[.int .u64 (c : Int), .int .u64 (d : Int)] 33)).alloc (by simp) (.cells #[.bool false, .int .u64 0, .string ⟨#[]⟩, .int .u64 0, .int .u64 0, .slice none 0 0, .slice none 0 0] 38))
  have X0 := Lib.hid ((Bx.new w #[.int .u64 (c : Int), .int .u64 (d : Int)] 33).below ((Below.refl _ _).alloc (Nat.le_refl _) (.cells #[.bool false, .int .u64 0, .string ⟨#[]⟩, .int .u64 0, .int .u64 0, .slice none 0 0, .slice none 0 0] 38)))
  have Y0 := Lib.hid (Bx.new (w.alloc (.cells #[.int .u64 (c : Int), .int .u64 (d : Int)] 33)) #[.bool false, .int .u64 0, .string ⟨#[]⟩, .int .u64 0, .int .u64 0, .slice none 0 0, .slice none 0 0] 38)
  have T0 := Lib.hid (HT.new (w.alloc (.cells #[.int .u64 (c : Int), .int .u64 (d : Int)] 33)) #[.bool false, .int .u64 0, .string ⟨#[]⟩, .int .u64 0, .int .u64 0, .slice none 0 0, .slice none 0 0])
  rw [show (w.alloc (.cells #[.int .u64 (c : Int), .int .u64 (d : Int)] 33)).heap.size = w.heap.size + 1 by simp] at Y0 T0
  go_enter Tryz.func21, Tryz.ntmps21
  go_upto_region 1 with fail
  obtain ⟨w0, hw0⟩ : ∃ W, (w.alloc (.cells #[.int .u64 (c : Int), .int .u64 (d : Int)] 33)).alloc (.cells #[.bool false, .int .u64 0, .string ⟨#[]⟩, .int .u64 0, .int .u64 0, .slice none 0 0, .slice none 0 0] 38) = W := ⟨_, rfl⟩
  rw [hw0] at B0 X0 Y0 T0
  try rw [hw0]
  clear hw0
  obtain ⟨p2, hp2⟩ : ∃ q, w.heap.size = q := ⟨_, rfl⟩
  obtain ⟨p4, hp4⟩ : ∃ q, w.heap.size + 1 = q := ⟨_, rfl⟩
  have HP := Lib.hid (show w.heap.size ≤ p2 ∧ w.heap.size ≤ p4 ∧ p2 ≠ p4 by omega)
  rw [hp4] at Y0 T0
  try rw [hp4]
  rw [hp2] at X0
  try rw [hp2]
  clear hp2 hp4
  have x0 := X0.out.c
  go_upto_if 14 with (go_at_call 80; (with_reducible refine (CM.out _).mono ?_); rintro e w1 ⟨cc, rfl, hc, hb⟩; have HC := Lib.hid hc; have B1 := Lib.hid (B0.out.trans (hb.mono B0.out.size)); have X1 := Lib.hid (X0.out.below hb); have Y1 := Lib.hid (Y0.out.below hb); have T1 := Lib.hid (T0.out.below hb); clear hb hc x0)
  go_cut [] from 15 to 15 (fun wd => ∃ a b : Nat, (a < b ∧ b ≤ 1099511627776) ∧ Bx wd p2 #[.int .u64 (a : Int), .int .u64 (b : Int)] ∧ Bx wd p4 #[.bool false, .int .u64 0, .string ⟨#[]⟩, .int .u64 0, .int .u64 0, .slice none 0 0, .slice none 0 0] ∧ HT wd p4 ∧ Below w.heap.size w wd)
  case first =>
    cases cc
    · have x0 := X1.out.c
      have x1 := X1.out.fr
      go_wp2_with (go_at_call 29; (with_reducible refine (CP.out _ _ _).mono ?_); rintro e w2 ⟨rfl, hb⟩; have B2 := Lib.hid (B1.out.trans (hb.mono B1.out.size)); have X2 := Lib.hid (X1.out.below hb); have Y2 := Lib.hid (Y1.out.below hb); have T2 := Lib.hid (T1.out.below hb); clear hb x0 x1; have x0 := X2.out.c; have x1 := X2.out.fr)
      go_meet
      exact ⟨3, 8, by omega, (X2.out.set 0 (.int .u64 3) (by simp)).set 1 (.int .u64 8) (by simp), (Y2.out.other 0 _ HP.out.2.2.symm).other 1 _ HP.out.2.2.symm, (T2.out.set p2 0 _).set p2 1 _, (B2.out.setCell (p := ⟨p2, 0, none⟩) HP.out.1 _).setCell (p := ⟨p2, 1, none⟩) HP.out.1 _⟩
    · have HC2 := HC.out.1 rfl
      go_wp2_with fail
      go_meet
      exact ⟨c, d, by omega, X1.out, Y1.out, T1.out, B1.out⟩
  case rest =>
    obtain ⟨a, b, hab, hx, hy, ht, hb⟩ := hcut
    have X3 := Lib.hid hx
    have Y3 := Lib.hid hy
    have T3 := Lib.hid ht
    have B3 := Lib.hid hb
    have HAB := Lib.hid (made_grown a b hab)
    have CMk := Lib.hid (fun W => (Make_any ⟨1, false, 1, bn, 0, 0, nul, VP.none, a, b⟩ W f_small).mono fun e w' h => makeTo h HAB.out.2 (.inl rfl))
    obtain ⟨w3, rfl⟩ : ∃ x : World, x = wc := ⟨_, rfl⟩
    clear hab hx hy ht hb HC X1 Y1 T1 B1 CM
    have x0 := X3.out.c
    go_upto_region 4 with (go_at_call 13; (refine (CMk.out _).mono ?_); rintro e w4 ⟨u, n1, y, rfl, ho, hb, rfl, hq⟩; have HQ1 := Lib.hid hq; obtain ⟨ye, yid, ylab, yfr, ytil, yval, yps⟩ := y; have B4 := Lib.hid (B3.out.trans (hb.mono B3.out.size)); have Y4 := Lib.hid (Y3.out.below hb); have T4 := Lib.hid (T3.out.below hb); have OW := Lib.hid (EOwn.mono ho B3.out.size); obtain ⟨su, sq, rsu, rfl, hu1, hu2, hu3⟩ := ho; obtain ⟨Ay, cy, rfl, _⟩ := hu1.at; obtain ⟨Py, dy, rfl, _⟩ := hu2.form; clear hb hq hu1 hu2 hu3 x0)
    have AL := (Below.refl w4.heap.size w4).alloc (Nat.le_refl _) (.cells #[.bool ye, .int .u64 yid, .string ylab, .int .u64 yfr, .int .u64 ytil, .slice Ay yval.length cy, .slice Py rsu.length dy] 38)
    have G5 := Lib.hid (show GI p4 w4.heap.size w (w4.alloc (.cells #[.bool ye, .int .u64 yid, .string ylab, .int .u64 yfr, .int .u64 ytil, .slice Ay yval.length cy, .slice Py rsu.length dy] 38)) ⟨ye, yid, ylab, yfr, ytil, yval, yps⟩ 2 from ⟨boxE_new OW.out, Y4.out.below AL, T4.out.below AL, B4.out.trans (AL.mono B4.out.size), by rw [HQ1.out]; exact HAB.out.1⟩)
    have L4 := Lib.hid (show p4 < w4.heap.size from Y4.out.lt)
    have L6 := Lib.hid (show w.heap.size ≤ w4.heap.size from B4.out.size)
    obtain ⟨w5, hw5⟩ : ∃ W, w4.alloc (.cells #[.bool ye, .int .u64 yid, .string ylab, .int .u64 yfr, .int .u64 ytil, .slice Ay yval.length cy, .slice Py rsu.length dy] 38) = W := ⟨_, rfl⟩
    rw [hw5] at G5
    try rw [hw5]
    clear hw5 AL OW B4 Y4 T4
    obtain ⟨p6, hp6⟩ : ∃ q, w4.heap.size = q := ⟨_, rfl⟩
    rw [hp6] at G5 L4 L6
    try rw [hp6]
    clear hp6
    go_wp2_with fail
    go_loopw [24] (fun i wr => ∃ (k : Nat) (x : Ent), k ≤ l.length ∧ k ≤ 30 ∧ i = .int .i64 k ∧ GI p4 p6 w wr x (2 + 2 * k)) (fun i _ => l.length - (intOf i).toNat)
    case atStart => exact ⟨0, _, Nat.zero_le _, by omega, rfl, G5.out⟩
    case round =>
      obtain ⟨k, x, hk, hk3, rfl, hg⟩ := hrel
      have GK := Lib.hid hg
      clear hg G5
      by_cases hlt : k < l.length
      · obtain ⟨g, off, rfl, lg, cg⟩ := (HA.out.below GK.out.bel) (by omega)
        have r := cg k hlt
        have HO := Lib.hid (HW.out l[k] (List.getElem_mem hlt))
        generalize l[k] = o at *
        have i0 : (k : Int) < (l.length : Int) := by omega
        have i1 : (0 : Int) ≤ (k : Int) := by omega
        clear cg
        obtain ⟨kind, edge, id, label, fr, til, key, ⟨kk, b, n, f, s⟩, pf, pt⟩ := o
        have HAL := Lib.hid ((Below.refl wr.heap.size wr).alloc (Nat.le_refl _) (.cells #[.int .i64 kind, .bool edge, .int .u64 id, .string label, .int .u64 fr, .int .u64 til, .string key, .int .i64 kk, .bool b, .int .i64 n, .float .f64 f, .string s, .int .u64 pf, .int .u64 pt] 35))
        have Q0 := Lib.hid (Bx.new wr #[.int .i64 kind, .bool edge, .int .u64 id, .string label, .int .u64 fr, .int .u64 til, .string key, .int .i64 kk, .bool b, .int .i64 n, .float .f64 f, .string s, .int .u64 pf, .int .u64 pt] 35)
        by_cases h30 : k = 30
        · have t30 : ((k : Int) == 30) = true := by rw [h30]; rfl
          clear h30
          have G7 := Lib.hid (GK.out.below HAL.out)
          go_upto_region 7 with (refine wpList_load_mid rfl 35 (.tmp 27) rfl g (off + k * 14) rfl _ _ r Tryz.underlying35 rfl rowOp ?_)
          clear r
          obtain ⟨W7, hW7⟩ : ∃ W, wr.alloc (.cells #[.int .i64 kind, .bool edge, .int .u64 id, .string label, .int .u64 fr, .int .u64 til, .string key, .int .i64 kk, .bool b, .int .i64 n, .float .f64 f, .string s, .int .u64 pf, .int .u64 pt] 35) = W := ⟨_, rfl⟩
          rw [hW7] at G7
          try rw [hW7]
          clear hW7 HAL Q0 GK
          go_upto_region 13 with fail
          obtain ⟨xe, xid, xlab, xfr, xtil, xval, xps⟩ := x
          obtain ⟨Ax, cx, Px, nx, dx, hbx, hox, _⟩ := G7.out.box
          have HBX := Lib.hid hbx
          have HOX := Lib.hid hox
          clear hbx hox
          have x0 := HBX.out.c
          have y0 := G7.out.res.c
          have y1 := G7.out.res.fr
          go_wp2_with fail
          obtain ⟨W9, hW9, X9, G9⟩ := box_put (x := ⟨xe, xid, xlab, xfr, xtil, xval, xps⟩) G7.out.res G7.out.rht HOX.out
          simp only at hW9
          rw [hW9]
          have HB9 := Lib.hid (G7.out.bel.grown G9 G7.out.bel.size fun q hq => by have e : p4 = q := Option.some.inj hq; have := HP.out.2.1; omega)
          clear hW9 G9 x0 y0 y1
          obtain ⟨Ar, cr, Pr, nr, dr, hxr, hor, _⟩ := X9
          simp only at hxr
          have HOr := Lib.hid hor
          have s0 := hxr.c 0
          have s1 := hxr.c 1
          have s2 := hxr.c 2
          have s3 := hxr.c 3
          have s4 := hxr.c 4
          have s5 := hxr.c 5
          have s6 := hxr.c 6
          refine bodyPost_ret (v := .tuple #[.agg #[.bool xe, .int .u64 xid, .string xlab, .int .u64 xfr, .int .u64 xtil, .slice Ar xval.length cr, .slice Pr nr dr], .bool true]) (by simp [results, Tryz.results21, go_sem, s0, s1, s2, s3, s4, s5, s6]) rfl ?_
          exact ⟨_, _, rfl, HOr.out, G7.out.gr.mono (by omega), HB9.out⟩
        · have t30 : ((k : Int) == 30) = false := by rw [beq_eq_false_iff_ne]; omega
          have HK3 := Lib.hid (show k < 30 by omega)
          clear h30
          go_upto_region 7 with (refine wpList_load_mid rfl 35 (.tmp 27) rfl g (off + k * 14) rfl _ _ r Tryz.underlying35 rfl rowOp ?_)
          clear r
          obtain ⟨W7, hW7⟩ : ∃ W, wr.alloc (.cells #[.int .i64 kind, .bool edge, .int .u64 id, .string label, .int .u64 fr, .int .u64 til, .string key, .int .i64 kk, .bool b, .int .i64 n, .float .f64 f, .string s, .int .u64 pf, .int .u64 pt] 35) = W := ⟨_, rfl⟩
          rw [hW7] at HAL Q0
          try rw [hW7]
          clear hW7
          obtain ⟨p9, hp9⟩ : ∃ q, wr.heap.size = q := ⟨_, rfl⟩
          have LE9 := Lib.hid (Nat.le_of_eq hp9)
          rw [hp9] at Q0
          try rw [hp9]
          clear hp9
          have Q1 := Lib.hid (show Bx ((W7.setCell ⟨p9, 1, none⟩ (.bool false)).setCell ⟨p9, 2, none⟩ (.int .u64 1)) p9 #[.int .i64 kind, .bool false, .int .u64 1, .string label, .int .u64 fr, .int .u64 til, .string key, .int .i64 kk, .bool b, .int .i64 n, .float .f64 f, .string s, .int .u64 pf, .int .u64 pt] from (Q0.out.set 1 _ (by simp)).set 2 _ (by simp))
          have G8 := Lib.hid (GK.out.below ((HAL.out.setCell (p := ⟨p9, 1, none⟩) LE9.out (.bool false)).setCell (p := ⟨p9, 2, none⟩) LE9.out (.int .u64 1)))
          have x0 := Q0.out.c
          have x1 := Q0.out.fr
          go_upto_region 9 with fail
          clear x0 x1
          obtain ⟨W8, hW8⟩ : ∃ W, (W7.setCell ⟨p9, 1, none⟩ (.bool false)).setCell ⟨p9, 2, none⟩ (.int .u64 1) = W := ⟨_, rfl⟩
          rw [hW8] at Q1 G8
          try rw [hW8]
          clear hW8 GK HAL Q0
          obtain ⟨xe, xid, xlab, xfr, xtil, xval, xps⟩ := x
          obtain ⟨Ax, cx, Px, nx, dx, hbx, hox, hjx⟩ := G8.out.box
          have HBX := Lib.hid (show Bx W8 p6 #[.bool xe, .int .u64 xid, .string xlab, .int .u64 xfr, .int .u64 xtil, .slice Ax xval.length cx, .slice Px nx dx] from hbx)
          have HOX := Lib.hid hox
          have HJX := Lib.hid hjx
          clear hbx hox hjx
          have CA := Lib.hid (fun W (hb : Below W8.heap.size W8 W) => (Apply_any (.agg #[.bool xe, .int .u64 xid, .string xlab, .int .u64 xfr, .int .u64 xtil, .slice Ax xval.length cx, .slice Px nx dx]) ⟨xe, xid, xlab, xfr, xtil, xval, xps⟩ ⟨kind, false, 1, label, fr, til, key, ⟨kk, b, n, f, s⟩, pf, pt⟩ W (HOX.out.below hb).at (G8.out.gr.good.wide (by omega)) HO.out.2.2.2.2.2.2.1 HO.out.2.2.2.2.2.2.1.2.2.1 (fits_wf HO.out.1)).mono fun _ _ h => applyAE h)
          have x0 := HBX.out.c
          have o0 := Q1.out.c
          go_upto_region 10 with (go_at_call 18; (refine (CA.out _ (Below.refl _ _)).mono ?_); rintro e w9 ⟨u, n9, y, rfl, ho, hb, hq⟩; have HQ := Lib.hid hq; obtain ⟨ye, yid, ylab, yfr, ytil, yval, yps⟩ := y; have G9 := Lib.hid (G8.out.below hb); have HJ9 := Lib.hid (HJX.out.below hb); have HB9 := Lib.hid (HBX.out.below hb); have OW := Lib.hid (EOwn.mono ho G8.out.bel.size); obtain ⟨su, sq, rsu, rfl, hu1, hu2, hu3⟩ := ho; obtain ⟨Ay, cy, rfl, _⟩ := hu1.at; obtain ⟨Py, dy, rfl, _⟩ := hu2.form; clear hb hq hu1 hu2 hu3 x0 o0)
          have AL := (Below.refl w9.heap.size w9).alloc (Nat.le_refl _) (.cells #[.bool ye, .int .u64 yid, .string ylab, .int .u64 yfr, .int .u64 ytil, .slice Ay yval.length cy, .slice Py rsu.length dy] 38)
          have GA := Lib.hid (G9.out.below AL)
          have HJA := Lib.hid (HJ9.out.below AL)
          have HBA := Lib.hid (HB9.out.below AL)
          have YB := Lib.hid (Bx.new w9 #[.bool ye, .int .u64 yid, .string ylab, .int .u64 yfr, .int .u64 ytil, .slice Ay yval.length cy, .slice Py rsu.length dy] 38)
          have OWA := Lib.hid (OW.out.below AL)
          obtain ⟨WA, hWA⟩ : ∃ W, w9.alloc (.cells #[.bool ye, .int .u64 yid, .string ylab, .int .u64 yfr, .int .u64 ytil, .slice Ay yval.length cy, .slice Py rsu.length dy] 38) = W := ⟨_, rfl⟩
          rw [hWA] at GA HJA HBA YB OWA
          try rw [hWA]
          clear hWA AL OW G9 HJ9 HB9 G8 HJX HBX HOX CA Q1
          obtain ⟨pa, hpa⟩ : ∃ q, w9.heap.size = q := ⟨_, rfl⟩
          rw [hpa] at YB
          try rw [hpa]
          clear hpa
          have HNE := Lib.hid (show p4 ≠ p6 by have := L4.out; omega)
          by_cases hn9 : n9 = 0
          · have HG9 := Lib.hid (show Grown ⟨ye, yid, ylab, yfr, ytil, yval, yps⟩ (2 + 2 * k + 2) by
              rcases HQ.out with ⟨_, h⟩ | ⟨_, _, h⟩ | ⟨_, _, h, _⟩ | ⟨_, _, _, h⟩
              · omega
              · omega
              · exact absurd hn9 h
              · exact GA.out.gr.applied h)
            subst hn9
            have x0 := HBA.out.c
            have x1 := HBA.out.fr
            have y0 := YB.out.c
            go_wp2_with fail
            obtain ⟨W9, hW9, X9, G9⟩ := box_put (x := ⟨ye, yid, ylab, yfr, ytil, yval, yps⟩) HBA.out HJA.out OWA.out
            simp only at hW9
            rw [hW9]
            exact ⟨⟨k + 1, _, by omega, by have := HK3.out; omega, by go_num, by rw [show 2 + 2 * (k + 1) = 2 + 2 * k + 2 by omega]; exact GA.out.grown X9 G9 HNE.out L6.out HG9.out⟩, by simp [intOf]; omega⟩
          · have t9 : (n9 == 0) = false := by simpa using hn9
            clear hn9
            go_wp2_with fail
            exact ⟨⟨k + 1, _, by omega, by have := HK3.out; omega, by go_num, ⟨GA.out.box, GA.out.res, GA.out.rht, GA.out.bel, GA.out.gr.mono (by omega)⟩⟩, by simp [intOf]; omega⟩
      · obtain rfl : k = l.length := by omega
        have G7 := Lib.hid GK.out
        obtain ⟨W7, rfl⟩ : ∃ x : World, x = wr := ⟨_, rfl⟩
        clear GK
        go_upto_region 13 with fail
        obtain ⟨xe, xid, xlab, xfr, xtil, xval, xps⟩ := x
        obtain ⟨Ax, cx, Px, nx, dx, hbx, hox, _⟩ := G7.out.box
        have HBX := Lib.hid hbx
        have HOX := Lib.hid hox
        clear hbx hox
        have x0 := HBX.out.c
        have y0 := G7.out.res.c
        have y1 := G7.out.res.fr
        go_wp2_with fail
        obtain ⟨W9, hW9, X9, G9⟩ := box_put (x := ⟨xe, xid, xlab, xfr, xtil, xval, xps⟩) G7.out.res G7.out.rht HOX.out
        simp only at hW9
        rw [hW9]
        have HB9 := Lib.hid (G7.out.bel.grown G9 G7.out.bel.size fun q hq => by have e : p4 = q := Option.some.inj hq; have := HP.out.2.1; omega)
        clear hW9 G9 x0 y0 y1
        obtain ⟨Ar, cr, Pr, nr, dr, hxr, hor, _⟩ := X9
        simp only at hxr
        have HOr := Lib.hid hor
        have s0 := hxr.c 0
        have s1 := hxr.c 1
        have s2 := hxr.c 2
        have s3 := hxr.c 3
        have s4 := hxr.c 4
        have s5 := hxr.c 5
        have s6 := hxr.c 6
        refine bodyPost_ret (v := .tuple #[.agg #[.bool xe, .int .u64 xid, .string xlab, .int .u64 xfr, .int .u64 xtil, .slice Ar xval.length cr, .slice Pr nr dr], .bool true]) (by simp [results, Tryz.results21, go_sem, s0, s1, s2, s3, s4, s5, s6]) rfl ?_
        exact ⟨_, _, rfl, HOr.out, G7.out.gr.mono (by omega), HB9.out⟩
end
end Go.Proofs.YtflgdhhgnbdofaaGreat

