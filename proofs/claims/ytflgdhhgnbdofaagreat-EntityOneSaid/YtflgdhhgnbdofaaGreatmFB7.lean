/- EntityOne: what is seen of an entity makes it again. -/
import Derived.Test.YtflgdhhgnbdofaaGreatmG50
namespace Go.Proofs.YtflgdhhgnbdofaaGreat
open Go.RowKit
section
set_option linter.unusedSimpArgs false
set_option maxRecDepth 100000
set_option maxHeartbeats 32000000
theorem fullMake (w : World) : Calls Tryz.prog 13 #[.agg #[.int .i64 1, .bool false, .int .u64 1, .string ⟨#[110]⟩, .int .u64 0, .int .u64 0, .string ⟨#[]⟩, .int .i64 0, .bool false, .int .i64 0, .float .f64 0, .string ⟨#[]⟩, .int .u64 0, .int .u64 1099511627776]] w (AE (fun n y => n = 0 ∧ y = fullE) w) :=
  (Make_any fullO w f_small).mono fun _ _ h => makeTo h fullO_may (.inl rfl)
theorem One_walk (c d : Nat) (sv : Value) (l : List Co.OP) (f : Nat) (hf : f ≤ 255) (w : World) (h : Co.SO w sv l) (hw : ∀ o ∈ l, o.wide) :
    Calls Tryz.prog 5 #[.agg #[.int .u64 (c : Int), .int .u64 (d : Int)], sv, .int .u8 (f : Int)] w fun e w' => e = .returned (.bool true) ∧ Below w.heap.size w w' := by
  have CG := Lib.hid (fun W (hb : Below w.heap.size w W) => grown_any c d sv l W (h.below hb) hw)
  have CW := Lib.hid awake_any
  have CP := Lib.hid P13_any
  have CF := Lib.hid fullMake
  have HF := Lib.hid hf
  obtain ⟨A, cl, rfl, _, _⟩ := h
  have hsf := store_float
  clear hw hf
  have B0 := Lib.hid ((Below.refl w.heap.size w).alloc (Nat.le_refl _) (.cells #[.int .u64 (c : Int), .int .u64 (d : Int)] 33))
  go_enter Tryz.func5, Tryz.ntmps5
  go_upto_region 2 with (go_at_call 21; (with_reducible refine (CG.out _ B0.out).mono ?_); rintro e w1 ⟨u, x, rfl, ho, hg, hb⟩; have GX := Lib.hid hg; obtain ⟨xe, xid, xlab, xfr, xtil, xval, xps⟩ := x; have B1 := Lib.hid (B0.out.trans (hb.mono B0.out.size)); have OW := Lib.hid (EOwn.mono ho B0.out.size); obtain ⟨su, sq, rsu, rfl, hu1, hu2, hu3⟩ := ho; obtain ⟨Ay, cy, rfl, _⟩ := hu1.at; obtain ⟨Py, dy, rfl, _⟩ := hu2.form; clear hb hg hu1 hu2 hu3)
  obtain ⟨W1, hW1⟩ : ∃ W, w1.alloc (.cells #[.bool xe, .int .u64 xid, .string xlab, .int .u64 xfr, .int .u64 xtil, .slice Ay xval.length cy, .slice Py rsu.length dy] 38) = W := ⟨_, rfl⟩
  have B2 := Lib.hid (show Below w.heap.size w W1 by rw [← hW1]; exact B1.out.alloc B1.out.size _)
  have E7 := Lib.hid (show BoxE w.heap.size W1 w1.heap.size ⟨xe, xid, xlab, xfr, xtil, xval, xps⟩ by rw [← hW1]; exact boxE_new OW.out)
  try rw [hW1]
  clear hW1 OW
  have L7 := Lib.hid (show w.heap.size ≤ w1.heap.size from B1.out.size)
  obtain ⟨p7, hp7⟩ : ∃ q, w1.heap.size = q := ⟨_, rfl⟩
  rw [hp7] at E7 L7
  try rw [hp7]
  clear hp7 B1
  go_upto_region 4 with (go_at_call 12; (with_reducible refine (CW.out _).mono ?_); rintro e w2 ⟨rfl, hb⟩; have B3 := Lib.hid (B2.out.trans (hb.mono B2.out.size)); have E8 := Lib.hid (E7.out.below hb); clear hb)
  go_upto_region 5 with (first
    | (go_at_call 29; (with_reducible refine (CP.out _ _ _).mono ?_); rintro e w3 ⟨rfl, hb⟩; have B4 := Lib.hid (B3.out.trans (hb.mono B3.out.size)); have E9 := Lib.hid (E8.out.below hb); clear hb)
    | (go_at_call 13; (with_reducible refine (CF.out _).mono ?_); rintro e w4 ⟨u, n1, y, rfl, ho, hb, rfl, hq⟩; have HQ1 := Lib.hid hq; obtain ⟨ge, gid, glab, gfr, gtil, gval, gps⟩ := y; have B5 := Lib.hid (B4.out.trans (hb.mono B4.out.size)); have EA := Lib.hid (E9.out.below hb); have OW := Lib.hid (EOwn.mono ho B4.out.size); obtain ⟨su, sq, rsg, rfl, hu1, hu2, hu3⟩ := ho; obtain ⟨Ag, cg, rfl, _⟩ := hu1.at; obtain ⟨Pg, dg, rfl, _⟩ := hu2.form; clear hb hq hu1 hu2 hu3)
    | fail)
  obtain ⟨W5, hW5⟩ : ∃ W, w4.alloc (.cells #[.bool ge, .int .u64 gid, .string glab, .int .u64 gfr, .int .u64 gtil, .slice Ag gval.length cg, .slice Pg rsg.length dg] 38) = W := ⟨_, rfl⟩
  have B6 := Lib.hid (show Below w.heap.size w W5 by rw [← hW5]; exact B5.out.alloc B5.out.size _)
  have E7 := Lib.hid (show BoxE w.heap.size W5 p7 ⟨xe, xid, xlab, xfr, xtil, xval, xps⟩ by rw [← hW5]; exact EA.out.below ((Below.refl _ _).alloc (Nat.le_refl _) _))
  have E9 := Lib.hid (show BoxE w.heap.size W5 w4.heap.size ⟨ge, gid, glab, gfr, gtil, gval, gps⟩ by rw [← hW5]; exact boxE_new OW.out)
  have L9 := Lib.hid (show p7 < w4.heap.size by obtain ⟨_, _, _, _, _, h, _⟩ := EA.out; exact h.lt)
  try rw [hW5]
  clear hW5 OW EA
  have M9 := Lib.hid (show w.heap.size ≤ w4.heap.size from B5.out.size)
  obtain ⟨p9, hp9⟩ : ∃ q, w4.heap.size = q := ⟨_, rfl⟩
  rw [hp9] at E9 L9 M9
  try rw [hp9]
  clear hp9 B5 B4 B3 B2 B0 E8
  have HXE := Lib.hid (show xe = false ∧ xid = 1 from ⟨GX.out.edge, GX.out.id⟩)
  have LNV := Lib.hid (show xval.length ≤ 62 from GX.out.good.lens.1)
  have LNP := Lib.hid (show ∀ p ∈ xps, p.l.length ≤ 62 from GX.out.good.lens.2)
  have L16 := Lib.hid (show xps.length ≤ 16 from GX.out.good.may.num)
  have WD := Lib.hid (show Se.Iset.Wide xval ∧ ∀ p ∈ xps, ∀ y ∈ p.l, 0 ≤ y.a ∧ 0 ≤ y.b from GX.out.good.late.wides GX.out.good.may)
  obtain ⟨Ax, cx, Px, nx, dx, hbx, hox, _⟩ := E7.out
  have HBX := Lib.hid (show Bx W5 p7 #[.bool xe, .int .u64 xid, .string xlab, .int .u64 xfr, .int .u64 xtil, .slice Ax xval.length cx, .slice Px nx dx] from hbx)
  have HOX := Lib.hid (show EOwn w.heap.size W5 (.agg #[.bool xe, .int .u64 xid, .string xlab, .int .u64 xfr, .int .u64 xtil, .slice Ax xval.length cx, .slice Px nx dx]) ⟨xe, xid, xlab, xfr, xtil, xval, xps⟩ from hox)
  clear hbx hox
  obtain ⟨xsv, xsp, xrs, xe1, xh1, xh2, xh3⟩ := HOX.out
  simp at xe1
  obtain ⟨rfl, rfl⟩ := xe1
  have HV := Lib.hid xh1.at
  have HPS := Lib.hid (xh2.sp xh3)
  clear xh1 xh2 xh3
  obtain ⟨PA1, cP1, eP1, hPA1, _⟩ := HPS.out
  cases eP1
  have HPA := Lib.hid hPA1
  clear hPA1
  have CNt := Lib.hid (fun W (hb : Below W5.heap.size W5 W) => Se.Not_any (.slice Ax xval.length cx) xval W (HV.out.below hb) WD.out.1 (by have := LNV.out; omega))
  have x0 := HBX.out.c
  go_upto_block 0 with (go_at_call 30; (with_reducible refine (CNt.out _ (Below.refl _ _)).mono ?_); rintro e w6 ⟨uN, N, rfl, hN, hoN, hb⟩; have HN := Lib.hid hN; have HON := Lib.hid hoN.at; obtain ⟨AN, cN, rfl, hNA⟩ := hoN.at; have HNA := Lib.hid hNA; have K6 := Lib.hid hb; clear hN hoN hb hNA x0)
  have WN := Lib.hid (show Se.Iset.Wide N from HN.out.1.wide fun t ht => by rw [HN.out.2.1 t]; simp; omega)
  have LN := Lib.hid (show N.length ≤ 64 by have h1 := HN.out.2.2; have h2 := LNV.out; omega)
  have TL := Lib.hid (show ∀ o ∈ againL N xps, Tells ⟨xe, xid, xlab, xfr, xtil, xval, xps⟩ o from tells_all GX.out.good.may WD.out.2 WN.out HN.out)
  have B7 := Lib.hid (B6.out.trans (K6.out.mono B6.out.size))
  go_wp2_with fail
  go_loopw [11, 43] (fun u i wr => ∃ k : Nat, k ≤ N.length ∧ i = .int .i64 k ∧ Co.OwnO w6.heap.size wr u ((N.take k).map dropO) ∧ Below w6.heap.size w6 wr) (fun _ i _ => N.length - (intOf i).toNat)
  case atStart => exact ⟨0, Nat.zero_le _, rfl, Co.OwnO.nil _ _, Below.refl _ _⟩
  case round =>
    obtain ⟨k, hk, rfl, ho, hb⟩ := hrel
    have HO := Lib.hid ho
    have HB := Lib.hid hb
    clear ho hb
    by_cases hlt : k < N.length
    · obtain ⟨gN, oN, rfl, lN, cN'⟩ := (HNA.out.below HB.out) (by omega)
      obtain ⟨r0, r1⟩ := cN' k hlt
      have hwk := WN.out _ (List.getElem_mem hlt)
      obtain ⟨a, ha⟩ : ∃ a : Nat, N[k].1 = (a : Int) := ⟨N[k].1.toNat, by omega⟩
      obtain ⟨b, hb⟩ : ∃ b : Nat, N[k].2 = (b : Int) := ⟨N[k].2.toNat, by omega⟩
      have HNX := Lib.hid (drop_next hlt ha hb)
      have LK := Lib.hid (show ((N.take k).map dropO).length + 1 ≤ 1000000000000 by have := LN.out; simp; omega)
      rw [ha] at r0
      rw [hb] at r1
      obtain ⟨L, hL⟩ : ∃ L, (N.take k).map dropO = L := ⟨_, rfl⟩
      rw [hL] at HO HNX LK
      have i0 : (k : Int) < (N.length : Int) := by omega
      have i1 : (0 : Int) ≤ (k : Int) := by omega
      have i2 : (k : Int) ≤ 1000 := by have := LN.out; omega
      have PO := Lib.hid (fun W => Co.range_new W ⟨4, false, 1, nul, 0, 0, nul, VP.none, a, b⟩ 35)
      obtain ⟨Au, cu, rfl⟩ := HO.out.form
      have HA1 := Lib.hid ((Below.refl wr.heap.size wr).alloc (Nat.le_refl _) (.cells #[.int .u64 (a : Int), .int .u64 (b : Int)] 33))
      have X13 := Lib.hid (Bx.new wr #[.int .u64 (a : Int), .int .u64 (b : Int)] 33)
      clear ha hb hwk cN' hL lN
      go_upto_region 9 with fail
      obtain ⟨V1, hV1⟩ : ∃ W, wr.alloc (.cells #[.int .u64 (a : Int), .int .u64 (b : Int)] 33) = W := ⟨_, rfl⟩
      rw [hV1] at HA1 X13
      try rw [hV1]
      clear hV1 r0 r1
      have x0 := X13.out.c
      have HA2 := Lib.hid (HA1.out.alloc HA1.out.size (.cells #[.int .i64 4, .bool false, .int .u64 1, .string ⟨#[]⟩, .int .u64 0, .int .u64 0, .string ⟨#[]⟩, .int .i64 0, .bool false, .int .i64 0, .float .f64 0, .string ⟨#[]⟩, .int .u64 (a : Int), .int .u64 (b : Int)] 35))
      have HO2 := Lib.hid (HO.out.below HA2.out)
      have RG := Lib.hid (show (V1.alloc (.cells #[.int .i64 4, .bool false, .int .u64 1, .string ⟨#[]⟩, .int .u64 0, .int .u64 0, .string ⟨#[]⟩, .int .i64 0, .bool false, .int .i64 0, .float .f64 0, .string ⟨#[]⟩, .int .u64 (a : Int), .int .u64 (b : Int)] 35)).rangeAt V1.heap.size 0 (Co.OP.cells ⟨4, false, 1, nul, 0, 0, nul, VP.none, a, b⟩).toList from PO.out V1)
      have SZ := Lib.hid (Nat.le_trans HB.out.size HA2.out.size)
      go_wp2_with (at_builtin; refine Co.wpList_appO _ rfl (.tmp 47) (.tmp 50) rfl w6.heap.size _ L rfl HO2.out V1.heap.size ⟨4, false, 1, nul, 0, 0, nul, VP.none, a, b⟩ rfl RG.out LK.out SZ.out ?_; intro v2 w8 ho2 hb2 _; have HO3 := Lib.hid ho2; have HB3 := Lib.hid ((HB.out.trans (HA2.out.mono HB.out.size)).trans hb2); clear ho2 hb2 x0)
      exact ⟨⟨k + 1, by omega, by go_num, by rw [HNX.out]; exact HO3.out, HB3.out⟩, by simp [intOf]; omega⟩
    · obtain rfl : k = N.length := by omega
      have HO1 := HO.out
      rw [List.take_length] at HO1
      have HO1 := Lib.hid HO1
      have X9 := Lib.hid (HBX.out.below (K6.out.trans (HB.out.mono K6.out.size)))
      have HBB := Lib.hid HB.out
      have x0 := X9.out.c
      clear HO HB
      go_upto_block 2 with fail
      clear x0
      go_wp2_with fail
      go_loopw [11, 56] (fun u i wr => ∃ k : Nat, k ≤ xps.length ∧ i = .int .i64 k ∧ Co.OwnO w6.heap.size wr u (N.map dropO ++ setsL (xps.take k)) ∧ Below w6.heap.size w6 wr) (fun _ i _ => xps.length - (intOf i).toNat)
      case atStart => exact ⟨0, Nat.zero_le _, rfl, by simpa [setsL] using HO1.out, HBB.out⟩
      case round =>
        obtain ⟨k, hk, rfl, ho, hb⟩ := hrel
        have HO := Lib.hid ho
        have HB := Lib.hid hb
        clear ho hb HO1 HBB X9
        by_cases hlt : k < xps.length
        · obtain ⟨gP, oP, rfl, lP, cP⟩ := HPA.out (by omega)
          obtain ⟨r0, u, r1, hu⟩ := cP k hlt
          have hbW := K6.out.trans (HB.out.mono K6.out.size)
          have r0 := (hbW.cell (p := ⟨gP, oP + k * 2, none⟩) lP).trans r0
          have r1 := (hbW.cell (p := ⟨gP, oP + k * 2 + 1, none⟩) lP).trans r1
          have HL := Lib.hid (LNP.out _ (List.getElem_mem hlt))
          have HS := Lib.hid (sets_next hlt)
          have WL := Lib.hid (WD.out.2 _ (List.getElem_mem hlt))
          have LL0 := Lib.hid (show (N.map dropO ++ setsL (xps.take k)).length ≤ 2000 by
            have h1 := sets_len (ps := xps.take k) (n := 62) fun p hp => LNP.out p (List.mem_of_mem_take hp)
            have h2 := L16.out
            have h3 := LN.out
            simp only [List.length_append, List.length_map, List.length_take] at h1 ⊢
            have h4 : min k xps.length ≤ 16 := by omega
            have h5 := Nat.mul_le_mul_right 62 h4
            omega)
          obtain ⟨key, hkey⟩ : ∃ q, xps[k].k = q := ⟨_, rfl⟩
          obtain ⟨ll, hll⟩ : ∃ q, xps[k].l = q := ⟨_, rfl⟩
          rw [hkey] at r0 HS
          rw [hll] at hu HL HS WL
          obtain ⟨Al, cl', rfl, hLA, _⟩ := hu
          have HLA := Lib.hid hLA
          obtain ⟨L0, hL0⟩ : ∃ q, N.map dropO ++ setsL (xps.take k) = q := ⟨_, rfl⟩
          have HS2 := Lib.hid (show N.map dropO ++ setsL (xps.take (k + 1)) = L0 ++ ll.map (setO key) by rw [HS.out, ← List.append_assoc, hL0])
          rw [hL0] at HO LL0
          have i0 : (k : Int) < (xps.length : Int) := by omega
          have i1 : (0 : Int) ≤ (k : Int) := by omega
          have i2 : (k : Int) ≤ 1000 := by have := L16.out; omega
          clear hkey hll hL0 hLA hbW cP HS
          have HA1 := Lib.hid ((Below.refl wr.heap.size wr).alloc (Nat.le_refl _) (.cells #[.string key, .slice Al ll.length cl'] 62))
          have X15 := Lib.hid (Bx.new wr #[.string key, .slice Al ll.length cl'] 62)
          have T15 := Lib.hid (Blk.new wr #[.string key, .slice Al ll.length cl'] 62)
          go_upto_region 14 with fail
          obtain ⟨V1, hV1⟩ : ∃ W, wr.alloc (.cells #[.string key, .slice Al ll.length cl'] 62) = W := ⟨_, rfl⟩
          rw [hV1] at HA1 X15 T15
          try rw [hV1]
          clear hV1 r0 r1
          have HOV := Lib.hid (HO.out.below HA1.out)
          have HBV := Lib.hid (HB.out.trans (HA1.out.mono HB.out.size))
          obtain ⟨p15, hp15⟩ : ∃ q, wr.heap.size = q := ⟨_, rfl⟩
          rw [hp15] at X15 T15
          try rw [hp15]
          clear hp15 HA1 HO HB
          have x0 := X15.out.c
          go_upto_block 4 with fail
          clear x0
          go_wp2_with fail
          go_loopw [11, 63] (fun u i wr => ∃ j : Nat, j ≤ ll.length ∧ i = .int .i64 j ∧ Co.OwnO w6.heap.size wr u (L0 ++ (ll.take j).map (setO key)) ∧ Below w6.heap.size w6 wr ∧ Bx wr p15 #[.string key, .slice Al ll.length cl'] ∧ Blk 62 wr p15) (fun _ i _ => ll.length - (intOf i).toNat)
          case atStart => exact ⟨0, Nat.zero_le _, rfl, by simpa using HOV.out, HBV.out, X15.out, T15.out⟩
          case round =>
            obtain ⟨j, hj, rfl, ho, hb, hx, ht⟩ := hrel
            have HO := Lib.hid ho
            have HB := Lib.hid hb
            have X1 := Lib.hid hx
            have T1 := Lib.hid ht
            clear ho hb hx ht HOV HBV X15 T15
            by_cases hjl : j < ll.length
            · obtain ⟨gL, oL, rfl, lL, cL⟩ := (HLA.out.below (K6.out.trans (HB.out.mono K6.out.size))) (by omega)
              have r := cL j hjl
              have hwk := WL.out _ (List.getElem_mem hjl)
              obtain ⟨a, ha⟩ : ∃ a : Nat, ll[j].a = (a : Int) := ⟨ll[j].a.toNat, by omega⟩
              obtain ⟨b, hb⟩ : ∃ b : Nat, ll[j].b = (b : Int) := ⟨ll[j].b.toNat, by omega⟩
              obtain ⟨⟨vk, vb, vn, vf, vs⟩, hv⟩ : ∃ v, ll[j].v = v := ⟨_, rfl⟩
              have hnx := set_next key hjl ha hb
              rw [hv] at hnx
              have e : ll[j] = ⟨(a : Int), (b : Int), ⟨vk, vb, vn, vf, vs⟩⟩ := Pl.PC.ext' ha hb hv
              rw [e] at r
              have HNX := Lib.hid (show L0 ++ (ll.take (j + 1)).map (setO key) = (L0 ++ (ll.take j).map (setO key)) ++ [⟨5, false, 1, nul, 0, 0, key, ⟨vk, vb, vn, vf, vs⟩, a, b⟩] by rw [hnx, List.append_assoc])
              have LK := Lib.hid (show (L0 ++ (ll.take j).map (setO key)).length + 1 ≤ 1000000000000 by have h1 := LL0.out; have h2 := HL.out; simp; omega)
              obtain ⟨L, hL⟩ : ∃ L, L0 ++ (ll.take j).map (setO key) = L := ⟨_, rfl⟩
              rw [hL] at HO HNX LK
              have j0 : (j : Int) < (ll.length : Int) := by omega
              have j1 : (0 : Int) ≤ (j : Int) := by omega
              have j2 : (j : Int) ≤ 1000 := by have := HL.out; omega
              have PO := Lib.hid (fun W => Co.range_new W ⟨5, false, 1, nul, 0, 0, key, ⟨vk, vb, vn, vf, vs⟩, a, b⟩ 35)
              obtain ⟨Au, cu, rfl⟩ := HO.out.form
              have HA1 := Lib.hid ((Below.refl wr.heap.size wr).alloc (Nat.le_refl _) (.cells #[.int .u64 (a : Int), .int .u64 (b : Int), .int .i64 vk, .bool vb, .int .i64 vn, .float .f64 vf, .string vs] 71))
              have X17 := Lib.hid (Bx.new wr #[.int .u64 (a : Int), .int .u64 (b : Int), .int .i64 vk, .bool vb, .int .i64 vn, .float .f64 vf, .string vs] 71)
              clear ha hb hv hwk cL hL lL hnx e
              go_upto_region 17 with (refine wpList_load_mid rfl 71 (.tmp 65) rfl gL (oL + j * 7) rfl _ _ r Tryz.underlying71 rfl rowL ?_)
              obtain ⟨V2, hV2⟩ : ∃ W, wr.alloc (.cells #[.int .u64 (a : Int), .int .u64 (b : Int), .int .i64 vk, .bool vb, .int .i64 vn, .float .f64 vf, .string vs] 71) = W := ⟨_, rfl⟩
              rw [hV2] at HA1 X17
              try rw [hV2]
              clear hV2 r
              have X2 := Lib.hid (X1.out.below HA1.out)
              have x0 := X17.out.c
              have y0 := X2.out.c
              have HA2 := Lib.hid (HA1.out.alloc HA1.out.size (.cells #[.int .i64 5, .bool false, .int .u64 1, .string ⟨#[]⟩, .int .u64 0, .int .u64 0, .string key, .int .i64 vk, .bool vb, .int .i64 vn, .float .f64 vf, .string vs, .int .u64 (a : Int), .int .u64 (b : Int)] 35))
              have HO2 := Lib.hid (HO.out.below HA2.out)
              have X3 := Lib.hid (X1.out.below HA2.out)
              have T3 := Lib.hid (T1.out.below HA2.out)
              have RG := Lib.hid (show (V2.alloc (.cells #[.int .i64 5, .bool false, .int .u64 1, .string ⟨#[]⟩, .int .u64 0, .int .u64 0, .string key, .int .i64 vk, .bool vb, .int .i64 vn, .float .f64 vf, .string vs, .int .u64 (a : Int), .int .u64 (b : Int)] 35)).rangeAt V2.heap.size 0 (Co.OP.cells ⟨5, false, 1, nul, 0, 0, key, ⟨vk, vb, vn, vf, vs⟩, a, b⟩).toList from PO.out V2)
              have SZ := Lib.hid (Nat.le_trans HB.out.size HA2.out.size)
              have NE := Lib.hid (T3.out.ne HO2.out (by decide))
              go_wp2_with (at_builtin; refine Co.wpList_appO _ rfl (.tmp 67) (.tmp 75) rfl w6.heap.size _ L rfl HO2.out V2.heap.size ⟨5, false, 1, nul, 0, 0, key, ⟨vk, vb, vn, vf, vs⟩, a, b⟩ rfl RG.out LK.out SZ.out ?_; intro v2 w8 ho2 hb2 hg2; have HO3 := Lib.hid ho2; have HB3 := Lib.hid ((HB.out.trans (HA2.out.mono HB.out.size)).trans hb2); have HG2 := Lib.hid (show World.grownBy _ w8 (Value.slice Au L.length cu).ownBlock from hg2); clear ho2 hb2 hg2)
              have X4 := Lib.hid (X3.out.grown HG2.out fun q hq e => NE.out (by rw [hq, e]))
              have T4 := Lib.hid (T3.out.grown HG2.out NE.out)
              exact ⟨⟨j + 1, by omega, by go_num, by rw [HNX.out]; exact HO3.out, HB3.out, X4.out, T4.out⟩, by simp [intOf]; omega⟩
            · obtain rfl : j = ll.length := by omega
              have HO1 := HO.out
              rw [List.take_length, ← HS2.out] at HO1
              have HO1 := Lib.hid HO1
              clear HO
              go_wp2_with fail
              exact ⟨⟨k + 1, by omega, by go_num, HO1.out, HB.out⟩, by simp [intOf]; omega⟩
        · obtain rfl : k = xps.length := by omega
          have hoA := HO.out
          rw [List.take_length] at hoA
          change Co.OwnO w6.heap.size wr _ (againL N xps) at hoA
          obtain ⟨w9, rfl⟩ : ∃ x : World, x = wr := ⟨_, rfl⟩
          have HK9 := Lib.hid (K6.out.trans (HB.out.mono K6.out.size))
          have HB9 := Lib.hid (B6.out.trans (HK9.out.mono B6.out.size))
          have SB := Lib.hid (show SubE ⟨xe, xid, xlab, xfr, xtil, xval, xps⟩ ⟨ge, gid, glab, gfr, gtil, gval, gps⟩ by rw [HQ1.out]; exact sub_full GX.out)
          have GG := Lib.hid (show Ent.good ⟨ge, gid, glab, gfr, gtil, gval, gps⟩ 2 by rw [HQ1.out]; exact fullE_good)
          have OI0 := Lib.hid (show OI p7 p9 _ (againL N xps) w w9 ⟨xe, xid, xlab, xfr, xtil, xval, xps⟩ ⟨ge, gid, glab, gfr, gtil, gval, gps⟩ 2 from ⟨E7.out.below HK9.out, E9.out.below HK9.out, Co.OwnO.mono hoA (Nat.le_trans B6.out.size K6.out.size), HB9.out, SB.out, GG.out⟩)
          have LL := Lib.hid (show (againL N xps).length ≤ 2000 by
            have h1 := sets_len (ps := xps) (n := 62) fun p hp => LNP.out p hp
            have h2 := L16.out
            have h3 := LN.out
            have h5 := Nat.mul_le_mul_right 62 h2
            unfold againL
            unfold setsL at h1
            simp only [List.length_append, List.length_map] at h1 ⊢
            omega)
          obtain ⟨Au, cu, rfl⟩ := hoA.form
          have EN := Lib.hid (fun y (h : SubE ⟨xe, xid, xlab, xfr, xtil, xval, xps⟩ y) (hy : y.late) (hd : ∀ o ∈ againL N xps, DoneO o y) => h.all GX.out.good.may (hy.wides h.may).1 WD.out.2 WN.out HN.out hd)
          obtain ⟨L, hL⟩ : ∃ q, againL N xps = q := ⟨_, rfl⟩
          rw [hL] at OI0 TL LL EN
          try rw [hL]
          obtain ⟨n, hn⟩ : ∃ q, L.length = q := ⟨_, rfl⟩
          have HLN := Lib.hid hn
          rw [hn] at OI0 LL
          try rw [hn]
          clear hn hL hoA HO HB E7 E9 HBX HOX HV HPA CNt HNA HON
          go_wp2_with fail
          go_loopw [81] (fun i wr => ∃ (k : Nat) (g : Ent), k ≤ n ∧ i = .int .i64 k ∧ OI p7 p9 (.slice Au n cu) L w wr ⟨xe, xid, xlab, xfr, xtil, xval, xps⟩ g (2 + 2 * k) ∧ DoneK L f k g) (fun i _ => n - (intOf i).toNat)
          case atStart => exact ⟨0, _, Nat.zero_le _, rfl, OI0.out, fun j h => absurd h (Nat.not_lt_zero j)⟩
          case round =>
            obtain ⟨k, g, hk, rfl, hoi, hdk⟩ := hrel
            have OK := Lib.hid hoi
            have DK := Lib.hid hdk
            clear hoi hdk OI0
            by_cases hlt : k < n
            · have hn0 : ¬ ((n : Int) = 0) := by omega
              have hn1 : ¬ (n = 0) := by omega
              have hidx : (k + f) % n < n := Nat.mod_lt _ (by omega)
              have HI := Lib.hid (show (k + f) % L.length < L.length by rw [HLN.out]; exact hidx)
              have hm1 : Int.tmod ((k : Int) + (f : Int)) (n : Int) = (((k + f) % n : Nat) : Int) := by
                rw [Int.tmod_eq_emod_of_nonneg (by omega)]
                push_cast
                rfl
              have HDN := Lib.hid (fun y (h : Applied g (L[(k + f) % L.length]'HI.out) y) => DK.out.next TL.out HI.out OK.out.sub h)
              have HTo := Lib.hid (TL.out _ (List.getElem_mem HI.out))
              have hoso := OK.out.row.so
              obtain ⟨A1, c1, e1, hOA, _⟩ := hoso
              simp only [Value.slice.injEq] at e1
              obtain ⟨rfl, hz, rfl⟩ := e1
              clear hz
              obtain ⟨gO, oO, rfl, lO, cO⟩ := hOA (by rw [HLN.out]; omega)
              have r := cO _ HI.out
              obtain ⟨o, ho⟩ : ∃ q, L[(k + f) % L.length]'HI.out = q := ⟨_, rfl⟩
              rw [ho] at HDN HTo r
              rw [HLN.out] at r
              obtain ⟨idx, hix⟩ : ∃ q, (k + f) % n = q := ⟨_, rfl⟩
              rw [hix] at r hm1 hidx
              clear ho hix cO hOA HI
              obtain ⟨kind, edge, id, label, fr, til, key, ⟨vk, vb, vn, vf, vs⟩, pf, pt⟩ := o
              obtain ⟨ge, gid, glab, gfr, gtil, gval, gps⟩ := g
              obtain ⟨Ag, cg, Pg, ng, dg, hbx, hox, hjx⟩ := OK.out.b9
              have HBX := Lib.hid (show Bx wr p9 #[.bool ge, .int .u64 gid, .string glab, .int .u64 gfr, .int .u64 gtil, .slice Ag gval.length cg, .slice Pg ng dg] from hbx)
              have HOX := Lib.hid hox
              have HJX := Lib.hid hjx
              clear hbx hox hjx
              have CA := Lib.hid (fun W (hb : Below wr.heap.size wr W) => again_apply HXE.out HTo.out OK.out.sub OK.out.good (by have := LL.out; omega) (show EAt W (.agg #[.bool ge, .int .u64 gid, .string glab, .int .u64 gfr, .int .u64 gtil, .slice Ag gval.length cg, .slice Pg ng dg]) ⟨ge, gid, glab, gfr, gtil, gval, gps⟩ from (HOX.out.below hb).at))
              have q0 : wr.cell? ⟨gO, oO + idx * 14, none⟩ = some (.int .i64 kind) := r 0 _ rfl
              have q1 : wr.cell? ⟨gO, oO + idx * 14 + 1, none⟩ = some (.bool edge) := r 1 _ rfl
              have q2 : wr.cell? ⟨gO, oO + idx * 14 + 2, none⟩ = some (.int .u64 (id : Int)) := r 2 _ rfl
              have q3 : wr.cell? ⟨gO, oO + idx * 14 + 3, none⟩ = some (.string label) := r 3 _ rfl
              have q4 : wr.cell? ⟨gO, oO + idx * 14 + 4, none⟩ = some (.int .u64 (fr : Int)) := r 4 _ rfl
              have q5 : wr.cell? ⟨gO, oO + idx * 14 + 5, none⟩ = some (.int .u64 (til : Int)) := r 5 _ rfl
              have q6 : wr.cell? ⟨gO, oO + idx * 14 + 6, none⟩ = some (.string key) := r 6 _ rfl
              have q7 : wr.cell? ⟨gO, oO + idx * 14 + 7, none⟩ = some (.int .i64 vk) := r 7 _ rfl
              have q8 : wr.cell? ⟨gO, oO + idx * 14 + 8, none⟩ = some (.bool vb) := r 8 _ rfl
              have q9 : wr.cell? ⟨gO, oO + idx * 14 + 9, none⟩ = some (.int .i64 vn) := r 9 _ rfl
              have q10 : wr.cell? ⟨gO, oO + idx * 14 + 10, none⟩ = some (.float .f64 vf) := r 10 _ rfl
              have q11 : wr.cell? ⟨gO, oO + idx * 14 + 11, none⟩ = some (.string vs) := r 11 _ rfl
              have q12 : wr.cell? ⟨gO, oO + idx * 14 + 12, none⟩ = some (.int .u64 (pf : Int)) := r 12 _ rfl
              have q13 : wr.cell? ⟨gO, oO + idx * 14 + 13, none⟩ = some (.int .u64 (pt : Int)) := r 13 _ rfl
              have K0 : Hid (∀ w', Below wr.heap.size wr w' → (∀ j, w'.cell? ⟨p9, j, none⟩ = #[.bool ge, .int .u64 gid, .string glab, .int .u64 gfr, .int .u64 gtil, .slice Ag gval.length cg, .slice Pg ng dg][j]?) ∧ w'.cell? ⟨gO, oO + idx * 14, none⟩ = some (.int .i64 kind) ∧ w'.cell? ⟨gO, oO + idx * 14 + 1, none⟩ = some (.bool edge) ∧ w'.cell? ⟨gO, oO + idx * 14 + 2, none⟩ = some (.int .u64 (id : Int)) ∧ w'.cell? ⟨gO, oO + idx * 14 + 3, none⟩ = some (.string label) ∧ w'.cell? ⟨gO, oO + idx * 14 + 4, none⟩ = some (.int .u64 (fr : Int)) ∧ w'.cell? ⟨gO, oO + idx * 14 + 5, none⟩ = some (.int .u64 (til : Int)) ∧ w'.cell? ⟨gO, oO + idx * 14 + 6, none⟩ = some (.string key) ∧ w'.cell? ⟨gO, oO + idx * 14 + 7, none⟩ = some (.int .i64 vk) ∧ w'.cell? ⟨gO, oO + idx * 14 + 8, none⟩ = some (.bool vb) ∧ w'.cell? ⟨gO, oO + idx * 14 + 9, none⟩ = some (.int .i64 vn) ∧ w'.cell? ⟨gO, oO + idx * 14 + 10, none⟩ = some (.float .f64 vf) ∧ w'.cell? ⟨gO, oO + idx * 14 + 11, none⟩ = some (.string vs) ∧ w'.cell? ⟨gO, oO + idx * 14 + 12, none⟩ = some (.int .u64 (pf : Int)) ∧ w'.cell? ⟨gO, oO + idx * 14 + 13, none⟩ = some (.int .u64 (pt : Int))) := Lib.hid fun w' hb => ⟨(HBX.out.below hb).c, (hb.cell (p := ⟨gO, oO + idx * 14, none⟩) lO).trans q0, (hb.cell (p := ⟨gO, oO + idx * 14 + 1, none⟩) lO).trans q1, (hb.cell (p := ⟨gO, oO + idx * 14 + 2, none⟩) lO).trans q2, (hb.cell (p := ⟨gO, oO + idx * 14 + 3, none⟩) lO).trans q3, (hb.cell (p := ⟨gO, oO + idx * 14 + 4, none⟩) lO).trans q4, (hb.cell (p := ⟨gO, oO + idx * 14 + 5, none⟩) lO).trans q5, (hb.cell (p := ⟨gO, oO + idx * 14 + 6, none⟩) lO).trans q6, (hb.cell (p := ⟨gO, oO + idx * 14 + 7, none⟩) lO).trans q7, (hb.cell (p := ⟨gO, oO + idx * 14 + 8, none⟩) lO).trans q8, (hb.cell (p := ⟨gO, oO + idx * 14 + 9, none⟩) lO).trans q9, (hb.cell (p := ⟨gO, oO + idx * 14 + 10, none⟩) lO).trans q10, (hb.cell (p := ⟨gO, oO + idx * 14 + 11, none⟩) lO).trans q11, (hb.cell (p := ⟨gO, oO + idx * 14 + 12, none⟩) lO).trans q12, (hb.cell (p := ⟨gO, oO + idx * 14 + 13, none⟩) lO).trans q13⟩
              have i0 : (k : Int) < (n : Int) := by omega
              have i1 : (0 : Int) ≤ (k : Int) := by omega
              have i2 : (n : Int) ≤ 2000 := by have := LL.out; omega
              have i3 : (f : Int) ≤ 255 := by have := HF.out; omega
              have i4 : (0 : Int) ≤ (f : Int) := by omega
              have i5 : (idx : Int) < (n : Int) := by omega
              have i6 : (0 : Int) ≤ (idx : Int) := by omega
              have hw1 : IntKind.i64.wrap ((k : Int) + (f : Int)) = (k : Int) + (f : Int) := by rw [IntKind.wrap_i64]; omega
              have hw2 : IntKind.i64.wrap (f : Int) = (f : Int) := by rw [IntKind.wrap_i64]; omega
              have hw3 : IntKind.i64.wrap (idx : Int) = (idx : Int) := by rw [IntKind.wrap_i64]; omega
              have hm2 : ((k : Int) + (f : Int)) % (n : Int) = (idx : Int) := by rw [← hm1, Int.tmod_eq_emod_of_nonneg (by omega)]
              clear r q0 q1 q2 q3 q4 q5 q6 q7 q8 q9 q10 q11 q12 q13
              go_upto_region 23 with fail
              go_cut [19, 20] from 84 to 98 (fun t1 t2 w' => ∃ p n y, t1 = .pointer (some ⟨p, 0, none⟩) ∧ t2 = .int .i64 n ∧ BoxE wr.heap.size w' p y ∧ Below wr.heap.size wr w' ∧ (n = 3 ∨ (n = 0 ∧ Applied ⟨ge, gid, glab, gfr, gtil, gval, gps⟩ ⟨kind, edge, id, label, fr, til, key, ⟨vk, vb, vn, vf, vs⟩, pf, pt⟩ y)))
              case first =>
                refine wp_region_held_drew (S := (fun w' => (∀ j, w'.cell? ⟨p9, j, none⟩ = #[.bool ge, .int .u64 gid, .string glab, .int .u64 gfr, .int .u64 gtil, .slice Ag gval.length cg, .slice Pg ng dg][j]?) ∧ w'.cell? ⟨gO, oO + idx * 14, none⟩ = some (.int .i64 kind) ∧ w'.cell? ⟨gO, oO + idx * 14 + 1, none⟩ = some (.bool edge) ∧ w'.cell? ⟨gO, oO + idx * 14 + 2, none⟩ = some (.int .u64 (id : Int)) ∧ w'.cell? ⟨gO, oO + idx * 14 + 3, none⟩ = some (.string label) ∧ w'.cell? ⟨gO, oO + idx * 14 + 4, none⟩ = some (.int .u64 (fr : Int)) ∧ w'.cell? ⟨gO, oO + idx * 14 + 5, none⟩ = some (.int .u64 (til : Int)) ∧ w'.cell? ⟨gO, oO + idx * 14 + 6, none⟩ = some (.string key) ∧ w'.cell? ⟨gO, oO + idx * 14 + 7, none⟩ = some (.int .i64 vk) ∧ w'.cell? ⟨gO, oO + idx * 14 + 8, none⟩ = some (.bool vb) ∧ w'.cell? ⟨gO, oO + idx * 14 + 9, none⟩ = some (.int .i64 vn) ∧ w'.cell? ⟨gO, oO + idx * 14 + 10, none⟩ = some (.float .f64 vf) ∧ w'.cell? ⟨gO, oO + idx * 14 + 11, none⟩ = some (.string vs) ∧ w'.cell? ⟨gO, oO + idx * 14 + 12, none⟩ = some (.int .u64 (pf : Int)) ∧ w'.cell? ⟨gO, oO + idx * 14 + 13, none⟩ = some (.int .u64 (pt : Int)))) (by kernel_rfl) (K0.out _ (Below.refl _ _).drew) (fun hHeld => ?_)
                refine take_in (i := 0) (v := ?_) (some 85) rfl rfl (by kernel_rfl) (by kernel_rfl) (by kernel_rfl) (fun _ _ _ h => h) (Or.inl ⟨by rfl, ?_⟩) (by assumption) ?_
                rotate_left
                · (intro w hSw; (try dsimp only at hSw); (try go_split_ands); go_simp; try with_reducible rfl)
                try simp only [Act.put, List.setIfInBounds_toArray, List.set_cons_zero, List.set_cons_succ]
                refine take_in (i := 1) (v := ?_) (some 86) rfl rfl (by kernel_rfl) (by kernel_rfl) (by kernel_rfl) (fun _ _ _ h => h) (Or.inl ⟨by rfl, ?_⟩) (by assumption) ?_
                rotate_left
                · (intro w hSw; (try dsimp only at hSw); (try go_split_ands); go_simp; try with_reducible rfl)
                try simp only [Act.put, List.setIfInBounds_toArray, List.set_cons_zero, List.set_cons_succ]
                refine take_in (i := 2) (v := ?_) (some 87) rfl rfl (by kernel_rfl) (by kernel_rfl) (by kernel_rfl) (fun _ _ _ h => h) (Or.inl ⟨by rfl, ?_⟩) (by assumption) ?_
                rotate_left
                · (intro w hSw; (try dsimp only at hSw); (try go_split_ands); go_simp; try with_reducible rfl)
                try simp only [Act.put, List.setIfInBounds_toArray, List.set_cons_zero, List.set_cons_succ]
                refine take_in (i := 3) (v := ?_) (some 88) rfl rfl (by kernel_rfl) (by kernel_rfl) (by kernel_rfl) (fun _ _ _ h => h) (Or.inl ⟨by rfl, ?_⟩) (by assumption) ?_
                rotate_left
                · (intro w hSw; (try dsimp only at hSw); (try go_split_ands); go_simp; try with_reducible rfl)
                try simp only [Act.put, List.setIfInBounds_toArray, List.set_cons_zero, List.set_cons_succ]
                refine take_in (i := 4) (v := ?_) (some 89) rfl rfl (by kernel_rfl) (by kernel_rfl) (by kernel_rfl) (fun _ _ _ h => h) (Or.inl ⟨by rfl, ?_⟩) (by assumption) ?_
                rotate_left
                · (intro w hSw; (try dsimp only at hSw); (try go_split_ands); go_simp; try with_reducible rfl)
                try simp only [Act.put, List.setIfInBounds_toArray, List.set_cons_zero, List.set_cons_succ]
                refine take_in (i := 5) (v := ?_) (some 90) rfl rfl (by kernel_rfl) (by kernel_rfl) (by kernel_rfl) (fun _ _ _ h => h) (Or.inl ⟨by rfl, ?_⟩) (by assumption) ?_
                rotate_left
                · (intro w hSw; (try dsimp only at hSw); (try go_split_ands); go_simp; try with_reducible rfl)
                try simp only [Act.put, List.setIfInBounds_toArray, List.set_cons_zero, List.set_cons_succ]
                refine take_in (i := 6) (v := ?_) (some 91) rfl rfl (by kernel_rfl) (by kernel_rfl) (by kernel_rfl) (fun _ _ _ h => h) (Or.inl ⟨by rfl, ?_⟩) (by assumption) ?_
                rotate_left
                · (intro w hSw; (try dsimp only at hSw); (try go_split_ands); go_simp; try with_reducible rfl)
                try simp only [Act.put, List.setIfInBounds_toArray, List.set_cons_zero, List.set_cons_succ]
                refine take_in (i := 7) (v := ?_) (some 92) rfl rfl (by kernel_rfl) (by kernel_rfl) (by kernel_rfl) (fun _ _ _ h => h) (Or.inl ⟨by rfl, ?_⟩) (by assumption) ?_
                rotate_left
                · (intro w hSw; (try dsimp only at hSw); (try go_split_ands); go_simp; try with_reducible rfl)
                try simp only [Act.put, List.setIfInBounds_toArray, List.set_cons_zero, List.set_cons_succ]
                refine take_in (i := 8) (v := ?_) (some 93) rfl rfl (by kernel_rfl) (by kernel_rfl) (by kernel_rfl) (fun _ _ _ h => h) (Or.inl ⟨by rfl, ?_⟩) (by assumption) ?_
                rotate_left
                · (intro w hSw; (try dsimp only at hSw); (try go_split_ands); go_simp; try with_reducible rfl)
                try simp only [Act.put, List.setIfInBounds_toArray, List.set_cons_zero, List.set_cons_succ]
                refine take_in (i := 9) (v := ?_) (some 94) rfl rfl (by kernel_rfl) (by kernel_rfl) (by kernel_rfl) (fun _ _ _ h => h) (Or.inl ⟨by rfl, ?_⟩) (by assumption) ?_
                rotate_left
                · (intro w hSw; (try dsimp only at hSw); (try go_split_ands); go_simp; try with_reducible rfl)
                try simp only [Act.put, List.setIfInBounds_toArray, List.set_cons_zero, List.set_cons_succ]
                refine take_in (i := 10) (v := ?_) (some 95) rfl rfl (by kernel_rfl) (by kernel_rfl) (by kernel_rfl) (fun _ _ _ h => h) (Or.inl ⟨by rfl, ?_⟩) (by assumption) ?_
                rotate_left
                · (intro w hSw; (try dsimp only at hSw); (try go_split_ands); go_simp; try with_reducible rfl)
                try simp only [Act.put, List.setIfInBounds_toArray, List.set_cons_zero, List.set_cons_succ]
                refine wpAnyH_ready (rs := [11, 15]) (by kernel_rfl) (by simp) ?_
                refine (AllReadyH.cons rfl (fun K hK => ?_) (AllReadyH.cons rfl (fun K hK => ?_) AllReadyH.nil))
                · go_simp
                  (with_reducible refine (CA.out _ (show Below wr.heap.size wr wr.drew from (Below.refl _ _).drew)).mono ?_)
                  rintro e wzZ ⟨u, nnz, y, rfl, ho, hb, hq⟩
                  have HzZ := Lib.hid ((show Below wr.heap.size wr wr.drew from (Below.refl _ _).drew).trans (hb.mono (show Below wr.heap.size wr wr.drew from (Below.refl _ _).drew).size))
                  have HQz := Lib.hid hq
                  obtain ⟨ye, yid, ylab, yfr, ytil, yval, yps⟩ := y
                  have OWZ := Lib.hid (EOwn.mono ho ((show Below wr.heap.size wr wr.drew from (Below.refl _ _).drew)).size)
                  obtain ⟨su, sq, rsu, rfl, hu1, hu2, hu3⟩ := ho
                  obtain ⟨Au, cu, rfl, _⟩ := hu1.at
                  obtain ⟨Aq, cq, rfl, _⟩ := hu2.form
                  clear hb hq hu1 hu2 hu3
                  go_wp2_with fail
                  refine hK.out _ _ (K0.out _ HzZ.out) (fun hHeld => ?_)
                  clear hK K
                  try simp only [Act.put, List.setIfInBounds_toArray, List.set_cons_zero, List.set_cons_succ]
                  refine take_in (i := 12) (v := ?_) (some 84) rfl rfl (by kernel_rfl) (by kernel_rfl) (by kernel_rfl) (fun _ _ _ h => h) (Or.inl ⟨by rfl, ?_⟩) (by assumption) ?_
                  rotate_left
                  · (intro w hSw; (try dsimp only at hSw); (try go_split_ands); go_simp; try with_reducible rfl)
                  try simp only [Act.put, List.setIfInBounds_toArray, List.set_cons_zero, List.set_cons_succ]
                  refine take_in (i := 13) (v := ?_) (some 97) rfl rfl (by kernel_rfl) (by kernel_rfl) (by kernel_rfl) (fun _ _ _ h => h) (Or.inl ⟨by rfl, ?_⟩) (by assumption) ?_
                  rotate_left
                  · (intro w hSw; (try dsimp only at hSw); (try go_split_ands); go_simp; try with_reducible rfl)
                  try simp only [Act.put, List.setIfInBounds_toArray, List.set_cons_zero, List.set_cons_succ]
                  refine take_in (i := 14) (v := ?_) (some 98) rfl rfl (by kernel_rfl) (by kernel_rfl) (by kernel_rfl) (fun _ _ _ h => h) (Or.inl ⟨by rfl, ?_⟩) (by assumption) ?_
                  rotate_left
                  · (intro w hSw; (try dsimp only at hSw); (try go_split_ands); go_simp; try with_reducible rfl)
                  try simp only [Act.put, List.setIfInBounds_toArray, List.set_cons_zero, List.set_cons_succ]
                  refine wpAnyH_ready (rs := [15]) (by kernel_rfl) (by simp) ?_
                  refine (AllReadyH.cons rfl (fun K hK => ?_) AllReadyH.nil)
                  go_simp
                  refine hK.out _ _ (K0.out _ (HzZ.out.alloc HzZ.out.size _)) (fun hHeld => ?_)
                  clear hK K
                  try simp only [Act.put, List.setIfInBounds_toArray, List.set_cons_zero, List.set_cons_succ]
                  obtain ⟨wzZA, hWz⟩ : ∃ W, wzZ.alloc (.cells #[.bool false, .int .u64 0, .string ⟨#[]⟩, .int .u64 0, .int .u64 0, .slice none 0 0, .slice none 0 0] 38) = W := ⟨_, rfl⟩
                  have HzZA := Lib.hid (show Below wr.heap.size wr wzZA by rw [← hWz]; exact HzZ.out.alloc HzZ.out.size _)
                  have YBZA := Lib.hid (show Bx wzZA wzZ.heap.size #[.bool false, .int .u64 0, .string ⟨#[]⟩, .int .u64 0, .int .u64 0, .slice none 0 0, .slice none 0 0] by rw [← hWz]; exact Bx.new wzZ _ _)
                  have YTZA := Lib.hid (show HT wzZA wzZ.heap.size by rw [← hWz]; exact HT.new wzZ _)
                  have OWZA := Lib.hid (show EOwn wr.heap.size wzZA (.agg (Ent.cells ⟨ye, yid, ylab, yfr, ytil, yval, yps⟩ (.slice Au yval.length cu) (.slice Aq rsu.length cq))) ⟨ye, yid, ylab, yfr, ytil, yval, yps⟩ by rw [← hWz]; exact OWZ.out.below ((Below.refl _ _).alloc (Nat.le_refl _) _))
                  have y2 := YBZA.out.c
                  have y3 := YBZA.out.fr
                  try rw [hWz] at hHeld
                  try rw [hWz]
                  clear hWz
                  refine wpAnyH_ready (rs := [16]) (by kernel_rfl) (by simp) ?_
                  refine (AllReadyH.cons rfl (fun K hK => ?_) AllReadyH.nil)
                  go_simp
                  refine hK.out _ _ (K0.out _ (box_below YBZA.out HzZA.out HzZA.out.size (by first | exact Nat.le_refl _ | exact HzZ.out.size) _ _ _ _ _ _ _)) (fun hHeld => ?_)
                  clear hK K
                  try simp only [Act.put, List.setIfInBounds_toArray, List.set_cons_zero, List.set_cons_succ]
                  clear y2 y3
                  refine take_in (i := 17) (v := ?_) (some 20) rfl rfl (by kernel_rfl) (by kernel_rfl) (by kernel_rfl) (fun _ _ _ h => h) (Or.inl ⟨by rfl, ?_⟩) (by assumption) ?_
                  rotate_left
                  · (intro w hSw; (try dsimp only at hSw); (try go_split_ands); go_simp; try with_reducible rfl)
                  try simp only [Act.put, List.setIfInBounds_toArray, List.set_cons_zero, List.set_cons_succ]
                  refine wpAnyH_done (by kernel_rfl) ?_ _
                  obtain ⟨W9, hW9, X9, G9⟩ := box_put YBZA.out YTZA.out OWZA.out
                  simp only at hW9
                  rw [hW9]
                  have HX9 := Lib.hid X9
                  have HG9 := Lib.hid (HzZA.out.grown G9 HzZA.out.size fun q hq => by have e := Option.some.inj hq; first | omega | (rw [← e]; exact HzZ.out.size))
                  clear hW9 X9 G9
                  go_wp2_with fail
                  go_meet
                  exact ⟨_, _, _, rfl, rfl, HX9.out, HG9.out, HQz.out⟩
                · go_simp
                  refine hK.out _ _ (K0.out _ ((show Below wr.heap.size wr wr.drew from (Below.refl _ _).drew).alloc (show Below wr.heap.size wr wr.drew from (Below.refl _ _).drew).size _)) (fun hHeld => ?_)
                  clear hK K
                  try simp only [Act.put, List.setIfInBounds_toArray, List.set_cons_zero, List.set_cons_succ]
                  obtain ⟨wzA, hWz⟩ : ∃ W, (wr.alloc (.cells #[.bool false, .int .u64 0, .string ⟨#[]⟩, .int .u64 0, .int .u64 0, .slice none 0 0, .slice none 0 0] 38)).drew = W := ⟨_, rfl⟩
                  have HzA := Lib.hid (show Below wr.heap.size wr wzA by rw [← hWz]; exact ((Below.refl _ _).alloc (Nat.le_refl _) _).drew)
                  have YBA := Lib.hid (show Bx wzA wr.heap.size #[.bool false, .int .u64 0, .string ⟨#[]⟩, .int .u64 0, .int .u64 0, .slice none 0 0, .slice none 0 0] by rw [← hWz]; exact (Bx.new wr _ _).below (Below.refl _ _).drew)
                  have YTA := Lib.hid (show HT wzA wr.heap.size by rw [← hWz]; exact (HT.new wr _).below (Below.refl _ _).drew)
                  try rw [hWz] at hHeld
                  try rw [hWz]
                  clear hWz
                  refine wpAnyH_ready (rs := [11]) (by kernel_rfl) (by simp) ?_
                  refine (AllReadyH.cons rfl (fun K hK => ?_) AllReadyH.nil)
                  go_simp
                  (with_reducible refine (CA.out _ HzA.out).mono ?_)
                  rintro e wzAZ ⟨u, nnz, y, rfl, ho, hb, hq⟩
                  have HzAZ := Lib.hid (HzA.out.trans (hb.mono HzA.out.size))
                  have HQz := Lib.hid hq
                  obtain ⟨ye, yid, ylab, yfr, ytil, yval, yps⟩ := y
                  have OWAZ := Lib.hid (EOwn.mono ho (HzA.out).size)
                  obtain ⟨su, sq, rsu, rfl, hu1, hu2, hu3⟩ := ho
                  obtain ⟨Au, cu, rfl, _⟩ := hu1.at
                  obtain ⟨Aq, cq, rfl, _⟩ := hu2.form
                  have YBAZ := Lib.hid (YBA.out.below hb)
                  have YTAZ := Lib.hid (YTA.out.below hb)
                  have y2 := YBAZ.out.c
                  have y3 := YBAZ.out.fr
                  clear hb hq hu1 hu2 hu3
                  go_wp2_with fail
                  refine hK.out _ _ (K0.out _ HzAZ.out) (fun hHeld => ?_)
                  clear hK K
                  try simp only [Act.put, List.setIfInBounds_toArray, List.set_cons_zero, List.set_cons_succ]
                  refine take_in (i := 12) (v := ?_) (some 84) rfl rfl (by kernel_rfl) (by kernel_rfl) (by kernel_rfl) (fun _ _ _ h => h) (Or.inl ⟨by rfl, ?_⟩) (by assumption) ?_
                  rotate_left
                  · (intro w hSw; (try dsimp only at hSw); (try go_split_ands); go_simp; try with_reducible rfl)
                  try simp only [Act.put, List.setIfInBounds_toArray, List.set_cons_zero, List.set_cons_succ]
                  refine take_in (i := 13) (v := ?_) (some 97) rfl rfl (by kernel_rfl) (by kernel_rfl) (by kernel_rfl) (fun _ _ _ h => h) (Or.inl ⟨by rfl, ?_⟩) (by assumption) ?_
                  rotate_left
                  · (intro w hSw; (try dsimp only at hSw); (try go_split_ands); go_simp; try with_reducible rfl)
                  try simp only [Act.put, List.setIfInBounds_toArray, List.set_cons_zero, List.set_cons_succ]
                  refine take_in (i := 14) (v := ?_) (some 98) rfl rfl (by kernel_rfl) (by kernel_rfl) (by kernel_rfl) (fun _ _ _ h => h) (Or.inl ⟨by rfl, ?_⟩) (by assumption) ?_
                  rotate_left
                  · (intro w hSw; (try dsimp only at hSw); (try go_split_ands); go_simp; try with_reducible rfl)
                  try simp only [Act.put, List.setIfInBounds_toArray, List.set_cons_zero, List.set_cons_succ]
                  refine wpAnyH_ready (rs := [16]) (by kernel_rfl) (by simp) ?_
                  refine (AllReadyH.cons rfl (fun K hK => ?_) AllReadyH.nil)
                  go_simp
                  refine hK.out _ _ (K0.out _ (box_below YBAZ.out HzAZ.out HzAZ.out.size (by first | exact Nat.le_refl _ | exact HzAZ.out.size) _ _ _ _ _ _ _)) (fun hHeld => ?_)
                  clear hK K
                  try simp only [Act.put, List.setIfInBounds_toArray, List.set_cons_zero, List.set_cons_succ]
                  clear y2 y3
                  refine take_in (i := 17) (v := ?_) (some 20) rfl rfl (by kernel_rfl) (by kernel_rfl) (by kernel_rfl) (fun _ _ _ h => h) (Or.inl ⟨by rfl, ?_⟩) (by assumption) ?_
                  rotate_left
                  · (intro w hSw; (try dsimp only at hSw); (try go_split_ands); go_simp; try with_reducible rfl)
                  try simp only [Act.put, List.setIfInBounds_toArray, List.set_cons_zero, List.set_cons_succ]
                  refine wpAnyH_done (by kernel_rfl) ?_ _
                  obtain ⟨W9, hW9, X9, G9⟩ := box_put YBAZ.out YTAZ.out OWAZ.out
                  simp only at hW9
                  rw [hW9]
                  have HX9 := Lib.hid X9
                  have HG9 := Lib.hid (HzAZ.out.grown G9 HzAZ.out.size fun q hq => by have e := Option.some.inj hq; first | omega | (rw [← e]; exact HzAZ.out.size))
                  clear hW9 X9 G9
                  go_wp2_with fail
                  go_meet
                  exact ⟨_, _, _, rfl, rfl, HX9.out, HG9.out, HQz.out⟩
              case rest =>
                obtain ⟨p19, n9, y, rfl, rfl, hbx, hb, hq⟩ := hcut
                have OKc := Lib.hid (OK.out.below hb)
                have SZc := Lib.hid (show w.heap.size ≤ wr.heap.size from OK.out.bel.size)
                have HQ := Lib.hid hq
                obtain ⟨ye, yid, ylab, yfr, ytil, yval, yps⟩ := y
                obtain ⟨Ay, cy, Py, ny, dy, hyx, hyo, _⟩ := hbx
                have YX := Lib.hid (show Bx wc p19 #[.bool ye, .int .u64 yid, .string ylab, .int .u64 yfr, .int .u64 ytil, .slice Ay yval.length cy, .slice Py ny dy] from hyx)
                have YO := Lib.hid (EOwn.mono hyo SZc.out)
                have HBXc := Lib.hid (HBX.out.below hb)
                have HJc := Lib.hid (HJX.out.below hb)
                clear hb hq hyx hyo K0 CA
                by_cases h3 : n9 = 3
                · subst h3
                  go_wp2_with (go_at_call 12; (with_reducible refine (CW.out _).mono ?_); rintro e w20 ⟨rfl, hb⟩; have BE := Lib.hid (OKc.out.bel.trans (hb.mono OKc.out.bel.size)); clear hb)
                  go_ret
                  exact ⟨rfl, BE.out⟩
                · have HAP := Lib.hid (HQ.out.resolve_left h3).2
                  obtain rfl : n9 = 0 := (HQ.out.resolve_left h3).1
                  have DN := Lib.hid (HDN.out _ HAP.out)
                  have GN := Lib.hid (HAP.out.good OKc.out.good)
                  clear h3 HQ
                  have y0 := YX.out.c
                  have x0 := HBXc.out.c
                  have x1 := HBXc.out.fr
                  go_wp2_with fail
                  obtain ⟨W9, hW9, X9, G9⟩ := box_put (x := ⟨ye, yid, ylab, yfr, ytil, yval, yps⟩) HBXc.out HJc.out YO.out
                  simp only at hW9
                  rw [hW9]
                  exact ⟨⟨k + 1, _, by omega, by go_num, by rw [show 2 + 2 * (k + 1) = 2 + 2 * k + 2 by omega]; exact OKc.out.put X9 G9 (Nat.ne_of_lt L9.out) M9.out DN.out.1 GN.out, DN.out.2⟩, by simp [intOf]; omega⟩
            · obtain rfl : n = k := by omega
              have HALL := Lib.hid (DoneK.all (y := g) (by have h := DK.out; rw [← HLN.out] at h; exact h))
              have HEQ := Lib.hid (EN.out g OK.out.sub OK.out.good.late HALL.out)
              obtain ⟨ge, gid, glab, gfr, gtil, gval, gps⟩ := g
              obtain ⟨Ax, cx, Px, nx, dx, hbx, hox, _⟩ := OK.out.b7
              obtain ⟨Ag, cg, Pg, ng, dg, hbg, hog, _⟩ := OK.out.b9
              have X7 := Lib.hid (show Bx wr p7 #[.bool xe, .int .u64 xid, .string xlab, .int .u64 xfr, .int .u64 xtil, .slice Ax xval.length cx, .slice Px nx dx] from hbx)
              have X9 := Lib.hid (show Bx wr p9 #[.bool ge, .int .u64 gid, .string glab, .int .u64 gfr, .int .u64 gtil, .slice Ag gval.length cg, .slice Pg ng dg] from hbg)
              have WMX := Lib.hid (may_wm GX.out.good.may)
              have LX := Lib.hid (show xval.length ≤ 4000000000000 by have h : xval.length ≤ 62 := GX.out.good.lens.1; omega)
              have LG := Lib.hid (show gval.length ≤ 4000000000000 by have h : gval.length ≤ 2 + 2 * n := OK.out.good.lens.1; have h2 := LL.out; omega)
              have WMG := Lib.hid (may_wm OK.out.good.may)
              have C1 := Lib.hid (fun W (hb : Below wr.heap.size wr W) => (eSame_any (.agg #[.bool xe, .int .u64 xid, .string xlab, .int .u64 xfr, .int .u64 xtil, .slice Ax xval.length cx, .slice Px nx dx]) (.agg #[.bool ge, .int .u64 gid, .string glab, .int .u64 gfr, .int .u64 gtil, .slice Ag gval.length cg, .slice Pg ng dg]) ⟨xe, xid, xlab, xfr, xtil, xval, xps⟩ ⟨ge, gid, glab, gfr, gtil, gval, gps⟩ W (hox.at.below hb) (hog.at.below hb) WMX.out WMG.out LX.out LG.out).mono fun e w' h => h.yes HEQ.out)
              have C2 := Lib.hid (fun W (hb : Below wr.heap.size wr W) => (eSame_any (.agg #[.bool ge, .int .u64 gid, .string glab, .int .u64 gfr, .int .u64 gtil, .slice Ag gval.length cg, .slice Pg ng dg]) (.agg #[.bool xe, .int .u64 xid, .string xlab, .int .u64 xfr, .int .u64 xtil, .slice Ax xval.length cx, .slice Px nx dx]) ⟨ge, gid, glab, gfr, gtil, gval, gps⟩ ⟨xe, xid, xlab, xfr, xtil, xval, xps⟩ W (hog.at.below hb) (hox.at.below hb) WMG.out WMX.out LG.out LX.out).mono fun e w' h => h.yes HEQ.out.symm)
              clear hbx hox hbg hog EN
              have x0 := X7.out.c
              have y0 := X9.out.c
              obtain ⟨v9, hv9⟩ : ∃ v : Value, (.agg #[.bool xe, .int .u64 xid, .string xlab, .int .u64 xfr, .int .u64 xtil, .slice Ax xval.length cx, .slice Px nx dx] : Value) = v := ⟨_, rfl⟩
              clear hv9 v9
              go_wp2_with (first
                | (go_at_call 31; (with_reducible refine (C1.out _ (Below.refl _ _)).mono ?_); rintro e v1 ⟨rfl, hb⟩; have V1 := Lib.hid hb; clear hb x0 y0; have x0 := (X7.out.below V1.out).c; have y0 := (X9.out.below V1.out).c)
                | (go_at_call 31; (with_reducible refine (C2.out _ V1.out).mono ?_); rintro e v2 ⟨rfl, hb⟩; have V2 := Lib.hid (V1.out.trans (hb.mono V1.out.size)); clear hb)
                | fail)
              go_ret
              exact ⟨rfl, OK.out.bel.trans (V2.out.mono OK.out.bel.size)⟩
end
end Go.Proofs.YtflgdhhgnbdofaaGreat

