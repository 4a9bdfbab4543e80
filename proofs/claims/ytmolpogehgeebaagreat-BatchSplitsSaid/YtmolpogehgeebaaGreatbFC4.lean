/- Ends of an entity, where no more than twelve words are sorted. -/
import Derived.Test.YtmolpogehgeebaaGreatbFC0
import Derived.Test.YtmolpogehgeebaaGreatbLZ
namespace Go.Proofs.YtmolpogehgeebaaGreat
open Go.RowKit Go.Lib
/-- Something begins or ends there. -/
def edgeV (V : List (Int × Int)) (t : Int) : Prop := ∃ p ∈ V, t = p.1 ∨ t = p.2
def edgeL (l : List Pie) (t : Int) : Prop := ∃ y ∈ l, t = y.a ∨ t = y.b
def edgeP (ps : List Prp) (t : Int) : Prop := ∃ q ∈ ps, edgeL q.l t
structure EndsE (x : Ent) (E : List Int) : Prop where
  row : E.Pairwise (· < ·)
  mem : ∀ t, t ∈ E ↔ edgeV x.val t ∨ edgeP x.ps t
def evL (V : List (Int × Int)) : List Int := V.flatMap fun p => [p.1, p.2]
theorem evL_next {V : List (Int × Int)} {k : Nat} (h : k < V.length) : evL (V.take (k + 1)) = evL (V.take k) ++ [V[k].1, V[k].2] := by
  unfold evL
  rw [List.take_succ_eq_append_getElem h, List.flatMap_append, List.flatMap_cons, List.flatMap_nil, List.append_nil]
theorem evL_length (V : List (Int × Int)) : (evL V).length = 2 * V.length := by
  induction V with
  | nil => rfl
  | cons p V ih =>
    show (p.1 :: p.2 :: evL V).length = _
    simp only [List.length_cons, ih]
    omega
theorem evL_mem (V : List (Int × Int)) (t : Int) : t ∈ evL V ↔ edgeV V t := by
  unfold evL edgeV
  rw [List.mem_flatMap]
  simp
/-- How long the lines are together. -/
def sumP : List Prp → Nat
  | [] => 0
  | p :: ps => p.l.length + sumP ps
theorem sumP_append (a b : List Prp) : sumP (a ++ b) = sumP a + sumP b := by
  induction a with
  | nil => simp [sumP]
  | cons p a ih => simp only [List.cons_append, sumP, ih]; omega
theorem sumP_take (ps : List Prp) (k : Nat) (h : k < ps.length) : sumP (ps.take (k + 1)) = sumP (ps.take k) + ps[k].l.length := by
  rw [List.take_succ_eq_append_getElem h, sumP_append]
  rfl
theorem sumP_le (ps : List Prp) (k : Nat) : sumP (ps.take k) ≤ sumP ps := by
  have := sumP_append (ps.take k) (ps.drop k)
  rw [List.take_append_drop] at this
  omega
/-- The words that have been gathered. -/
structure Gath (V : List (Int × Int)) (ps : List Prp) (U : List Int) : Prop where
  mem : ∀ t, t ∈ U ↔ edgeV V t ∨ edgeP ps t
  len : U.length ≤ 2 * V.length + 2 * sumP ps
  lo : 2 * V.length ≤ U.length
theorem Gath.start (V : List (Int × Int)) : Gath V [] (evL V) := ⟨fun t => by rw [evL_mem]; exact ⟨.inl, fun h => h.elim id fun ⟨q, hq, _⟩ => by simp at hq⟩, by rw [evL_length]; simp [sumP], by rw [evL_length]; exact Nat.le_refl _⟩
theorem Gath.next {V : List (Int × Int)} {ps : List Prp} {k : Nat} {U E : List Int} (h : Gath V (ps.take k) U) (hk : k < ps.length) (hE : EndsOf ps[k].l E) : Gath V (ps.take (k + 1)) (U ++ E) := by
  refine ⟨fun t => ?_, ?_, by have := h.lo; simp; omega⟩
  · rw [List.mem_append, h.mem, hE.mem, List.take_succ_eq_append_getElem hk]
    constructor
    · rintro ((h | ⟨q, hq, h⟩) | h)
      · exact .inl h
      · exact .inr ⟨q, List.mem_append_left _ hq, h⟩
      · exact .inr ⟨_, List.mem_append_right _ (by simp), h⟩
    · rintro (h | ⟨q, hq, h⟩)
      · exact .inl (.inl h)
      · rcases List.mem_append.1 hq with hq | hq
        · exact .inl (.inr ⟨q, hq, h⟩)
        · rw [List.mem_singleton.1 hq] at h
          exact .inr h
  · have h1 := h.len
    have h2 := hE.len
    rw [List.length_append, sumP_take ps k hk]
    omega
theorem OwnU.form2 {base : Nat} {w : World} {v : Value} {L : List Int} (h : Se.OwnU base w v L) (h0 : 0 < L.length) : ∃ g c, v = .slice (some ⟨g, 0, none⟩) L.length c ∧ L.length ≤ c := by
  rcases h.2 with ⟨_, h1⟩ | ⟨g, cap, cur, rfl, _, _, h1, _⟩
  · omega
  · exact ⟨g, cap, rfl, h1⟩
theorem endsOf_some {l : List Pie} {E : List Int} (h : EndsOf l E) (hl : l ≠ []) : 0 < E.length := by
  cases l with
  | nil => exact absurd rfl hl
  | cons x l => exact List.length_pos_of_mem ((h.mem x.a).2 ⟨x, by simp, .inl rfl⟩)
theorem own_getU {base g c n : Nat} {w : World} {E : List Int} (h : Se.OwnU base w (.slice (some ⟨g, 0, none⟩) n c) E) : ∀ i (hi : i < E.length), w.cell? ⟨g, 0 + i, none⟩ = some (.int .u64 E[i]) := fun i hi => by
  rw [Nat.zero_add, (OwnU.cells h i hi).1]
  unfold atU
  rw [List.getD_eq_getElem?_getD, List.getElem?_eq_getElem hi]; rfl
def EndsAns2 (x : Ent) (w : World) (e : Ending) (w' : World) : Prop := ∃ u E, e = .returned u ∧ Se.OwnU w.heap.size w' u E ∧ EndsE x E ∧ Below w.heap.size w w'
section
set_option maxRecDepth 100000
set_option maxHeartbeats 8000000
theorem eEnds_no (v : Value) (x : Ent) (w : World) (h : EAt w v x) (hx : x.wide) (hm : ¬ x.may) :
    Calls Tryz.prog 27 #[v] w fun e w' => e = .returned (.slice none 0 0) ∧ Below w.heap.size w w' := by
  have CM := Lib.hid (fun W (hb : Below w.heap.size w W) => (eMay_any v x W (h.below hb) hx).mono fun _ _ h => h.no hm)
  obtain ⟨sv, sp, rfl, hv, hp⟩ := h
  obtain ⟨A, c, rfl, _⟩ := hv
  obtain ⟨A', c', rfl, _, _⟩ := hp
  have B0 := Lib.hid ((Below.refl w.heap.size w).alloc (Nat.le_refl _) (.cells (x.cells (.slice A x.val.length c) (.slice A' x.ps.length c')) 38))
  clear hx hm
  go_enter Tryz.func27, Tryz.ntmps27
  go_wp2_with (go_at_call 25; (with_reducible refine (CM.out _ B0.out).mono ?_); rintro e w1 ⟨rfl, hb⟩; have B1 := Lib.hid (B0.out.trans (hb.mono B0.out.size)); clear hb)
  go_ret
  exact ⟨rfl, B1.out⟩
theorem eEnds_any (v : Value) (x : Ent) (w : World) (h : EAt w v x) (hx : x.wide) (hm : x.may) (h0 : 0 < x.val.length) (h12 : 2 * x.val.length + 2 * sumP x.ps ≤ 12) :
    Calls Tryz.prog 27 #[v] w (EndsAns2 x w) := by
  have CM := Lib.hid (fun W (hb : Below w.heap.size w W) => (eMay_any v x W (h.below hb) hx).mono fun _ _ h => h.yes hm)
  obtain ⟨sv, sp, rfl, hv, hp⟩ := h
  obtain ⟨A, c, rfl, hVA⟩ := hv
  obtain ⟨A', c', rfl, hPA, _⟩ := hp
  obtain ⟨xe, xid, xlab, xfr, xtil, val, ps⟩ := x
  have HVA := Lib.hid hVA
  have HPA := Lib.hid hPA
  have HM := Lib.hid hm
  simp only at h0 h12
  have H0 := Lib.hid h0
  have H12 := Lib.hid h12
  have H16 := Lib.hid (show ps.length ≤ 16 from hm.num)
  have HLN := Lib.hid (show ∀ q ∈ ps, Pl.Line okV q.l ∧ q.l ≠ [] from fun q hq => ⟨(hm.ps.line q hq).1, (hm.ps.line q hq).2.1⟩)
  have HLL := Lib.hid (show ∀ q ∈ ps, q.l.length ≤ 100000 from hx.lenP)
  clear hVA hPA hx hm h0 h12
  simp only at CM HVA HPA
  have B0 := Lib.hid ((Below.refl w.heap.size w).alloc (Nat.le_refl _) (.cells #[.bool xe, .int .u64 xid, .string xlab, .int .u64 xfr, .int .u64 xtil, .slice A val.length c, .slice A' ps.length c'] 38))
  have X0 := Lib.hid (Bx.new w #[.bool xe, .int .u64 xid, .string xlab, .int .u64 xfr, .int .u64 xtil, .slice A val.length c, .slice A' ps.length c'] 38)
  have TT0 := Lib.hid (HT.new w #[.bool xe, .int .u64 xid, .string xlab, .int .u64 xfr, .int .u64 xtil, .slice A val.length c, .slice A' ps.length c'])
  go_enter Tryz.func27, Tryz.ntmps27
  go_upto_region 3 with (go_at_call 25; (with_reducible refine (CM.out _ B0.out).mono ?_); rintro e w1 ⟨rfl, hb⟩; have B1 := Lib.hid (B0.out.trans (hb.mono B0.out.size)); have X1 := Lib.hid (X0.out.below hb); clear hb)
  have SZ1 := Lib.hid (show w.heap.size ≤ w1.heap.size from B1.out.size)
  have x0 := X1.out.c
  go_wp2_with fail
  clear x0
  go_loopw [3, 14] (fun u i wr => ∃ k : Nat, k ≤ val.length ∧ i = .int .i64 k ∧ Se.OwnU w1.heap.size wr u (evL (val.take k)) ∧ Below w1.heap.size w1 wr) (fun _ i _ => val.length - (intOf i).toNat)
  case atStart => exact ⟨0, Nat.zero_le _, rfl, Se.OwnU.nil _ _, Below.refl _ _⟩
  case round =>
    obtain ⟨k, hk, rfl, ho, hb⟩ := hrel
    have HO := Lib.hid ho
    have HB := Lib.hid hb
    clear ho hb
    by_cases hlt : k < val.length
    · obtain ⟨g, off, rfl, lg, cg⟩ := (HVA.out.below (B1.out.trans (HB.out.mono B1.out.size))) (by omega)
      obtain ⟨r0, r1⟩ := cg k hlt
      have HN := Lib.hid (evL_next hlt)
      have LN : Hid ((evL (val.take k)).length ≤ 1000) := Lib.hid (by rw [evL_length]; have := H12.out; simp; omega)
      obtain ⟨a, ha⟩ : ∃ q, val[k].1 = q := ⟨_, rfl⟩
      obtain ⟨b, hb⟩ : ∃ q, val[k].2 = q := ⟨_, rfl⟩
      rw [ha] at r0 HN
      rw [hb] at r1 HN
      have i0 : (k : Int) < (val.length : Int) := by omega
      have i1 : (0 : Int) ≤ (k : Int) := by omega
      have i2 : (k : Int) ≤ 1000 := by have := H12.out; omega
      clear ha hb cg
      have HA1 := Lib.hid ((Below.refl wr.heap.size wr).alloc (Nat.le_refl _) (.cells #[.int .u64 a, .int .u64 b] 33))
      have X5 := Lib.hid (Bx.new wr #[.int .u64 a, .int .u64 b] 33)
      go_upto_region 7 with fail
      obtain ⟨W, hW⟩ : ∃ W, wr.alloc (.cells #[.int .u64 a, .int .u64 b] 33) = W := ⟨_, rfl⟩
      rw [hW] at HA1 X5
      try rw [hW]
      clear hW r0 r1
      have x0 := X5.out.c
      have HA2 := Lib.hid (HA1.out.alloc HA1.out.size (.cells #[.int .u64 a, .int .u64 b] 22))
      have NB := Lib.hid (Bx.new W #[.int .u64 a, .int .u64 b] 22)
      have HO2 := Lib.hid (HO.out.below HA2.out)
      have SZ := Lib.hid (Nat.le_trans HB.out.size HA2.out.size)
      go_wp2_with (at_builtin; refine Se.wpList_appU rfl (.tmp 18) (.tmp 23) rfl w1.heap.size _ _ [a, b] rfl HO2.out 2 rfl W.heap.size 0 2 rfl (Nat.le_refl _) (fun i hi => ?_) (by have := LN.out; simp; omega) SZ.out ?_)
      · match i, hi with
        | 0, _ => exact NB.out.c 0
        | 1, _ => exact NB.out.c 1
      · intro v6 w6 ho6 hb6
        have O6 := Lib.hid ho6
        have B6 := Lib.hid ((HB.out.trans (HA2.out.mono HB.out.size)).trans hb6)
        clear ho6 hb6
        go_wp2_with fail
        exact ⟨⟨k + 1, by omega, by go_num, by rw [HN.out]; exact O6.out, B6.out⟩, by simp [intOf]; omega⟩
    · obtain rfl : k = val.length := by omega
      have HO1 := HO.out
      rw [List.take_length] at HO1
      have HO1 := Lib.hid HO1
      obtain ⟨w2, rfl⟩ : ∃ x : World, x = wr := ⟨_, rfl⟩
      have X2 := Lib.hid (X1.out.below HB.out)
      have HBB := Lib.hid HB.out
      clear HO HB
      have x0 := X2.out.c
      go_upto_block 2 with fail
      clear x0
      go_wp2_with fail
      go_loopw [3, 29] (fun u i wr => ∃ (k : Nat) (U : List Int), k ≤ ps.length ∧ i = .int .i64 k ∧ Se.OwnU w1.heap.size wr u U ∧ Gath val (ps.take k) U ∧ Below w1.heap.size w1 wr) (fun _ i _ => ps.length - (intOf i).toNat)
      case atStart => exact ⟨0, _, Nat.zero_le _, rfl, HO1.out, Gath.start val, HBB.out⟩
      case round =>
        obtain ⟨k, U, hk, rfl, ho, hg, hb⟩ := hrel
        have HO := Lib.hid ho
        have HG := Lib.hid hg
        have HB := Lib.hid hb
        clear ho hg hb HO1 HBB X2
        by_cases hlt : k < ps.length
        · obtain ⟨g, off, rfl, lg, cg⟩ := (HPA.out.below (B1.out.trans (HB.out.mono B1.out.size))) (by omega)
          obtain ⟨r0, u, r1, hu⟩ := cg k hlt
          have HU := Lib.hid hu
          have HNX := Lib.hid (fun E (h : EndsOf ps[k].l E) => HG.out.next hlt h)
          have HLk := Lib.hid (HLN.out _ (List.getElem_mem hlt))
          have LLk := Lib.hid (HLL.out _ (List.getElem_mem hlt))
          have LU := Lib.hid (show U.length ≤ 12 by have h1 := HG.out.len; have h2 := sumP_le ps k; have h3 := H12.out; omega)
          obtain ⟨l, hl⟩ : ∃ q, ps[k].l = q := ⟨_, rfl⟩
          obtain ⟨key, hkey⟩ : ∃ q, ps[k].k = q := ⟨_, rfl⟩
          rw [hkey] at r0
          rw [hl] at HU HNX HLk LLk hu
          obtain ⟨Au, cu, rfl, _⟩ := hu
          have i0 : (k : Int) < (ps.length : Int) := by omega
          have i1 : (0 : Int) ≤ (k : Int) := by omega
          have i2 : (k : Int) ≤ 1000 := by have := H16.out; omega
          clear hl hkey cg
          have HA1 := Lib.hid ((Below.refl wr.heap.size wr).alloc (Nat.le_refl _) (.cells #[.string key, .slice Au l.length cu] 62))
          have X7 := Lib.hid (Bx.new wr #[.string key, .slice Au l.length cu] 62)
          go_upto_region 12 with fail
          obtain ⟨W, hW⟩ : ∃ W, wr.alloc (.cells #[.string key, .slice Au l.length cu] 62) = W := ⟨_, rfl⟩
          rw [hW] at HA1 X7
          try rw [hW]
          clear hW r0 r1
          have CE := Lib.hid (Ends_any (.slice Au l.length cu) l W (HU.out.below HA1.out) HLk.out.1 (by have := LLk.out; omega))
          have x0 := X7.out.c
          go_wp2_with (first
            | (go_at_call 102; (with_reducible refine CE.out.mono ?_); rintro e w3 ⟨uE, E, rfl, hoE, hE, hb⟩; have HE := Lib.hid hE; have OE := Lib.hid hoE; obtain ⟨gE, cE, rfl, hcE⟩ := OwnU.form2 hoE (endsOf_some hE HLk.out.2); have HCE := Lib.hid hcE; have HA3 := Lib.hid (HA1.out.trans (hb.mono HA1.out.size)); have HO2 := Lib.hid (HO.out.below HA3.out); have SZ := Lib.hid (Nat.le_trans HB.out.size HA3.out.size); have LE := Lib.hid (show E.length ≤ 200000 by have h1 := HE.out.len; have h2 := LLk.out; omega); clear hE hoE hb hcE x0)
            | (at_builtin; refine Se.wpList_appU rfl (.tmp 33) (.tmp 36) rfl w1.heap.size _ U E rfl HO2.out E.length rfl gE 0 cE rfl HCE.out (own_getU OE.out) (by have h1 := LU.out; have h2 := LE.out; omega) SZ.out ?_)
            | fail)
          intro v6 w6 ho6 hb6
          have O6 := Lib.hid ho6
          have B6 := Lib.hid ((HB.out.trans (HA3.out.mono HB.out.size)).trans hb6)
          have GN := Lib.hid (HNX.out E HE.out)
          clear ho6 hb6
          go_wp2_with fail
          exact ⟨⟨k + 1, _, by omega, by go_num, O6.out, GN.out, B6.out⟩, by simp [intOf]; omega⟩
        · obtain rfl : k = ps.length := by omega
          have GG := HG.out
          rw [List.take_length] at GG
          have GG := Lib.hid GG
          clear HG
          obtain ⟨Au, cu, rfl, _⟩ := OwnU.form HO.out
          have CS := Lib.hid (sort_u w1.heap.size _ U wr HO.out (by have h1 := GG.out.len; have h2 := H12.out; omega) (by have h1 := GG.out.lo; have h2 := H0.out; omega))
          go_upto_region 15 with (go_at_call 103; (with_reducible refine CS.out.mono ?_); rintro e w4 ⟨rfl, cur, ho, hl, hmem, hrow, hgr⟩; have HO4 := Lib.hid ho; have HL4 := Lib.hid hl; have HM4 := Lib.hid hmem; have HR4 := Lib.hid hrow; have HG4 := Lib.hid hgr; clear ho hl hmem hrow hgr)
          have B4 := Lib.hid (HB.out.grown HG4.out HB.out.size fun q hq => (World.ownsRow.lt HO.out q hq).1)
          have CC := Lib.hid (Compact_own w1.heap.size (.slice Au U.length cu) cur w4 HO4.out B4.out.size (by rw [HL4.out]; have h1 := GG.out.len; have h2 := H12.out; omega))
          go_wp2_with (go_at_call 104; (with_reducible refine CC.out.mono ?_); rintro e w5 ⟨u5, rfl, ho, hb⟩; have O5 := Lib.hid ho; have B5 := Lib.hid hb; clear ho hb)
          go_ret
          have hcs := compact_spec cur HR4.out
          exact ⟨_, _, rfl, O5.out.mono SZ1.out, ⟨hcs.2.1, fun t => by rw [hcs.1, HM4.out, GG.out.mem]⟩, B1.out.trans ((B4.out.trans B5.out).mono SZ1.out)⟩
end
end Go.Proofs.YtmolpogehgeebaaGreat


