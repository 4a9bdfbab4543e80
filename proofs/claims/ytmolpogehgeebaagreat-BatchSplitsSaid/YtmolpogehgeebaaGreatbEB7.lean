/- An entity copied into new memory: clone. -/
import Derived.Test.YtmolpogehgeebaaGreatbEB3
namespace Go.Proofs.YtmolpogehgeebaaGreat
open Go.RowKit
section
set_option maxRecDepth 100000
set_option maxHeartbeats 8000000
theorem cloneP_any (v : Value) (l : List (Int × Int)) (w : World) (h : Se.IsP w v l) (hl : l.length ≤ 1000000000) :
    Calls Tryz.prog 156 #[v] w fun e w' => ∃ u, e = .returned u ∧ Se.OwnP w.heap.size w' u l ∧ Below w.heap.size w w' := by
  obtain ⟨A, c, rfl, hA⟩ := h
  have q22 : ∀ (w : World) (a : Option Addr) (n c n' c' : Nat), (binOp .eql 23 (.slice a n c) (.slice none n' c')).run Tryz.prog w = .ok (.bool a.isNone) w := fun w a n c n' c' => Lib.run_eql_slice_nil w _ _ a n c n' c' Tryz.underlying23
  cases A with
  | none =>
    have h0 : l = [] := by
      cases l with
      | nil => rfl
      | cons x l => obtain ⟨b, off, e, _⟩ := hA (by simp); cases e
    subst h0
    clear hA
    go_enter Tryz.func156, Tryz.ntmps156
    go_wp2
    go_ret
    exact ⟨_, rfl, Se.OwnP.nil _ _, Below.refl _ _⟩
  | some adr =>
    have HC : Hid (∀ W, Below w.heap.size w W → ∀ j u, (Se.cellsP l)[j]? = some u → W.cell? (adr.add j) = some u) := Lib.hid fun W hb j u hj => by
      have h0 : 0 < l.length := by
        cases l with
        | nil => simp [Se.cellsP] at hj
        | cons x l => simp
      obtain ⟨b, off, e, hlt, hc⟩ := hA h0
      cases e
      have := Se.PAt.cells hc j u hj
      rw [add_off] at this ⊢
      exact (hb.cell (p := ⟨b, off + j, none⟩) hlt).trans this
    have LL := Lib.hid hl
    clear hA hl
    obtain ⟨i0, hi, hz0, hz1, hz2⟩ := info_parts Se.infoP
    have B0 := Lib.hid ((Below.refl w.heap.size w).alloc (Nat.le_refl _) (.cells #[] 33))
    go_enter Tryz.func156, Tryz.ntmps156
    go_wp2_with (at_builtin; refine wpList_append_own _ rfl (.tmp 5) (.tmp 6) 23 rfl w.heap.size 33 i0 _ 2 16 Tryz.underlying23 hi hz0 hz1 hz2 rfl (by omega) _ _ _ rfl (World.ownsRow_made w #[] 0 (Nat.le_refl _) (Nat.zero_le _) (by simp)) adr l.length c (Se.cellsP l) rfl (Se.cellsP_length l) (HC.out _ B0.out) (Se.cellsP_one l) (by have := LL.out; unfold maxLen; omega) (by have := LL.out; omega) (by simp) ?_; intro v' w1 hown hgrow hnil; have HO := Lib.hid hown; have HG := Lib.hid hgrow; clear hown hgrow hnil)
    go_ret
    refine ⟨v', rfl, by simpa [Se.OwnP] using HO.out, ?_⟩
    exact B0.out.grown HG.out (by simp) fun k hk => by
      have e : w.heap.size = k := Option.some.inj hk
      omega
end
theorem grownBy_set (w : World) (g i : Nat) (v : Value) : w.grownBy (w.setCell ⟨g, i, none⟩ v) (some g) :=
  ⟨rfl, rfl, rfl, by simp [World.setCell], fun k _ hne => block_set w ⟨g, i, none⟩ v k fun e => hne (by rw [e])⟩
theorem Bx.other {w : World} {p g : Nat} {C : Array Value} (h : Bx w p C) (i : Nat) (v : Value) (hne : p ≠ g) : Bx (w.setCell ⟨g, i, none⟩ v) p C :=
  ⟨by simpa [World.setCell] using h.lt, fun j => (World.cell?_setCell_other _ _ _ _ (by intro e; simp only [Addr.mk.injEq] at e; exact hne e.1.symm)).trans (h.c j), fun j => by rw [World.frozen?_setCell]; exact h.fr j⟩
theorem Se.OwnP.apart {base p : Nat} {w : World} {v : Value} {L : List (Int × Int)} (h : Se.OwnP base w v L) (hp : p < base) : v.ownBlock = none ∨ v.ownBlock ≠ some p := by
  rcases h.2 with ⟨rfl, _⟩ | ⟨g, cap, cur, rfl, hg, _⟩
  · exact .inl rfl
  · refine .inr fun e => ?_
    have : g = p := Option.some.inj e
    omega
theorem OwnR.apart {base p : Nat} {w : World} {v : Value} {rs : List (ByteArray × Value)} (h : OwnR base w v rs) (hp : p < base) : v.ownBlock = none ∨ v.ownBlock ≠ some p := by
  rcases h.2 with ⟨rfl, _⟩ | ⟨g, cap, cur, rfl, hg, _⟩
  · exact .inl rfl
  · refine .inr fun e => ?_
    have : g = p := Option.some.inj e
    omega
theorem OwnL.apart {base p : Nat} {w : World} {v : Value} {l : List Pie} (h : OwnL base w v l) (hp : p < base) : v.ownBlock = none ∨ v.ownBlock ≠ some p := by
  rcases h.2 with ⟨rfl, _⟩ | ⟨g, cap, cur, rfl, hg, _⟩
  · exact .inl rfl
  · refine .inr fun e => ?_
    have : g = p := Option.some.inj e
    omega
abbrev zeroE : Array Value := #[.bool false, .int .u64 0, .string ⟨#[]⟩, .int .u64 0, .int .u64 0, .slice none 0 0, .slice none 0 0]
theorem put7 {w : World} {p : Nat} {c0 c1 c2 c3 c4 c5 c6 : Value} (h : Bx w p #[c0, c1, c2, c3, c4, c5, c6]) (x0 x1 x2 x3 x4 x5 x6 : Value) :
    Bx (((((((w.setCell ⟨p, 0, none⟩ x0).setCell ⟨p, 1, none⟩ x1).setCell ⟨p, 2, none⟩ x2).setCell ⟨p, 3, none⟩ x3).setCell ⟨p, 4, none⟩ x4).setCell ⟨p, 5, none⟩ x5).setCell ⟨p, 6, none⟩ x6) p #[x0, x1, x2, x3, x4, x5, x6] ∧
    w.grownBy (((((((w.setCell ⟨p, 0, none⟩ x0).setCell ⟨p, 1, none⟩ x1).setCell ⟨p, 2, none⟩ x2).setCell ⟨p, 3, none⟩ x3).setCell ⟨p, 4, none⟩ x4).setCell ⟨p, 5, none⟩ x5).setCell ⟨p, 6, none⟩ x6) (some p) := by
  have a0 : Bx w p #[c0, c1, c2, c3, c4, c5, c6] := h
  have a1 : Bx (w.setCell ⟨p, 0, none⟩ x0) p #[x0, c1, c2, c3, c4, c5, c6] := a0.set 0 x0 (by simp)
  have a2 : Bx ((w.setCell ⟨p, 0, none⟩ x0).setCell ⟨p, 1, none⟩ x1) p #[x0, x1, c2, c3, c4, c5, c6] := a1.set 1 x1 (by simp)
  have a3 : Bx (((w.setCell ⟨p, 0, none⟩ x0).setCell ⟨p, 1, none⟩ x1).setCell ⟨p, 2, none⟩ x2) p #[x0, x1, x2, c3, c4, c5, c6] := a2.set 2 x2 (by simp)
  have a4 : Bx ((((w.setCell ⟨p, 0, none⟩ x0).setCell ⟨p, 1, none⟩ x1).setCell ⟨p, 2, none⟩ x2).setCell ⟨p, 3, none⟩ x3) p #[x0, x1, x2, x3, c4, c5, c6] := a3.set 3 x3 (by simp)
  have a5 : Bx (((((w.setCell ⟨p, 0, none⟩ x0).setCell ⟨p, 1, none⟩ x1).setCell ⟨p, 2, none⟩ x2).setCell ⟨p, 3, none⟩ x3).setCell ⟨p, 4, none⟩ x4) p #[x0, x1, x2, x3, x4, c5, c6] := a4.set 4 x4 (by simp)
  have a6 : Bx ((((((w.setCell ⟨p, 0, none⟩ x0).setCell ⟨p, 1, none⟩ x1).setCell ⟨p, 2, none⟩ x2).setCell ⟨p, 3, none⟩ x3).setCell ⟨p, 4, none⟩ x4).setCell ⟨p, 5, none⟩ x5) p #[x0, x1, x2, x3, x4, x5, c6] := a5.set 5 x5 (by simp)
  have a7 : Bx (((((((w.setCell ⟨p, 0, none⟩ x0).setCell ⟨p, 1, none⟩ x1).setCell ⟨p, 2, none⟩ x2).setCell ⟨p, 3, none⟩ x3).setCell ⟨p, 4, none⟩ x4).setCell ⟨p, 5, none⟩ x5).setCell ⟨p, 6, none⟩ x6) p #[x0, x1, x2, x3, x4, x5, x6] := a6.set 6 x6 (by simp)
  exact ⟨a7, ((((((grownBy_set w p 0 x0).trans (grownBy_set _ p 1 x1)).trans (grownBy_set _ p 2 x2)).trans (grownBy_set _ p 3 x3)).trans (grownBy_set _ p 4 x4)).trans (grownBy_set _ p 5 x5)).trans (grownBy_set _ p 6 x6)⟩
/-- How far a clone has come: the boxes p1, p2, the new set, the new properties in p3. -/
structure CL (B p1 p2 p3 : Nat) (C : Array Value) (w0 w : World) (uv : Value) (V : List (Int × Int)) (ps : List Prp) (k : Nat) (rs : List (ByteArray × Value)) : Prop where
  b1 : Bx w p1 C
  b2 : Bx w p2 zeroE
  val : Se.OwnP B w uv V
  row : OwnR B w (.slice (some ⟨p3, 0, none⟩) rs.length rs.length) rs
  len : rs.length = ps.length
  part : ∀ i (h : i < rs.length) (g : i < ps.length), i < k → rs[i].1 = ps[i].k ∧ OwnL B w rs[i].2 ps[i].l
  bel : Below w0.heap.size w0 w
  o1 : p1 ≠ p3
  o2 : p2 ≠ p3
  o3 : w0.heap.size ≤ p3
theorem CL.below {B p1 p2 p3 : Nat} {C : Array Value} {w0 w w' : World} {uv : Value} {V : List (Int × Int)} {ps : List Prp} {k : Nat} {rs : List (ByteArray × Value)} (h : CL B p1 p2 p3 C w0 w uv V ps k rs) (hb : Below w.heap.size w w') : CL B p1 p2 p3 C w0 w' uv V ps k rs :=
  ⟨h.b1.below hb, h.b2.below hb, h.val.below hb, h.row.below hb, h.len, fun i hi hg hk => ⟨(h.part i hi hg hk).1, (h.part i hi hg hk).2.below hb⟩, h.bel.trans (hb.mono h.bel.size), h.o1, h.o2, h.o3⟩
theorem CL.put {B p1 p2 p3 : Nat} {C : Array Value} {w0 w : World} {uv u : Value} {V : List (Int × Int)} {ps : List Prp} {k : Nat} {rs : List (ByteArray × Value)} (h : CL B p1 p2 p3 C w0 w uv V ps k rs) (hk : k < ps.length) (hu : OwnL B w u ps[k].l) :
    CL B p1 p2 p3 C w0 ((w.setCell ⟨p3, k * 2, none⟩ (.string ps[k].k)).setCell ⟨p3, k * 2 + 1, none⟩ u) uv V ps (k + 1) (rs.set k (ps[k].k, u)) := by
  have hk' : k < rs.length := by rw [h.len]; exact hk
  obtain ⟨h1, h2⟩ := h.row.both k hk' ps[k].k u
  refine ⟨(h.b1.other _ _ h.o1).other _ _ h.o1, (h.b2.other _ _ h.o2).other _ _ h.o2, World.ownsRow.kept h.val h2 (apart_PR h.val h.row), by rw [List.length_set]; exact h1, by rw [List.length_set]; exact h.len, fun i hi hg hik => ?_, h.bel.grown h2 h.bel.size fun q hq => ?_, h.o1, h.o2, h.o3⟩
  · rw [List.length_set] at hi
    rw [List.getElem_set]
    split
    · next e =>
      subst e
      exact ⟨rfl, World.ownsRow.kept hu h2 (apart_LR hu h.row)⟩
    · next e =>
      have := h.part i hi hg (by omega)
      exact ⟨this.1, World.ownsRow.kept this.2 h2 (apart_LR this.2 h.row)⟩
  · have e : p3 = q := Option.some.inj hq
    have := h.o3
    omega
theorem CL.rows {B p1 p2 p3 : Nat} {C : Array Value} {w0 w : World} {uv : Value} {V : List (Int × Int)} {ps : List Prp} {rs : List (ByteArray × Value)} (h : CL B p1 p2 p3 C w0 w uv V ps ps.length rs) : RowsO B w rs ps :=
  ⟨h.len, fun i hi hg => h.part i hi hg hg⟩
theorem may_strs {x : Ent} (h : x.may) : x.lab.size ≤ 1000 ∧ ∀ p ∈ x.ps, p.k.size ≤ 1000 ∧ ∀ y ∈ p.l, y.v.s.size ≤ 1000 := by
  refine ⟨?_, fun p hp => ⟨?_, fun y hy => may_size ((h.ps.line p hp).1.good y hy).2.2.2.1⟩⟩
  · rcases h.lab with e | e
    · rw [e]; show (0 : Nat) ≤ 1000; omega
    · have := (Co.wordB_size e).1; omega
  · have := (Co.wordB_size (h.ps.key p hp)).1; omega
section
set_option maxRecDepth 100000
set_option maxHeartbeats 8000000
theorem eClone_any (v : Value) (x : Ent) (w : World) (h : EAt w v x) (hm : x.may) (hx : x.wide) :
    Calls Tryz.prog 85 #[v] w fun e w' => ∃ u, e = .returned u ∧ EOwn w.heap.size w' u x ∧ Below w.heap.size w w' := by
  obtain ⟨sv, sp, rfl, hv, hp⟩ := h
  have HS := Lib.hid (may_strs hm)
  have H16 := Lib.hid hm.num
  have HX := Lib.hid hx
  have CV := Lib.hid (fun W (hb : Below w.heap.size w W) => cloneP_any sv x.val W (hv.below hb) (by have := hx.lenV; omega))
  have CLab := Lib.hid (fun W => strsClone_any x.lab W HS.out.1)
  obtain ⟨Av, cv, rfl, _⟩ := hv
  obtain ⟨Ap, cp, rfl, hA, _⟩ := hp
  have HA := Lib.hid hA
  clear hA hm hx
  obtain ⟨edge, id, lab, fr, til, val, ps⟩ := x
  simp only at CV CLab HS H16 HX HA ⊢
  have hmk := fun W => make_props ps.length W (by have := H16.out; omega)
  have B0 := Lib.hid (((Below.refl w.heap.size w).alloc (Nat.le_refl _) (.cells #[.bool edge, .int .u64 id, .string lab, .int .u64 fr, .int .u64 til, .slice Av val.length cv, .slice Ap ps.length cp] 38)).alloc (by simp) (.cells zeroE 38))
  have X0 := Lib.hid ((Bx.new w #[.bool edge, .int .u64 id, .string lab, .int .u64 fr, .int .u64 til, .slice Av val.length cv, .slice Ap ps.length cp] 38).below ((Below.refl _ _).alloc (Nat.le_refl _) (.cells zeroE 38)))
  have Y0 := Lib.hid (Bx.new (w.alloc (.cells #[.bool edge, .int .u64 id, .string lab, .int .u64 fr, .int .u64 til, .slice Av val.length cv, .slice Ap ps.length cp] 38)) zeroE 38)
  rw [show (w.alloc (.cells #[.bool edge, .int .u64 id, .string lab, .int .u64 fr, .int .u64 til, .slice Av val.length cv, .slice Ap ps.length cp] 38)).heap.size = w.heap.size + 1 by simp] at Y0
  go_enter Tryz.func85, Tryz.ntmps85
  go_upto_region 1 with fail
  obtain ⟨W0, hW0⟩ : ∃ W, (w.alloc (.cells #[.bool edge, .int .u64 id, .string lab, .int .u64 fr, .int .u64 til, .slice Av val.length cv, .slice Ap ps.length cp] 38)).alloc (.cells zeroE 38) = W := ⟨_, rfl⟩
  rw [hW0] at B0 X0 Y0
  try rw [hW0]
  clear hW0
  obtain ⟨p1, hp1⟩ : ∃ q, w.heap.size = q := ⟨_, rfl⟩
  obtain ⟨p2, hp2⟩ : ∃ q, w.heap.size + 1 = q := ⟨_, rfl⟩
  rw [hp1] at X0
  rw [hp2] at Y0
  have HP1 := Lib.hid (show w.heap.size ≤ p1 ∧ w.heap.size ≤ p2 ∧ p1 ≠ p2 by omega)
  try rw [hp2]
  try rw [hp1]
  clear hp1 hp2
  have x0 := X0.out.c
  have x1 := X0.out.fr
  go_upto_region 2 with (go_at_call 80; (with_reducible refine (CLab.out _).mono ?_); rintro e w1 ⟨rfl, hb⟩; have X1 := Lib.hid (X0.out.below hb); have Y1 := Lib.hid (Y0.out.below hb); have B1 := Lib.hid (B0.out.trans (hb.mono B0.out.size)); have K1 := Lib.hid hb; have SC := Lib.hid (setCell_self w1 p1 2 (.string lab) (X1.out.c 2)); clear hb x0 x1; have x0 := X1.out.c; have x1 := X1.out.fr)
  rw [SC.out]
  clear SC CLab
  go_upto_region 3 with (go_at_call 156; (with_reducible refine (CV.out _ B1.out).mono ?_); rintro e w2 ⟨u, rfl, ho, hb⟩; obtain ⟨Au, cu, rfl, _⟩ := ho.at; have X2 := Lib.hid (X1.out.below hb); have Y2 := Lib.hid (Y1.out.below hb); have B2 := Lib.hid (B1.out.trans (hb.mono B1.out.size)); have K2 := Lib.hid (K1.out.trans (hb.mono K1.out.size)); have OV := Lib.hid (Se.OwnP.mono ho K1.out.size); clear ho hb x0 x1; have x0 := X2.out.c; have x1 := X2.out.fr)
  have X3 := Lib.hid (show Bx (w2.setCell ⟨p1, 5, none⟩ (.slice Au val.length cu)) p1 #[.bool edge, .int .u64 id, .string lab, .int .u64 fr, .int .u64 til, .slice Au val.length cu, .slice Ap ps.length cp] from X2.out.set 5 (.slice Au val.length cu) (by simp))
  have Y3 := Lib.hid (Y2.out.other (g := p1) 5 (.slice Au val.length cu) HP1.out.2.2.symm)
  have OV3 := Lib.hid (show Se.OwnP W0.heap.size (w2.setCell ⟨p1, 5, none⟩ (.slice Au val.length cu)) (.slice Au val.length cu) val from World.ownsRow.kept OV.out (grownBy_set w2 p1 5 _) (OV.out.apart X0.out.lt))
  have B3 := Lib.hid (B2.out.setCell (p := ⟨p1, 5, none⟩) HP1.out.1 (.slice Au val.length cu))
  obtain ⟨W3, hW3⟩ : ∃ W, w2.setCell ⟨p1, 5, none⟩ (.slice Au val.length cu) = W := ⟨_, rfl⟩
  rw [hW3] at X3 Y3 OV3 B3
  try rw [hW3]
  have Z3 := Lib.hid (show W0.heap.size ≤ W3.heap.size by rw [← hW3]; have := K2.out.size; simpa [World.setCell] using this)
  clear hW3 x0 x1 X2 Y2 B2 OV X1 Y1 B1
  have BM := Lib.hid ((Below.refl W3.heap.size W3).alloc (Nat.le_refl _) (.cells (madeCells #[.string ⟨#[]⟩, .slice none 0 0] (ps.length * 2)) 62))
  have R0 := Lib.hid (OwnR.made W0.heap.size W3 ps.length Z3.out (by have := H16.out; omega))
  have X4 := Lib.hid (X3.out.below BM.out)
  have Y4 := Lib.hid (Y3.out.below BM.out)
  have OV4 := Lib.hid (OV3.out.below BM.out)
  have L1 := Lib.hid (show p1 < W3.heap.size from X3.out.lt)
  have L2 := Lib.hid (show p2 < W3.heap.size from Y3.out.lt)
  have x0 := X3.out.c
  go_upto_region 4 with fail
  clear x0 hmk
  obtain ⟨W4, hW4⟩ : ∃ W, W3.alloc (.cells (madeCells #[.string ⟨#[]⟩, .slice none 0 0] (ps.length * 2)) 62) = W := ⟨_, rfl⟩
  rw [hW4] at BM R0 X4 Y4 OV4
  try rw [hW4]
  clear hW4
  obtain ⟨p3, hp3⟩ : ∃ q, W3.heap.size = q := ⟨_, rfl⟩
  rw [hp3] at R0 L1 L2
  try rw [hp3]
  have HP3 := Lib.hid hp3
  clear hp3
  have x0 := X4.out.c
  go_wp2_with fail
  clear x0
  go_loopw [21] (fun i wr => ∃ (k : Nat) (rs : List (ByteArray × Value)), k ≤ ps.length ∧ i = .int .i64 k ∧ CL W0.heap.size p1 p2 p3 #[.bool edge, .int .u64 id, .string lab, .int .u64 fr, .int .u64 til, .slice Au val.length cu, .slice Ap ps.length cp] W3 wr (.slice Au val.length cu) val ps k rs) (fun i _ => ps.length - (intOf i).toNat)
  case atStart => exact ⟨0, List.replicate ps.length (⟨#[]⟩, .slice none 0 0), Nat.zero_le _, rfl, ⟨X4.out, Y4.out, OV4.out, by rw [List.length_replicate]; exact R0.out, by simp, fun _ _ _ h => absurd h (by omega), BM.out, by have := L1.out; omega, by have := L2.out; omega, by rw [HP3.out]; exact Nat.le_refl _⟩⟩
  case round =>
    obtain ⟨k, rs, hk, rfl, hcl⟩ := hrel
    have CLk := Lib.hid hcl
    clear hcl
    by_cases hlt : k < ps.length
    · have KB := Lib.hid (B3.out.trans (CLk.out.bel.mono B3.out.size))
      obtain ⟨g, off, rfl, lg, cg⟩ := HA.out (by omega)
      obtain ⟨ck, u0, cu0, hu0⟩ := cg k hlt
      have hck := (KB.out.cell (p := ⟨g, off + k * 2, none⟩) lg).trans ck
      have hcu := (KB.out.cell (p := ⟨g, off + k * 2 + 1, none⟩) lg).trans cu0
      have HU := Lib.hid (hu0.below KB.out)
      have i0 : (k : Int) < (ps.length : Int) := by omega
      have i1 : (0 : Int) ≤ (k : Int) := by omega
      obtain ⟨Al, cl, rfl, _, _⟩ := hu0
      have CCk := Lib.hid (fun W => strsClone_any ps[k].k W (HS.out.2 _ (List.getElem_mem hlt)).1)
      have CPk := Lib.hid (fun W (hb : Below wr.heap.size wr W) => copied_any (.slice Al ps[k].l.length cl) ps[k].l W (HU.out.below hb) (by have := HX.out.lenP _ (List.getElem_mem hlt); omega) (HS.out.2 _ (List.getElem_mem hlt)).2)
      have PUT := Lib.hid (fun W u (h : CL W0.heap.size p1 p2 p3 #[.bool edge, .int .u64 id, .string lab, .int .u64 fr, .int .u64 til, .slice Au val.length cu, .slice (some ⟨g, off, none⟩) ps.length cp] W3 W (.slice Au val.length cu) val ps k rs) (hu : OwnL W0.heap.size W u ps[k].l) => h.put hlt hu)
      clear ck cu0 cg
      obtain ⟨key, hkey⟩ : ∃ s, ps[k].k = s := ⟨_, rfl⟩
      obtain ⟨l, hl⟩ : ∃ l, ps[k].l = l := ⟨_, rfl⟩
      rw [hkey] at hck CCk PUT
      rw [hl] at hcu CPk PUT
      clear hkey hl HU
      go_upto_region 7 with fail
      have Q0 := Lib.hid (Bx.new wr #[.string key, .slice Al l.length cl] 62)
      have HB0 := Lib.hid ((Below.refl wr.heap.size wr).alloc (Nat.le_refl _) (.cells #[.string key, .slice Al l.length cl] 62))
      obtain ⟨W5, hW5⟩ : ∃ W, wr.alloc (.cells #[.string key, .slice Al l.length cl] 62) = W := ⟨_, rfl⟩
      rw [hW5] at Q0 HB0
      try rw [hW5]
      clear hW5 hck hcu
      obtain ⟨pq, hpq⟩ : ∃ q, wr.heap.size = q := ⟨_, rfl⟩
      rw [hpq] at Q0
      try rw [hpq]
      have LN := Lib.hid CLk.out.len
      have HPQ : Hid (pq ≠ p3) := Lib.hid (by
        obtain ⟨A2, c2, e2, _, _, hA2⟩ := CLk.out.row.form
        cases e2
        obtain ⟨g2, e3, _, hlt3, _⟩ := hA2 (by rw [LN.out]; omega)
        cases e3
        omega)
      clear hpq
      have K0 : Hid (∀ w', Below W5.heap.size W5 w' → w'.cell? ⟨pq, 0, none⟩ = some (.string key) ∧ w'.cell? ⟨pq, 1, none⟩ = some (.slice Al l.length cl)) := Lib.hid fun w' hb => ⟨(Q0.out.below hb).c 0, (Q0.out.below hb).c 1⟩
      go_region_held3 (fun w' => w'.cell? ⟨pq, 0, none⟩ = some (.string key) ∧ w'.cell? ⟨pq, 1, none⟩ = some (.slice Al l.length cl)) (first
        | exact K0.out _ (Below.refl _ _).drew
        | exact K0.out _ HV2.out
        | exact K0.out _ HV1.out
        | exact ⟨(((Q0.out.below HV2.out).other _ _ HPQ.out).other _ _ HPQ.out).c 0, (((Q0.out.below HV2.out).other _ _ HPQ.out).other _ _ HPQ.out).c 1⟩
        | fail) (first
        | (go_at_call 80; (with_reducible refine (CCk.out _).mono ?_); rintro e v1 ⟨rfl, hb⟩; have HV1 := Lib.hid (show Below W5.heap.size W5 v1 from (Below.refl _ _).drew.trans hb); clear hb)
        | (go_at_call 109; (with_reducible refine (CPk.out _ (HB0.out.trans (HV1.out.mono HB0.out.size))).mono ?_); rintro e v2 ⟨ul, rfl, ho, hb⟩; obtain ⟨Aul, cul, rfl, _, _⟩ := ho.at; have OU := Lib.hid ho; have HV2 := Lib.hid (show Below W5.heap.size W5 v2 from HV1.out.trans (hb.mono HV1.out.size)); have C2 := Lib.hid (CLk.out.below (HB0.out.trans (HV2.out.mono HB0.out.size))); obtain ⟨A2, c2, e2, _, _, hA2⟩ := C2.out.row.form; cases e2; obtain ⟨g2, e3, _, _, f2, hc2⟩ := hA2 (by rw [LN.out]; omega); cases e3; obtain ⟨s0, s1⟩ := hc2 k (by rw [LN.out]; exact hlt); clear ho hb hA2 hc2)
        | fail)
      have PF := PUT.out v2 _ C2.out (OU.out.mono (Nat.le_trans Z3.out (Nat.le_trans CLk.out.bel.size (Nat.le_trans HB0.out.size HV1.out.size))))
      obtain ⟨W6, hW6⟩ : ∃ W, (v2.setCell ⟨p3, k * 2, none⟩ (.string key)).setCell ⟨p3, k * 2 + 1, none⟩ (.slice Aul l.length cul) = W := ⟨_, rfl⟩
      rw [hW6] at PF
      try rw [hW6]
      clear hW6 s0 s1 f2
      have PF := Lib.hid PF
      have h16 := H16.out
      go_wp2_with fail
      exact ⟨⟨k + 1, _, by omega, by go_num, PF.out⟩, by simp [intOf]; omega⟩
    · obtain rfl : k = ps.length := by omega
      have b1 := CLk.out.b1.c
      have b1f := CLk.out.b1.fr
      go_upto_region 10 with fail
      have RW := CLk.out.rows
      have RF := CLk.out.row
      have RL := CLk.out.len
      rw [RL] at RF
      have X7 := Lib.hid (show Bx (wr.setCell ⟨p1, 6, none⟩ (.slice (some ⟨p3, 0, none⟩) ps.length ps.length)) p1 #[.bool edge, .int .u64 id, .string lab, .int .u64 fr, .int .u64 til, .slice Au val.length cu, .slice (some ⟨p3, 0, none⟩) ps.length ps.length] from CLk.out.b1.set 6 _ (by simp))
      have Y7 := Lib.hid (show Bx (wr.setCell ⟨p1, 6, none⟩ (.slice (some ⟨p3, 0, none⟩) ps.length ps.length)) p2 #[.bool false, .int .u64 0, .string ⟨#[]⟩, .int .u64 0, .int .u64 0, .slice none 0 0, .slice none 0 0] from CLk.out.b2.other (g := p1) 6 _ HP1.out.2.2.symm)
      have G7 := grownBy_set wr p1 6 (.slice (some ⟨p3, 0, none⟩) ps.length ps.length)
      have V7 := Lib.hid (show Se.OwnP W0.heap.size (wr.setCell ⟨p1, 6, none⟩ (.slice (some ⟨p3, 0, none⟩) ps.length ps.length)) (.slice Au val.length cu) val from World.ownsRow.kept CLk.out.val G7 (CLk.out.val.apart X0.out.lt))
      have R7 := Lib.hid (show W0.heap.size ≤ wr.heap.size from Nat.le_trans Z3.out CLk.out.bel.size)
      have F7 := Lib.hid (show ∃ rs, OwnR W0.heap.size (wr.setCell ⟨p1, 6, none⟩ (.slice (some ⟨p3, 0, none⟩) ps.length ps.length)) (.slice (some ⟨p3, 0, none⟩) ps.length ps.length) rs ∧ RowsO W0.heap.size (wr.setCell ⟨p1, 6, none⟩ (.slice (some ⟨p3, 0, none⟩) ps.length ps.length)) rs ps from ⟨rs, World.ownsRow.kept RF G7 (RF.apart X0.out.lt), ⟨RW.len, fun i hi hg => ⟨(RW.at' i hi hg).1, World.ownsRow.kept (RW.at' i hi hg).2 G7 ((RW.at' i hi hg).2.apart X0.out.lt)⟩⟩⟩)
      have B7 := Lib.hid ((B3.out.trans (CLk.out.bel.mono B3.out.size)).setCell (p := ⟨p1, 6, none⟩) HP1.out.1 (.slice (some ⟨p3, 0, none⟩) ps.length ps.length))
      obtain ⟨W7, hW7⟩ : ∃ W, wr.setCell ⟨p1, 6, none⟩ (.slice (some ⟨p3, 0, none⟩) ps.length ps.length) = W := ⟨_, rfl⟩
      rw [hW7] at X7 Y7 V7 F7 B7
      try rw [hW7]
      clear hW7 b1 b1f RW RF RL G7 CLk
      have x7 := X7.out.c
      have y7 := Y7.out.c
      have y7f := Y7.out.fr
      go_wp2_with fail
      obtain ⟨X8, G8⟩ := put7 Y7.out (.bool edge) (.int .u64 id) (.string lab) (.int .u64 fr) (.int .u64 til) (.slice Au val.length cu) (.slice (some ⟨p3, 0, none⟩) ps.length ps.length)
      obtain ⟨rs7, O7, P7⟩ := F7.out
      have V8 := World.ownsRow.kept V7.out G8 (V7.out.apart Y0.out.lt)
      have O8 := World.ownsRow.kept O7 G8 (OwnR.apart O7 Y0.out.lt)
      have P8 : RowsO W0.heap.size _ rs7 ps := ⟨P7.len, fun i hi hg => ⟨(P7.at' i hi hg).1, World.ownsRow.kept (P7.at' i hi hg).2 G8 ((P7.at' i hi hg).2.apart Y0.out.lt)⟩⟩
      have B8 := B7.out.grown G8 B7.out.size fun q hq => by
        have e : p2 = q := Option.some.inj hq
        have := HP1.out.2.1
        omega
      generalize hW8 : (((((((W7.setCell ⟨p2, 0, none⟩ (.bool edge)).setCell ⟨p2, 1, none⟩ (.int .u64 id)).setCell ⟨p2, 2, none⟩ (.string lab)).setCell ⟨p2, 3, none⟩ (.int .u64 fr)).setCell ⟨p2, 4, none⟩ (.int .u64 til)).setCell ⟨p2, 5, none⟩ (.slice Au val.length cu)).setCell ⟨p2, 6, none⟩ (.slice (some ⟨p3, 0, none⟩) ps.length ps.length)) = W8 at *
      clear x7 y7 y7f hW8 G8
      have s0 : W8.cell? ⟨p2, 0, none⟩ = some (.bool edge) := X8.c 0
      have s1 : W8.cell? ⟨p2, 1, none⟩ = some (.int .u64 id) := X8.c 1
      have s2 : W8.cell? ⟨p2, 2, none⟩ = some (.string lab) := X8.c 2
      have s3 : W8.cell? ⟨p2, 3, none⟩ = some (.int .u64 fr) := X8.c 3
      have s4 : W8.cell? ⟨p2, 4, none⟩ = some (.int .u64 til) := X8.c 4
      have s5 : W8.cell? ⟨p2, 5, none⟩ = some (.slice Au val.length cu) := X8.c 5
      have s6 : W8.cell? ⟨p2, 6, none⟩ = some (.slice (some ⟨p3, 0, none⟩) ps.length ps.length) := X8.c 6
      refine bodyPost_ret (v := .agg #[.bool edge, .int .u64 id, .string lab, .int .u64 fr, .int .u64 til, .slice Au val.length cu, .slice (some ⟨p3, 0, none⟩) ps.length ps.length]) (by simp [results, Tryz.results85, go_sem, s0, s1, s2, s3, s4, s5, s6]) rfl ?_
      refine ⟨_, rfl, EOwn.mono ⟨_, _, rs7, rfl, V8, O8, P8⟩ ?_, B8⟩
      exact B0.out.size
end
end Go.Proofs.YtmolpogehgeebaaGreat


