/- The effects of an operation on an entity in a box: keep, drop. -/
/- The effects of an operation on an entity in a box: drop. -/
/- The library's Insert, of one property into a slice of the call's own: at the end; where there is room; where there is none. -/
import Derived.Test.YtmolpogehgeebaaGreatbEB7
import Derived.Test.YtmolpogehgeebaaGreatbB9
import Derived.Lib.Overlaps
import Derived.Lib.AppendZerosOnto
import Derived.Laws.CopyRow
namespace Go.Proofs.YtmolpogehgeebaaGreat
open Go.RowKit
/-- The block p is an entity's box: so it is none of the lists' blocks, which are of other types. -/
def HT (w : World) (p : Nat) : Prop := ∃ C fr, w.heap[p]? = some (.cells C 38 fr)
theorem HT.below {w w' : World} {p : Nat} (h : HT w p) (hb : Below w.heap.size w w') : HT w' p := by
  obtain ⟨C, fr, h⟩ := h
  exact ⟨C, fr, (hb.block p (Array.getElem?_eq_some_iff.1 h).1).trans h⟩
theorem HT.set {w : World} {p : Nat} (h : HT w p) (g i : Nat) (v : Value) : HT (w.setCell ⟨g, i, none⟩ v) p := by
  obtain ⟨C, fr, h⟩ := h
  by_cases e : g = p
  · subst e
    exact ⟨C.setIfInBounds i v, fr, by simp [World.setCell, Array.getElem?_modify, h]⟩
  · exact ⟨C, fr, (block_set w ⟨g, i, none⟩ v p (fun x => e x.symm)).trans h⟩
theorem HT.new (w : World) (C : Array Value) : HT (w.alloc (.cells C 38)) w.heap.size := ⟨C, _, heap_alloc_new w _⟩
theorem ownsRow_ne {base n size p : Nat} {w : World} {v : Value} {e : TypeId} {xs : List Value} (h : w.ownsRow base e size v n xs) (ht : HT w p) (he : e ≠ 38) : v.ownBlock = none ∨ v.ownBlock ≠ some p := by
  rcases h.2 with ⟨rfl, _⟩ | ⟨g, cap, cur, rfl, _, hg, _⟩
  · exact .inl rfl
  · refine .inr fun e2 => he ?_
    obtain ⟨C, fr, h2⟩ := ht
    have : g = p := Option.some.inj e2
    subst this
    rw [hg] at h2
    injection h2 with h2
    injection h2
theorem Se.OwnP.free {base p : Nat} {w : World} {v : Value} {L : List (Int × Int)} (h : Se.OwnP base w v L) (ht : HT w p) : v.ownBlock = none ∨ v.ownBlock ≠ some p := ownsRow_ne h ht (by decide)
theorem OwnR.free {base p : Nat} {w : World} {v : Value} {rs : List (ByteArray × Value)} (h : OwnR base w v rs) (ht : HT w p) : v.ownBlock = none ∨ v.ownBlock ≠ some p := ownsRow_ne h ht (by decide)
theorem OwnL.free {base p : Nat} {w : World} {v : Value} {l : List Pie} (h : OwnL base w v l) (ht : HT w p) : v.ownBlock = none ∨ v.ownBlock ≠ some p := ownsRow_ne h ht (by decide)
/-- The box p holds this entity, whose lists are one's own. -/
def Held (base p : Nat) (w : World) (x : Ent) : Prop := ∃ A n c A' n' c' rs, Bx w p (x.cells (.slice A n c) (.slice A' n' c')) ∧ HT w p ∧ Se.OwnP base w (.slice A n c) x.val ∧ OwnR base w (.slice A' n' c') rs ∧ RowsO base w rs x.ps
theorem Held.below {base p : Nat} {w w' : World} {x : Ent} (h : Held base p w x) (hb : Below w.heap.size w w') : Held base p w' x := by
  obtain ⟨A, n, c, A', n', c', rs, h1, h2, h3, h4, h5⟩ := h
  exact ⟨A, n, c, A', n', c', rs, h1.below hb, h2.below hb, h3.below hb, h4.below hb, h5.below hb⟩
/-- An operation as the program has it: its cells over piece's values. -/
abbrev opCells (kind : Int) (edge : Bool) (id : Int) (label : ByteArray) (fr til : Int) (key : ByteArray) (v : VP) (c d : Int) : Array Value := #[.int .i64 kind, .bool edge, .int .u64 id, .string label, .int .u64 fr, .int .u64 til, .string key, .int .i64 v.k, .bool v.b, .int .i64 v.n, .float .f64 v.f, .string v.s, .int .u64 c, .int .u64 d]
section
set_option maxRecDepth 100000
set_option maxHeartbeats 8000000
theorem keep_any (base p : Nat) (x : Ent) (kind : Int) (edge : Bool) (id : Int) (label : ByteArray) (fr til : Int) (key : ByteArray) (v : VP) (c d : Int) (w : World) (h : Held base p w x) (hb0 : base ≤ w.heap.size) (hx : x.wide) (hcd : 0 ≤ c ∧ 0 ≤ d) :
    Calls Tryz.prog 153 #[.pointer (some ⟨p, 0, none⟩), .agg (opCells kind edge id label fr til key v c d)] w fun e w' => ∃ R, e = .returned (.int .i64 0) ∧ Se.Iset.Res Se.kOr x.val [(c, d)] R ∧ Held base p w' { x with val := R } ∧ But p base w w' := by
  obtain ⟨Av, nv, cv, Ap, np, cp, rs, hbx, hpb, hv, hr, hro⟩ := h
  obtain rfl : nv = x.val.length := by
    obtain ⟨A1, c1, e, _⟩ := hv.at
    cases e; rfl
  have HBX := Lib.hid hbx
  have HV := Lib.hid hv
  have HR := Lib.hid hr
  have HRO := Lib.hid hro
  have HX := Lib.hid hx
  have HPB := Lib.hid hpb
  have HB0 := Lib.hid hb0
  have HCD := Lib.hid hcd
  have CU := Lib.hid (fun W va vb (h1 : Se.IsP W va x.val) (h2 : Se.IsP W vb [(c, d)]) => Se.Union_any va vb x.val [(c, d)] W h1 h2 hx.val (fun p h => by rw [List.mem_singleton] at h; subst h; exact hcd) (by have := hx.lenV; omega) (by simp))
  clear hbx hpb hv hr hro hx hb0 hcd
  obtain ⟨xe, xid, xlab, xfr, xtil, val, ps⟩ := x
  obtain ⟨k, b, n, f, s⟩ := v
  simp only at HBX HV HR HRO CU ⊢
  have hsf := store_float
  have B0 := Lib.hid ((Below.refl w.heap.size w).alloc (Nat.le_refl _) (.cells #[.int .i64 kind, .bool edge, .int .u64 id, .string label, .int .u64 fr, .int .u64 til, .string key, .int .i64 k, .bool b, .int .i64 n, .float .f64 f, .string s, .int .u64 c, .int .u64 d] 35))
  have O0 := Lib.hid (Bx.new w #[.int .i64 kind, .bool edge, .int .u64 id, .string label, .int .u64 fr, .int .u64 til, .string key, .int .i64 k, .bool b, .int .i64 n, .float .f64 f, .string s, .int .u64 c, .int .u64 d] 35)
  have X0 := Lib.hid (HBX.out.below B0.out)
  go_enter Tryz.func153, Tryz.ntmps153
  go_upto_region 1 with fail
  obtain ⟨W0, hW0⟩ : ∃ W, w.alloc (.cells #[.int .i64 kind, .bool edge, .int .u64 id, .string label, .int .u64 fr, .int .u64 til, .string key, .int .i64 k, .bool b, .int .i64 n, .float .f64 f, .string s, .int .u64 c, .int .u64 d] 35) = W := ⟨_, rfl⟩
  rw [hW0] at B0 O0 X0
  try rw [hW0]
  clear hW0
  obtain ⟨po, hpo⟩ : ∃ q, w.heap.size = q := ⟨_, rfl⟩
  rw [hpo] at O0
  try rw [hpo]
  clear hpo
  have K0 : Hid (∀ w', Below W0.heap.size W0 w' → w'.cell? ⟨p, 5, none⟩ = some (.slice Av val.length cv) ∧ w'.cell? ⟨po, 12, none⟩ = some (.int .u64 c) ∧ w'.cell? ⟨po, 13, none⟩ = some (.int .u64 d)) := Lib.hid fun w' hb => ⟨(X0.out.below hb).c 5, (O0.out.below hb).c 12, (O0.out.below hb).c 13⟩
  have BA := Lib.hid ((Below.refl W0.heap.size W0).alloc (Nat.le_refl _) (.cells #[.int .u64 c, .int .u64 d] 33)).drew
  have PN := Lib.hid (show Se.IsP (W0.alloc (.cells #[.int .u64 c, .int .u64 d] 33)).drew (.slice (some ⟨W0.heap.size, 0, none⟩) 1 1) [(c, d)] from Se.IsP.below (isP_new W0 [(c, d)] 33 1 1 rfl) (Below.refl _ _).drew)
  have PV := Lib.hid (HV.out.at.below (B0.out.trans (BA.out.mono B0.out.size)))
  have q5 := (K0.out _ (Below.refl _ _)).1
  have q5b := (K0.out (W0.alloc (.cells #[.int .u64 c, .int .u64 d] 33)) ((Below.refl _ _).alloc (Nat.le_refl _) _)).1
  have q12 := (K0.out _ (Below.refl _ _)).2.1
  have q13 := (K0.out _ (Below.refl _ _)).2.2
  go_region_law (go_simp; go_at_call 198; (with_reducible refine (CU.out _ _ _ PV.out PN.out).mono ?_); rintro e w1 ⟨u, R, rfl, hr, ho, hb⟩; obtain ⟨Au, cu, rfl, _⟩ := ho.at; have HRS := Lib.hid hr; have OU := Lib.hid ho; have HU1 := Lib.hid (show Below W0.heap.size W0 w1 from BA.out.trans (hb.mono BA.out.size)); have s5 := (X0.out.below HU1.out).c 5; have f5 := (X0.out.below HU1.out).fr 5; clear hr ho hb)
  all_goals
    have X5 := Lib.hid (show Bx (w1.setCell ⟨p, 5, none⟩ (.slice Au R.length cu)) p #[.bool xe, .int .u64 xid, .string xlab, .int .u64 xfr, .int .u64 xtil, .slice Au R.length cu, .slice Ap np cp] from (X0.out.below HU1.out).set 5 _ (by simp))
    have G := grownBy_set w1 p 5 (.slice Au R.length cu)
    have HW := B0.out.trans (HU1.out.mono B0.out.size)
    have H1 := Lib.hid (HPB.out.below HW)
    have H5 := Lib.hid (H1.out.set p 5 (.slice Au R.length cu))
    have OU2 : Se.OwnP base w1 (.slice Au R.length cu) R := Se.OwnP.mono OU.out (Nat.le_trans HB0.out (Nat.le_trans B0.out.size BA.out.size))
    have V5 := Lib.hid (World.ownsRow.kept OU2 G (OU2.free H1.out))
    have R1 := HR.out.below HW
    have R5 := Lib.hid (World.ownsRow.kept R1 G (OwnR.free R1 H1.out))
    have Q1 := HRO.out.below HW
    have Q5 := Lib.hid (show RowsO base (w1.setCell ⟨p, 5, none⟩ (.slice Au R.length cu)) rs ps from ⟨Q1.len, fun i hi hg => ⟨(Q1.at' i hi hg).1, World.ownsRow.kept (Q1.at' i hi hg).2 G ((Q1.at' i hi hg).2.free H1.out)⟩⟩)
    have BU := Lib.hid ((Below.but (g := p) (HW.mono HB0.out)).trans (But.set (g := p) (B := base) (w := w1) 5 (.slice Au R.length cu)))
    clear G HW OU2 R1 Q1 q5 q5b q12 q13 s5 f5
    obtain ⟨W9, hW9⟩ : ∃ W, w1.setCell ⟨p, 5, none⟩ (.slice Au R.length cu) = W := ⟨_, rfl⟩
    rw [hW9] at X5 V5 R5 Q5 BU H5
    try rw [hW9]
    clear hW9
    go_wp2_with fail
    go_ret
    exact ⟨R, rfl, HRS.out, ⟨Au, R.length, cu, Ap, np, cp, rs, X5.out, H5.out, V5.out, R5.out, Q5.out⟩, BU.out⟩
end
end Go.Proofs.YtmolpogehgeebaaGreat


namespace Go.Proofs.YtmolpogehgeebaaGreat
open Go.RowKit
theorem OwnR.rowsPut {base g c : Nat} {w : World} {rs : List (ByteArray × Value)} {qs : List Prp} {u : Value} {L : List Pie} (h : OwnR base w (.slice (some ⟨g, 0, none⟩) rs.length c) rs) (hq : RowsO base w rs qs) (k : Nat) (hk : k < rs.length) (hu : OwnL base w u L) :
    OwnR base (w.setCell ⟨g, k * 2 + 1, none⟩ u) (.slice (some ⟨g, 0, none⟩) rs.length c) (rs.set k (rs[k].1, u)) ∧ RowsO base (w.setCell ⟨g, k * 2 + 1, none⟩ u) (rs.set k (rs[k].1, u)) (qs.set k ⟨rs[k].1, L⟩) ∧ w.grownBy (w.setCell ⟨g, k * 2 + 1, none⟩ u) (some g) := by
  obtain ⟨h1, h2⟩ := h.line k hk u
  refine ⟨h1, ⟨by rw [List.length_set, List.length_set]; exact hq.len, fun i hi hg => ?_⟩, h2⟩
  rw [List.length_set] at hi hg
  rw [List.getElem_set, List.getElem_set]
  split
  · next e => exact ⟨rfl, World.ownsRow.kept hu h2 (apart_LR hu h)⟩
  · next e => exact ⟨(hq.at' i hi hg).1, World.ownsRow.kept (hq.at' i hi hg).2 h2 (apart_LR (hq.at' i hi hg).2 h)⟩
/-- How far drop has come through the properties. -/
structure DropS (base p : Nat) (R : List (Int × Int)) (ps : List Prp) (w1 : World) (uv : Value) (Ap : Option Addr) (cp : Nat) (C : Array Value) (w0 w : World) (k : Nat) (rs : List (ByteArray × Value)) (qs : List Prp) : Prop where
  bx : Bx w p C
  val : Se.OwnP base w uv R
  row : OwnR base w (.slice Ap rs.length cp) rs
  rows : RowsO base w rs qs
  len : qs.length = ps.length
  done : ∀ i (h : i < ps.length) (g : i < qs.length), i < k → qs[i].k = ps[i].k ∧ Pl.WithinR okV VP.none ps[i].l R qs[i].l
  todo : ∀ i (h : i < ps.length) (g : i < qs.length), k ≤ i → qs[i] = ps[i]
  but : But p base w0 w
  sz : base ≤ w.heap.size
  ht : HT w p
theorem DropS.below {base p : Nat} {R : List (Int × Int)} {ps : List Prp} {w1 : World} {uv : Value} {Ap : Option Addr} {cp : Nat} {C : Array Value} {w0 w w' : World} {k : Nat} {rs : List (ByteArray × Value)} {qs : List Prp} (h : DropS base p R ps w1 uv Ap cp C w0 w k rs qs) (hb : Below w.heap.size w w') : DropS base p R ps w1 uv Ap cp C w0 w' k rs qs :=
  ⟨h.bx.below hb, h.val.below hb, h.row.below hb, h.rows.below hb, h.len, h.done, h.todo, h.but.trans (Below.but (hb.mono h.sz)), Nat.le_trans h.sz hb.size, h.ht.below hb⟩
theorem DropS.next {base p g : Nat} {R : List (Int × Int)} {ps : List Prp} {w1 : World} {uv u : Value} {cp : Nat} {C : Array Value} {w0 w : World} {k : Nat} {rs : List (ByteArray × Value)} {qs : List Prp} {L : List Pie} (h : DropS base p R ps w1 uv (some ⟨g, 0, none⟩) cp C w0 w k rs qs) (hg : base ≤ g) (hk : k < ps.length) (hk' : k < rs.length) (hu : OwnL base w u L) (hw : Pl.WithinR okV VP.none ps[k].l R L) :
    DropS base p R ps w1 uv (some ⟨g, 0, none⟩) cp C w0 (w.setCell ⟨g, k * 2 + 1, none⟩ u) (k + 1) (rs.set k (rs[k].1, u)) (qs.set k ⟨rs[k].1, L⟩) := by
  obtain ⟨h1, h2, h3⟩ := h.row.rowsPut h.rows k hk' hu
  have hkq : k < qs.length := by rw [h.len]; exact hk
  have hne : p ≠ g := fun e => by
    rcases h.row.free h.ht with e2 | e2
    · cases e2
    · exact e2 (by rw [e]; rfl)
  refine ⟨h.bx.other _ _ hne, World.ownsRow.kept h.val h3 (apart_PR h.val h.row), by rw [List.length_set]; exact h1, h2, by rw [List.length_set]; exact h.len, fun i hi hq hik => ?_, fun i hi hq hik => ?_, h.but.trans ⟨rfl, rfl, rfl, by simp [World.setCell], fun j hj _ => block_set w ⟨g, k * 2 + 1, none⟩ u j (by simp; omega)⟩, by simpa [World.setCell] using h.sz, h.ht.set g _ _⟩
  · rw [List.length_set] at hq
    rw [List.getElem_set]
    split
    · next e =>
      subst e
      refine ⟨?_, hw⟩
      rw [(h.rows.at' k hk' hkq).1, h.todo k hk hkq (Nat.le_refl _)]
    · next e => exact h.done i hi hq (by omega)
  · rw [List.length_set] at hq
    rw [List.getElem_set, if_neg (by omega)]
    exact h.todo i hi hq (by omega)
theorem DropS.cut {base p : Nat} {R : List (Int × Int)} {ps : List Prp} {w1 : World} {uv : Value} {Ap : Option Addr} {cp : Nat} {C : Array Value} {w0 w : World} {rs : List (ByteArray × Value)} {qs : List Prp} (h : DropS base p R ps w1 uv Ap cp C w0 w ps.length rs qs) : Cut R ps qs :=
  ⟨h.len, fun i hi hg => h.done i hi hg hi⟩
/-- What drop leaves. -/
def DropAns (base p : Nat) (x : Ent) (c d : Int) (w : World) (e : Ending) (w' : World) : Prop := ∃ R qs, e = .returned (.int .i64 0) ∧ Se.Iset.Res Se.kLess x.val [(c, d)] R ∧ Cut R x.ps qs ∧ Held base p w' { x with val := R, ps := qs } ∧ But p base w w'
section
set_option maxRecDepth 100000
set_option maxHeartbeats 8000000
theorem drop_any (base p : Nat) (x : Ent) (kind : Int) (edge : Bool) (id : Int) (label : ByteArray) (fr til : Int) (key : ByteArray) (v : VP) (c d : Int) (w : World) (h : Held base p w x) (hb0 : base ≤ w.heap.size) (hx : x.wide) (hm : x.may) (hcd : 0 ≤ c ∧ 0 ≤ d) :
    Calls Tryz.prog 154 #[.pointer (some ⟨p, 0, none⟩), .agg (opCells kind edge id label fr til key v c d)] w (DropAns base p x c d w) := by
  have HM := Lib.hid hm
  clear hm
  obtain ⟨Av, nv, cv, Ap, np, cp, rs, hbx, hpb, hv, hr, hro⟩ := h
  obtain rfl : nv = x.val.length := by
    obtain ⟨A1, c1, e, _⟩ := hv.at
    cases e; rfl
  have HBX := Lib.hid hbx
  have HV := Lib.hid hv
  have HR := Lib.hid hr
  have HRO := Lib.hid hro
  have HX := Lib.hid hx
  have HPB := Lib.hid hpb
  have HB0 := Lib.hid hb0
  have HCD := Lib.hid hcd
  have CMi := Lib.hid (fun W va vb (h1 : Se.IsP W va x.val) (h2 : Se.IsP W vb [(c, d)]) => Se.Minus_any va vb x.val [(c, d)] W h1 h2 hx.val (fun p h => by rw [List.mem_singleton] at h; subst h; exact hcd) (by have := hx.lenV; omega) (by simp))
  clear hbx hpb hv hr hro hx hb0 hcd
  obtain ⟨xe, xid, xlab, xfr, xtil, val, ps⟩ := x
  obtain ⟨k, b, n, f, s⟩ := v
  simp only at HBX HV HR HRO CMi ⊢
  have hsf := store_float
  have B0 := Lib.hid ((Below.refl w.heap.size w).alloc (Nat.le_refl _) (.cells #[.int .i64 kind, .bool edge, .int .u64 id, .string label, .int .u64 fr, .int .u64 til, .string key, .int .i64 k, .bool b, .int .i64 n, .float .f64 f, .string s, .int .u64 c, .int .u64 d] 35))
  have O0 := Lib.hid (Bx.new w #[.int .i64 kind, .bool edge, .int .u64 id, .string label, .int .u64 fr, .int .u64 til, .string key, .int .i64 k, .bool b, .int .i64 n, .float .f64 f, .string s, .int .u64 c, .int .u64 d] 35)
  have X0 := Lib.hid (HBX.out.below B0.out)
  go_enter Tryz.func154, Tryz.ntmps154
  go_upto_region 1 with fail
  obtain ⟨W0, hW0⟩ : ∃ W, w.alloc (.cells #[.int .i64 kind, .bool edge, .int .u64 id, .string label, .int .u64 fr, .int .u64 til, .string key, .int .i64 k, .bool b, .int .i64 n, .float .f64 f, .string s, .int .u64 c, .int .u64 d] 35) = W := ⟨_, rfl⟩
  rw [hW0] at B0 O0 X0
  try rw [hW0]
  clear hW0
  obtain ⟨po, hpo⟩ : ∃ q, w.heap.size = q := ⟨_, rfl⟩
  rw [hpo] at O0
  try rw [hpo]
  clear hpo
  have K0 : Hid (∀ w', Below W0.heap.size W0 w' → w'.cell? ⟨p, 5, none⟩ = some (.slice Av val.length cv) ∧ w'.cell? ⟨po, 12, none⟩ = some (.int .u64 c) ∧ w'.cell? ⟨po, 13, none⟩ = some (.int .u64 d)) := Lib.hid fun w' hb => ⟨(X0.out.below hb).c 5, (O0.out.below hb).c 12, (O0.out.below hb).c 13⟩
  have BA := Lib.hid ((Below.refl W0.heap.size W0).alloc (Nat.le_refl _) (.cells #[.int .u64 c, .int .u64 d] 33)).drew
  have PN := Lib.hid (show Se.IsP (W0.alloc (.cells #[.int .u64 c, .int .u64 d] 33)).drew (.slice (some ⟨W0.heap.size, 0, none⟩) 1 1) [(c, d)] from Se.IsP.below (isP_new W0 [(c, d)] 33 1 1 rfl) (Below.refl _ _).drew)
  have PV := Lib.hid (HV.out.at.below (B0.out.trans (BA.out.mono B0.out.size)))
  go_cut [] from 8 to 18 (fun wd => ∃ Au R cu, Se.Iset.Res Se.kLess val [(c, d)] R ∧ Bx wd p #[.bool xe, .int .u64 xid, .string xlab, .int .u64 xfr, .int .u64 xtil, .slice Au R.length cu, .slice Ap np cp] ∧ Se.OwnP base wd (.slice Au R.length cu) R ∧ OwnR base wd (.slice Ap np cp) rs ∧ RowsO base wd rs ps ∧ But p base w wd ∧ base ≤ wd.heap.size ∧ HT wd p)
  case first =>
    have q5 := (K0.out _ (Below.refl _ _)).1
    have q5b := (K0.out (W0.alloc (.cells #[.int .u64 c, .int .u64 d] 33)) ((Below.refl _ _).alloc (Nat.le_refl _) _)).1
    have q12 := (K0.out _ (Below.refl _ _)).2.1
    have q13 := (K0.out _ (Below.refl _ _)).2.2
    go_region_law (go_simp; go_at_call 101; (with_reducible refine (CMi.out _ _ _ PV.out PN.out).mono ?_); rintro e w1 ⟨u, R, rfl, hr, ho, hb⟩; obtain ⟨Au, cu, rfl, _⟩ := ho.at; have HRS := Lib.hid hr; have OU := Lib.hid ho; have HU1 := Lib.hid (show Below W0.heap.size W0 w1 from BA.out.trans (hb.mono BA.out.size)); have s5 := (X0.out.below HU1.out).c 5; have f5 := (X0.out.below HU1.out).fr 5; clear hr ho hb)
    all_goals
      have X5 := Lib.hid (show Bx (w1.setCell ⟨p, 5, none⟩ (.slice Au R.length cu)) p #[.bool xe, .int .u64 xid, .string xlab, .int .u64 xfr, .int .u64 xtil, .slice Au R.length cu, .slice Ap np cp] from (X0.out.below HU1.out).set 5 _ (by simp))
      have G := grownBy_set w1 p 5 (.slice Au R.length cu)
      have HW := B0.out.trans (HU1.out.mono B0.out.size)
      have H1 := Lib.hid (HPB.out.below HW)
      have H5 := Lib.hid (H1.out.set p 5 (.slice Au R.length cu))
      have OU2 : Se.OwnP base w1 (.slice Au R.length cu) R := Se.OwnP.mono OU.out (Nat.le_trans HB0.out (Nat.le_trans B0.out.size BA.out.size))
      have V5 := Lib.hid (World.ownsRow.kept OU2 G (OU2.free H1.out))
      have R1 := HR.out.below HW
      have R5 := Lib.hid (World.ownsRow.kept R1 G (OwnR.free R1 H1.out))
      have Q1 := HRO.out.below HW
      have Q5 := Lib.hid (show RowsO base (w1.setCell ⟨p, 5, none⟩ (.slice Au R.length cu)) rs ps from ⟨Q1.len, fun i hi hg => ⟨(Q1.at' i hi hg).1, World.ownsRow.kept (Q1.at' i hi hg).2 G ((Q1.at' i hi hg).2.free H1.out)⟩⟩)
      have BU := Lib.hid ((Below.but (g := p) (HW.mono HB0.out)).trans (But.set (g := p) (B := base) (w := w1) 5 (.slice Au R.length cu)))
      clear G HW OU2 R1 Q1 q5 q5b q12 q13 s5 f5
      obtain ⟨W9, hW9⟩ : ∃ W, w1.setCell ⟨p, 5, none⟩ (.slice Au R.length cu) = W := ⟨_, rfl⟩
      rw [hW9] at X5 V5 R5 Q5 BU H5
      try rw [hW9]
      clear hW9
      go_wp2_with fail
      go_meet
      exact ⟨Au, R, cu, HRS.out, X5.out, V5.out, R5.out, Q5.out, BU.out, Nat.le_trans HB0.out BU.out.size, H5.out⟩
  case rest =>
    clear PN PV BA K0 O0 X0 HV HR HRO CMi HBX
    obtain ⟨Au, R, cu, hr, hx5, hv, ho, hq, hbu, hsz, hht⟩ := hcut
    have HHT := Lib.hid hht
    clear hht
    have HRS := Lib.hid hr
    have LR := Lib.hid (show R.length ≤ 200000 by have h1 := hr.len; have h2 : val.length ≤ 100000 := HX.out.lenV; simp only [List.length_cons, List.length_nil] at h1; omega)
    obtain ⟨A1, c1, e1, _⟩ := ho.form
    cases e1
    have S0 := Lib.hid (show DropS base p R ps wc (.slice Au R.length cu) Ap cp #[.bool xe, .int .u64 xid, .string xlab, .int .u64 xfr, .int .u64 xtil, .slice Au R.length cu, .slice Ap rs.length cp] w wc 0 rs ps from ⟨hx5, hv, ho, hq, rfl, fun i h g hi => absurd hi (by omega), fun i h g _ => rfl, hbu, hsz, HHT.out⟩)
    have HLN := Lib.hid hq.len
    have x5 := hx5.c
    clear hr hx5 hv ho hq hbu hsz
    go_wp2_with fail
    clear x5
    go_loopw [24] (fun i wr => ∃ (k : Nat) (rs' : List (ByteArray × Value)) (qs : List Prp), k ≤ ps.length ∧ i = .int .i64 k ∧ rs'.length = rs.length ∧ DropS base p R ps wc (.slice Au R.length cu) Ap cp #[.bool xe, .int .u64 xid, .string xlab, .int .u64 xfr, .int .u64 xtil, .slice Au R.length cu, .slice Ap rs.length cp] w wr k rs' qs) (fun i _ => ps.length - (intOf i).toNat)
    case atStart => exact ⟨0, rs, ps, Nat.zero_le _, rfl, rfl, S0.out⟩
    case round =>
      obtain ⟨k, rs', qs, hk, rfl, hrl, hs⟩ := hrel
      have SK := Lib.hid hs
      have RL := Lib.hid hrl
      have h16 : ps.length ≤ 16 := HM.out.num
      clear hs hrl S0
      by_cases hlt : k < ps.length
      · obtain ⟨A1, c1, e1, _, _, hA1⟩ := SK.out.row.form
        cases e1
        obtain ⟨g, rfl, hbg, hlg, hfr, hcs⟩ := hA1 (by rw [RL.out, HLN.out]; omega)
        have hkr : k < rs'.length := by rw [RL.out, HLN.out]; exact hlt
        have hkq : k < qs.length := by rw [SK.out.len]; exact hlt
        have c1 := (hcs k hkr).2
        have f1 := hfr (k * 2 + 1)
        have OL := (SK.out.rows.at' k hkr hkq).2
        rw [SK.out.todo k hlt hkq (Nat.le_refl _)] at OL
        have NX := Lib.hid (fun W u L (h : DropS base p R ps wc (.slice Au R.length cu) (some ⟨g, 0, none⟩) cp #[.bool xe, .int .u64 xid, .string xlab, .int .u64 xfr, .int .u64 xtil, .slice Au R.length cu, .slice (some ⟨g, 0, none⟩) rs.length cp] w W k rs' qs) (hu : OwnL base W u L) (hw : Pl.WithinR okV VP.none ps[k].l R L) => h.next hbg hlt hkr hu hw)
        have HL := Lib.hid ((HM.out.ps.line _ (List.getElem_mem hlt)).1)
        have LL := Lib.hid (HX.out.lenP _ (List.getElem_mem hlt))
        obtain ⟨l, hl⟩ : ∃ l, ps[k].l = l := ⟨_, rfl⟩
        have NX2 := Lib.hid NX.out
        rw [hl] at OL NX2 
        have HL2 : Hid (Pl.Line okV l) := Lib.hid (by rw [← hl]; exact HL.out)
        have LL2 : Hid (l.length ≤ 100000) := Lib.hid (by rw [← hl]; exact LL.out)
        obtain ⟨Al, cl, el, _, _⟩ := OL.at
        rw [el] at c1 OL
        have OLH := Lib.hid OL
        have i0 : (k : Int) < (rs.length : Int) := by rw [HLN.out]; omega
        have i1 : (0 : Int) ≤ (k : Int) := by omega
        clear el hl NX HL LL OL hA1 hfr hcs
        have CWn := Lib.hid (fun W (hb : Below wr.heap.size wr W) => Within_ok (.slice Al l.length cl) (.slice Au R.length cu) l R W (OLH.out.at.below hb) (SK.out.val.at.below hb) (line_w HL2.out) HL2.out LL2.out (by have := LR.out; omega))
        have C1 := Lib.hid c1
        have F1 := Lib.hid f1
        have K0 : Hid (∀ w', Below wr.heap.size wr w' → w'.cell? ⟨p, 6, none⟩ = some (.slice (some ⟨g, 0, none⟩) rs.length cp) ∧ w'.cell? ⟨p, 5, none⟩ = some (.slice Au R.length cu) ∧ w'.cell? ⟨g, k * 2 + 1, none⟩ = some (.slice Al l.length cl)) := Lib.hid fun w' hb => ⟨(SK.out.bx.below hb).c 6, (SK.out.bx.below hb).c 5, (hb.cell (p := ⟨g, k * 2 + 1, none⟩) hlg).trans C1.out⟩
        clear c1 f1
        go_upto_region 5 with fail
        go_region_held3 (fun w' => w'.cell? ⟨p, 6, none⟩ = some (.slice (some ⟨g, 0, none⟩) rs.length cp) ∧ w'.cell? ⟨p, 5, none⟩ = some (.slice Au R.length cu) ∧ w'.cell? ⟨g, k * 2 + 1, none⟩ = some (.slice Al l.length cl)) (first
          | exact K0.out _ (Below.refl _ _).drew
          | exact K0.out _ HV1.out
          | fail) (first
          | (go_at_call 199; (with_reducible refine (CWn.out _ (Below.refl _ _).drew).mono ?_); rintro e v1 ⟨ul, L, rfl, ho, hw, hb⟩; obtain ⟨A2, c2, rfl, _, _⟩ := ho.at; have OU := Lib.hid ho; have HWN := Lib.hid hw; have HV1 := Lib.hid (show Below wr.heap.size wr v1 from (Below.refl _ _).drew.trans hb); clear ho hw hb)
          | fail)
        have s6 := (K0.out _ HV1.out).1
        have s1 := (K0.out _ HV1.out).2.2
        have q1 := (HV1.out.frozen (p := ⟨g, k * 2 + 1, none⟩) hlg).trans F1.out
        have SN := Lib.hid (NX2.out v1 _ L (SK.out.below HV1.out) (OU.out.mono SK.out.sz) HWN.out)
        go_wp2_with fail
        exact ⟨⟨k + 1, _, _, by omega, by go_num, by rw [List.length_set]; exact RL.out, SN.out⟩, by simp [intOf]; omega⟩
      · obtain rfl : k = ps.length := by omega
        have i2 : ¬ ((ps.length : Int) < (rs.length : Int)) := by rw [HLN.out]; omega
        have HCut := Lib.hid SK.out.cut
        go_wp2_with fail
        go_ret
        have hrow := SK.out.row
        rw [RL.out] at hrow
        exact ⟨R, qs, rfl, HRS.out, HCut.out, ⟨Au, R.length, cu, Ap, rs.length, cp, rs', SK.out.bx, SK.out.ht, SK.out.val, hrow, SK.out.rows⟩, SK.out.but⟩
end
end Go.Proofs.YtmolpogehgeebaaGreat


namespace Go.Proofs.YtmolpogehgeebaaGreat
open Go.RowKit
theorem grownBy_low {w w' : World} (h : Below w.heap.size w w') (r : Option Nat) : w.grownBy w' r := ⟨h.os, h.tape, h.output, h.size, fun k hk _ => h.block k hk⟩
abbrev rowC (x : ByteArray × Value) : Array Value := #[.string x.1, x.2]
theorem rowC_len (x : ByteArray × Value) : (rowC x).toList.length = 2 := rfl
theorem cellsR_append (a b : List (ByteArray × Value)) : cellsR (a ++ b) = cellsR a ++ cellsR b := by simp [cellsR]
theorem cellsR_one (x : ByteArray × Value) : cellsR [x] = (rowC x).toList := by simp [cellsR]
theorem oneC (x : ByteArray × Value) (h : x.2.oneCell' = true) : (rowC x).all (·.oneCell') = true := Array.all_eq_true_iff_forall_mem.2 fun v hv => by
  simp only [List.mem_toArray, List.mem_cons, List.not_mem_nil, or_false] at hv
  rcases hv with rfl | rfl
  · rfl
  · exact h
theorem oneR {l : List (ByteArray × Value)} (h : ∀ r ∈ l, r.2.oneCell' = true) : ∀ v ∈ cellsR l, v.oneCell' = true := fun v hv => by
  obtain ⟨x, hx, hv⟩ := List.mem_flatMap.1 hv
  simp only [List.mem_cons, List.not_mem_nil, or_false] at hv
  rcases hv with rfl | rfl
  · rfl
  · exact h x hx
/-- copy of pieces onto a row whose cells are known. -/
theorem run_copyR (w : World) (ty : TypeId) (g o dLen dCap : Nat) (a : Addr) (sLen sCap : Nat) (cur : Array Value) (t : TypeId) (cs : List Value) (n : Nat) (hg : w.heap[g]? = some (.cells cur t (0, 0))) (hn : Nat.min sLen dLen = n)
    (hcs : cs.length = n * 2) (hsrc : ∀ j v, cs[j]? = some v → w.cell? (a.add j) = some v) (hfit : o + cs.length ≤ cur.size) (h1 : ∀ v ∈ cs, v.oneCell' = true) :
    (Builtin.copy_ #[36, 36] ty #[.slice (some ⟨g, o, none⟩) dLen dCap, .slice (some a) sLen sCap]).run Tryz.prog w = .ok (goInt n) (w.setRow g (cur.toList.take o ++ cs ++ cur.toList.drop (o + cs.length)).toArray) := by
  obtain ⟨i0, hi, hz0, hz1, hz2⟩ := info_parts infoE
  have hl := run_firstCells_some (P := Tryz.prog) (w := w) 2 n a sLen sCap cs hcs hsrc
  have hst := run_storeCells_at Tryz.prog g o t cs 0 cur w hg (by simpa using hfit) h1
  simp [Builtin.copy_, run_underlying Tryz.underlying36, Builtin.lenOf, sizeOf, typeInfo, hi, hz1, hn, hl, hst]
section
variable {ops : Array Oper} {o : Oper} {a : Act} {K : Act → World → Prop} {Q : Exit → Act → World → Prop} {E : Prop} {w : World}
theorem step_copyR (hw : Region.wanted o (yielded ops a.tmps) = true) (d s : Operand) (ho : o.op = .call { callee := .builtin .copy, args := #[d, s], argTypes := #[36, 36] })
    (v u : Value) (hd : a.eval d = v) (hs : a.eval s = u) {v' : Value} {w' : World} (hr : (Builtin.copy_ #[36, 36] o.type #[v, u]).run Tryz.prog w = .ok v' w') (hK : K (a.put o.dst v') w') :
    if Region.wanted o (yielded ops a.tmps) = true then Oper.wp Tryz.prog o a w K Q else E := by
  rw [if_pos hw]
  unfold Oper.wp execOp
  simp only [ho, resolve, invoke, builtin, Sem.run_bind, Sem.run_pure, Result.andThen_ok, List.map_toArray, List.map_cons, List.map_nil, hd, hs, hr]
  exact hK
theorem wpList_copyR {rest : List Oper} (hg : o.guard = none) (d s : Operand) (ho : o.op = .call { callee := .builtin .copy, args := #[d, s], argTypes := #[36, 36] })
    (v u : Value) (hd : a.eval d = v) (hs : a.eval s = u) {v' : Value} {w' : World} (hr : (Builtin.copy_ #[36, 36] o.type #[v, u]).run Tryz.prog w = .ok v' w')
    (hK : wpList Tryz.prog ops Q rest (a.put o.dst v') w') : wpList Tryz.prog ops Q (o :: rest) a w := by
  refine wpList_plain hg fun K' hK' => ?_
  unfold Oper.wp execOp
  simp only [ho, resolve, invoke, builtin, Sem.run_bind, Sem.run_pure, Result.andThen_ok, List.map_toArray, List.map_cons, List.map_nil, hd, hs, hr]
  exact hK' _ _ hK
end
theorem cellsR_take (l : List (ByteArray × Value)) (i : Nat) : (cellsR l).take (i * 2) = cellsR (l.take i) := by
  rcases Nat.lt_or_ge l.length i with h | h
  · rw [List.take_of_length_le (by rw [cellsR_length]; omega), List.take_of_length_le (by omega)]
  · conv => lhs; rw [← List.take_append_drop i l, cellsR_append]
    rw [List.take_append_of_le_length (by rw [cellsR_length, List.length_take]; omega), List.take_of_length_le (by rw [cellsR_length, List.length_take]; omega)]
theorem cellsR_drop (l : List (ByteArray × Value)) (i : Nat) : (cellsR l).drop (i * 2) = cellsR (l.drop i) := by
  rcases Nat.lt_or_ge l.length i with h | h
  · rw [List.drop_eq_nil_of_le (by rw [cellsR_length]; omega), List.drop_eq_nil_of_le (by omega)]; rfl
  · conv => lhs; rw [← List.take_append_drop i l, cellsR_append]
    rw [List.drop_append_of_le_length (by rw [cellsR_length, List.length_take]; omega), List.drop_eq_nil_of_le (by rw [cellsR_length, List.length_take]; omega), List.nil_append]
/-- The row behind the two copies. -/
theorem row_putR (C : List Value) (A X D R : List Value) (h : C = A ++ X ++ R) (k : Nat) (hA : A.length = k) (hX : X.length = D.length) (x : List Value) (hx : x.length = 2) (hR : 2 ≤ R.length) :
    let C1 := C.take (k + 2) ++ D ++ C.drop (k + 2 + D.length)
    (C1.take k ++ x ++ C1.drop (k + 2)).take (k + 2 + D.length) = A ++ x ++ D := by
  intro C1
  have e1 : C1.take k = A := by
    have : C1 = A ++ ((X ++ R).take 2 ++ D ++ C.drop (k + 2 + D.length)) := by
      show C.take (k + 2) ++ D ++ _ = _
      rw [h, List.append_assoc A X R, show k + 2 = A.length + 2 by omega, List.take_length_add_append]
      simp
    rw [this, List.take_append_of_le_length (by omega), List.take_of_length_le (by omega)]
  have e2 : C1.drop (k + 2) = D ++ C.drop (k + 2 + D.length) := by
    show (C.take (k + 2) ++ D ++ _).drop (k + 2) = _
    have hl : (C.take (k + 2)).length = k + 2 := by
      rw [List.length_take, h]; simp; omega
    rw [List.append_assoc, List.drop_append_of_le_length (by omega), List.drop_eq_nil_of_le (by omega), List.nil_append]
  rw [e1, e2, ← List.append_assoc, List.take_append_of_le_length (by simp; omega), List.take_of_length_le (by simp; omega)]
theorem overlaps_noR (w : World) (gv vc gs off lb cb : Nat) (x : ByteArray × Value) (cur : Array Value) (hv : w.heap[gv]? = some (.cells (rowC x) 62 (0, 0))) (hs : w.heap[gs]? = some (.cells cur 62 (0, 0))) (hne : gv ≠ gs) (h0 : cur.size ≠ 0) :
    (callFunc 248 #[.slice (some ⟨gv, 0, none⟩) 1 vc, .slice (some ⟨gs, off, none⟩) lb cb]).run Tryz.prog w = .ok (.value (.bool false)) w := by
  have hsa : w.shape? gv = some (62, 2) := by unfold World.shape?; rw [hv]; rfl
  have hsb : w.shape? gs = some (62, cur.size) := by unfold World.shape?; rw [hs]
  have hf : ∀ o, w.frozen? ⟨gv, o, none⟩ = false := fun o => by simp [World.frozen?, hv]
  rw [run_callFunc_extern Tryz.func248 (by kernel_rfl) (by kernel_rfl) (by kernel_rfl) (e := Extern.SlicesOverlaps.overlaps #[36, 36] #[4]) (by kernel_rfl),
    Lib.run_overlaps_apart w 36 4 62 Tryz.underlying36 2 (fun w => Tryz.sizeOf62 w) ⟨gv, 0, none⟩ ⟨gs, off, none⟩ 1 vc lb cb hne _ _ 2 cur.size hsa hsb h0 (hf _) (hf _)]
  rfl
section
set_option maxRecDepth 100000
set_option maxHeartbeats 8000000
/-- There is room. -/
theorem Insert_roomR (base : Nat) (g c gv vc i : Nat) (l : List (ByteArray × Value)) (x : ByteArray × Value) (w : World) (h : OwnR base w (.slice (some ⟨g, 0, none⟩) l.length c) l) (hone : ∀ r ∈ l, r.2.oneCell' = true) (hx1 : x.2.oneCell' = true) (hi : i < l.length) (hc : l.length + 1 ≤ c) (hc2 : c ≤ 9223372036854775807)
    (hv : w.heap[gv]? = some (.cells (rowC x) 62 (0, 0))) (hne : gv ≠ g) :
    Calls Tryz.prog 200 #[.slice (some ⟨g, 0, none⟩) l.length c, .int .i64 i, .slice (some ⟨gv, 0, none⟩) 1 vc] w fun e w' => ∃ u, e = .returned u ∧ OwnR base w' u (l.take i ++ x :: l.drop i) ∧ w.grownBy w' (some g) := by
  rcases h.2 with ⟨h0, _⟩ | ⟨g', cap, cur, h0, hb, hg, hn, hm, hs, ht⟩
  · cases h0
  injection h0 with e1 e2 e3
  injection e1 with e1
  injection e1 with e4
  subst e3 e4
  have hcells : ∀ j v, (cellsR l)[j]? = some v → w.cell? ⟨g, j, none⟩ = some v := fun j v hj => by
    rw [cell_of_row w g j cur _ _ hg, ← Array.getElem?_toList]
    rw [← ht, List.getElem?_take] at hj
    split at hj
    · exact hj
    · cases hj
  have hD : (cellsR (l.drop i)).length = (l.length - i) * 2 := by rw [cellsR_length, List.length_drop]
  obtain ⟨cur1, hcur1⟩ : ∃ cur1, (cur.toList.take ((i + 1) * 2) ++ cellsR (l.drop i) ++ cur.toList.drop ((i + 1) * 2 + (cellsR (l.drop i)).length)).toArray = cur1 := ⟨_, rfl⟩
  have hsz1 : cur1.size = c * 2 := by rw [← hcur1]; simp; omega
  obtain ⟨cur2, hcur2⟩ : ∃ cur2, (cur1.toList.take (i * 2) ++ (rowC x).toList ++ cur1.toList.drop (i * 2 + (rowC x).toList.length)).toArray = cur2 := ⟨_, rfl⟩
  have hcp1 : ∀ ty dc sc, (Builtin.copy_ #[36, 36] ty #[.slice (some ⟨g, (i + 1) * 2, none⟩) (l.length - i) dc, .slice (some ⟨g, i * 2, none⟩) (l.length + 1 - i) sc]).run Tryz.prog w.drew = .ok (goInt ((l.length - i : Nat) : Int)) (w.drew.setRow g cur1) := fun ty dc sc => by
    rw [← hcur1]
    exact run_copyR w.drew ty g ((i + 1) * 2) (l.length - i) dc ⟨g, i * 2, none⟩ (l.length + 1 - i) sc cur _ (cellsR (l.drop i)) (l.length - i) hg (by simp only [Nat.min_def]; split <;> omega) hD
      (fun j v hj => by
        rw [add_off]
        show w.cell? _ = _
        exact hcells (i * 2 + j) v (by rw [← cellsR_drop, List.getElem?_drop] at hj; exact hj)) (by omega) (oneR fun r hr => hone r (List.mem_of_mem_drop hr))
  have hcp2 : ∀ ty dc, (Builtin.copy_ #[36, 36] ty #[.slice (some ⟨g, i * 2, none⟩) (l.length + 1 - i) dc, .slice (some ⟨gv, 0, none⟩) 1 vc]).run Tryz.prog (w.drew.setRow g cur1) = .ok (goInt 1) ((w.drew.setRow g cur1).setRow g cur2) := fun ty dc => by
    rw [← hcur2]
    exact run_copyR (w.drew.setRow g cur1) ty g (i * 2) (l.length + 1 - i) dc ⟨gv, 0, none⟩ 1 vc cur1 62 (rowC x).toList 1 (setRow_heap _ _ cur _ _ _ hg) (by simp only [Nat.min_def]; split <;> omega) rfl
      (fun j v hj => by
        rw [add_off, Nat.zero_add]
        have : (w.drew.setRow g cur1).heap[gv]? = some (.cells (rowC x) 62 (0, 0)) := (setRow_other _ _ _ _ (by omega)).trans hv
        rw [cell_of_row _ gv j _ _ _ this, ← Array.getElem?_toList]; exact hj) (by rw [hsz1, rowC_len]; omega) (fun v hv => Array.all_eq_true_iff_forall_mem.1 (oneC x hx1) v (by simpa using hv))
  have hfin : OwnR base ((w.drew.setRow g cur1).setRow g cur2) (.slice (some ⟨g, 0, none⟩) (l.length + 1) c) (l.take i ++ x :: l.drop i) := by
    have hlen : (l.take i ++ x :: l.drop i).length = l.length + 1 := by simp; omega
    have hsz2 : cur2.size = c * 2 := by rw [← hcur2]; simp; omega
    have htk : cur2.toList.take ((l.length + 1) * 2) = cellsR (l.take i ++ x :: l.drop i) := by
      have hrow := row_putR cur.toList (cellsR (l.take i)) (cellsR (l.drop i)) (cellsR (l.drop i)) (cur.toList.drop (l.length * 2)) (by
        rw [← cellsR_append, List.take_append_drop, ← ht, List.take_append_drop]) (i * 2) (by rw [cellsR_length, List.length_take]; omega) rfl (rowC x).toList rfl (by simp; omega)
      rw [← hcur2, ← hcur1]
      rw [show (i + 1) * 2 = i * 2 + 2 by omega, show (l.length + 1) * 2 = i * 2 + 2 + (cellsR (l.drop i)).length by omega]
      have e : cellsR (l.take i ++ x :: l.drop i) = cellsR (l.take i) ++ (rowC x).toList ++ cellsR (l.drop i) := by
        rw [cellsR_append, show x :: l.drop i = [x] ++ l.drop i from rfl, cellsR_append, cellsR_one, List.append_assoc]
      rw [e]
      exact hrow
    exact ⟨by rw [cellsR_length, hlen], .inr ⟨g, c, cur2, by rw [hlen], hb, setRow_heap _ _ cur1 _ _ _ (setRow_heap _ _ cur _ _ _ hg), by omega, hm, hsz2, by rw [hlen]; exact htk⟩⟩
  have hbel : w.grownBy ((w.drew.setRow g cur1).setRow g cur2) (some g) := ⟨rfl, rfl, rfl, by simp, fun k _ hne => (setRow_other _ _ _ _ (fun e => hne (by rw [e]))).trans (setRow_other _ _ _ _ (fun e => hne (by rw [e])))⟩
  have hov : ∀ lb cb, (callFunc 248 #[.slice (some ⟨gv, 0, none⟩) 1 vc, .slice (some ⟨g, (i + 1) * 2, none⟩) lb cb]).run Tryz.prog w = .ok (.value (.bool false)) w := fun lb cb => overlaps_noR w gv vc g _ lb cb x cur hv hg hne (by omega)
  have HF := Lib.hid hfin
  have HB := Lib.hid hbel
  have C1 := Lib.hid hcp1
  have C2 := Lib.hid hcp2
  clear hfin hbel hcp1 hcp2 hcells hD hcur1 hcur2 hsz1 ht hs hg hv h hm
  have b1 : ¬ (c = i + 1) := by omega
  have b2 : ¬ (c = i) := by omega
  have b3 : ¬ ((i : Int) = (l.length : Int)) := by omega
  have b4 : ¬ ((c : Int) < (l.length : Int) + 1) := by omega
  have b5 : (i : Int) ≤ (l.length : Int) := by omega
  have b6 : (0 : Int) ≤ (i : Int) := by omega
  have b7 : (l.length : Int) + 1 ≤ (c : Int) := by omega
  have b8 : (i : Int) + 1 ≤ (l.length : Int) + 1 := by omega
  have b9 : (i : Int) ≤ (l.length : Int) + 1 := by omega
  have w1 : IntKind.i64.wrap ((i : Int) + 1) = (i : Int) + 1 := by rw [IntKind.wrap_i64]; omega
  have w2 : (0 : Int) ≤ (i : Int) + 1 := by omega
  have w3 : ((i : Int) + 1).toNat = i + 1 := by omega
  go_enter Tryz.func200, Tryz.ntmps200
  go_wp2_with (simp only [hov])
  go_region_law (refine step_copyR rfl (.tmp 73) (.tmp 76) rfl (.slice (some ⟨g, (i + 1) * 2, none⟩) (l.length - i) (c - (i + 1))) (.slice (some ⟨g, i * 2, none⟩) (l.length + 1 - i) (c - i)) (by simp [Act.eval, Act.put]) (by simp [Act.eval, Act.put]) (C1.out 3 (c - (i + 1)) (c - i)) ?_)
  go_wp2_with (refine wpList_copyR rfl (.tmp 80) (.tmp 81) rfl (.slice (some ⟨g, i * 2, none⟩) (l.length + 1 - i) (c - i)) (.slice (some ⟨gv, 0, none⟩) 1 vc) rfl rfl (C2.out 3 (c - i)) ?_)
  go_ret
  exact ⟨_, rfl, HF.out, HB.out⟩
theorem wpList_appRz {ops : Array Oper} {o : Oper} {a : Act} {Q : Exit → Act → World → Prop} {w : World} {rest : List Oper} (hg : o.guard = none) (d s : Operand) (ho : o.op = .call { callee := .builtin .append, args := #[d, s], argTypes := #[36, 3] })
    (v u : Value) (hd : a.eval d = v) (hs : a.eval s = u) {v' : Value} {w' : World} (hr : (Builtin.append_ #[36, 3] o.type #[v, u]).run Tryz.prog w = .ok v' w')
    (hK : wpList Tryz.prog ops Q rest (a.put o.dst v') w') : wpList Tryz.prog ops Q (o :: rest) a w := by
  refine wpList_plain hg fun K' hK' => ?_
  unfold Oper.wp execOp
  simp only [ho, resolve, invoke, builtin, Sem.run_bind, Sem.run_pure, Result.andThen_ok, List.map_toArray, List.map_cons, List.map_nil, hd, hs, hr]
  exact hK' _ _ hK
/-- There is no room: a new row. -/
theorem Insert_growR (base : Nat) (g c gv vc i : Nat) (l : List (ByteArray × Value)) (x : ByteArray × Value) (w : World) (h : OwnR base w (.slice (some ⟨g, 0, none⟩) l.length c) l) (hone : ∀ r ∈ l, r.2.oneCell' = true) (hx1 : x.2.oneCell' = true) (hi : i < l.length) (hc : c < l.length + 1) (hl : l.length ≤ 1000000000000)
    (hv : w.heap[gv]? = some (.cells (rowC x) 62 (0, 0))) (hbase : base ≤ w.heap.size) :
    Calls Tryz.prog 200 #[.slice (some ⟨g, 0, none⟩) l.length c, .int .i64 i, .slice (some ⟨gv, 0, none⟩) 1 vc] w fun e w' => ∃ u, e = .returned u ∧ OwnR base w' u (l.take i ++ x :: l.drop i) ∧ w.grownBy w' (some g) := by
  rcases h.2 with ⟨h0, _⟩ | ⟨g', cap, cur, h0, hb, hg, hn, hm, hs, ht⟩
  · cases h0
  injection h0 with e1 e2 e3
  injection e1 with e1
  injection e1 with e4
  subst e3 e4
  have hcells : ∀ j v, (cellsR l)[j]? = some v → w.cell? ⟨g, j, none⟩ = some v := fun j v hj => by
    rw [cell_of_row w g j cur _ _ hg, ← Array.getElem?_toList]
    rw [← ht, List.getElem?_take] at hj
    split at hj
    · exact hj
    · cases hj
  have hgN := lt_heap hg
  have hvN := lt_heap hv
  obtain ⟨i0, hi0, hz0, hz1, hz2⟩ := info_parts infoE
  have hold : (Builtin.firstCells i0.size i (.slice (some ⟨g, 0, none⟩) i c)).run Tryz.prog w.drew = .ok (cellsR (l.take i)).toArray w.drew := by
    rw [hz1]
    exact run_firstCells_some (P := Tryz.prog) (w := w.drew) 2 i ⟨g, 0, none⟩ i c (cellsR (l.take i)) (by rw [cellsR_length, List.length_take]; omega) (fun j v hj => by
      rw [add_off, Nat.zero_add]
      show w.cell? _ = _
      rw [← cellsR_take, List.getElem?_take] at hj
      split at hj
      · exact hcells j v hj
      · cases hj)
  obtain ⟨G, hG⟩ : ∃ G, grownCap w (l.length + 1) c 62 = G := ⟨_, rfl⟩
  have hGn : l.length + 1 ≤ G := by rw [← hG]; exact grownCap_ge w _ _ _
  have hGm : G ≤ maxLen := by rw [← hG]; exact grownCap_le_maxLen w _ _ _ (by unfold maxLen; omega)
  obtain ⟨ROW, hROW⟩ : ∃ ROW : Array Value, (cellsR (l.take i)).toArray ++ Builtin.zeroCells (Value.agg #[.string ⟨#[]⟩, .slice none 0 0]).cells (l.length + 1 - i) ++ Builtin.zeroCells (Value.agg #[.string ⟨#[]⟩, .slice none 0 0]).cells (G - (l.length + 1)) = ROW := ⟨_, rfl⟩
  have hT : (cellsR (l.take i)).length = i * 2 := by rw [cellsR_length, List.length_take]; omega
  have hD : (cellsR (l.drop i)).length = (l.length - i) * 2 := by rw [cellsR_length, List.length_drop]
  have hRs : ROW.size = G * 2 := by
    rw [← hROW]
    simp [Builtin.zeroCells, Value.cells, hT]
    omega
  have hRt : ROW.toList.take (i * 2) = cellsR (l.take i) := by
    rw [← hROW]
    simp only [Array.toList_append, List.append_assoc]
    rw [List.take_append_of_le_length (by omega), List.take_of_length_le (by omega)]
  have hrz : ∀ ty, (Builtin.append_ #[36, 3] ty #[.slice (some ⟨g, 0, none⟩) i c, .int .i64 ((l.length : Int) + 1 - (i : Int))]).run Tryz.prog w = .ok (.slice (some ⟨w.heap.size, 0, none⟩) (l.length + 1) G) (w.drew.alloc (.cells ROW 62)) := fun ty => by
    have h := Lib.run_append_grow_zeros w 36 3 ty 62 i0 _ .i64 .i64 Tryz.underlying36 Tryz.underlying3 hi0 hz0 (some ⟨g, 0, none⟩) i c (cellsR (l.take i)) hold (l.length + 1 - i) (by omega) (by rw [hz1]; omega) (by omega) (by omega) (by rw [hz2]; omega) (by rw [hz2, show i + (l.length + 1 - i) = l.length + 1 by omega]; exact growslice_fits hc (by omega))
    rw [show i + (l.length + 1 - i) = l.length + 1 by omega, hG, hROW] at h
    rw [show (l.length : Int) + 1 - (i : Int) = ((l.length + 1 - i : Nat) : Int) by omega]
    exact h
  obtain ⟨N, hN⟩ : ∃ N, w.heap.size = N := ⟨_, rfl⟩
  obtain ⟨rowA, hrowA⟩ : ∃ r, (ROW.toList.take (i * 2) ++ (rowC x).toList ++ ROW.toList.drop (i * 2 + (rowC x).toList.length)).toArray = r := ⟨_, rfl⟩
  have hAs : rowA.size = G * 2 := by rw [← hrowA]; simp; omega
  obtain ⟨rowB, hrowB⟩ : ∃ r, (rowA.toList.take ((i + 1) * 2) ++ cellsR (l.drop i) ++ rowA.toList.drop ((i + 1) * 2 + (cellsR (l.drop i)).length)).toArray = r := ⟨_, rfl⟩
  have hBs : rowB.size = G * 2 := by rw [← hrowB]; simp; omega
  have hcpA : ∀ (W : World), W.heap[N]? = some (.cells ROW 62 (0, 0)) → W.heap[gv]? = some (.cells (rowC x) 62 (0, 0)) → ∀ ty dc, (Builtin.copy_ #[36, 36] ty #[.slice (some ⟨N, i * 2, none⟩) (l.length + 1 - i) dc, .slice (some ⟨gv, 0, none⟩) 1 vc]).run Tryz.prog W = .ok (goInt 1) (W.setRow N rowA) := fun W hW hW2 ty dc => by
    rw [← hrowA]
    exact run_copyR W ty N (i * 2) (l.length + 1 - i) dc ⟨gv, 0, none⟩ 1 vc ROW 62 (rowC x).toList 1 hW (by simp only [Nat.min_def]; split <;> omega) rfl
      (fun j v hj => by
        rw [add_off, Nat.zero_add, cell_of_row _ gv j _ _ _ hW2, ← Array.getElem?_toList]; exact hj) (by rw [hRs, rowC_len]; omega) (fun v hv => Array.all_eq_true_iff_forall_mem.1 (oneC x hx1) v (by simpa using hv))
  have hcpB : ∀ (W : World), W.heap[N]? = some (.cells rowA 62 (0, 0)) → W.heap[g]? = w.heap[g]? → ∀ ty dc sc, (Builtin.copy_ #[36, 36] ty #[.slice (some ⟨N, (i + 1) * 2, none⟩) (l.length - i) dc, .slice (some ⟨g, i * 2, none⟩) (l.length - i) sc]).run Tryz.prog W = .ok (goInt ((l.length - i : Nat) : Int)) (W.setRow N rowB) := fun W hW hW2 ty dc sc => by
    rw [← hrowB]
    exact run_copyR W ty N ((i + 1) * 2) (l.length - i) dc ⟨g, i * 2, none⟩ (l.length - i) sc rowA 62 (cellsR (l.drop i)) (l.length - i) hW (Nat.min_self _) hD
      (fun j v hj => by
        rw [add_off, World.cell?_of_block (a := ⟨g, i * 2 + j, none⟩) hW2]
        exact hcells (i * 2 + j) v (by rw [← cellsR_drop, List.getElem?_drop] at hj; exact hj)) (by omega) (oneR fun r hr => hone r (List.mem_of_mem_drop hr))
  have hfin : ∀ W : World, W.heap[N]? = some (.cells rowB 62 (0, 0)) → OwnR base W (.slice (some ⟨N, 0, none⟩) (l.length + 1) G) (l.take i ++ x :: l.drop i) := fun W hW => by
    have hlen : (l.take i ++ x :: l.drop i).length = l.length + 1 := by simp; omega
    have htk : rowB.toList.take ((l.length + 1) * 2) = cellsR (l.take i ++ x :: l.drop i) := by
      have e : cellsR (l.take i ++ x :: l.drop i) = cellsR (l.take i) ++ (rowC x).toList ++ cellsR (l.drop i) := by
        rw [cellsR_append, show x :: l.drop i = [x] ++ l.drop i from rfl, cellsR_append, cellsR_one, List.append_assoc]
      have eA : rowA.toList.take ((i + 1) * 2) = cellsR (l.take i) ++ (rowC x).toList := by
        rw [← hrowA, hRt]
        rw [List.take_append_of_le_length (by simp [hT]; omega), List.take_of_length_le (by simp [hT]; omega)]
      rw [e, ← hrowB, eA, List.take_append_of_le_length (by simp [hT, hD]; omega), List.take_of_length_le (by simp [hT, hD]; omega)]
    exact ⟨by rw [cellsR_length, hlen], .inr ⟨N, G, rowB, by rw [hlen], by omega, hW, by omega, hGm, hBs, by rw [hlen]; exact htk⟩⟩
  have CZ := Lib.hid hrz
  have CA := Lib.hid hcpA
  have CB := Lib.hid hcpB
  have HF := Lib.hid hfin
  have HG := Lib.hid hg
  have HV := Lib.hid hv
  have HB := Lib.hid hbase
  have hGm2 : G ≤ 9223372036854775807 := by unfold maxLen at hGm; omega
  have hm2 : c ≤ 9223372036854775807 := by unfold maxLen at hm; omega
  clear hrz hcpA hcpB hfin hcells hT hD hRs hRt hROW hAs hrowA hBs hrowB hold hG hGm hm hs ht hg hv h hi0 hz0 hz1 hz2 hbase
  have b1 : ¬ (G = i + 1) := by omega
  have b2 : ¬ (c = i) := by omega
  have b3 : ¬ ((i : Int) = (l.length : Int)) := by omega
  have b4 : (c : Int) < (l.length : Int) + 1 := by omega
  have b5 : (i : Int) ≤ (l.length : Int) := by omega
  have b6 : (0 : Int) ≤ (i : Int) := by omega
  have b7 : ¬ (G = i) := by omega
  have b8 : (i : Int) + 1 ≤ (l.length : Int) + 1 := by omega
  have b9 : (i : Int) ≤ (l.length : Int) + 1 := by omega
  have b10 : (i : Int) ≤ (c : Int) := by omega
  have w1 : IntKind.i64.wrap ((i : Int) + 1) = (i : Int) + 1 := by rw [IntKind.wrap_i64]; omega
  have w2 : (0 : Int) ≤ (i : Int) + 1 := by omega
  have w3 : ((i : Int) + 1).toNat = i + 1 := by omega
  rw [hN] at CZ hgN hvN
  go_enter Tryz.func200, Tryz.ntmps200
  go_upto_region 10 with (refine wpList_appRz rfl (.tmp 34) (.tmp 39) rfl (.slice (some ⟨g, 0, none⟩) i c) (.int .i64 ((l.length : Int) + 1 - (i : Int))) rfl rfl (CZ.out _) ?_)
  have Z : Hid ((w.alloc (.cells ROW 62)).drew.heap[N]? = some (.cells ROW 62 (0, 0)) ∧ (w.alloc (.cells ROW 62)).drew.heap[gv]? = w.heap[gv]? ∧ (w.alloc (.cells ROW 62)).drew.heap[g]? = w.heap[g]? ∧ Below w.heap.size w (w.alloc (.cells ROW 62)).drew) := Lib.hid (by
    have hb := ((Below.refl w.heap.size w).alloc (Nat.le_refl _) (.cells ROW 62)).drew
    refine ⟨?_, hb.block gv (by omega), hb.block g (by omega), hb⟩
    rw [← hN]; exact heap_alloc_new w _)
  obtain ⟨W, hW⟩ : ∃ W, (w.alloc (.cells ROW 62)).drew = W := ⟨_, rfl⟩
  rw [hW] at Z ⊢
  clear hW
  have Z2 : Hid ((W.setRow N rowA).drew.heap[N]? = some (.cells rowA 62 (0, 0)) ∧ (W.setRow N rowA).drew.heap[g]? = w.heap[g]? ∧ Below w.heap.size w (W.setRow N rowA).drew) := Lib.hid
    ⟨setRow_heap W N ROW rowA _ _ Z.out.1, (setRow_other _ _ _ _ (by omega)).trans Z.out.2.2.1, Z.out.2.2.2.trans ((setRow_below N rowA (by omega)).drew)⟩
  have KA := Lib.hid (CA.out W Z.out.1 (Z.out.2.1.trans HV.out))
  have KB := Lib.hid (CB.out (W.setRow N rowA).drew Z2.out.1 Z2.out.2.1)
  go_upto_region 11 with (refine wpList_copyR rfl (.tmp 43) (.tmp 44) rfl (.slice (some ⟨N, i * 2, none⟩) (l.length + 1 - i) (G - i)) (.slice (some ⟨gv, 0, none⟩) 1 vc) rfl rfl (KA.out 3 (G - i)) ?_)
  go_region_law (refine step_copyR rfl (.tmp 50) (.tmp 53) rfl (.slice (some ⟨N, (i + 1) * 2, none⟩) (l.length - i) (G - (i + 1))) (.slice (some ⟨g, i * 2, none⟩) (l.length - i) (c - i)) (by simp [Act.eval, Act.put]) (by simp [Act.eval, Act.put]) (KB.out 3 (G - (i + 1)) (c - i)) ?_)
  go_wp2
  go_ret
  exact ⟨_, rfl, HF.out _ (setRow_heap _ N rowA rowB _ _ Z2.out.1), grownBy_low (Z2.out.2.2.trans (setRow_below N rowB (by omega))) _⟩
end
end Go.Proofs.YtmolpogehgeebaaGreat


