/- The effects of an operation on an entity in a box: keep, drop. -/
/- The effects of an operation on an entity in a box: drop. -/
import Derived.Test.YtflgdhhgnbdofaaGreatmEB7
namespace Go.Proofs.YtflgdhhgnbdofaaGreat
open Go.RowKit
/-- The block p is an entity's box: so it is none of the lists' blocks, which are of other types. -/
def HT (w : World) (p : Nat) : Prop := ∃ C fr, w.heap[p]? = some (.cells C 38 fr)
theorem HT.below {w w' : World} {p : Nat} (h : HT w p) (hb : Below w.heap.size w w') : HT w' p := by
  obtain ⟨C, fr, h⟩ := h
  exact ⟨C, fr, (hb.block p (Array.getElem?_eq_some_iff.1 h).1).trans h⟩
theorem HT.set {w : World} {p : Nat} (h : HT w p) (g i : Nat) (v : Value) : HT (w.setCell ⟨g, i, none⟩ v) p := by
  obtain ⟨C, fr, h⟩ := h
  by_cases e : g = p
  · subst e
    exact ⟨C.setIfInBounds i v, fr, by simp [World.setCell, Array.getElem?_modify, h]⟩
  · exact ⟨C, fr, (block_set w ⟨g, i, none⟩ v p (fun x => e x.symm)).trans h⟩
theorem HT.new (w : World) (C : Array Value) : HT (w.alloc (.cells C 38)) w.heap.size := ⟨C, _, heap_alloc_new w _⟩
theorem ownsRow_ne {base n size p : Nat} {w : World} {v : Value} {e : TypeId} {xs : List Value} (h : w.ownsRow base e size v n xs) (ht : HT w p) (he : e ≠ 38) : v.ownBlock = none ∨ v.ownBlock ≠ some p := by
  rcases h.2 with ⟨rfl, _⟩ | ⟨g, cap, cur, rfl, _, hg, _⟩
  · exact .inl rfl
  · refine .inr fun e2 => he ?_
    obtain ⟨C, fr, h2⟩ := ht
    have : g = p := Option.some.inj e2
    subst this
    rw [hg] at h2
    injection h2 with h2
    injection h2
theorem Se.OwnP.free {base p : Nat} {w : World} {v : Value} {L : List (Int × Int)} (h : Se.OwnP base w v L) (ht : HT w p) : v.ownBlock = none ∨ v.ownBlock ≠ some p := ownsRow_ne h ht (by decide)
theorem OwnR.free {base p : Nat} {w : World} {v : Value} {rs : List (ByteArray × Value)} (h : OwnR base w v rs) (ht : HT w p) : v.ownBlock = none ∨ v.ownBlock ≠ some p := ownsRow_ne h ht (by decide)
theorem OwnL.free {base p : Nat} {w : World} {v : Value} {l : List Pie} (h : OwnL base w v l) (ht : HT w p) : v.ownBlock = none ∨ v.ownBlock ≠ some p := ownsRow_ne h ht (by decide)
/-- The box p holds this entity, whose lists are one's own. -/
def Held (base p : Nat) (w : World) (x : Ent) : Prop := ∃ A n c A' n' c' rs, Bx w p (x.cells (.slice A n c) (.slice A' n' c')) ∧ HT w p ∧ Se.OwnP base w (.slice A n c) x.val ∧ OwnR base w (.slice A' n' c') rs ∧ RowsO base w rs x.ps
theorem Held.below {base p : Nat} {w w' : World} {x : Ent} (h : Held base p w x) (hb : Below w.heap.size w w') : Held base p w' x := by
  obtain ⟨A, n, c, A', n', c', rs, h1, h2, h3, h4, h5⟩ := h
  exact ⟨A, n, c, A', n', c', rs, h1.below hb, h2.below hb, h3.below hb, h4.below hb, h5.below hb⟩
/-- An operation as the program has it: its cells over piece's values. -/
abbrev opCells (kind : Int) (edge : Bool) (id : Int) (label : ByteArray) (fr til : Int) (key : ByteArray) (v : VP) (c d : Int) : Array Value := #[.int .i64 kind, .bool edge, .int .u64 id, .string label, .int .u64 fr, .int .u64 til, .string key, .int .i64 v.k, .bool v.b, .int .i64 v.n, .float .f64 v.f, .string v.s, .int .u64 c, .int .u64 d]
section
set_option maxRecDepth 100000
set_option maxHeartbeats 8000000
theorem keep_any (base p : Nat) (x : Ent) (kind : Int) (edge : Bool) (id : Int) (label : ByteArray) (fr til : Int) (key : ByteArray) (v : VP) (c d : Int) (w : World) (h : Held base p w x) (hb0 : base ≤ w.heap.size) (hx : x.wide) (hcd : 0 ≤ c ∧ 0 ≤ d) :
    Calls Tryz.prog 142 #[.pointer (some ⟨p, 0, none⟩), .agg (opCells kind edge id label fr til key v c d)] w fun e w' => ∃ R, e = .returned (.int .i64 0) ∧ Se.Iset.Res Se.kOr x.val [(c, d)] R ∧ Held base p w' { x with val := R } ∧ But p base w w' := by
  obtain ⟨Av, nv, cv, Ap, np, cp, rs, hbx, hpb, hv, hr, hro⟩ := h
  obtain rfl : nv = x.val.length := by
    obtain ⟨A1, c1, e, _⟩ := hv.at
    cases e; rfl
  have HBX := Lib.hid hbx
  have HV := Lib.hid hv
  have HR := Lib.hid hr
  have HRO := Lib.hid hro
  have HX := Lib.hid hx
  have HPB := Lib.hid hpb
  have HB0 := Lib.hid hb0
  have HCD := Lib.hid hcd
  have CU := Lib.hid (fun W va vb (h1 : Se.IsP W va x.val) (h2 : Se.IsP W vb [(c, d)]) => Se.Union_any va vb x.val [(c, d)] W h1 h2 hx.val (fun p h => by rw [List.mem_singleton] at h; subst h; exact hcd) (by have := hx.lenV; omega) (by simp))
  clear hbx hpb hv hr hro hx hb0 hcd
  obtain ⟨xe, xid, xlab, xfr, xtil, val, ps⟩ := x
  obtain ⟨k, b, n, f, s⟩ := v
  simp only at HBX HV HR HRO CU ⊢
  have hsf := store_float
  have B0 := Lib.hid ((Below.refl w.heap.size w).alloc (Nat.le_refl _) (.cells #[.int .i64 kind, .bool edge, .int .u64 id, .string label, .int .u64 fr, .int .u64 til, .string key, .int .i64 k, .bool b, .int .i64 n, .float .f64 f, .string s, .int .u64 c, .int .u64 d] 35))
  have O0 := Lib.hid (Bx.new w #[.int .i64 kind, .bool edge, .int .u64 id, .string label, .int .u64 fr, .int .u64 til, .string key, .int .i64 k, .bool b, .int .i64 n, .float .f64 f, .string s, .int .u64 c, .int .u64 d] 35)
  have X0 := Lib.hid (HBX.out.below B0.out)
  go_enter Tryz.func142, Tryz.ntmps142
  go_upto_region 1 with fail
  obtain ⟨W0, hW0⟩ : ∃ W, w.alloc (.cells #[.int .i64 kind, .bool edge, .int .u64 id, .string label, .int .u64 fr, .int .u64 til, .string key, .int .i64 k, .bool b, .int .i64 n, .float .f64 f, .string s, .int .u64 c, .int .u64 d] 35) = W := ⟨_, rfl⟩
  rw [hW0] at B0 O0 X0
  try rw [hW0]
  clear hW0
  obtain ⟨po, hpo⟩ : ∃ q, w.heap.size = q := ⟨_, rfl⟩
  rw [hpo] at O0
  try rw [hpo]
  clear hpo
  have K0 : Hid (∀ w', Below W0.heap.size W0 w' → w'.cell? ⟨p, 5, none⟩ = some (.slice Av val.length cv) ∧ w'.cell? ⟨po, 12, none⟩ = some (.int .u64 c) ∧ w'.cell? ⟨po, 13, none⟩ = some (.int .u64 d)) := Lib.hid fun w' hb => ⟨(X0.out.below hb).c 5, (O0.out.below hb).c 12, (O0.out.below hb).c 13⟩
  have BA := Lib.hid ((Below.refl W0.heap.size W0).alloc (Nat.le_refl _) (.cells #[.int .u64 c, .int .u64 d] 33)).drew
  have PN := Lib.hid (show Se.IsP (W0.alloc (.cells #[.int .u64 c, .int .u64 d] 33)).drew (.slice (some ⟨W0.heap.size, 0, none⟩) 1 1) [(c, d)] from Se.IsP.below (isP_new W0 [(c, d)] 33 1 1 rfl) (Below.refl _ _).drew)
  have PV := Lib.hid (HV.out.at.below (B0.out.trans (BA.out.mono B0.out.size)))
  have q5 := (K0.out _ (Below.refl _ _)).1
  have q5b := (K0.out (W0.alloc (.cells #[.int .u64 c, .int .u64 d] 33)) ((Below.refl _ _).alloc (Nat.le_refl _) _)).1
  have q12 := (K0.out _ (Below.refl _ _)).2.1
  have q13 := (K0.out _ (Below.refl _ _)).2.2
  go_region_law (go_simp; go_at_call 179; (with_reducible refine (CU.out _ _ _ PV.out PN.out).mono ?_); rintro e w1 ⟨u, R, rfl, hr, ho, hb⟩; obtain ⟨Au, cu, rfl, _⟩ := ho.at; have HRS := Lib.hid hr; have OU := Lib.hid ho; have HU1 := Lib.hid (show Below W0.heap.size W0 w1 from BA.out.trans (hb.mono BA.out.size)); have s5 := (X0.out.below HU1.out).c 5; have f5 := (X0.out.below HU1.out).fr 5; clear hr ho hb)
  all_goals
    have X5 := Lib.hid (show Bx (w1.setCell ⟨p, 5, none⟩ (.slice Au R.length cu)) p #[.bool xe, .int .u64 xid, .string xlab, .int .u64 xfr, .int .u64 xtil, .slice Au R.length cu, .slice Ap np cp] from (X0.out.below HU1.out).set 5 _ (by simp))
    have G := grownBy_set w1 p 5 (.slice Au R.length cu)
    have HW := B0.out.trans (HU1.out.mono B0.out.size)
    have H1 := Lib.hid (HPB.out.below HW)
    have H5 := Lib.hid (H1.out.set p 5 (.slice Au R.length cu))
    have OU2 : Se.OwnP base w1 (.slice Au R.length cu) R := Se.OwnP.mono OU.out (Nat.le_trans HB0.out (Nat.le_trans B0.out.size BA.out.size))
    have V5 := Lib.hid (World.ownsRow.kept OU2 G (OU2.free H1.out))
    have R1 := HR.out.below HW
    have R5 := Lib.hid (World.ownsRow.kept R1 G (OwnR.free R1 H1.out))
    have Q1 := HRO.out.below HW
    have Q5 := Lib.hid (show RowsO base (w1.setCell ⟨p, 5, none⟩ (.slice Au R.length cu)) rs ps from ⟨Q1.len, fun i hi hg => ⟨(Q1.at' i hi hg).1, World.ownsRow.kept (Q1.at' i hi hg).2 G ((Q1.at' i hi hg).2.free H1.out)⟩⟩)
    have BU := Lib.hid ((Below.but (g := p) (HW.mono HB0.out)).trans (But.set (g := p) (B := base) (w := w1) 5 (.slice Au R.length cu)))
    clear G HW OU2 R1 Q1 q5 q5b q12 q13 s5 f5
    obtain ⟨W9, hW9⟩ : ∃ W, w1.setCell ⟨p, 5, none⟩ (.slice Au R.length cu) = W := ⟨_, rfl⟩
    rw [hW9] at X5 V5 R5 Q5 BU H5
    try rw [hW9]
    clear hW9
    go_wp2_with fail
    go_ret
    exact ⟨R, rfl, HRS.out, ⟨Au, R.length, cu, Ap, np, cp, rs, X5.out, H5.out, V5.out, R5.out, Q5.out⟩, BU.out⟩
end
end Go.Proofs.YtflgdhhgnbdofaaGreat

namespace Go.Proofs.YtflgdhhgnbdofaaGreat
open Go.RowKit
theorem OwnR.rowsPut {base g c : Nat} {w : World} {rs : List (ByteArray × Value)} {qs : List Prp} {u : Value} {L : List Pie} (h : OwnR base w (.slice (some ⟨g, 0, none⟩) rs.length c) rs) (hq : RowsO base w rs qs) (k : Nat) (hk : k < rs.length) (hu : OwnL base w u L) :
    OwnR base (w.setCell ⟨g, k * 2 + 1, none⟩ u) (.slice (some ⟨g, 0, none⟩) rs.length c) (rs.set k (rs[k].1, u)) ∧ RowsO base (w.setCell ⟨g, k * 2 + 1, none⟩ u) (rs.set k (rs[k].1, u)) (qs.set k ⟨rs[k].1, L⟩) ∧ w.grownBy (w.setCell ⟨g, k * 2 + 1, none⟩ u) (some g) := by
  obtain ⟨h1, h2⟩ := h.line k hk u
  refine ⟨h1, ⟨by rw [List.length_set, List.length_set]; exact hq.len, fun i hi hg => ?_⟩, h2⟩
  rw [List.length_set] at hi hg
  rw [List.getElem_set, List.getElem_set]
  split
  · next e => exact ⟨rfl, World.ownsRow.kept hu h2 (apart_LR hu h)⟩
  · next e => exact ⟨(hq.at' i hi hg).1, World.ownsRow.kept (hq.at' i hi hg).2 h2 (apart_LR (hq.at' i hi hg).2 h)⟩
/-- How far drop has come through the properties. -/
structure DropS (base p : Nat) (R : List (Int × Int)) (ps : List Prp) (w1 : World) (uv : Value) (Ap : Option Addr) (cp : Nat) (C : Array Value) (w0 w : World) (k : Nat) (rs : List (ByteArray × Value)) (qs : List Prp) : Prop where
  bx : Bx w p C
  val : Se.OwnP base w uv R
  row : OwnR base w (.slice Ap rs.length cp) rs
  rows : RowsO base w rs qs
  len : qs.length = ps.length
  done : ∀ i (h : i < ps.length) (g : i < qs.length), i < k → qs[i].k = ps[i].k ∧ Pl.WithinR okV VP.none ps[i].l R qs[i].l
  todo : ∀ i (h : i < ps.length) (g : i < qs.length), k ≤ i → qs[i] = ps[i]
  but : But p base w0 w
  sz : base ≤ w.heap.size
  ht : HT w p
theorem DropS.below {base p : Nat} {R : List (Int × Int)} {ps : List Prp} {w1 : World} {uv : Value} {Ap : Option Addr} {cp : Nat} {C : Array Value} {w0 w w' : World} {k : Nat} {rs : List (ByteArray × Value)} {qs : List Prp} (h : DropS base p R ps w1 uv Ap cp C w0 w k rs qs) (hb : Below w.heap.size w w') : DropS base p R ps w1 uv Ap cp C w0 w' k rs qs :=
  ⟨h.bx.below hb, h.val.below hb, h.row.below hb, h.rows.below hb, h.len, h.done, h.todo, h.but.trans (Below.but (hb.mono h.sz)), Nat.le_trans h.sz hb.size, h.ht.below hb⟩
theorem DropS.next {base p g : Nat} {R : List (Int × Int)} {ps : List Prp} {w1 : World} {uv u : Value} {cp : Nat} {C : Array Value} {w0 w : World} {k : Nat} {rs : List (ByteArray × Value)} {qs : List Prp} {L : List Pie} (h : DropS base p R ps w1 uv (some ⟨g, 0, none⟩) cp C w0 w k rs qs) (hg : base ≤ g) (hk : k < ps.length) (hk' : k < rs.length) (hu : OwnL base w u L) (hw : Pl.WithinR okV VP.none ps[k].l R L) :
    DropS base p R ps w1 uv (some ⟨g, 0, none⟩) cp C w0 (w.setCell ⟨g, k * 2 + 1, none⟩ u) (k + 1) (rs.set k (rs[k].1, u)) (qs.set k ⟨rs[k].1, L⟩) := by
  obtain ⟨h1, h2, h3⟩ := h.row.rowsPut h.rows k hk' hu
  have hkq : k < qs.length := by rw [h.len]; exact hk
  have hne : p ≠ g := fun e => by
    rcases h.row.free h.ht with e2 | e2
    · cases e2
    · exact e2 (by rw [e]; rfl)
  refine ⟨h.bx.other _ _ hne, World.ownsRow.kept h.val h3 (apart_PR h.val h.row), by rw [List.length_set]; exact h1, h2, by rw [List.length_set]; exact h.len, fun i hi hq hik => ?_, fun i hi hq hik => ?_, h.but.trans ⟨rfl, rfl, rfl, by simp [World.setCell], fun j hj _ => block_set w ⟨g, k * 2 + 1, none⟩ u j (by simp; omega)⟩, by simpa [World.setCell] using h.sz, h.ht.set g _ _⟩
  · rw [List.length_set] at hq
    rw [List.getElem_set]
    split
    · next e =>
      subst e
      refine ⟨?_, hw⟩
      rw [(h.rows.at' k hk' hkq).1, h.todo k hk hkq (Nat.le_refl _)]
    · next e => exact h.done i hi hq (by omega)
  · rw [List.length_set] at hq
    rw [List.getElem_set, if_neg (by omega)]
    exact h.todo i hi hq (by omega)
theorem DropS.cut {base p : Nat} {R : List (Int × Int)} {ps : List Prp} {w1 : World} {uv : Value} {Ap : Option Addr} {cp : Nat} {C : Array Value} {w0 w : World} {rs : List (ByteArray × Value)} {qs : List Prp} (h : DropS base p R ps w1 uv Ap cp C w0 w ps.length rs qs) : Cut R ps qs :=
  ⟨h.len, fun i hi hg => h.done i hi hg hi⟩
/-- What drop leaves. -/
def DropAns (base p : Nat) (x : Ent) (c d : Int) (w : World) (e : Ending) (w' : World) : Prop := ∃ R qs, e = .returned (.int .i64 0) ∧ Se.Iset.Res Se.kLess x.val [(c, d)] R ∧ Cut R x.ps qs ∧ Held base p w' { x with val := R, ps := qs } ∧ But p base w w'
section
set_option maxRecDepth 100000
set_option maxHeartbeats 8000000
theorem drop_any (base p : Nat) (x : Ent) (kind : Int) (edge : Bool) (id : Int) (label : ByteArray) (fr til : Int) (key : ByteArray) (v : VP) (c d : Int) (w : World) (h : Held base p w x) (hb0 : base ≤ w.heap.size) (hx : x.wide) (hm : x.may) (hcd : 0 ≤ c ∧ 0 ≤ d) :
    Calls Tryz.prog 143 #[.pointer (some ⟨p, 0, none⟩), .agg (opCells kind edge id label fr til key v c d)] w (DropAns base p x c d w) := by
  have HM := Lib.hid hm
  clear hm
  obtain ⟨Av, nv, cv, Ap, np, cp, rs, hbx, hpb, hv, hr, hro⟩ := h
  obtain rfl : nv = x.val.length := by
    obtain ⟨A1, c1, e, _⟩ := hv.at
    cases e; rfl
  have HBX := Lib.hid hbx
  have HV := Lib.hid hv
  have HR := Lib.hid hr
  have HRO := Lib.hid hro
  have HX := Lib.hid hx
  have HPB := Lib.hid hpb
  have HB0 := Lib.hid hb0
  have HCD := Lib.hid hcd
  have CMi := Lib.hid (fun W va vb (h1 : Se.IsP W va x.val) (h2 : Se.IsP W vb [(c, d)]) => Se.Minus_any va vb x.val [(c, d)] W h1 h2 hx.val (fun p h => by rw [List.mem_singleton] at h; subst h; exact hcd) (by have := hx.lenV; omega) (by simp))
  clear hbx hpb hv hr hro hx hb0 hcd
  obtain ⟨xe, xid, xlab, xfr, xtil, val, ps⟩ := x
  obtain ⟨k, b, n, f, s⟩ := v
  simp only at HBX HV HR HRO CMi ⊢
  have hsf := store_float
  have B0 := Lib.hid ((Below.refl w.heap.size w).alloc (Nat.le_refl _) (.cells #[.int .i64 kind, .bool edge, .int .u64 id, .string label, .int .u64 fr, .int .u64 til, .string key, .int .i64 k, .bool b, .int .i64 n, .float .f64 f, .string s, .int .u64 c, .int .u64 d] 35))
  have O0 := Lib.hid (Bx.new w #[.int .i64 kind, .bool edge, .int .u64 id, .string label, .int .u64 fr, .int .u64 til, .string key, .int .i64 k, .bool b, .int .i64 n, .float .f64 f, .string s, .int .u64 c, .int .u64 d] 35)
  have X0 := Lib.hid (HBX.out.below B0.out)
  go_enter Tryz.func143, Tryz.ntmps143
  go_upto_region 1 with fail
  obtain ⟨W0, hW0⟩ : ∃ W, w.alloc (.cells #[.int .i64 kind, .bool edge, .int .u64 id, .string label, .int .u64 fr, .int .u64 til, .string key, .int .i64 k, .bool b, .int .i64 n, .float .f64 f, .string s, .int .u64 c, .int .u64 d] 35) = W := ⟨_, rfl⟩
  rw [hW0] at B0 O0 X0
  try rw [hW0]
  clear hW0
  obtain ⟨po, hpo⟩ : ∃ q, w.heap.size = q := ⟨_, rfl⟩
  rw [hpo] at O0
  try rw [hpo]
  clear hpo
  have K0 : Hid (∀ w', Below W0.heap.size W0 w' → w'.cell? ⟨p, 5, none⟩ = some (.slice Av val.length cv) ∧ w'.cell? ⟨po, 12, none⟩ = some (.int .u64 c) ∧ w'.cell? ⟨po, 13, none⟩ = some (.int .u64 d)) := Lib.hid fun w' hb => ⟨(X0.out.below hb).c 5, (O0.out.below hb).c 12, (O0.out.below hb).c 13⟩
  have BA := Lib.hid ((Below.refl W0.heap.size W0).alloc (Nat.le_refl _) (.cells #[.int .u64 c, .int .u64 d] 33)).drew
  have PN := Lib.hid (show Se.IsP (W0.alloc (.cells #[.int .u64 c, .int .u64 d] 33)).drew (.slice (some ⟨W0.heap.size, 0, none⟩) 1 1) [(c, d)] from Se.IsP.below (isP_new W0 [(c, d)] 33 1 1 rfl) (Below.refl _ _).drew)
  have PV := Lib.hid (HV.out.at.below (B0.out.trans (BA.out.mono B0.out.size)))
  go_cut [] from 8 to 18 (fun wd => ∃ Au R cu, Se.Iset.Res Se.kLess val [(c, d)] R ∧ Bx wd p #[.bool xe, .int .u64 xid, .string xlab, .int .u64 xfr, .int .u64 xtil, .slice Au R.length cu, .slice Ap np cp] ∧ Se.OwnP base wd (.slice Au R.length cu) R ∧ OwnR base wd (.slice Ap np cp) rs ∧ RowsO base wd rs ps ∧ But p base w wd ∧ base ≤ wd.heap.size ∧ HT wd p)
  case first =>
    have q5 := (K0.out _ (Below.refl _ _)).1
    have q5b := (K0.out (W0.alloc (.cells #[.int .u64 c, .int .u64 d] 33)) ((Below.refl _ _).alloc (Nat.le_refl _) _)).1
    have q12 := (K0.out _ (Below.refl _ _)).2.1
    have q13 := (K0.out _ (Below.refl _ _)).2.2
    go_region_law (go_simp; go_at_call 86; (with_reducible refine (CMi.out _ _ _ PV.out PN.out).mono ?_); rintro e w1 ⟨u, R, rfl, hr, ho, hb⟩; obtain ⟨Au, cu, rfl, _⟩ := ho.at; have HRS := Lib.hid hr; have OU := Lib.hid ho; have HU1 := Lib.hid (show Below W0.heap.size W0 w1 from BA.out.trans (hb.mono BA.out.size)); have s5 := (X0.out.below HU1.out).c 5; have f5 := (X0.out.below HU1.out).fr 5; clear hr ho hb)
    all_goals
      have X5 := Lib.hid (show Bx (w1.setCell ⟨p, 5, none⟩ (.slice Au R.length cu)) p #[.bool xe, .int .u64 xid, .string xlab, .int .u64 xfr, .int .u64 xtil, .slice Au R.length cu, .slice Ap np cp] from (X0.out.below HU1.out).set 5 _ (by simp))
      have G := grownBy_set w1 p 5 (.slice Au R.length cu)
      have HW := B0.out.trans (HU1.out.mono B0.out.size)
      have H1 := Lib.hid (HPB.out.below HW)
      have H5 := Lib.hid (H1.out.set p 5 (.slice Au R.length cu))
      have OU2 : Se.OwnP base w1 (.slice Au R.length cu) R := Se.OwnP.mono OU.out (Nat.le_trans HB0.out (Nat.le_trans B0.out.size BA.out.size))
      have V5 := Lib.hid (World.ownsRow.kept OU2 G (OU2.free H1.out))
      have R1 := HR.out.below HW
      have R5 := Lib.hid (World.ownsRow.kept R1 G (OwnR.free R1 H1.out))
      have Q1 := HRO.out.below HW
      have Q5 := Lib.hid (show RowsO base (w1.setCell ⟨p, 5, none⟩ (.slice Au R.length cu)) rs ps from ⟨Q1.len, fun i hi hg => ⟨(Q1.at' i hi hg).1, World.ownsRow.kept (Q1.at' i hi hg).2 G ((Q1.at' i hi hg).2.free H1.out)⟩⟩)
      have BU := Lib.hid ((Below.but (g := p) (HW.mono HB0.out)).trans (But.set (g := p) (B := base) (w := w1) 5 (.slice Au R.length cu)))
      clear G HW OU2 R1 Q1 q5 q5b q12 q13 s5 f5
      obtain ⟨W9, hW9⟩ : ∃ W, w1.setCell ⟨p, 5, none⟩ (.slice Au R.length cu) = W := ⟨_, rfl⟩
      rw [hW9] at X5 V5 R5 Q5 BU H5
      try rw [hW9]
      clear hW9
      go_wp2_with fail
      go_meet
      exact ⟨Au, R, cu, HRS.out, X5.out, V5.out, R5.out, Q5.out, BU.out, Nat.le_trans HB0.out BU.out.size, H5.out⟩
  case rest =>
    clear PN PV BA K0 O0 X0 HV HR HRO CMi HBX
    obtain ⟨Au, R, cu, hr, hx5, hv, ho, hq, hbu, hsz, hht⟩ := hcut
    have HHT := Lib.hid hht
    clear hht
    have HRS := Lib.hid hr
    have LR := Lib.hid (show R.length ≤ 200000 by have h1 := hr.len; have h2 : val.length ≤ 100000 := HX.out.lenV; simp only [List.length_cons, List.length_nil] at h1; omega)
    obtain ⟨A1, c1, e1, _⟩ := ho.form
    cases e1
    have S0 := Lib.hid (show DropS base p R ps wc (.slice Au R.length cu) Ap cp #[.bool xe, .int .u64 xid, .string xlab, .int .u64 xfr, .int .u64 xtil, .slice Au R.length cu, .slice Ap rs.length cp] w wc 0 rs ps from ⟨hx5, hv, ho, hq, rfl, fun i h g hi => absurd hi (by omega), fun i h g _ => rfl, hbu, hsz, HHT.out⟩)
    have HLN := Lib.hid hq.len
    have x5 := hx5.c
    clear hr hx5 hv ho hq hbu hsz
    go_wp2_with fail
    clear x5
    go_loopw [24] (fun i wr => ∃ (k : Nat) (rs' : List (ByteArray × Value)) (qs : List Prp), k ≤ ps.length ∧ i = .int .i64 k ∧ rs'.length = rs.length ∧ DropS base p R ps wc (.slice Au R.length cu) Ap cp #[.bool xe, .int .u64 xid, .string xlab, .int .u64 xfr, .int .u64 xtil, .slice Au R.length cu, .slice Ap rs.length cp] w wr k rs' qs) (fun i _ => ps.length - (intOf i).toNat)
    case atStart => exact ⟨0, rs, ps, Nat.zero_le _, rfl, rfl, S0.out⟩
    case round =>
      obtain ⟨k, rs', qs, hk, rfl, hrl, hs⟩ := hrel
      have SK := Lib.hid hs
      have RL := Lib.hid hrl
      have h16 : ps.length ≤ 16 := HM.out.num
      clear hs hrl S0
      by_cases hlt : k < ps.length
      · obtain ⟨A1, c1, e1, _, _, hA1⟩ := SK.out.row.form
        cases e1
        obtain ⟨g, rfl, hbg, hlg, hfr, hcs⟩ := hA1 (by rw [RL.out, HLN.out]; omega)
        have hkr : k < rs'.length := by rw [RL.out, HLN.out]; exact hlt
        have hkq : k < qs.length := by rw [SK.out.len]; exact hlt
        have c1 := (hcs k hkr).2
        have f1 := hfr (k * 2 + 1)
        have OL := (SK.out.rows.at' k hkr hkq).2
        rw [SK.out.todo k hlt hkq (Nat.le_refl _)] at OL
        have NX := Lib.hid (fun W u L (h : DropS base p R ps wc (.slice Au R.length cu) (some ⟨g, 0, none⟩) cp #[.bool xe, .int .u64 xid, .string xlab, .int .u64 xfr, .int .u64 xtil, .slice Au R.length cu, .slice (some ⟨g, 0, none⟩) rs.length cp] w W k rs' qs) (hu : OwnL base W u L) (hw : Pl.WithinR okV VP.none ps[k].l R L) => h.next hbg hlt hkr hu hw)
        have HL := Lib.hid ((HM.out.ps.line _ (List.getElem_mem hlt)).1)
        have LL := Lib.hid (HX.out.lenP _ (List.getElem_mem hlt))
        obtain ⟨l, hl⟩ : ∃ l, ps[k].l = l := ⟨_, rfl⟩
        have NX2 := Lib.hid NX.out
        rw [hl] at OL NX2 
        have HL2 : Hid (Pl.Line okV l) := Lib.hid (by rw [← hl]; exact HL.out)
        have LL2 : Hid (l.length ≤ 100000) := Lib.hid (by rw [← hl]; exact LL.out)
        obtain ⟨Al, cl, el, _, _⟩ := OL.at
        rw [el] at c1 OL
        have OLH := Lib.hid OL
        have i0 : (k : Int) < (rs.length : Int) := by rw [HLN.out]; omega
        have i1 : (0 : Int) ≤ (k : Int) := by omega
        clear el hl NX HL LL OL hA1 hfr hcs
        have CWn := Lib.hid (fun W (hb : Below wr.heap.size wr W) => Within_ok (.slice Al l.length cl) (.slice Au R.length cu) l R W (OLH.out.at.below hb) (SK.out.val.at.below hb) (line_w HL2.out) HL2.out LL2.out (by have := LR.out; omega))
        have C1 := Lib.hid c1
        have F1 := Lib.hid f1
        have K0 : Hid (∀ w', Below wr.heap.size wr w' → w'.cell? ⟨p, 6, none⟩ = some (.slice (some ⟨g, 0, none⟩) rs.length cp) ∧ w'.cell? ⟨p, 5, none⟩ = some (.slice Au R.length cu) ∧ w'.cell? ⟨g, k * 2 + 1, none⟩ = some (.slice Al l.length cl)) := Lib.hid fun w' hb => ⟨(SK.out.bx.below hb).c 6, (SK.out.bx.below hb).c 5, (hb.cell (p := ⟨g, k * 2 + 1, none⟩) hlg).trans C1.out⟩
        clear c1 f1
        go_upto_region 5 with fail
        go_region_held3 (fun w' => w'.cell? ⟨p, 6, none⟩ = some (.slice (some ⟨g, 0, none⟩) rs.length cp) ∧ w'.cell? ⟨p, 5, none⟩ = some (.slice Au R.length cu) ∧ w'.cell? ⟨g, k * 2 + 1, none⟩ = some (.slice Al l.length cl)) (first
          | exact K0.out _ (Below.refl _ _).drew
          | exact K0.out _ HV1.out
          | fail) (first
          | (go_at_call 49; (with_reducible refine (CWn.out _ (Below.refl _ _).drew).mono ?_); rintro e v1 ⟨ul, L, rfl, ho, hw, hb⟩; obtain ⟨A2, c2, rfl, _, _⟩ := ho.at; have OU := Lib.hid ho; have HWN := Lib.hid hw; have HV1 := Lib.hid (show Below wr.heap.size wr v1 from (Below.refl _ _).drew.trans hb); clear ho hw hb)
          | fail)
        have s6 := (K0.out _ HV1.out).1
        have s1 := (K0.out _ HV1.out).2.2
        have q1 := (HV1.out.frozen (p := ⟨g, k * 2 + 1, none⟩) hlg).trans F1.out
        have SN := Lib.hid (NX2.out v1 _ L (SK.out.below HV1.out) (OU.out.mono SK.out.sz) HWN.out)
        go_wp2_with fail
        exact ⟨⟨k + 1, _, _, by omega, by go_num, by rw [List.length_set]; exact RL.out, SN.out⟩, by simp [intOf]; omega⟩
      · obtain rfl : k = ps.length := by omega
        have i2 : ¬ ((ps.length : Int) < (rs.length : Int)) := by rw [HLN.out]; omega
        have HCut := Lib.hid SK.out.cut
        go_wp2_with fail
        go_ret
        have hrow := SK.out.row
        rw [RL.out] at hrow
        exact ⟨R, qs, rfl, HRS.out, HCut.out, ⟨Au, R.length, cu, Ap, rs.length, cp, rs', SK.out.bx, SK.out.ht, SK.out.val, hrow, SK.out.rows⟩, SK.out.but⟩
end
end Go.Proofs.YtflgdhhgnbdofaaGreat

