/- One operation on a state in a box: list, change, create, apply. -/
/- One operation on a state in a box: change, create, apply. -/
/- One operation on a state in a box: create. -/
/- One operation on a state in a box: apply. -/
import Derived.Test.YtmolpogehgeebaaGreatmB
import Derived.IntWalk
import Derived.Deep.QuietTactic
import Derived.BigQuiet
namespace Go.Proofs.YtmolpogehgeebaaGreat
open Go.RowKit
theorem rowOpB : (Tryz.prog.info? 35).map (·.size) = some 14 := by kernel_rfl
def jOf (edge : Bool) : Nat := if edge = true then 1 else 0
def St.put (s : St) (edge : Bool) (L : List Ent) : St := if edge = true then ⟨s.ns, L⟩ else ⟨L, s.es⟩
/-- The box p holds a state of one's own. -/
structure SBox (base p : Nat) (w : World) (s : St) : Prop where
  blk : Blk 76 w p
  low : base ≤ p
  box : ∃ vn ve, Bx w p #[vn, ve] ∧ LE base w vn s.ns ∧ LE base w ve s.es ∧ (∀ k, vn.ownBlock = some k → ve.ownBlock ≠ some k)
theorem SBox.below {base p : Nat} {w w' : World} {s : St} (h : SBox base p w s) (hb : Below w.heap.size w w') : SBox base p w' s := by
  obtain ⟨h1, h2, vn, ve, h3, h4, h5, h6⟩ := h
  exact ⟨h1.below hb, h2, vn, ve, h3.below hb, h4.below hb, h5.below hb, h6⟩
theorem LE.blk {base : Nat} {w : World} {v : Value} {l : List Ent} (h : LE base w v l) {k : Nat} (hk : v.ownBlock = some k) : HT w k ∧ base ≤ k ∧ k < w.heap.size := by
  obtain ⟨rs, h1, _, _⟩ := h
  rcases h1.2 with ⟨rfl, _⟩ | ⟨g, cap, cur, rfl, hb, hg, _⟩
  · cases hk
  · have e : g = k := Option.some.inj hk
    subst e
    exact ⟨⟨cur, _, hg⟩, hb, lt_heap hg⟩
theorem Blk.not_ht {t : TypeId} {w : World} {p k : Nat} (h : Blk t w p) (hk : HT w k) (he : t ≠ 38) : p ≠ k := by
  rintro rfl
  obtain ⟨C, fr, h1⟩ := h
  obtain ⟨C', fr', h2⟩ := hk
  rw [h1] at h2
  injection h2 with h2
  injection h2 with _ h3 _
  exact he h3
/-- The list of nodes, or edges, of the state in a box. -/
theorem SBox.get {base p : Nat} {w : World} {s : St} (h : SBox base p w s) (edge : Bool) : ∃ A c, w.cell? ⟨p, jOf edge, none⟩ = some (.slice A (s.list edge).length c) ∧ w.frozen? ⟨p, jOf edge, none⟩ = false ∧ LE base w (.slice A (s.list edge).length c) (s.list edge) := by
  obtain ⟨_, _, vn, ve, h3, h4, h5, _⟩ := h
  cases edge
  · obtain ⟨A, c, rfl, _⟩ := h4.form
    exact ⟨A, c, h3.c 0, h3.fr 0, h4⟩
  · obtain ⟨A, c, rfl, _⟩ := h5.form
    exact ⟨A, c, h3.c 1, h3.fr 1, h5⟩
theorem Bx.grown' {w w' : World} {g k : Nat} {A : Array Value} (h : Bx w g A) (hg : w.grownBy w' (some k)) (hne : g ≠ k) : Bx w' g A := h.grown hg fun q hq e => hne (by rw [← e]; exact (Option.some.inj hq).symm)
/-- One entity of a list changed in place. -/
theorem SBox.change {base p g n c : Nat} {w w' : World} {s : St} {edge : Bool} {A : Option Addr} {L : List Ent} (h : SBox base p w s) (hc : w.cell? ⟨p, jOf edge, none⟩ = some (.slice A n c)) (hA : (Value.slice A n c).ownBlock = some g) (hg : w.grownBy w' (some g)) (hL : LE base w' (.slice A n c) L) : SBox base p w' (s.put edge L) := by
  obtain ⟨h1, h2, vn, ve, h3, h4, h5, h6⟩ := h
  cases edge
  · have e : vn = .slice A n c := Option.some.inj ((h3.c 0).symm.trans hc)
    subst e
    obtain ⟨k1, k2, k3⟩ := h4.blk hA
    have hne := h1.not_ht k1 (by decide)
    exact ⟨h1.grown hg fun e => hne (Option.some.inj e).symm, h2, _, ve, h3.grown' hg hne, hL, h5.kept hg k1 (h6 g hA), h6⟩
  · have e : ve = .slice A n c := Option.some.inj ((h3.c 1).symm.trans hc)
    subst e
    obtain ⟨k1, k2, k3⟩ := h5.blk hA
    have hne := h1.not_ht k1 (by decide)
    exact ⟨h1.grown hg fun e => hne (Option.some.inj e).symm, h2, vn, _, h3.grown' hg hne, h4.kept hg k1 (fun e => h6 g e hA), hL, h6⟩
theorem of_grown {w w' : World} (hg : w.grownBy w' none) : Below w.heap.size w w' := ⟨hg.os, hg.tape, hg.output, hg.size, fun i hi => hg.block i hi (by simp)⟩
theorem LE.kept' {base : Nat} {w w' : World} {v : Value} {l : List Ent} {row : Option Nat} (h : LE base w v l) (hg : w.grownBy w' row) (hq : ∀ q, row = some q → HT w q ∧ v.ownBlock ≠ some q) : LE base w' v l := by
  cases row with
  | none => exact h.below (of_grown hg)
  | some q => exact h.kept hg (hq q rfl).1 (hq q rfl).2
theorem LE.set {base p i : Nat} {w : World} {v u : Value} {l : List Ent} (h : LE base w v l) (hp : Blk 76 w p) : LE base (w.setCell ⟨p, i, none⟩ u) v l := by
  have hg := grownBy_set w p i u
  obtain ⟨rs, h1, h2, h3⟩ := h
  refine ⟨rs, h1.grown hg (.inr (hp.ne h1 (by decide))), fun r hr => ?_, h3⟩
  obtain ⟨sv, sp, ps, e, k1, k2, k3⟩ := h2 r hr
  exact ⟨sv, sp, ps, e, World.ownsRow.kept k1 hg (.inr (hp.ne k1 (by decide))), World.ownsRow.kept k2 hg (.inr (hp.ne k2 (by decide))), k3.len, fun i hi hj => ⟨(k3.at' i hi hj).1, World.ownsRow.kept (k3.at' i hi hj).2 hg (.inr (hp.ne (k3.at' i hi hj).2 (by decide)))⟩⟩
theorem Blk.set {t : TypeId} {w : World} {p : Nat} (h : Blk t w p) (g i : Nat) (v : Value) : Blk t (w.setCell ⟨g, i, none⟩ v) p := by
  obtain ⟨C, fr, h⟩ := h
  by_cases e : g = p
  · subst e
    exact ⟨C.setIfInBounds i v, fr, by simp [World.setCell, Array.getElem?_modify, h]⟩
  · exact ⟨C, fr, (block_set w ⟨g, i, none⟩ v p (fun x => e x.symm)).trans h⟩
/-- A list put into the box, grown by one. -/
theorem SBox.grow {base p n c n' c' : Nat} {w w' : World} {s : St} {edge : Bool} {A A' : Option Addr} {L : List Ent} (h : SBox base p w s) (hc : w.cell? ⟨p, jOf edge, none⟩ = some (.slice A n c)) (hg : w.grownBy w' (Value.slice A n c).ownBlock) (hL : LE base w' (.slice A' n' c') L) (hf : (Value.slice A' n' c').ownBlock = (Value.slice A n c).ownBlock ∨ (Value.slice A' n' c').ownBlock = some w.heap.size) : SBox base p (w'.setCell ⟨p, jOf edge, none⟩ (.slice A' n' c')) (s.put edge L) := by
  obtain ⟨h1, h2, vn, ve, h3, h4, h5, h6⟩ := h
  cases edge
  · have e : vn = .slice A n c := Option.some.inj ((h3.c 0).symm.trans hc)
    subst e
    have hB : ∀ q, (Value.slice A n c).ownBlock = some q → p ≠ q := fun q hq => h1.not_ht (h4.blk hq).1 (by decide)
    have h1' : Blk 76 w' p := h1.grown hg fun e => hB p e rfl
    have h3' : Bx w' p #[.slice A n c, ve] := h3.grown hg fun q hq e => hB q hq e.symm
    have h5' : LE base w' ve s.es := h5.kept' hg fun q hq => ⟨(h4.blk hq).1, h6 q hq⟩
    refine ⟨h1'.set _ _ _, h2, .slice A' n' c', ve, h3'.set 0 _ (by simp), hL.set h1', h5'.set h1', fun k hk => ?_⟩
    rcases hf with hf | hf
    · exact h6 k (hf.symm.trans hk)
    · intro he
      have := (h5.blk he).2.2
      have e : w.heap.size = k := Option.some.inj (hf.symm.trans hk)
      omega
  · have e : ve = .slice A n c := Option.some.inj ((h3.c 1).symm.trans hc)
    subst e
    have hB : ∀ q, (Value.slice A n c).ownBlock = some q → p ≠ q := fun q hq => h1.not_ht (h5.blk hq).1 (by decide)
    have h1' : Blk 76 w' p := h1.grown hg fun e => hB p e rfl
    have h3' : Bx w' p #[vn, .slice A n c] := h3.grown hg fun q hq e => hB q hq e.symm
    have h4' : LE base w' vn s.ns := h4.kept' hg fun q hq => ⟨(h5.blk hq).1, fun e => h6 q e hq⟩
    refine ⟨h1'.set _ _ _, h2, vn, .slice A' n' c', h3'.set 1 _ (by simp), h4'.set h1', hL.set h1', fun k hk he => ?_⟩
    rcases hf with hf | hf
    · exact h6 k hk (hf.symm.trans he)
    · have := (h4.blk hk).2.2
      have e : w.heap.size = k := Option.some.inj (hf.symm.trans he)
      omega
theorem own_noE (base : Nat) (w : World) : EOwn base w (.agg (noE.cells (.slice none 0 0) (.slice none 0 0))) noE := ⟨_, _, [], rfl, Se.OwnP.nil _ _, OwnR.nil _ _, RowsO.nil _ _⟩
/-- append of an entity onto a list of one's own. -/
theorem wpList_appE {ops : Array Oper} {rest : List Oper} {o : Oper} {a : Act} {w : World} {Q : Exit → Act → World → Prop} (hgd : o.guard = none) (s x : Operand)
    (ho : o.op = .call { callee := .builtin .append, args := #[s, x], argTypes := #[74, 74] })
    (base : Nat) (v : Value) (l : List Ent) (hs : a.eval s = v) (hown : LE base w v l) (g : Nat) (hx : a.eval x = .slice (some ⟨g, 0, none⟩) 1 1)
    (hp : ∀ j u, (noE.cells (.slice none 0 0) (.slice none 0 0)).toList[j]? = some u → w.cell? ⟨g, j, none⟩ = some u) (hlen : l.length ≤ 1000000000) (hbase : base ≤ w.heap.size)
    (h : ∀ v' w', LE base w' v' (l ++ [noE]) → w.grownBy w' v.ownBlock → (v'.ownBlock = v.ownBlock ∨ v'.ownBlock = some w.heap.size) → wpList Tryz.prog ops Q rest (a.put o.dst v') w') :
    wpList Tryz.prog ops Q (o :: rest) a w := by
  obtain ⟨rs, h1, h2, rfl⟩ := hown
  rw [List.length_map] at hlen
  obtain ⟨i0, hi, hz0, hz1, hz2⟩ := info_parts infoEnt
  refine wpList_append_own_at _ hgd s x 74 ho base 38 i0 _ 7 96 Tryz.underlying74 hi hz0 hz1 hz2 rfl (by omega) v _ _ hs h1 ⟨g, 0, none⟩ 1 1 (noE.cells (.slice none 0 0) (.slice none 0 0)).toList hx rfl ?_ ?_ (by unfold maxLen; omega) (by omega) hbase ?_
  · intro j u hj
    rw [add_off, Nat.zero_add]
    exact hp j u hj
  · exact fun u hu => Array.all_eq_true_iff_forall_mem.1 (oneE noE rfl rfl) u (Array.mem_toList_iff.1 hu)
  · intro v' w' k1 k2 _ k4
    refine h v' w' ⟨rs ++ [(noE, .slice none 0 0, .slice none 0 0)], ?_, fun r hr => ?_, by rw [List.map_append]; rfl⟩ k2 k4
    · unfold OwnE
      rw [cellsE_append, cellsE_one, List.length_append]
      exact k1
    · rcases List.mem_append.1 hr with hr | hr
      · cases hv : v.ownBlock with
        | none => rw [hv] at k2; exact (h2 r hr).below (of_grown k2)
        | some q =>
          rw [hv] at k2
          exact (h2 r hr).kept k2 (LE.blk ⟨rs, h1, h2, rfl⟩ hv).1
      · rw [List.mem_singleton.1 hr]
        exact own_noE _ _
/-- What Make, Apply of an entity answer. -/
def MakeQ (o : Co.OP) (n : Int) (y : Ent) : Prop := (¬ (o.may ∧ (o.kind = 1 ∨ o.kind = 2)) ∧ n = 1) ∨ (o.may ∧ (o.kind = 1 ∨ o.kind = 2) ∧ n = 0 ∧ y = o.ent)
def ApplyQ (x : Ent) (o : Co.OP) (n : Int) (y : Ent) : Prop := (¬ x.may ∧ n = 5) ∨ (x.may ∧ ¬ FitsE x o ∧ n = 1) ∨ (x.may ∧ FitsE x o ∧ n ≠ 0 ∧ EntRefused x o n) ∨ (x.may ∧ FitsE x o ∧ n = 0 ∧ Applied x o y)
/-- What change leaves. -/
def ChangeEnd (base : Nat) (v : Value) (l : List Ent) (i : Nat) (Q : Int → Ent → Prop) (w : World) (e : Ending) (w' : World) : Prop :=
  ∃ (n : Int) (y : Ent) (g : Nat), e = .returned (.int .i64 n) ∧ Q n y ∧ v.ownBlock = some g ∧ w.grownBy w' (some g) ∧ (n = 0 → LE base w' v (l.set i y))
def StepEnd (base p : Nat) (s : St) (o : Co.OP) (w : World) (e : Ending) (w' : World) : Prop :=
  ∃ n : Int, e = .returned (.int .i64 n) ∧ Below base w w' ∧ ((n = 0 ∧ ∃ z, StepOk s o z ∧ SBox base p w' z) ∨ (n ≠ 0 ∧ StepBad s o n))
theorem toGrown {w w' : World} (hb : Below w.heap.size w w') (row : Option Nat) : w.grownBy w' row := ⟨hb.os, hb.tape, hb.output, hb.size, fun i hi _ => hb.block i hi⟩
section
set_option maxRecDepth 100000
set_option maxHeartbeats 8000000
theorem bList_any (p : Nat) (edge : Bool) (w : World) : Calls Tryz.prog 117 #[.pointer (some ⟨p, 0, none⟩), .bool edge] w fun e w' => e = .returned (.pointer (some ⟨p, jOf edge, none⟩)) ∧ w = w' := by
  cases edge
  all_goals
    go_enter Tryz.func117, Tryz.ntmps117
    go_wp2
    go_ret
    exact ⟨rfl, rfl⟩
end
end Go.Proofs.YtmolpogehgeebaaGreat


namespace Go.Proofs.YtmolpogehgeebaaGreat
open Go.RowKit
section
set_option linter.unusedSimpArgs false
set_option maxRecDepth 100000
set_option maxHeartbeats 8000000
theorem mk1_any (u : Value) (x : Ent) (o : Co.OP) (q : Nat) (w : World) (hu : EAt w u x) (hq : Bx w q o.cells) (hf : o.v.f < 18446744073709551616) :
    Calls Tryz.prog 232 #[u, .pointer (some ⟨q, 0, none⟩)] w (AE (MakeQ o) w) := by
  have CM := Lib.hid (fun W (_ : Below w.heap.size w W) => (show Calls Tryz.prog 16 #[o.val] W (AE (MakeQ o) W) from (Make_any o W hf).mono fun _ _ h => makeAE h))
  obtain ⟨sv, sp, rfl, hv, hp⟩ := hu
  obtain ⟨Av, cv, rfl, _⟩ := hv
  obtain ⟨Ap, cp, rfl, _, _⟩ := hp
  have HQ := Lib.hid hq
  clear hq
  obtain ⟨qo, hqo⟩ : ∃ P, MakeQ o = P := ⟨_, rfl⟩
  rw [hqo] at CM ⊢
  clear hqo
  obtain ⟨xe, xid, xlab, xfr, xtil, xval, xps⟩ := x
  obtain ⟨kind, edge, id, label, fr, til, key, ⟨k, b, n, f, s⟩, pf, pt⟩ := o
  simp only at CM HQ ⊢
  have hsf := store_float
  have B0 := Lib.hid (((Below.refl w.heap.size w).alloc (Nat.le_refl _) (.cells #[.bool xe, .int .u64 xid, .string xlab, .int .u64 xfr, .int .u64 xtil, .slice Av xval.length cv, .slice Ap xps.length cp] 38)).alloc (by simp) (.cells #[.bool false, .int .u64 0, .string ⟨#[]⟩, .int .u64 0, .int .u64 0, .slice none 0 0, .slice none 0 0] 38))
  have O0 := Lib.hid (HQ.out.below B0.out)
  have X0 := Lib.hid ((Bx.new w #[.bool xe, .int .u64 xid, .string xlab, .int .u64 xfr, .int .u64 xtil, .slice Av xval.length cv, .slice Ap xps.length cp] 38).below ((Below.refl _ _).alloc (Nat.le_refl _) (.cells #[.bool false, .int .u64 0, .string ⟨#[]⟩, .int .u64 0, .int .u64 0, .slice none 0 0, .slice none 0 0] 38)))
  have Y0 := Lib.hid (Bx.new (w.alloc (.cells #[.bool xe, .int .u64 xid, .string xlab, .int .u64 xfr, .int .u64 xtil, .slice Av xval.length cv, .slice Ap xps.length cp] 38)) #[.bool false, .int .u64 0, .string ⟨#[]⟩, .int .u64 0, .int .u64 0, .slice none 0 0, .slice none 0 0] 38)
  rw [show (w.alloc (.cells #[.bool xe, .int .u64 xid, .string xlab, .int .u64 xfr, .int .u64 xtil, .slice Av xval.length cv, .slice Ap xps.length cp] 38)).heap.size = w.heap.size + 1 by simp] at Y0
  go_enter Tryz.func232, Tryz.ntmps232
  go_upto_region 1 with fail
  obtain ⟨W0, hW0⟩ : ∃ W, (w.alloc (.cells #[.bool xe, .int .u64 xid, .string xlab, .int .u64 xfr, .int .u64 xtil, .slice Av xval.length cv, .slice Ap xps.length cp] 38)).alloc (.cells #[.bool false, .int .u64 0, .string ⟨#[]⟩, .int .u64 0, .int .u64 0, .slice none 0 0, .slice none 0 0] 38) = W := ⟨_, rfl⟩
  rw [hW0] at B0 O0 X0 Y0
  try rw [hW0]
  clear hW0
  obtain ⟨p2, hp2⟩ : ∃ r, w.heap.size = r := ⟨_, rfl⟩
  obtain ⟨p3, hp3⟩ : ∃ r, w.heap.size + 1 = r := ⟨_, rfl⟩
  have HP := Lib.hid (show w.heap.size ≤ p3 by omega)
  rw [hp3] at Y0
  try rw [hp3]
  rw [hp2] at X0
  try rw [hp2]
  clear hp2 hp3
  have L3 := Lib.hid Y0.out.lt
  have RG := Lib.hid O0.out.rng
  have x0 := X0.out.c
  go_wp2_with (first
    | (refine wpList_load_mid rfl 35 (.tmp 1) rfl q 0 rfl _ _ RG.out Tryz.underlying35 rfl rowOpB ?_)
    | (go_at_call 16; (with_reducible refine (CM.out _ B0.out).mono ?_); rintro e w1 ⟨u1, n1, y, rfl, ho, hb, hqq⟩; obtain ⟨ye, yid, ylab, yfr, ytil, yval, yps⟩ := y; obtain ⟨sv1, sp1, rs1, rfl, hu1, hu2, hu3⟩ := ho; have HU1 := Lib.hid hu1; have HU2 := Lib.hid hu2; have HU3 := Lib.hid hu3; have HQQ := Lib.hid hqq; obtain ⟨Au, cu, rfl, _⟩ := hu1.at; obtain ⟨Aq, cq, rfl, _⟩ := hu2.form; have B1 := Lib.hid (B0.out.trans (hb.mono B0.out.size)); have Y1 := Lib.hid (Y0.out.below hb); clear hb hu1 hu2 hu3 hqq x0; have y0 := Y1.out.c; have y1 := Y1.out.fr)
    | fail)
  obtain ⟨W9, hW9, X9, B9, E9⟩ := res_put (x := ⟨ye, yid, ylab, yfr, ytil, yval, yps⟩) Y1.out HP.out L3.out B0.out.size HU1.out HU2.out HU3.out B1.out B1.out.size
  simp only at hW9
  rw [hW9]
  have HB9 := Lib.hid B9
  have HE9 := Lib.hid E9
  clear hW9 B9 E9 y0 y1
  have s0 := X9.c 0
  have s1 := X9.c 1
  have s2 := X9.c 2
  have s3 := X9.c 3
  have s4 := X9.c 4
  have s5 := X9.c 5
  have s6 := X9.c 6
  try simp only at s0 s1 s2 s3 s4 s5 s6
  refine bodyPost_ret (v := .tuple #[.agg #[.bool ye, .int .u64 yid, .string ylab, .int .u64 yfr, .int .u64 ytil, .slice Au yval.length cu, .slice Aq rs1.length cq], .int .i64 n1]) (by simp [results, Tryz.results232, go_sem, s0, s1, s2, s3, s4, s5, s6]) rfl ?_
  exact ⟨_, _, _, rfl, HE9.out, HB9.out, HQQ.out⟩
theorem ap1_any (u : Value) (x : Ent) (o : Co.OP) (q : Nat) (w : World) (hu : EAt w u x) (hq : Bx w q o.cells) (hx : x.wide) (hvw : o.v.wide) (hf : o.v.f < 18446744073709551616) (hkw : (Lit.int .i64 o.kind).wf = true) :
    Calls Tryz.prog 181 #[u, .pointer (some ⟨q, 0, none⟩)] w (AE (ApplyQ x o) w) := by
  have CM := Lib.hid (fun W (hb : Below w.heap.size w W) => (show Calls Tryz.prog 21 #[u, o.val] W (AE (ApplyQ x o) W) from (Apply_any u x o W (hu.below hb) hx hvw hf hkw).mono fun _ _ h => applyAE h))
  obtain ⟨sv, sp, rfl, hv, hp⟩ := hu
  obtain ⟨Av, cv, rfl, _⟩ := hv
  obtain ⟨Ap, cp, rfl, _, _⟩ := hp
  have HQ := Lib.hid hq
  clear hq
  obtain ⟨qo, hqo⟩ : ∃ P, ApplyQ x o = P := ⟨_, rfl⟩
  rw [hqo] at CM ⊢
  clear hqo
  obtain ⟨xe, xid, xlab, xfr, xtil, xval, xps⟩ := x
  obtain ⟨kind, edge, id, label, fr, til, key, ⟨k, b, n, f, s⟩, pf, pt⟩ := o
  simp only at CM HQ ⊢
  have hsf := store_float
  have B0 := Lib.hid (((Below.refl w.heap.size w).alloc (Nat.le_refl _) (.cells #[.bool xe, .int .u64 xid, .string xlab, .int .u64 xfr, .int .u64 xtil, .slice Av xval.length cv, .slice Ap xps.length cp] 38)).alloc (by simp) (.cells #[.bool false, .int .u64 0, .string ⟨#[]⟩, .int .u64 0, .int .u64 0, .slice none 0 0, .slice none 0 0] 38))
  have O0 := Lib.hid (HQ.out.below B0.out)
  have X0 := Lib.hid ((Bx.new w #[.bool xe, .int .u64 xid, .string xlab, .int .u64 xfr, .int .u64 xtil, .slice Av xval.length cv, .slice Ap xps.length cp] 38).below ((Below.refl _ _).alloc (Nat.le_refl _) (.cells #[.bool false, .int .u64 0, .string ⟨#[]⟩, .int .u64 0, .int .u64 0, .slice none 0 0, .slice none 0 0] 38)))
  have Y0 := Lib.hid (Bx.new (w.alloc (.cells #[.bool xe, .int .u64 xid, .string xlab, .int .u64 xfr, .int .u64 xtil, .slice Av xval.length cv, .slice Ap xps.length cp] 38)) #[.bool false, .int .u64 0, .string ⟨#[]⟩, .int .u64 0, .int .u64 0, .slice none 0 0, .slice none 0 0] 38)
  rw [show (w.alloc (.cells #[.bool xe, .int .u64 xid, .string xlab, .int .u64 xfr, .int .u64 xtil, .slice Av xval.length cv, .slice Ap xps.length cp] 38)).heap.size = w.heap.size + 1 by simp] at Y0
  go_enter Tryz.func181, Tryz.ntmps181
  go_upto_region 1 with fail
  obtain ⟨W0, hW0⟩ : ∃ W, (w.alloc (.cells #[.bool xe, .int .u64 xid, .string xlab, .int .u64 xfr, .int .u64 xtil, .slice Av xval.length cv, .slice Ap xps.length cp] 38)).alloc (.cells #[.bool false, .int .u64 0, .string ⟨#[]⟩, .int .u64 0, .int .u64 0, .slice none 0 0, .slice none 0 0] 38) = W := ⟨_, rfl⟩
  rw [hW0] at B0 O0 X0 Y0
  try rw [hW0]
  clear hW0
  obtain ⟨p2, hp2⟩ : ∃ r, w.heap.size = r := ⟨_, rfl⟩
  obtain ⟨p3, hp3⟩ : ∃ r, w.heap.size + 1 = r := ⟨_, rfl⟩
  have HP := Lib.hid (show w.heap.size ≤ p3 by omega)
  rw [hp3] at Y0
  try rw [hp3]
  rw [hp2] at X0
  try rw [hp2]
  clear hp2 hp3
  have L3 := Lib.hid Y0.out.lt
  have RG := Lib.hid O0.out.rng
  have x0 := X0.out.c
  go_wp2_with (first
    | (refine wpList_load_mid rfl 35 (.tmp 1) rfl q 0 rfl _ _ RG.out Tryz.underlying35 rfl rowOpB ?_)
    | (go_at_call 21; (with_reducible refine (CM.out _ B0.out).mono ?_); rintro e w1 ⟨u1, n1, y, rfl, ho, hb, hqq⟩; obtain ⟨ye, yid, ylab, yfr, ytil, yval, yps⟩ := y; obtain ⟨sv1, sp1, rs1, rfl, hu1, hu2, hu3⟩ := ho; have HU1 := Lib.hid hu1; have HU2 := Lib.hid hu2; have HU3 := Lib.hid hu3; have HQQ := Lib.hid hqq; obtain ⟨Au, cu, rfl, _⟩ := hu1.at; obtain ⟨Aq, cq, rfl, _⟩ := hu2.form; have B1 := Lib.hid (B0.out.trans (hb.mono B0.out.size)); have Y1 := Lib.hid (Y0.out.below hb); clear hb hu1 hu2 hu3 hqq x0; have y0 := Y1.out.c; have y1 := Y1.out.fr)
    | fail)
  obtain ⟨W9, hW9, X9, B9, E9⟩ := res_put (x := ⟨ye, yid, ylab, yfr, ytil, yval, yps⟩) Y1.out HP.out L3.out B0.out.size HU1.out HU2.out HU3.out B1.out B1.out.size
  simp only at hW9
  rw [hW9]
  have HB9 := Lib.hid B9
  have HE9 := Lib.hid E9
  clear hW9 B9 E9 y0 y1
  have s0 := X9.c 0
  have s1 := X9.c 1
  have s2 := X9.c 2
  have s3 := X9.c 3
  have s4 := X9.c 4
  have s5 := X9.c 5
  have s6 := X9.c 6
  try simp only at s0 s1 s2 s3 s4 s5 s6
  refine bodyPost_ret (v := .tuple #[.agg #[.bool ye, .int .u64 yid, .string ylab, .int .u64 yfr, .int .u64 ytil, .slice Au yval.length cu, .slice Aq rs1.length cq], .int .i64 n1]) (by simp [results, Tryz.results181, go_sem, s0, s1, s2, s3, s4, s5, s6]) rfl ?_
  exact ⟨_, _, _, rfl, HE9.out, HB9.out, HQQ.out⟩
theorem mk1_enter : ∀ args w, (callFunc 232 args).run Tryz.prog w = .ok (.enter 232 args) w := enters_of Tryz.func232 (by kernel_rfl) rfl
theorem ap1_enter : ∀ args w, (callFunc 181 args).run Tryz.prog w = .ok (.enter 181 args) w := enters_of Tryz.func181 (by kernel_rfl) rfl
theorem change_any (F : FuncId) (cb : Array Value) (eg : ∀ args w, (callFunc F args).run Tryz.prog w = .ok (.enter F args) w) (base : Nat) (v : Value) (l : List Ent) (i : Nat) (hi : i < l.length) (Q : Int → Ent → Prop) (w : World) (h : LE base w v l) (hl : l.length ≤ 1000000) (hb0 : base ≤ w.heap.size)
    (hF : ∀ u, EAt w u l[i] → Calls Tryz.prog F (#[u] ++ cb) w (AE Q w)) :
    Calls Tryz.prog 180 #[v, .int .u64 ((i : Int) + 1), .func (.func F) #[] cb] w (ChangeEnd base v l i Q w) := by
  obtain ⟨g, c, sv, sp, rfl, hg0, hg1, hht, hfr, r, hown⟩ := h.at i hi
  have HF := Lib.hid (hF _ hown.at)
  have PUT := Lib.hid (fun w2 y sv sp (hb : Below w.heap.size w w2) (hy : EOwn base w2 (.agg (y.cells sv sp)) y) => (h.below hb).put i hi hy)
  have TH := Lib.hid (fun W (hb : Below w.heap.size w W) => (show W.there g (i * 7) 7 from there7 (w := W) (g := g) (o := i * 7) (C := l[i].cells sv sp) (fun j v hv => (hb.cell (p := ⟨g, i * 7 + j, none⟩) hg1).trans (r j v hv)) (fun j => (hb.frozen (p := ⟨g, j, none⟩) hg1).trans (hfr j))))
  have HG := Lib.hid hg1
  have HB0 := Lib.hid hb0
  have R := Lib.hid r
  have i0 : (i : Int) < (l.length : Int) := by omega
  have i1 : (0 : Int) ≤ (i : Int) := by omega
  have i2 : (l.length : Int) ≤ 1000000 := by omega
  obtain ⟨k1, k2⟩ := hown.at.inv
  clear hF h r hown hfr hht hg0 hg1 hb0 hl
  generalize l[i] = x at *
  obtain ⟨xe, xid, xlab, xfr, xtil, xval, xps⟩ := x
  obtain ⟨Av, cv, rfl, _⟩ := k1
  obtain ⟨Ap, cp, rfl, _, _⟩ := k2
  simp only at HF TH R
  go_enter Tryz.func180, Tryz.ntmps180
  go_upto_region 1 with fail
  have r := R.out
  go_wp2_with (refine wpList_load_mid rfl 38 (.tmp 14) rfl g (i * 7) rfl _ _ r Tryz.underlying38 rfl rowEnt ?_)
  clear r
  refine (HF.out).mono ?_
  rintro e w1 ⟨u1, n1, y, rfl, ho, hb, hqq⟩
  have HQQ := Lib.hid hqq
  have HB := Lib.hid hb
  have HO := Lib.hid ho
  obtain ⟨ye, yid, ylab, yfr, ytil, yval, yps⟩ := y
  obtain ⟨sv1, sp1, rs1, rfl, hu1, hu2, hu3⟩ := ho
  obtain ⟨Au, cu, rfl, _⟩ := hu1.at
  obtain ⟨Aq, cq, rfl, _⟩ := hu2.form
  clear hb hu1 hu2 hu3 hqq
  go_upto_region 2 with fail
  have HA1 := Lib.hid ((Below.refl w1.heap.size w1).alloc (Nat.le_refl _) (.cells #[.bool ye, .int .u64 yid, .string ylab, .int .u64 yfr, .int .u64 ytil, .slice Au yval.length cu, .slice Aq rs1.length cq] 38))
  have X1 := Lib.hid (Bx.new w1 #[.bool ye, .int .u64 yid, .string ylab, .int .u64 yfr, .int .u64 ytil, .slice Au yval.length cu, .slice Aq rs1.length cq] 38)
  obtain ⟨V, hV⟩ : ∃ W, w1.alloc (.cells #[.bool ye, .int .u64 yid, .string ylab, .int .u64 yfr, .int .u64 ytil, .slice Au yval.length cu, .slice Aq rs1.length cq] 38) = W := ⟨_, rfl⟩
  rw [hV] at HA1 X1
  try rw [hV]
  clear hV
  have HBV := Lib.hid (HB.out.trans (HA1.out.mono HB.out.size))
  obtain ⟨p7, hp7⟩ : ∃ r, w1.heap.size = r := ⟨_, rfl⟩
  have Z7 := Lib.hid hp7
  rw [hp7] at X1
  try rw [hp7]
  clear hp7
  by_cases hn : n1 = 0
  · subst hn
    have OV := Lib.hid (EOwn.mono (HO.out.below HA1.out) HB0.out)
    have PT := Lib.hid (PUT.out V ⟨ye, yid, ylab, yfr, ytil, yval, yps⟩ _ _ HBV.out OV.out)
    have th := TH.out V HBV.out
    have one := OV.out.one
    have RB := Lib.hid X1.out.rng
    obtain ⟨W9, hW9⟩ : ∃ W, V.setCells g (i * 7) (#[.bool ye, .int .u64 yid, .string ylab, .int .u64 yfr, .int .u64 ytil, .slice Au yval.length cu, .slice Aq rs1.length cq] : Array Value).toList = W := ⟨_, rfl⟩
    have PT9 := Lib.hid (show LE base W9 (.slice (some ⟨g, 0, none⟩) l.length c) (l.set i ⟨ye, yid, ylab, yfr, ytil, yval, yps⟩) ∧ V.grownBy W9 (some g) by rw [← hW9]; exact PT.out)
    clear PT
    go_wp2_with (first
      | (refine wpList_load_mid rfl 38 (.tmp 7) rfl p7 0 rfl _ _ RB.out Tryz.underlying38 rfl rowEnt ?_)
      | (refine wpList_store_mid rfl 38 (.tmp 25) (.tmp 24) rfl g (i * 7) #[.bool ye, .int .u64 yid, .string ylab, .int .u64 yfr, .int .u64 ytil, .slice Au yval.length cu, .slice Aq rs1.length cq] rfl rfl th rowEnt one ?_; rw [hW9])
      | fail)
    go_ret
    exact ⟨0, _, g, rfl, HQQ.out, rfl, (toGrown HBV.out _).trans PT9.out.2, fun _ => PT9.out.1⟩
  · have t0 : (n1 == 0) = false := by simpa using hn
    have HN := Lib.hid hn
    clear hn
    go_wp2_with fail
    go_ret
    exact ⟨n1, _, g, rfl, HQQ.out, rfl, toGrown HBV.out _, fun h => absurd h HN.out⟩
end
end Go.Proofs.YtmolpogehgeebaaGreat


namespace Go.Proofs.YtmolpogehgeebaaGreat
open Go.RowKit
section
set_option linter.unusedSimpArgs false
set_option maxRecDepth 100000
set_option maxHeartbeats 8000000
theorem put_list (s : St) (edge : Bool) (L : List Ent) : (s.put edge L).list edge = L := by cases edge <;> rfl
theorem put_put (s : St) (edge : Bool) (L M : List Ent) : (s.put edge L).put edge M = s.put edge M := by cases edge <;> rfl
theorem step_new {s : St} {o : Co.OP} (hm : o.may) (hk : o.kind = 1 ∨ o.kind = 2) (hid : (o.id : Int) = ((s.list o.edge).length : Int) + 1) (hp : o.kind = 2 → placeB s.ns.length o.fr ∧ placeB s.ns.length o.til) : StepOk s o (s.put o.edge (s.list o.edge ++ [o.ent])) := by
  refine ⟨hm, ?_⟩
  rcases hk with k | k
  · have e := kind1_edge hm k
    rw [e] at hid ⊢
    exact .inl ⟨k, hid, rfl⟩
  · have e := kind2_edge hm k
    rw [e] at hid ⊢
    exact .inr (.inl ⟨k, hid, (hp k).1, (hp k).2, rfl⟩)
theorem step_old {s : St} {o : Co.OP} {i : Nat} {y : Ent} (hm : o.may) (hi : i < (s.list o.edge).length) (hid : (o.id : Int) = (i : Int) + 1) (ha : Applied (s.list o.edge)[i] o y) : StepOk s o (s.put o.edge ((s.list o.edge).set i y)) := by
  refine ⟨hm, ?_⟩
  cases e : o.edge
  · simp only [e, St.list_f] at hi ha
    exact .inr (.inr (.inl ⟨rfl, i, hi, hid, y, ha, rfl⟩))
  · simp only [e, St.list_t] at hi ha
    exact .inr (.inr (.inr ⟨rfl, i, hi, hid, y, ha, rfl⟩))
theorem SBox.kept {base p : Nat} {w w' : World} {s : St} {edge : Bool} {A : Option Addr} {n c : Nat} (h : SBox base p w s) (hc : w.cell? ⟨p, jOf edge, none⟩ = some (.slice A n c)) (hg : w.grownBy w' (Value.slice A n c).ownBlock) : w'.cell? ⟨p, jOf edge, none⟩ = some (.slice A n c) ∧ w'.frozen? ⟨p, jOf edge, none⟩ = false := by
  obtain ⟨h1, h2, vn, ve, h3, h4, h5, h6⟩ := h
  have key : ∀ q, (Value.slice A n c).ownBlock = some q → q ≠ p := fun q hq => by
    cases edge
    · have e : vn = .slice A n c := Option.some.inj ((h3.c 0).symm.trans hc)
      subst e
      exact fun e => h1.not_ht (h4.blk hq).1 (by decide) e.symm
    · have e : ve = .slice A n c := Option.some.inj ((h3.c 1).symm.trans hc)
      subst e
      exact fun e => h1.not_ht (h5.blk hq).1 (by decide) e.symm
  have h3' := h3.grown hg key
  exact ⟨(h3'.c _).trans ((h3.c _).symm.trans hc), h3'.fr _⟩
theorem SBox.made {base p n c n' c' : Nat} {w w1 : World} {s : St} {edge : Bool} {A A' : Option Addr} {l : List Ent} (h : SBox base p w s) (hc : w.cell? ⟨p, jOf edge, none⟩ = some (.slice A n c)) (hg : w.grownBy w1 (Value.slice A n c).ownBlock) (hL : LE base w1 (.slice A' n' c') (l ++ [noE])) (hf : (Value.slice A' n' c').ownBlock = (Value.slice A n c).ownBlock ∨ (Value.slice A' n' c').ownBlock = some w.heap.size) (W3 : World) (hW : w1.setCell ⟨p, jOf edge, none⟩ (.slice A' n' c') = W3) :
    SBox base p W3 (s.put edge (l ++ [noE])) ∧ W3.cell? ⟨p, jOf edge, none⟩ = some (.slice A' n' c') ∧ LE base W3 (.slice A' n' c') (l ++ [noE]) := by
  subst hW
  have h1 := h.grow hc hg hL hf
  have h2 : (w1.setCell ⟨p, jOf edge, none⟩ (.slice A' n' c')).cell? ⟨p, jOf edge, none⟩ = some (.slice A' n' c') := World.cell?_setCell_same _ _ _ (h.kept hc hg).1
  obtain ⟨A2, c2, h3, _, h4⟩ := h1.get edge
  rw [put_list] at h3 h4
  rw [h2] at h3
  rw [← Option.some.inj h3] at h4
  exact ⟨h1, h2, h4⟩
theorem new_cellsE (w : World) : ∀ j u, (noE.cells (.slice none 0 0) (.slice none 0 0)).toList[j]? = some u → (w.alloc (.cells #[.bool false, .int .u64 0, .string ⟨#[]⟩, .int .u64 0, .int .u64 0, .slice none 0 0, .slice none 0 0] 38)).cell? ⟨w.heap.size, j, none⟩ = some u := fun j u hj => by
  rw [(Bx.new w _ _).c j, ← Array.getElem?_toList]; exact hj
theorem plB_yes {n : Nat} {id : Int} (h : placeB n id) : plB n id = true := (plB_iff n id).2 h
theorem plB_no {n : Nat} {id : Int} (h : ¬ placeB n id) : plB n id = false := by
  cases e : plB n id
  · rfl
  · exact absurd ((plB_iff n id).1 e) h
theorem create_any (base p : Nat) (s : St) (o : Co.OP) (w : World) (h : SBox base p w s) (hb0 : base ≤ w.heap.size) (hm : o.may) (hk : o.kind = 1 ∨ o.kind = 2) (hf : o.v.f < 18446744073709551616) (hs1 : s.ns.length ≤ 100000) (hs2 : s.es.length ≤ 100000) :
    Calls Tryz.prog 179 #[.pointer (some ⟨p, 0, none⟩), .pointer (some ⟨p, jOf o.edge, none⟩), o.val] w (StepEnd base p s o w) := by
  have hn : (s.list o.edge).length ≤ 100000 := by cases o.edge <;> assumption
  have SN := fun (h1 : (o.id : Int) = ((s.list o.edge).length : Int) + 1) hp => step_new hm hk h1 hp
  have HBAD1 := Lib.hid (fun (h1 : ¬ (o.id : Int) = ((s.list o.edge).length : Int) + 1) w' (hb : Below base w w') => (show StepEnd base p s o w (.returned (.int .i64 1)) w' from ⟨1, rfl, hb, .inr ⟨by decide, .inr (.inl ⟨hm, hk, h1, rfl⟩)⟩⟩))
  have HBAD2 := Lib.hid (fun (k2 : o.kind = 2) (h1 : (o.id : Int) = ((s.list o.edge).length : Int) + 1) (h2 : ¬ (placeB s.ns.length o.fr ∧ placeB s.ns.length o.til)) w' (hb : Below base w w') => (show StepEnd base p s o w (.returned (.int .i64 34)) w' from ⟨34, rfl, hb, .inr ⟨by decide, .inr (.inr (.inl ⟨hm, k2, h1, h2, rfl⟩))⟩⟩))
  have HMQ := Lib.hid (fun n y (hq : MakeQ o n y) => (show n = 0 ∧ y = o.ent by
    rcases hq with ⟨hq, _⟩ | ⟨_, _, h1, h2⟩
    · exact absurd ⟨hm, hk⟩ hq
    · exact ⟨h1, h2⟩))
  obtain ⟨A, c, hc, hfz, hle⟩ := h.get o.edge
  obtain ⟨An, cn, hcn, _, _⟩ := h.get false
  obtain ⟨l, hl⟩ : ∃ l, s.list o.edge = l := ⟨_, rfl⟩
  rw [hl] at hc hle hn SN HBAD1 HBAD2
  clear hl
  have HOK := Lib.hid (fun (h1 : (o.id : Int) = (l.length : Int) + 1) hp w' (hb : Below base w w') (hx : SBox base p w' (s.put o.edge (l ++ [o.ent]))) => (show StepEnd base p s o w (.returned (.int .i64 0)) w' from ⟨0, rfl, hb, .inl ⟨rfl, _, SN h1 hp, hx⟩⟩))
  have HMADE := Lib.hid (fun W w1 A' n' c' W3 (hb : Below w.heap.size w W) hg hL hf hW => SBox.made (l := l) (w1 := w1) (A' := A') (n' := n') (c' := c') (h.below hb) ((hb.cell (p := ⟨p, jOf o.edge, none⟩) (by obtain ⟨_, _, _, _, hx, _⟩ := h; exact hx.lt)).trans hc) hg hL hf W3 hW)
  have HKEPT := Lib.hid (fun W w1 (hb : Below w.heap.size w W) (hg : W.grownBy w1 (Value.slice A l.length c).ownBlock) => SBox.kept (h.below hb) ((hb.cell (p := ⟨p, jOf o.edge, none⟩) (by obtain ⟨_, _, _, _, hx, _⟩ := h; exact hx.lt)).trans hc) hg)
  have HKEPT2 := Lib.hid (fun W w1 A' n' c' (hx : SBox base p W (s.put o.edge (l ++ [noE]))) (hc' : W.cell? ⟨p, jOf o.edge, none⟩ = some (.slice A' n' c')) (hg : W.grownBy w1 (Value.slice A' n' c').ownBlock) => (SBox.kept hx hc' hg).1)
  have HLOW := Lib.hid h.low
  have HCH := Lib.hid (fun (h1 : (o.id : Int) = (l.length : Int) + 1) W A' n' c' (hL : LE base W (.slice A' n' c') (l ++ [noE])) (hb : base ≤ W.heap.size) q (hq : Bx W q o.cells) => (show Calls Tryz.prog 180 #[.slice A' n' c', .int .u64 (o.id : Int), .func (.func 232) #[] #[.pointer (some ⟨q, 0, none⟩)]] W (ChangeEnd base (.slice A' n' c') (l ++ [noE]) l.length (MakeQ o) W) by
    rw [h1]
    exact change_any 232 #[.pointer (some ⟨q, 0, none⟩)] mk1_enter base (.slice A' n' c') (l ++ [noE]) l.length (by simp) (MakeQ o) W hL (by simp; omega) hb (fun u hu => by
      have e : (l ++ [noE])[l.length]'(by simp) = noE := by simp
      rw [e] at hu
      exact mk1_any u noE o q W hu hq hf)))
  have HFIN := Lib.hid (fun W w' A' n' c' g y (hx : SBox base p W (s.put o.edge (l ++ [noE]))) (hc' : W.cell? ⟨p, jOf o.edge, none⟩ = some (.slice A' n' c')) (hv : (Value.slice A' n' c').ownBlock = some g) (hg : W.grownBy w' (some g)) (hL : LE base w' (.slice A' n' c') ((l ++ [noE]).set l.length y)) (hy : y = o.ent) => (show SBox base p w' (s.put o.edge (l ++ [o.ent])) by
    have h1 := hx.change hc' hv hg hL
    rw [put_put] at h1
    have e : (l ++ [noE]).set l.length y = l ++ [o.ent] := by rw [List.set_append_right _ _ (Nat.le_refl _), Nat.sub_self, hy]; rfl
    rwa [e] at h1))
  have LP := Lib.hid (show p < w.heap.size by obtain ⟨_, _, _, _, hx, _⟩ := h; exact hx.lt)
  have HC := Lib.hid hc
  have HCN := Lib.hid (show w.cell? ⟨p, 0, none⟩ = some (.slice An s.ns.length cn) from hcn)
  have HLE := Lib.hid hle
  have HB0 := Lib.hid hb0
  have HPQ := Lib.hid (fun id W => isPlace_q An s.ns.length cn id W (by omega))
  have i2 : (l.length : Int) ≤ 100000 := by omega
  have i3 : (0 : Int) ≤ (l.length : Int) := by omega
  clear h hle hc hcn hb0 hfz hf SN hn hs1 hs2
  have hsf := store_float
  obtain ⟨PE, hPE⟩ : ∃ P, StepEnd base p s o w = P := ⟨_, rfl⟩
  rw [hPE] at HBAD1 HBAD2 HOK ⊢
  clear hPE
  obtain ⟨PQ, hPQ⟩ : ∃ P, MakeQ o = P := ⟨_, rfl⟩
  rw [hPQ] at HMQ HCH
  clear hPQ
  obtain ⟨eo, heo⟩ : ∃ E, o.ent = E := ⟨_, rfl⟩
  rw [heo] at HMQ HOK HFIN
  clear heo
  obtain ⟨kind, edge, id, label, fr, til, key, ⟨k, b, n, f, s5⟩, pf, pt⟩ := o
  simp only at HBAD1 HBAD2 HMQ HOK HMADE HKEPT HKEPT2 HCH HFIN HC HLE hk ⊢
  obtain ⟨z1, hz1⟩ : ∃ z, s.put edge (l ++ [noE]) = z := ⟨_, rfl⟩
  obtain ⟨z2, hz2⟩ : ∃ z, s.put edge (l ++ [eo]) = z := ⟨_, rfl⟩
  rw [hz1] at HMADE HFIN HKEPT2
  rw [hz2] at HOK HFIN
  clear hz1 hz2
  obtain ⟨j, hj⟩ : ∃ j, jOf edge = j := ⟨_, rfl⟩
  rw [hj] at HMADE HKEPT HKEPT2 HFIN HC ⊢
  clear hj
  have B0 := Lib.hid ((Below.refl w.heap.size w).alloc (Nat.le_refl _) (.cells #[.int .i64 kind, .bool edge, .int .u64 id, .string label, .int .u64 fr, .int .u64 til, .string key, .int .i64 k, .bool b, .int .i64 n, .float .f64 f, .string s5, .int .u64 pf, .int .u64 pt] 35))
  have X0 := Lib.hid (Bx.new w #[.int .i64 kind, .bool edge, .int .u64 id, .string label, .int .u64 fr, .int .u64 til, .string key, .int .i64 k, .bool b, .int .i64 n, .float .f64 f, .string s5, .int .u64 pf, .int .u64 pt] 35)
  have T0 := Lib.hid (Blk.new w #[.int .i64 kind, .bool edge, .int .u64 id, .string label, .int .u64 fr, .int .u64 til, .string key, .int .i64 k, .bool b, .int .i64 n, .float .f64 f, .string s5, .int .u64 pf, .int .u64 pt] 35)
  go_enter Tryz.func179, Tryz.ntmps179
  go_upto_region 1 with fail
  obtain ⟨W0, hW0⟩ : ∃ W, w.alloc (.cells #[.int .i64 kind, .bool edge, .int .u64 id, .string label, .int .u64 fr, .int .u64 til, .string key, .int .i64 k, .bool b, .int .i64 n, .float .f64 f, .string s5, .int .u64 pf, .int .u64 pt] 35) = W := ⟨_, rfl⟩
  rw [hW0] at B0 X0 T0
  try rw [hW0]
  clear hW0
  obtain ⟨q, hq⟩ : ∃ r, w.heap.size = r := ⟨_, rfl⟩
  have HQ := Lib.hid hq
  rw [hq] at X0 T0
  try rw [hq]
  clear hq
  have x0 := X0.out.c
  have y0 := (B0.out.cell (p := ⟨p, j, none⟩) LP.out).trans HC.out
  by_cases hid : (id : Int) = (l.length : Int) + 1
  case neg =>
    have t1 : ((id : Int) != (l.length : Int) + 1) = true := by simpa using hid
    have HR := Lib.hid (HBAD1.out hid)
    clear hid
    have hw1 : IntKind.u64.wrap ((l.length : Int) + 1) = (l.length : Int) + 1 := IntWalk.u64_in _ ⟨by omega, by omega⟩
    have hw2 : IntKind.u64.wrap (l.length : Int) = (l.length : Int) := IntWalk.u64_in _ ⟨by omega, by omega⟩
    go_quiet (fail)
    go_wp2_with fail
    first | exact HR.out _ (bel_drewN nq (B0.out.mono HB0.out)) | (go_ret; exact HR.out _ (bel_drewN nq (B0.out.mono HB0.out)))
  have t1 : ((id : Int) != (l.length : Int) + 1) = false := by simpa using hid
  have HID := Lib.hid hid
  clear hid
  have hw1 : IntKind.u64.wrap ((l.length : Int) + 1) = (l.length : Int) + 1 := IntWalk.u64_in _ ⟨by omega, by omega⟩
  have hw2 : IntKind.u64.wrap (l.length : Int) = (l.length : Int) := IntWalk.u64_in _ ⟨by omega, by omega⟩
  go_quiet (fail)
  clear hw1 hw2
  go_upto_region 3 with fail
  have B1 := Lib.hid (bel_drewN nq B0.out)
  have X1 := Lib.hid (X0.out.below (bel_drewN nq (Below.refl W0.heap.size W0)))
  have B12 := Lib.hid (bel_drewN nq (Below.refl W0.heap.size W0))
  obtain ⟨W1, hW1⟩ : ∃ W, W0.drewN nq = W := ⟨_, rfl⟩
  rw [hW1] at B1 X1 B12
  try rw [hW1]
  clear hW1 x0 y0 t1
  have x0 := X1.out.c
  have y0 := (B1.out.cell (p := ⟨p, j, none⟩) LP.out).trans HC.out
  have y1 := (B1.out.cell (p := ⟨p, 0, none⟩) LP.out).trans HCN.out
  go_cut [37] from 16 to 37 (fun t wd => ∃ c : Bool, t = .bool c ∧ ((c = true ∧ kind = 2 ∧ ¬ (placeB s.ns.length fr ∧ placeB s.ns.length til)) ∨ (c = false ∧ (kind = 2 → placeB s.ns.length fr ∧ placeB s.ns.length til))) ∧ Below W1.heap.size W1 wd)
  case first =>
    rcases hk with rfl | rfl
    · go_quiet (fail)
      go_wp2_with fail
      go_meet
      exact ⟨false, rfl, .inr ⟨rfl, fun h => absurd h (by decide)⟩, bel_drewN nq (Below.refl _ _)⟩
    · by_cases hp1 : placeB s.ns.length fr
      · by_cases hp2 : placeB s.ns.length til
        · have CP1 := Lib.hid (fun W => HPQ.out fr W)
          have CP2 := Lib.hid (fun W => HPQ.out til W)
          rw [plB_yes hp1] at CP1
          rw [plB_yes hp2] at CP2
          have HH := Lib.hid (And.intro hp1 hp2)
          clear hp1 hp2
          go_quiet (first | (go_at_call 113; with_reducible exact Calls.quiet_of_same (CP1.out _)) | (go_at_call 113; with_reducible exact Calls.quiet_of_same (CP2.out _)))
          go_wp2_with fail
          go_meet
          exact ⟨false, rfl, .inr ⟨rfl, fun _ => HH.out⟩, bel_drewN nq (Below.refl _ _)⟩
        · have CP1 := Lib.hid (fun W => HPQ.out fr W)
          have CP2 := Lib.hid (fun W => HPQ.out til W)
          rw [plB_yes hp1] at CP1
          rw [plB_no hp2] at CP2
          have HH := Lib.hid (show ¬ (placeB s.ns.length fr ∧ placeB s.ns.length til) from fun h => hp2 h.2)
          clear hp1 hp2
          go_quiet (first | (go_at_call 113; with_reducible exact Calls.quiet_of_same (CP1.out _)) | (go_at_call 113; with_reducible exact Calls.quiet_of_same (CP2.out _)))
          go_wp2_with fail
          go_meet
          exact ⟨true, rfl, .inl ⟨rfl, by trivial, HH.out⟩, bel_drewN nq (Below.refl _ _)⟩
      · have CP1 := Lib.hid (fun W => HPQ.out fr W)
        rw [plB_no hp1] at CP1
        have HH := Lib.hid (show ¬ (placeB s.ns.length fr ∧ placeB s.ns.length til) from fun h => hp1 h.1)
        clear hp1
        go_quiet ((go_at_call 113; with_reducible exact Calls.quiet_of_same (CP1.out _)))
        go_wp2_with fail
        go_meet
        exact ⟨true, rfl, .inl ⟨rfl, by trivial, HH.out⟩, bel_drewN nq (Below.refl _ _)⟩
  case rest =>
    obtain ⟨cc, rfl, hcc, hbd⟩ := hcut
    have HCC := Lib.hid hcc
    have B2 := Lib.hid (B1.out.trans (hbd.mono B1.out.size))
    have X2 := Lib.hid (X1.out.below hbd)
    have hbd2 := Lib.hid hbd
    clear hcc hbd x0 y0 y1
    obtain ⟨W2, rfl⟩ : ∃ x : World, x = wc := ⟨_, rfl⟩
    cases cc
    case true =>
      have HR := Lib.hid (by
        rcases HCC.out with ⟨_, k2, hnp⟩ | ⟨h, _⟩
        · exact HBAD2.out k2 HID.out hnp
        · cases h)
      go_wp2_with fail
      first | exact HR.out _ (B2.out.mono HB0.out) | (go_ret; exact HR.out _ (B2.out.mono HB0.out))
    case false =>
      have HP2 := Lib.hid (show kind = 2 → placeB s.ns.length fr ∧ placeB s.ns.length til by
        rcases HCC.out with ⟨h, _⟩ | ⟨_, h⟩
        · cases h
        · exact h)
      have y0 := (B2.out.cell (p := ⟨p, j, none⟩) LP.out).trans HC.out
      have BN := Lib.hid (B2.out.alloc (by have := B2.out.size; omega) (.cells #[.bool false, .int .u64 0, .string ⟨#[]⟩, .int .u64 0, .int .u64 0, .slice none 0 0, .slice none 0 0] 38))
      have LEN := Lib.hid (HLE.out.below BN.out)
      have NC := Lib.hid (new_cellsE W2)
      have SZ := Lib.hid (Nat.le_trans HB0.out BN.out.size)
      have XN := Lib.hid (X2.out.below ((Below.refl W2.heap.size W2).alloc (Nat.le_refl _) (.cells #[.bool false, .int .u64 0, .string ⟨#[]⟩, .int .u64 0, .int .u64 0, .slice none 0 0, .slice none 0 0] 38)))
      have TN := Lib.hid ((T0.out.below (B12.out.trans (hbd2.out.mono B12.out.size))).below ((Below.refl W2.heap.size W2).alloc (Nat.le_refl _) (.cells #[.bool false, .int .u64 0, .string ⟨#[]⟩, .int .u64 0, .int .u64 0, .slice none 0 0, .slice none 0 0] 38)))
      go_upto_region 6 with (at_builtin; refine wpList_appE rfl (.tmp 41) (.tmp 43) rfl base (.slice A l.length c) l rfl LEN.out W2.heap.size rfl NC.out (by omega) SZ.out ?_; intro v' w3 hl3 hg3 hf3; obtain ⟨A', c', e', _, _⟩ := hl3.form; have e2 : (l ++ [noE]).length = l.length + 1 := (by simp); rw [e2] at e'; clear e2; subst e'; have hk3 := HKEPT.out _ _ BN.out hg3; have HM3 := Lib.hid (HMADE.out _ w3 A' (l.length + 1) c' _ BN.out hg3 hl3 hf3 rfl); have RK := Lib.hid (fun k hk => LEN.out.blk (k := k) hk); have B3 := Lib.hid ((((BN.out.mono HB0.out).grown hg3 SZ.out fun k hk => (RK.out k hk).2.1)).setCell (p := ⟨p, j, none⟩) HLOW.out (.slice A' (l.length + 1) c')); have X3 := Lib.hid ((XN.out.grown hg3 fun k hk e => TN.out.not_ht (RK.out k hk).1 (by decide) e.symm).other (g := p) j (.slice A' (l.length + 1) c') (by have := HQ.out; have := LP.out; omega)); have T3 := Lib.hid ((TN.out.grown hg3 fun e => TN.out.not_ht (RK.out q e).1 (by decide) rfl).set p j (.slice A' (l.length + 1) c')); have y3 := hk3.1; have y4 := hk3.2; clear hl3 hg3 hf3 hk3 y0)
      clear y3 y4
      obtain ⟨W3, hW3⟩ : ∃ W, w3.setCell ⟨p, j, none⟩ (.slice A' (l.length + 1) c') = W := ⟨_, rfl⟩
      rw [hW3] at HM3 B3 X3 T3
      try rw [hW3]
      clear hW3
      have SB3 := Lib.hid HM3.out.1
      have y0 := HM3.out.2.1
      have LE3 := Lib.hid HM3.out.2.2
      have Y0 := Lib.hid y0
      clear HM3 y0
      have DR := Lib.hid (show Below W3.heap.size W3 W3.drew from (Below.refl _ _).drew)
      have SZ3 := Lib.hid (show base ≤ W3.drew.heap.size from Nat.le_trans (Nat.le_trans HB0.out B3.out.size) DR.out.size)
      have SBD := Lib.hid (SB3.out.below DR.out)
      have LED := Lib.hid (LE3.out.below DR.out)
      have XD := Lib.hid (X3.out.below DR.out)
      have TD := Lib.hid (T3.out.below DR.out)
      have YD := Lib.hid (show W3.drew.cell? ⟨p, j, none⟩ = some (.slice A' (l.length + 1) c') from Y0.out)
      have CHD := Lib.hid (HCH.out HID.out W3.drew A' (l.length + 1) c' LED.out SZ3.out q XD.out)
      have KE := Lib.hid (fun w4 g (hv : (Value.slice A' (l.length + 1) c').ownBlock = some g) (hg : W3.drew.grownBy w4 (some g)) => And.intro (HKEPT2.out W3.drew w4 A' (l.length + 1) c' SBD.out YD.out (by rw [hv]; exact hg)) ((XD.out.grown' hg (TD.out.not_ht (LED.out.blk hv).1 (by decide))).c 2))
      go_region_held3 (fun w' => w'.cell? ⟨p, j, none⟩ = some (.slice A' (l.length + 1) c') ∧ w'.cell? ⟨q, 2, none⟩ = some (.int .u64 (id : Int))) (first
        | exact ⟨YD.out, XD.out.c 2⟩
        | exact K4.out
        | fail) (first
        | (go_at_call 180; (with_reducible refine (CHD.out).mono ?_); rintro e w4 ⟨m, y, g, rfl, hq4, hv, hg, hL4⟩; have K4 := Lib.hid (KE.out w4 g hv hg); have HQ4 := Lib.hid (HMQ.out m y hq4); have HV := Lib.hid hv; have HG := Lib.hid hg; have HL4 := Lib.hid hL4; clear hq4 hv hg hL4)
        | fail)
      have HR := Lib.hid (HOK.out HID.out HP2.out w4 (((B3.out.trans (DR.out.mono (Nat.le_trans HB0.out B3.out.size)))).grown HG.out SZ3.out fun k hk => by have e : g = k := Option.some.inj hk; subst e; exact (LED.out.blk HV.out).2.1) (HFIN.out W3.drew w4 A' (l.length + 1) c' g y SBD.out YD.out HV.out HG.out (HL4.out HQ4.out.1) HQ4.out.2))
      have hm0 := HQ4.out.1
      subst hm0
      go_wp2_with fail
      first | exact HR.out | (go_ret; exact HR.out)
end
end Go.Proofs.YtmolpogehgeebaaGreat


namespace Go.Proofs.YtmolpogehgeebaaGreat
open Go.RowKit
section
set_option linter.unusedSimpArgs false
set_option maxRecDepth 100000
set_option maxHeartbeats 8000000
theorem kind_old {o : Co.OP} (hm : o.may) (hn : ¬ isNew o) : o.kind = 3 ∨ o.kind = 4 ∨ o.kind = 5 := by
  unfold isNew at hn
  rcases hm.2.2.2 with h | h | h | h
  · exact absurd (.inl h.1) hn
  · exact absurd (.inr h.1) hn
  · rcases h.1 with h | h <;> omega
  · have := h.1; omega
theorem St.sound.list {s : St} (h : s.sound) (edge : Bool) : MayL (s.list edge) edge := by
  cases edge
  · exact h.ns
  · exact h.es
theorem applyQ_fit {s : St} {o : Co.OP} {i : Nat} {n : Int} {y : Ent} (hs : s.sound) (hm : o.may) (hn : ¬ isNew o) (hi : i < (s.list o.edge).length) (hid : (o.id : Int) = (i : Int) + 1) (h : ApplyQ (s.list o.edge)[i] o n y) : (n ≠ 0 ∧ StepBad s o n) ∨ (n = 0 ∧ Applied (s.list o.edge)[i] o y) := by
  obtain ⟨h1, h2, h3⟩ := hs.list o.edge i hi
  have hfit : FitsE (s.list o.edge)[i] o := ⟨kind_old hm hn, hm, h1.symm, hid.trans h2.symm⟩
  rcases h with ⟨h, _⟩ | ⟨_, h, _⟩ | ⟨_, _, h, hr⟩ | ⟨_, _, h, ha⟩
  · exact absurd h3 h
  · exact absurd hfit h
  · exact .inl ⟨h, .inr (.inr (.inr (.inr ⟨hm, hn, i, hi, hid, hr⟩)))⟩
  · exact .inr ⟨h, ha⟩
theorem apply_any (base p : Nat) (s : St) (o : Co.OP) (w : World) (h : SBox base p w s) (hb0 : base ≤ w.heap.size) (hs : s.sound) (hw : ∀ x ∈ s.list o.edge, x.wide) (hvw : o.v.wide) (hf : o.v.f < 18446744073709551616) (hkw : (Lit.int .i64 o.kind).wf = true) (hs1 : s.ns.length ≤ 100000) (hs2 : s.es.length ≤ 100000) :
    Calls Tryz.prog 111 #[.pointer (some ⟨p, 0, none⟩), o.val] w (StepEnd base p s o w) := by
  have hn : (s.list o.edge).length ≤ 100000 := by cases o.edge <;> assumption
  have CM := Lib.hid (fun W => Co.MayOp_any o hf W)
  have CL := Lib.hid (fun W => bList_any p o.edge W)
  have CC := Lib.hid (fun W (hb : Below w.heap.size w W) (hm : o.may) (hk : o.kind = 1 ∨ o.kind = 2) => create_any base p s o W (h.below hb) (Nat.le_trans hb0 hb.size) hm hk hf hs1 hs2)
  have HCC := Lib.hid (fun W e w' (hb : Below w.heap.size w W) (hx : StepEnd base p s o W e w') => (show StepEnd base p s o w e w' by
    obtain ⟨n, h1, h2, h3⟩ := hx
    exact ⟨n, h1, (hb.mono hb0).trans h2, h3⟩))
  have HBAD1 := Lib.hid (fun (hm : ¬ o.may) w' (hb : Below base w w') => (show StepEnd base p s o w (.returned (.int .i64 1)) w' from ⟨1, rfl, hb, .inr ⟨by decide, .inl ⟨hm, rfl⟩⟩⟩))
  have HBAD2 := Lib.hid (fun (hm : o.may) (hnew : ¬ isNew o) (hp : ¬ placeB (s.list o.edge).length o.id) w' (hb : Below base w w') => (show StepEnd base p s o w (.returned (.int .i64 34)) w' from ⟨34, rfl, hb, .inr ⟨by decide, .inr (.inr (.inr (.inl ⟨hm, hnew, hp, rfl⟩)))⟩⟩))
  obtain ⟨A, c, hc, hfz, hle⟩ := h.get o.edge
  have HCH := Lib.hid (fun i (hi : i < (s.list o.edge).length) (hid : (o.id : Int) = (i : Int) + 1) W (hb : Below w.heap.size w W) q (hq : Bx W q o.cells) => (show Calls Tryz.prog 180 #[.slice A (s.list o.edge).length c, .int .u64 (o.id : Int), .func (.func 181) #[] #[.pointer (some ⟨q, 0, none⟩)]] W (ChangeEnd base (.slice A (s.list o.edge).length c) (s.list o.edge) i (ApplyQ (s.list o.edge)[i] o) W) by
    rw [hid]
    exact change_any 181 #[.pointer (some ⟨q, 0, none⟩)] ap1_enter base _ (s.list o.edge) i hi _ W (hle.below hb) (by omega) (Nat.le_trans hb0 hb.size) (fun u hu => ap1_any u _ o q W hu hq (hw _ (List.getElem_mem hi)) hvw hf hkw)))
  have HFIN := Lib.hid (fun i (hi : i < (s.list o.edge).length) (hid : (o.id : Int) = (i : Int) + 1) (hm : o.may) (hnew : ¬ isNew o) W e w' (hb : Below w.heap.size w W) (hx : ChangeEnd base (.slice A (s.list o.edge).length c) (s.list o.edge) i (ApplyQ (s.list o.edge)[i] o) W e w') => (show StepEnd base p s o w e w' by
    obtain ⟨n, y, g, h1, h2, h3, h4, h5⟩ := hx
    have hcW := (hb.cell (p := ⟨p, jOf o.edge, none⟩) (by obtain ⟨_, _, _, _, hx, _⟩ := h; exact hx.lt)).trans hc
    have hbw : Below base w w' := (hb.mono hb0).grown h4 (Nat.le_trans hb0 hb.size) fun k hk => by
      have e : g = k := Option.some.inj hk
      subst e
      exact ((hle.below hb).blk h3).2.1
    refine ⟨n, h1, hbw, ?_⟩
    rcases applyQ_fit hs hm hnew hi hid h2 with ⟨k1, k2⟩ | ⟨k1, k2⟩
    · exact .inr ⟨k1, k2⟩
    · exact .inl ⟨k1, _, step_old hm hi hid k2, (h.below hb).change hcW h3 h4 (h5 k1)⟩))
  have HKP := Lib.hid (fun W w4 g (hb : Below w.heap.size w W) (hv : (Value.slice A (s.list o.edge).length c).ownBlock = some g) (hg : W.grownBy w4 (some g)) => (SBox.kept (h.below hb) ((hb.cell (p := ⟨p, jOf o.edge, none⟩) (by obtain ⟨_, _, _, _, hx, _⟩ := h; exact hx.lt)).trans hc) (by rw [hv]; exact hg)).1)
  have HBK := Lib.hid (fun W g (hb : Below w.heap.size w W) (hv : (Value.slice A (s.list o.edge).length c).ownBlock = some g) => ((hle.below hb).blk hv).1)
  have LP := Lib.hid (show p < w.heap.size by obtain ⟨_, _, _, _, hx, _⟩ := h; exact hx.lt)
  have HC := Lib.hid hc
  have HB0 := Lib.hid hb0
  have HPQ := Lib.hid (fun W => isPlace_q A (s.list o.edge).length c o.id W (by omega))
  clear h hle hc hb0 hfz hf hs hw hvw hkw hn hs1 hs2
  have hsf := store_float
  obtain ⟨PE, hPE⟩ : ∃ P, StepEnd base p s o w = P := ⟨_, rfl⟩
  rw [hPE] at HBAD1 HBAD2 HCC HFIN ⊢
  clear hPE
  obtain ⟨kind, edge, id, label, fr, til, key, ⟨k, b, n, f, s5⟩, pf, pt⟩ := o
  simp only at CM CL CC HCC HBAD1 HBAD2 HCH HFIN HC HPQ HKP HBK ⊢
  generalize s.list edge = l at *
  obtain ⟨j, hj⟩ : ∃ j, jOf edge = j := ⟨_, rfl⟩
  rw [hj] at CL CC HC HKP
  clear hj
  have B0 := Lib.hid ((Below.refl w.heap.size w).alloc (Nat.le_refl _) (.cells #[.int .i64 kind, .bool edge, .int .u64 id, .string label, .int .u64 fr, .int .u64 til, .string key, .int .i64 k, .bool b, .int .i64 n, .float .f64 f, .string s5, .int .u64 pf, .int .u64 pt] 35))
  have X0 := Lib.hid (Bx.new w #[.int .i64 kind, .bool edge, .int .u64 id, .string label, .int .u64 fr, .int .u64 til, .string key, .int .i64 k, .bool b, .int .i64 n, .float .f64 f, .string s5, .int .u64 pf, .int .u64 pt] 35)
  have T0 := Lib.hid (Blk.new w #[.int .i64 kind, .bool edge, .int .u64 id, .string label, .int .u64 fr, .int .u64 til, .string key, .int .i64 k, .bool b, .int .i64 n, .float .f64 f, .string s5, .int .u64 pf, .int .u64 pt] 35)
  go_enter Tryz.func111, Tryz.ntmps111
  go_upto_region 1 with fail
  obtain ⟨W0, hW0⟩ : ∃ W, w.alloc (.cells #[.int .i64 kind, .bool edge, .int .u64 id, .string label, .int .u64 fr, .int .u64 til, .string key, .int .i64 k, .bool b, .int .i64 n, .float .f64 f, .string s5, .int .u64 pf, .int .u64 pt] 35) = W := ⟨_, rfl⟩
  rw [hW0] at B0 X0 T0
  try rw [hW0]
  clear hW0
  obtain ⟨q, hq⟩ : ∃ r, w.heap.size = r := ⟨_, rfl⟩
  rw [hq] at X0 T0
  try rw [hq]
  clear hq
  have RG := Lib.hid X0.out.rng
  go_upto_region 3 with (first
    | (refine wpList_load_mid rfl 35 (.tmp 3) rfl q 0 rfl _ _ RG.out Tryz.underlying35 rfl rowOpB ?_)
    | (go_at_call 79; (with_reducible refine (CM.out _).mono ?_); rintro e w1 ⟨c1, rfl, hc1, hb⟩; have HC1 := Lib.hid hc1; have B1 := Lib.hid (B0.out.trans (hb.mono B0.out.size)); have X1 := Lib.hid (X0.out.below hb); have T1 := Lib.hid (T0.out.below hb); clear hb hc1; cases c1)
    | fail)
  · have HR := Lib.hid (HBAD1.out (fun h => by have := HC1.out.2 h; cases this) _ (B1.out.mono HB0.out))
    first | exact HR.out | (go_ret; exact HR.out)
  have HM := Lib.hid (HC1.out.1 (by trivial))
  have x0 := X1.out.c
  go_upto_region 4 with (first
    | (go_at_call 117; (with_reducible refine (CL.out _).mono ?_); rintro e w2 ⟨rfl, rfl⟩)
    | fail)
  by_cases hk : kind = 1 ∨ kind = 2
  · have HK := Lib.hid hk
    have RG1 := Lib.hid X1.out.rng
    rcases hk with rfl | rfl
    all_goals
      go_wp2_with (first
        | (refine wpList_load_mid rfl 35 (.tmp 3) rfl q 0 rfl _ _ RG1.out Tryz.underlying35 rfl rowOpB ?_)
        | (go_at_call 179; (with_reducible refine (CC.out _ B1.out HM.out HK.out).mono ?_); intro e w3 hx; have HX := Lib.hid (HCC.out _ _ _ B1.out hx); obtain ⟨n3, rfl, _, _⟩ := hx)
        | fail)
      first | exact HX.out | (go_ret; exact HX.out)
  · have t1 : (kind == 1) = false := by simpa using fun h => hk (.inl h)
    have t2 : (kind == 2) = false := by simpa using fun h => hk (.inr h)
    have HNW := Lib.hid (show ¬ isNew ⟨kind, edge, id, label, fr, til, key, ⟨k, b, n, f, s5⟩, pf, pt⟩ from hk)
    clear hk
    have y0 := (B1.out.cell (p := ⟨p, j, none⟩) LP.out).trans HC.out
    go_upto_region 6 with fail
    clear t1 t2
    by_cases hp : placeB l.length (id : Int)
    · have CP := Lib.hid (fun W => HPQ.out W)
      rw [plB_yes hp] at CP
      obtain ⟨i, hi, hid⟩ : ∃ i, i < l.length ∧ (id : Int) = (i : Int) + 1 := ⟨((id : Int) - 1).toNat, by unfold placeB at hp; omega, by unfold placeB at hp; omega⟩
      have CHW := Lib.hid (fun W hb hq => HCH.out i hi hid W hb q hq)
      have FIN := Lib.hid (HFIN.out i hi hid HM.out HNW.out)
      clear hp hid
      go_quiet ((go_at_call 113; with_reducible exact Calls.quiet_of_same (CP.out _)))
      go_upto_region 8 with fail
      have B2 := Lib.hid (bel_drewN nq B1.out)
      have X2 := Lib.hid (X1.out.below (bel_drewN nq (Below.refl w1.heap.size w1)))
      have T2 := Lib.hid (T1.out.below (bel_drewN nq (Below.refl w1.heap.size w1)))
      obtain ⟨W2, hW2⟩ : ∃ W, w1.drewN nq = W := ⟨_, rfl⟩
      rw [hW2] at B2 X2 T2
      try rw [hW2]
      clear hW2 x0 y0
      have DR := Lib.hid (show Below W2.heap.size W2 W2.drew from (Below.refl _ _).drew)
      have BD := Lib.hid (B2.out.trans (DR.out.mono B2.out.size))
      have XD := Lib.hid (X2.out.below DR.out)
      have CHD := Lib.hid (CHW.out W2.drew BD.out XD.out)
      have YD := Lib.hid ((BD.out.cell (p := ⟨p, j, none⟩) LP.out).trans HC.out)
      have TD := Lib.hid ((T2.out).below DR.out)
      have KE := Lib.hid (fun w4 g (hv : (Value.slice A l.length c).ownBlock = some g) (hg : W2.drew.grownBy w4 (some g)) => And.intro (HKP.out W2.drew w4 g BD.out hv hg) ((XD.out.grown' hg (TD.out.not_ht (HBK.out W2.drew g BD.out hv) (by decide))).c 2))
      go_region_held3 (fun w' => w'.cell? ⟨p, j, none⟩ = some (.slice A l.length c) ∧ w'.cell? ⟨q, 2, none⟩ = some (.int .u64 (id : Int))) (first
        | exact ⟨YD.out, XD.out.c 2⟩
        | exact K4.out
        | fail) (first
        | (go_at_call 180; (with_reducible refine (CHD.out).mono ?_); intro e w4 hx; have HX := Lib.hid (FIN.out W2.drew _ _ BD.out hx); obtain ⟨n4, y4, g4, rfl, _, hv, hg, _⟩ := hx; have K4 := Lib.hid (KE.out w4 g4 hv hg); clear hv hg)
        | fail)
      go_wp2_with fail
      first | exact HX.out | (go_ret; exact HX.out)
    · have CP := Lib.hid (fun W => HPQ.out W)
      rw [plB_no hp] at CP
      have HR := Lib.hid (HBAD2.out HM.out HNW.out hp)
      clear hp
      go_quiet ((go_at_call 113; with_reducible exact Calls.quiet_of_same (CP.out _)))
      go_wp2_with fail
      first | exact HR.out _ ((bel_drewN nq B1.out).mono HB0.out) | (go_ret; exact HR.out _ ((bel_drewN nq B1.out).mono HB0.out))
end
end Go.Proofs.YtmolpogehgeebaaGreat


