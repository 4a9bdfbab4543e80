/- The library's Insert, of one property: at any place. -/
/- The effects of an operation on an entity in a box: set. -/
import Derived.Test.YtmolpogehgeebaaGreatbEC1
namespace Go.Proofs.YtmolpogehgeebaaGreat
open Go.RowKit
theorem wpList_appR {ops : Array Oper} {rest : List Oper} {o : Oper} {a : Act} {w : World} {Q : Exit → Act → World → Prop} (hgd : o.guard = none) (s x : Operand)
    (ho : o.op = .call { callee := .builtin .append, args := #[s, x], argTypes := #[36, 36] })
    (base : Nat) (v : Value) (L : List (ByteArray × Value)) (hs : a.eval s = v) (hown : OwnR base w v L) (g : Nat) (p : ByteArray × Value) (hp1 : p.2.oneCell' = true) (hx : a.eval x = .slice (some ⟨g, 0, none⟩) 1 1)
    (hp : ∀ j u, (rowC p).toList[j]? = some u → w.cell? ⟨g, j, none⟩ = some u) (hlen : L.length ≤ 1000000000) (hbase : base ≤ w.heap.size)
    (h : ∀ v' w', OwnR base w' v' (L ++ [p]) → w.grownBy w' v.ownBlock → wpList Tryz.prog ops Q rest (a.put o.dst v') w') :
    wpList Tryz.prog ops Q (o :: rest) a w := by
  obtain ⟨i0, hi, hz0, hz1, hz2⟩ := info_parts infoE
  refine wpList_append_own_at _ hgd s x 36 ho base 62 i0 _ 2 40 Tryz.underlying36 hi hz0 hz1 hz2 rfl (by omega) v _ _ hs hown ⟨g, 0, none⟩ 1 1 (rowC p).toList hx rfl ?_ ?_ (by unfold maxLen; omega) (by omega) hbase ?_
  · intro j u hj
    rw [add_off, Nat.zero_add]
    exact hp j u hj
  · exact fun u hu => Array.all_eq_true_iff_forall_mem.1 (oneC p hp1) u (by simpa using hu)
  · intro v' w' h1 h2 h3 _
    refine h v' w' ?_ h2
    unfold OwnR
    rw [cellsR_append, cellsR_one, List.length_append]
    exact h1
section
set_option maxRecDepth 100000
set_option maxHeartbeats 8000000
theorem Insert_endR (base : Nat) (gv : Nat) (v : Value) (l : List (ByteArray × Value)) (x : ByteArray × Value) (w : World) (h : OwnR base w v l) (hx1 : x.2.oneCell' = true) (hl : l.length ≤ 1000000)
    (hv : w.heap[gv]? = some (.cells (rowC x) 62 (0, 0))) (hbase : base ≤ w.heap.size) :
    Calls Tryz.prog 200 #[v, .int .i64 l.length, .slice (some ⟨gv, 0, none⟩) 1 1] w fun e w' => ∃ u, e = .returned u ∧ OwnR base w' u (l ++ [x]) ∧ w.grownBy w' v.ownBlock := by
  have HO := Lib.hid h
  have HC := Lib.hid (show ∀ j u, (rowC x).toList[j]? = some u → w.cell? ⟨gv, j, none⟩ = some u from fun j u hj => by rw [cell_of_row _ gv j _ _ _ hv, ← Array.getElem?_toList]; exact hj)
  have HB := Lib.hid hbase
  have HX1 := Lib.hid hx1
  obtain ⟨A, c, rfl, _, _, _⟩ := h.form
  clear h hv hbase hx1
  have b1 : (0 : Int) ≤ (l.length : Int) := by omega
  go_enter Tryz.func200, Tryz.ntmps200
  go_wp2_with (at_builtin; refine wpList_appR rfl (.tmp 23) (.tmp 24) rfl base (.slice A l.length c) l rfl HO.out gv x HX1.out rfl HC.out (by omega) HB.out ?_; intro v2 w2 ho2 hb2; have HO2 := Lib.hid ho2; have HB2 := Lib.hid (show ∀ cc, w.grownBy w2 (Value.slice A l.length cc).ownBlock from fun cc => by cases A <;> exact hb2); clear ho2 hb2)
  all_goals
    go_ret
    exact ⟨_, rfl, HO2.out, HB2.out _⟩
theorem Insert_anyR (base : Nat) (gv i : Nat) (v : Value) (l : List (ByteArray × Value)) (x : ByteArray × Value) (w : World) (h : OwnR base w v l) (hone : ∀ r ∈ l, r.2.oneCell' = true) (hx1 : x.2.oneCell' = true) (hi : i ≤ l.length) (hl : l.length ≤ 1000000)
    (hv : w.heap[gv]? = some (.cells (rowC x) 62 (0, 0))) (hbase : base ≤ w.heap.size) (hne : v.ownBlock ≠ some gv) :
    Calls Tryz.prog 200 #[v, .int .i64 i, .slice (some ⟨gv, 0, none⟩) 1 1] w fun e w' => ∃ u, e = .returned u ∧ OwnR base w' u (l.take i ++ x :: l.drop i) ∧ w.grownBy w' v.ownBlock := by
  rcases Nat.lt_or_ge i l.length with hlt | hge
  · obtain ⟨A, c, rfl, _, hc9, hA⟩ := h.form
    obtain ⟨g, rfl, _⟩ := hA (by omega)
    rcases Nat.lt_or_ge c (l.length + 1) with hc | hc
    · exact Insert_growR base g c gv 1 i l x w h hone hx1 hlt hc (by omega) hv hbase
    · exact Insert_roomR base g c gv 1 i l x w h hone hx1 hlt hc hc9 hv (fun e => hne (by rw [e]; rfl))
  · obtain rfl : i = l.length := by omega
    rw [List.take_length, List.drop_length]
    exact Insert_endR base gv v l x w h hx1 hl hv hbase
end
theorem RowsO.one {base : Nat} {w : World} {rs : List (ByteArray × Value)} {ps : List Prp} (h : RowsO base w rs ps) : ∀ r ∈ rs, r.2.oneCell' = true := fun r hr => by
  obtain ⟨i, hi, rfl⟩ := List.getElem_of_mem hr
  obtain ⟨A, c, e, _⟩ := (h.at' i hi (by rw [← h.len]; exact hi)).2.at
  rw [e]; rfl
theorem RowsO.insert {base : Nat} {w : World} {rs : List (ByteArray × Value)} {ps : List Prp} (h : RowsO base w rs ps) (i : Nat) (hi : i ≤ rs.length) {k : ByteArray} {u : Value} {l : List Pie} (hu : OwnL base w u l) : RowsO base w (rs.take i ++ (k, u) :: rs.drop i) (ps.take i ++ ⟨k, l⟩ :: ps.drop i) := by
  have hl := h.len
  refine ⟨by simp [hl], fun j hj hg => ?_⟩
  rcases Nat.lt_trichotomy j i with c | c | c
  · rw [List.getElem_append_left (by simp; omega), List.getElem_append_left (by simp; omega), List.getElem_take, List.getElem_take]
    exact h.at' j _ _
  · subst c
    have e1 : (rs.take j).length = j := by simp; omega
    have e2 : (ps.take j).length = j := by simp; omega
    rw [List.getElem_append_right (by omega), List.getElem_append_right (by omega)]
    simp only [e1, e2, Nat.sub_self, List.getElem_cons_zero]
    first | exact ⟨rfl, hu⟩ | exact ⟨trivial, hu⟩
  · have e1 : (rs.take i).length = i := by simp; omega
    have e2 : (ps.take i).length = i := by simp; omega
    rw [List.getElem_append_right (by omega), List.getElem_append_right (by omega)]
    obtain ⟨m, hm⟩ : ∃ m, j - i = m + 1 := ⟨j - i - 1, by omega⟩
    simp only [e1, e2, hm, List.getElem_cons_succ, List.getElem_drop]
    exact h.at' _ _ _
end Go.Proofs.YtmolpogehgeebaaGreat


namespace Go.Proofs.YtmolpogehgeebaaGreat
open Go.RowKit
theorem HT.lt {w : World} {p : Nat} (h : HT w p) : p < w.heap.size := by
  obtain ⟨C, fr, h⟩ := h
  exact (Array.getElem?_eq_some_iff.1 h).1
theorem HT.grown {w w' : World} {p : Nat} {row : Option Nat} (h : HT w p) (hg : w.grownBy w' row) (hne : ∀ q, row = some q → p ≠ q) : HT w' p := by
  have hl := h.lt
  obtain ⟨C, fr, h⟩ := h
  exact ⟨C, fr, (hg.block p hl fun e => hne p e.symm rfl).trans h⟩
/-- Ready for the line of a key: at place i lies the line that it had, and whatever is put there is that key's. -/
structure Ready (base p : Nat) (x : Ent) (key : ByteArray) (i : Nat) (w0 w : World) (uv : Value) (A : Option Addr) (c : Nat) (rs : List (ByteArray × Value)) (qs : List Prp) : Prop where
  bx : Bx w p (x.cells uv (.slice A rs.length c))
  val : Se.OwnP base w uv x.val
  row : OwnR base w (.slice A rs.length c) rs
  rows : RowsO base w rs qs
  at' : ∃ h : i < qs.length, qs[i] = ⟨key, lineK x.ps key⟩
  put : ∀ L, Put x.ps key L (qs.set i ⟨key, L⟩)
  num : qs.length ≤ 16
  but : But p base w0 w
  sz : base ≤ w.heap.size
  ht : HT w p
theorem Ready.below {base p : Nat} {x : Ent} {key : ByteArray} {i : Nat} {w0 w w' : World} {uv : Value} {A : Option Addr} {c : Nat} {rs : List (ByteArray × Value)} {qs : List Prp} (h : Ready base p x key i w0 w uv A c rs qs) (hb : Below w.heap.size w w') : Ready base p x key i w0 w' uv A c rs qs :=
  ⟨h.bx.below hb, h.val.below hb, h.row.below hb, h.rows.below hb, h.at', h.put, h.num, h.but.trans (Below.but (hb.mono h.sz)), Nat.le_trans h.sz hb.size, h.ht.below hb⟩
theorem list_put {α : Type} (l : List α) (i : Nat) (hi : i ≤ l.length) (a b : α) : (l.take i ++ a :: l.drop i).set i b = l.take i ++ b :: l.drop i := by
  rw [List.set_append_right _ _ (by simp; omega)]
  simp [Nat.min_eq_left hi]
/-- What set leaves. -/
def SetEnd (base p : Nat) (x : Ent) (key : ByteArray) (v : VP) (c d : Int) (w : World) (e : Ending) (w' : World) : Prop := ∃ n : Int, e = .returned (.int .i64 n) ∧ But p base w w' ∧
  ((¬ Se.Iset.covers x.val [(c, d)] ∧ n = 34) ∨ (Se.Iset.covers x.val [(c, d)] ∧ (∀ q ∈ x.ps, q.k ≠ key) ∧ v.k = 0 ∧ n = 0 ∧ Held base p w' x) ∨
   (Se.Iset.covers x.val [(c, d)] ∧ (∀ q ∈ x.ps, q.k ≠ key) ∧ v.k ≠ 0 ∧ x.ps.length = 16 ∧ n = 3) ∨
   (Se.Iset.covers x.val [(c, d)] ∧ n = 0 ∧ ∃ qs L, Put x.ps key L qs ∧ Pl.SetR okV VP.none (lineK x.ps key) c d v L ∧ qs.length ≤ 16 ∧ Held base p w' { x with ps := qs }))
theorem lineK_len {ps : List Prp} {n : Nat} (h : ∀ p ∈ ps, p.l.length ≤ n) (k : ByteArray) : (lineK ps k).length ≤ n := by
  rcases lineK_case ps k with ⟨p, hp, _, e⟩ | ⟨_, e⟩
  · rw [e]; exact h p hp
  · rw [e]; simp
section
set_option maxRecDepth 100000
set_option maxHeartbeats 16000000
theorem set_any (base p : Nat) (x : Ent) (kind : Int) (edge : Bool) (id : Int) (label : ByteArray) (fr til : Int) (key : ByteArray) (v : VP) (c d : Int) (w : World) (h : Held base p w x) (hb0 : base ≤ w.heap.size) (hx : x.wide) (hm : x.may) (hcd : 0 ≤ c ∧ 0 ≤ d) (hp : c < d ∧ d ≤ 1099511627776) (hk : key.size ≤ 1000) (hv : setP v) (hvw : v.wide) :
    Calls Tryz.prog 155 #[.pointer (some ⟨p, 0, none⟩), .agg (opCells kind edge id label fr til key v c d)] w (SetEnd base p x key v c d w) := by
  have HM := Lib.hid hm
  have HCDP := Lib.hid hp
  have HVS := Lib.hid (And.intro hv hvw)
  have CK := Lib.hid (fun W => strsClone_any key W hk)
  obtain ⟨Av, nv, cv, Ap, np, cp, rs, hbx, hpb, hvv, hr, hro⟩ := h
  obtain rfl : nv = x.val.length := by
    obtain ⟨A1, c1, e, _⟩ := hvv.at
    cases e; rfl
  obtain rfl : np = rs.length := by
    obtain ⟨A1, c1, e, _⟩ := hr.form
    cases e; rfl
  have HBX := Lib.hid hbx
  have HV := Lib.hid hvv
  have HR := Lib.hid hr
  have HRO := Lib.hid hro
  have HX := Lib.hid hx
  have HPB := Lib.hid hpb
  have HB0 := Lib.hid hb0
  have HN := Lib.hid hro.len
  have CC := Lib.hid (fun W va vb (h1 : Se.IsP W va x.val) (h2 : Se.IsP W vb [(c, d)]) => Se.Covers_any va vb x.val [(c, d)] W h1 h2 hx.val (fun p h => by rw [List.mem_singleton] at h; subst h; exact hcd) (by have := hx.lenV; omega) (by simp))
  have CF := Lib.hid (fun W u (h : SP W u x.ps) => find_any u x.ps key W h hm.ps.row (by have := hm.num; omega))
  clear hbx hpb hvv hr hro hx hb0 hcd hm hp hv hvw hk
  obtain ⟨xe, xid, xlab, xfr, xtil, val, ps⟩ := x
  obtain ⟨k, b, n, f, s⟩ := v
  simp only at HBX HV HR HRO CC CF HN
  have hsf := store_float
  have B0 := Lib.hid ((Below.refl w.heap.size w).alloc (Nat.le_refl _) (.cells #[.int .i64 kind, .bool edge, .int .u64 id, .string label, .int .u64 fr, .int .u64 til, .string key, .int .i64 k, .bool b, .int .i64 n, .float .f64 f, .string s, .int .u64 c, .int .u64 d] 35))
  have O0 := Lib.hid (Bx.new w #[.int .i64 kind, .bool edge, .int .u64 id, .string label, .int .u64 fr, .int .u64 til, .string key, .int .i64 k, .bool b, .int .i64 n, .float .f64 f, .string s, .int .u64 c, .int .u64 d] 35)
  have X0 := Lib.hid (HBX.out.below B0.out)
  go_enter Tryz.func155, Tryz.ntmps155
  go_upto_region 1 with fail
  obtain ⟨W0, hW0⟩ : ∃ W, w.alloc (.cells #[.int .i64 kind, .bool edge, .int .u64 id, .string label, .int .u64 fr, .int .u64 til, .string key, .int .i64 k, .bool b, .int .i64 n, .float .f64 f, .string s, .int .u64 c, .int .u64 d] 35) = W := ⟨_, rfl⟩
  rw [hW0] at B0 O0 X0
  try rw [hW0]
  clear hW0
  obtain ⟨po, hpo⟩ : ∃ q, w.heap.size = q := ⟨_, rfl⟩
  rw [hpo] at O0
  try rw [hpo]
  have HQL := Lib.hid (show ∀ q, (Value.slice Ap rs.length cp).ownBlock = some q → base ≤ q ∧ q < po from fun q hq => by
    have := World.ownsRow.lt HR.out q hq
    omega)
  have HPO := Lib.hid (show po ≠ p by have h1 := HPB.out.lt; omega)
  clear hpo
  have K0 : Hid (∀ w', Below W0.heap.size W0 w' → w'.cell? ⟨p, 5, none⟩ = some (.slice Av val.length cv) ∧ w'.cell? ⟨po, 12, none⟩ = some (.int .u64 c) ∧ w'.cell? ⟨po, 13, none⟩ = some (.int .u64 d)) := Lib.hid fun w' hb => ⟨(X0.out.below hb).c 5, (O0.out.below hb).c 12, (O0.out.below hb).c 13⟩
  have BA := Lib.hid ((Below.refl W0.heap.size W0).alloc (Nat.le_refl _) (.cells #[.int .u64 c, .int .u64 d] 33)).drew
  have PN := Lib.hid (show Se.IsP (W0.alloc (.cells #[.int .u64 c, .int .u64 d] 33)).drew (.slice (some ⟨W0.heap.size, 0, none⟩) 1 1) [(c, d)] from Se.IsP.below (isP_new W0 [(c, d)] 33 1 1 rfl) (Below.refl _ _).drew)
  have PV := Lib.hid (HV.out.at.below (B0.out.trans (BA.out.mono B0.out.size)))
  have LG := Lib.hid X0.out.lt
  clear K0
  have K0 : Hid (∀ w', Below W0.heap.size W0 w' → w'.cell? ⟨p, 5, none⟩ = some (.slice Av val.length cv) ∧ w'.cell? ⟨po, 12, none⟩ = some (.int .u64 c) ∧ w'.cell? ⟨po, 13, none⟩ = some (.int .u64 d)) := Lib.hid fun w' hb => ⟨(X0.out.below hb).c 5, (O0.out.below hb).c 12, (O0.out.below hb).c 13⟩
  go_region_held3 (fun w' => w'.cell? ⟨p, 5, none⟩ = some (.slice Av val.length cv) ∧ w'.cell? ⟨po, 12, none⟩ = some (.int .u64 c) ∧ w'.cell? ⟨po, 13, none⟩ = some (.int .u64 d)) (first
    | exact K0.out _ (Below.refl _ _).drew
    | exact K0.out _ HU1.out
    | exact K0.out _ BA.out
    | exact ⟨rfl, (O0.out.below HU1.out).c 12, (O0.out.below HU1.out).c 13⟩
    | fail) (first
    | (go_at_call 26; (with_reducible refine (CC.out _ _ _ PV.out PN.out).mono ?_); rintro e w1 ⟨r, rfl, hr, hb⟩; have HCV := Lib.hid hr; have HU1 := Lib.hid (show Below W0.heap.size W0 w1 from BA.out.trans (hb.mono BA.out.size)); clear hr hb)
    | fail)
  have HW1 := Lib.hid (B0.out.trans (HU1.out.mono B0.out.size))
  have BU1 := Lib.hid (Below.but (g := p) (HW1.out.mono HB0.out))
  cases r
  · have HNC := Lib.hid (show ¬ Se.Iset.covers val [(c, d)] from fun h => by have := HCV.out.2 h; cases this)
    go_wp2_with fail
    go_ret
    exact ⟨34, rfl, BU1.out, .inl ⟨HNC.out, rfl⟩⟩
  have HYC := Lib.hid (HCV.out.1 rfl)
  clear HCV CC PV PN BA K0
  have X1 := Lib.hid (X0.out.below HU1.out)
  have O1 := Lib.hid (O0.out.below HU1.out)
  have V1 := Lib.hid (HV.out.below HW1.out)
  have R1 := Lib.hid (HR.out.below HW1.out)
  have Q1 := Lib.hid (HRO.out.below HW1.out)
  have SP1 := Lib.hid (R1.out.sp Q1.out)
  clear X0 O0 HV HR HRO HBX
  have K1 : Hid (∀ w', Below w1.heap.size w1 w' → w'.cell? ⟨p, 6, none⟩ = some (.slice Ap rs.length cp) ∧ w'.cell? ⟨po, 6, none⟩ = some (.string key)) := Lib.hid fun w' hb => ⟨(X1.out.below hb).c 6, (O1.out.below hb).c 6⟩
  go_upto_region 3 with fail
  go_region_held3 (fun w' => w'.cell? ⟨p, 6, none⟩ = some (.slice Ap rs.length cp) ∧ w'.cell? ⟨po, 6, none⟩ = some (.string key)) (first
    | exact K1.out _ (Below.refl _ _).drew
    | exact K1.out _ HU2.out
    | fail) (first
    | (go_at_call 172; (with_reducible refine (CF.out _ _ (SP1.out.below (Below.refl _ _).drew)).mono ?_); rintro e w2 ⟨i, r, rfl, hpl, hr, hb⟩; have HPL := Lib.hid hpl; have HRR := Lib.hid hr; have HU2 := Lib.hid (show Below w1.heap.size w1 w2 from (Below.refl _ _).drew.trans hb); clear hpl hr hb)
    | fail)
  have HW2 := Lib.hid (HW1.out.trans (HU2.out.mono HW1.out.size))
  have BU2 := Lib.hid (Below.but (g := p) (HW2.out.mono HB0.out))
  have X2 := Lib.hid (X1.out.below HU2.out)
  have O2 := Lib.hid (O1.out.below HU2.out)
  have V2 := Lib.hid (V1.out.below HU2.out)
  have R2 := Lib.hid (R1.out.below HU2.out)
  have Q2 := Lib.hid (Q1.out.below HU2.out)
  have H16 := Lib.hid (show ps.length ≤ 16 from HM.out.num)
  have HPR := Lib.hid (show ps.Pairwise fun p q => ltS p.k q.k from HM.out.ps.row)
  have SZ2 := Lib.hid (Nat.le_trans HB0.out HW2.out.size)
  have HT2 := Lib.hid (HPB.out.below HW2.out)
  have HQP := Lib.hid (show ∀ q, (Value.slice Ap rs.length cp).ownBlock = some q → p ≠ q from fun q hq e => by
    rcases OwnR.free R2.out HT2.out with h | h
    · rw [h] at hq
      cases hq
    · exact h (by rw [hq, e]))
  clear X1 O1 V1 R1 Q1 SP1 CF K1 HU1 HW1 BU1
  go_upto_block 0 with fail
  go_cut [] from 28 to 55 (fun wd => ∃ A' c' rs' qs, Ready base p ⟨xe, xid, xlab, xfr, xtil, val, ps⟩ key i w wd (.slice Av val.length cv) A' c' rs' qs ∧ Bx wd po #[.int .i64 kind, .bool edge, .int .u64 id, .string label, .int .u64 fr, .int .u64 til, .string key, .int .i64 k, .bool b, .int .i64 n, .float .f64 f, .string s, .int .u64 c, .int .u64 d])
  case first =>
    cases r
    · have HNK := Lib.hid (show ∀ q ∈ ps, q.k ≠ key from (HPL.out.there HPR.out).2 fun g e => by
        have := HRR.out.2 ⟨g, e⟩
        cases this)
      have o7 : w2.cell? ⟨po, 7, none⟩ = some (.int .i64 k) := O2.out.c 7
      have x6 : w2.cell? ⟨p, 6, none⟩ = some (.slice Ap rs.length cp) := X2.out.c 6
      by_cases hk0 : k = 0
      · have t0 : (k == 0) = true := by simpa using hk0
        have HK0 := Lib.hid hk0
        clear hk0
        go_wp2_with fail
        go_ret
        exact ⟨0, rfl, BU2.out, .inr (.inl ⟨HYC.out, HNK.out, HK0.out, rfl, ⟨Av, val.length, cv, Ap, rs.length, cp, rs, X2.out, HT2.out, V2.out, R2.out, Q2.out⟩⟩)⟩
      · have t0 : (k == 0) = false := by simpa using hk0
        have HK0 := Lib.hid hk0
        clear hk0
        by_cases h16 : rs.length = 16
        · have HE16 := Lib.hid (show ps.length = 16 by rw [← HN.out]; exact h16)
          have t1 : ((rs.length : Int) == 16) = true := by rw [h16]; rfl
          clear h16
          go_wp2_with fail
          go_ret
          exact ⟨3, rfl, BU2.out, .inr (.inr (.inl ⟨HYC.out, HNK.out, HK0.out, HE16.out, rfl⟩))⟩
        · have t1 : ((rs.length : Int) == 16) = false := by rw [beq_eq_false_iff_ne]; omega
          have HL16 := Lib.hid (show ps.length < 16 by have := H16.out; have := HN.out; omega)
          have HI1 := Lib.hid (show i ≤ rs.length by rw [HN.out]; exact HPL.out.le)
          have CI := Lib.hid (fun W gv (h : OwnR base W (.slice Ap rs.length cp) rs) (hv : W.heap[gv]? = some (.cells #[.string key, .slice none 0 0] 62 (0, 0))) (hb : base ≤ W.heap.size) (hne : (Value.slice Ap rs.length cp).ownBlock ≠ some gv) => Insert_anyR base gv i _ rs (key, .slice none 0 0) W h Q2.out.one rfl HI1.out (by have := HL16.out; have := HN.out; omega) hv hb hne)
          have o6 : w2.cell? ⟨po, 6, none⟩ = some (.string key) := O2.out.c 6
          clear h16
          go_upto_region 4 with fail
          go_region_law (first
            | (go_simp; go_at_call 80; (with_reducible refine (CK.out _).mono ?_); rintro e w3 ⟨rfl, hb⟩; have HU3 := Lib.hid (show Below w2.heap.size w2 w3 from (Below.refl _ _).drew.trans hb); have x6b := (X2.out.below HU3.out).c 6; have x6c := (X2.out.below (show Below w2.heap.size w2 (w3.alloc (.cells #[.string key, .slice none 0 0] 62)) from HU3.out.alloc HU3.out.size _)).c 6; clear hb)
            | (go_simp; go_at_call 200; (refine (CI.out _ w3.heap.size (OwnR.below R2.out (HU3.out.alloc HU3.out.size _)) (heap_alloc_new w3 _) (Nat.le_trans SZ2.out (Nat.le_trans HU3.out.size (by simp))) (fun e => absurd (World.ownsRow.lt R2.out _ e).2 (by have := HU3.out.size; omega))).mono ?_); rintro e w4 ⟨ui, rfl, ho, hg⟩; obtain ⟨ri, hri⟩ : ∃ r, rs.take i ++ (key, Value.slice none 0 0) :: rs.drop i = r := ⟨_, rfl⟩; rw [hri] at ho; have HRI := Lib.hid hri; clear hri; obtain ⟨A4, c4, rfl, _, _, _⟩ := ho.form; have OI := Lib.hid ho; have HG4 := Lib.hid hg; have HU4 := Lib.hid (show Below w2.heap.size w2 (w3.alloc (.cells #[.string key, .slice none 0 0] 62)) from HU3.out.alloc HU3.out.size _); have X4 := Lib.hid ((X2.out.below HU4.out).grown hg fun q hq => by { have h1 := HQP.out q hq; omega }); have s6 := X4.out.c 6; have f6 := X4.out.fr 6; clear ho hg)
            | fail)
          all_goals
            have H4 := Lib.hid ((HT2.out.below HU4.out).grown HG4.out HQP.out)
            have H6 := Lib.hid (H4.out.set p 6 (.slice A4 ri.length c4))
            have G6 := grownBy_set w4 p 6 (.slice A4 ri.length c4)
            have Q3 := Q2.out.below HU4.out
            have R3 := R2.out.below HU4.out
            have V3 := V2.out.below HU4.out
            have hil := HI1.out
            have Q4 : RowsO base w4 rs ps := ⟨Q3.len, fun j hj hg => ⟨(Q3.at' j hj hg).1, World.ownsRow.kept (Q3.at' j hj hg).2 HG4.out (apart_LR (Q3.at' j hj hg).2 R3)⟩⟩
            have V4 := World.ownsRow.kept V3 HG4.out (apart_PR V3 R3)
            have Q5 := Q4.insert i hil (k := key) (OwnL.nil base w4)
            rw [HRI.out] at Q5
            have Q6 := Lib.hid (show RowsO base (w4.setCell ⟨p, 6, none⟩ (.slice A4 ri.length c4)) ri (ps.take i ++ ⟨key, []⟩ :: ps.drop i) from ⟨Q5.len, fun j hj hg => ⟨(Q5.at' j hj hg).1, World.ownsRow.kept (Q5.at' j hj hg).2 G6 ((Q5.at' j hj hg).2.free H4.out)⟩⟩)
            have V6 := Lib.hid (World.ownsRow.kept V4 G6 (Se.OwnP.free V4 H4.out))
            have R6 := Lib.hid (World.ownsRow.kept OI.out G6 (OwnR.free OI.out H4.out))
            have X6 := Lib.hid (show Bx (w4.setCell ⟨p, 6, none⟩ (.slice A4 ri.length c4)) p #[.bool xe, .int .u64 xid, .string xlab, .int .u64 xfr, .int .u64 xtil, .slice Av val.length cv, .slice A4 ri.length c4] from X4.out.set 6 _ (by simp))
            have BE : Below base (w3.alloc (.cells #[.string key, .slice none 0 0] 62)) w4 := (Below.refl base _).grown HG4.out (Nat.le_trans SZ2.out HU4.out.size) fun q hq => (HQL.out q hq).1
            have B6 := Lib.hid (((BU2.out.trans (Below.but (HU4.out.mono SZ2.out))).trans (Below.but BE)).trans (But.set (g := p) (B := base) (w := w4) 6 (.slice A4 ri.length c4)))
            have O6 := Lib.hid (((O2.out.below HU4.out).grown HG4.out fun q hq => by { have h1 := HQL.out q hq; omega }).other (g := p) 6 (.slice A4 ri.length c4) HPO.out)
            have AT : Hid (∃ h : i < (ps.take i ++ ⟨key, []⟩ :: ps.drop i).length, (ps.take i ++ (⟨key, []⟩ : Prp) :: ps.drop i)[i] = ⟨key, lineK ps key⟩) := Lib.hid (by
              have hl := HPL.out.le
              refine ⟨by simp; omega, ?_⟩
              rw [List.getElem_append_right (by simp; omega)]
              simp [Nat.min_eq_left hl, lineK_none HNK.out])
            have PT : Hid (∀ L, Put ps key L ((ps.take i ++ (⟨key, []⟩ : Prp) :: ps.drop i).set i ⟨key, L⟩)) := Lib.hid fun L => by
              rw [list_put ps i HPL.out.le]
              exact put_insert HPR.out HPL.out fun g => HNK.out _ (List.getElem_mem g)
            have NM : Hid ((ps.take i ++ (⟨key, []⟩ : Prp) :: ps.drop i).length ≤ 16) := Lib.hid (by have h1 := HL16.out; have h2 := HPL.out.le; simp; omega)
            obtain ⟨W6, hW6⟩ : ∃ W, w4.setCell ⟨p, 6, none⟩ (.slice A4 ri.length c4) = W := ⟨_, rfl⟩
            rw [hW6] at Q6 V6 R6 X6 B6 O6 H6
            try rw [hW6]
            clear hW6 G6 Q3 R3 V3 Q4 V4 Q5 BE s6 f6 x6 x6b x6c o6
            go_wp2_with fail
            go_meet
            exact ⟨A4, c4, _, _, ⟨X6.out, V6.out, R6.out, Q6.out, AT.out, PT.out, NM.out, B6.out, Nat.le_trans HB0.out B6.out.size, H6.out⟩, O6.out⟩
    · obtain ⟨hi, he⟩ := HRR.out.1 rfl
      have HP := Lib.hid (fun L => put_set (L := L) HPR.out hi he)
      have HLK := Lib.hid ((HPL.out.there HPR.out).1 hi he)
      have HE : Hid (ps[i] = ⟨key, lineK ps key⟩) := Lib.hid (by rw [HLK.out, ← he])
      have HI := Lib.hid hi
      clear he
      go_wp2_with fail
      go_meet
      exact ⟨Ap, cp, rs, ps, ⟨X2.out, V2.out, R2.out, Q2.out, ⟨HI.out, HE.out⟩, HP.out, H16.out, BU2.out, SZ2.out, HT2.out⟩, O2.out⟩
  case rest =>
    obtain ⟨A', c', rs', qs, hrd, hob⟩ := hcut
    have RD := Lib.hid hrd
    have OB := Lib.hid hob
    obtain ⟨hiq, heq⟩ := hrd.at'
    have hir : i < rs'.length := by rw [hrd.rows.len]; exact hiq
    obtain ⟨A1, c1, e1, _, _, hA1⟩ := hrd.row.form
    cases e1
    obtain ⟨g, rfl, hbg, hlg, hfr, hcs⟩ := hA1 (by omega)
    have hrow := hrd.rows.at' i hir hiq
    rw [heq] at hrow
    have HKR := Lib.hid hrow.1
    have OL := hrow.2
    simp only at OL
    have HL := Lib.hid (show Pl.Line okV (lineK ps key) from (HM.out.ps.any key).1)
    have LL := Lib.hid (lineK_len (show ∀ p ∈ ps, p.l.length ≤ 100000 from HX.out.lenP) key)
    have SE := Lib.hid (fun L (hs : Pl.SetR okV VP.none (lineK ps key) c d ⟨k, b, n, f, s⟩ L) => And.intro (hrd.put L) hs)
    obtain ⟨l, hl⟩ : ∃ l, lineK ps key = l := ⟨_, rfl⟩
    rw [hl] at OL HL LL
    have HLL := Lib.hid hl
    obtain ⟨Al, cl, el, _, _⟩ := OL.at
    have C1 := Lib.hid ((hcs i hir).2)
    rw [el] at C1 OL
    have F1 := Lib.hid (hfr (i * 2 + 1))
    have OLH := Lib.hid OL
    have LG2 := Lib.hid hlg
    have HBG := Lib.hid hbg
    have HIR := Lib.hid hir
    have HIQ := Lib.hid hiq
    have i0 : (i : Int) < (rs'.length : Int) := by omega
    have i1 : (0 : Int) ≤ (i : Int) := by omega
    have CS := Lib.hid (fun W (hb : Below wc.heap.size wc W) => Set_ok (.slice Al l.length cl) l c d ⟨k, b, n, f, s⟩ W (OLH.out.at.below hb) (line_w HL.out) HL.out HCDP.out HVS.out.1 HVS.out.2 LL.out)
    try simp only at CS
    have K0 : Hid (∀ w', Below wc.heap.size wc w' → w'.cell? ⟨p, 6, none⟩ = some (.slice (some ⟨g, 0, none⟩) rs'.length c') ∧ w'.cell? ⟨g, i * 2 + 1, none⟩ = some (.slice Al l.length cl) ∧ w'.cell? ⟨po, 12, none⟩ = some (.int .u64 c) ∧ w'.cell? ⟨po, 13, none⟩ = some (.int .u64 d) ∧ w'.cell? ⟨po, 7, none⟩ = some (.int .i64 k) ∧ w'.cell? ⟨po, 8, none⟩ = some (.bool b) ∧ w'.cell? ⟨po, 9, none⟩ = some (.int .i64 n) ∧ w'.cell? ⟨po, 10, none⟩ = some (.float .f64 f) ∧ w'.cell? ⟨po, 11, none⟩ = some (.string s)) := Lib.hid fun w' hb => ⟨(RD.out.bx.below hb).c 6, (hb.cell (p := ⟨g, i * 2 + 1, none⟩) LG2.out).trans C1.out, (OB.out.below hb).c 12, (OB.out.below hb).c 13, (OB.out.below hb).c 7, (OB.out.below hb).c 8, (OB.out.below hb).c 9, (OB.out.below hb).c 10, (OB.out.below hb).c 11⟩
    clear hrd hob heq hA1 hfr hcs hbg hlg hrow OL hl el
    go_upto_region 10 with fail
    go_region_held3 (fun w' => w'.cell? ⟨p, 6, none⟩ = some (.slice (some ⟨g, 0, none⟩) rs'.length c') ∧ w'.cell? ⟨g, i * 2 + 1, none⟩ = some (.slice Al l.length cl) ∧ w'.cell? ⟨po, 12, none⟩ = some (.int .u64 c) ∧ w'.cell? ⟨po, 13, none⟩ = some (.int .u64 d) ∧ w'.cell? ⟨po, 7, none⟩ = some (.int .i64 k) ∧ w'.cell? ⟨po, 8, none⟩ = some (.bool b) ∧ w'.cell? ⟨po, 9, none⟩ = some (.int .i64 n) ∧ w'.cell? ⟨po, 10, none⟩ = some (.float .f64 f) ∧ w'.cell? ⟨po, 11, none⟩ = some (.string s)) (first
      | exact K0.out _ (Below.refl _ _).drew
      | exact K0.out _ HV1.out
      | fail) (first
      | (go_at_call 201; (refine (CS.out _ (Below.refl _ _).drew).mono ?_); rintro e v1 ⟨ul, L, rfl, ho, hs, hb⟩; obtain ⟨A2, c2, rfl, _, _⟩ := ho.at; have OU := Lib.hid ho; have HSR := Lib.hid hs; have HV1 := Lib.hid (show Below wc.heap.size wc v1 from (Below.refl _ _).drew.trans hb); clear ho hs hb)
      | fail)
    have s6 := (K0.out _ HV1.out).1
    have s1 := (K0.out _ HV1.out).2.1
    have q1 := (HV1.out.frozen (p := ⟨g, i * 2 + 1, none⟩) LG2.out).trans F1.out
    have R1 := RD.out.below HV1.out
    obtain ⟨N1, N2, N3⟩ := R1.row.rowsPut R1.rows i HIR.out (OU.out.mono RD.out.sz)
    rw [HKR.out] at N1
    have N1 := Lib.hid N1
    have N2 := Lib.hid (by first | (rw [HKR.out] at N2; exact N2) | exact N2)
    have N4 := Lib.hid (R1.bx.other (g := g) (i * 2 + 1) (.slice A2 L.length c2) (fun e => by
      rcases OwnR.free R1.row R1.ht with h | h
      · cases h
      · exact h (by rw [e]; rfl)))
    have N9 := Lib.hid (R1.ht.set g (i * 2 + 1) (.slice A2 L.length c2))
    have N5 := Lib.hid (World.ownsRow.kept R1.val N3 (apart_PR R1.val R1.row))
    have N6 := Lib.hid (R1.but.trans (Below.but (g := p) ((Below.refl base _).grown N3 R1.sz fun q hq => by
      have e : g = q := Option.some.inj hq
      have := HBG.out
      omega)))
    have N7 := Lib.hid (show (qs.set i ⟨key, L⟩).length ≤ 16 by rw [List.length_set]; exact RD.out.num)
    have N8 := Lib.hid (SE.out L (by rw [HLL.out]; exact HSR.out))
    clear R1 N3
    go_wp2_with fail
    go_ret
    refine ⟨0, rfl, N6.out, .inr (.inr (.inr ⟨HYC.out, rfl, qs.set i ⟨key, L⟩, L, N8.out.1, N8.out.2, N7.out, ?_⟩))⟩
    exact ⟨Av, val.length, cv, some ⟨g, 0, none⟩, rs'.length, c', rs'.set i (key, .slice A2 L.length c2), N4.out, N9.out, N5.out, N1.out, N2.out⟩
end
end Go.Proofs.YtmolpogehgeebaaGreat


