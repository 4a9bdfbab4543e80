/- Which entities are well-formed: May. -/
/- Lines and sets in new memory: copied, the library's Clone. -/
/- Properties in memory of one's own; an entity in new memory. -/
import Derived.Test.YtflgdhhgnbdofaaGreatmEB3
import Derived.Sort.Row
import Derived.Test.YtflgdhhgnbdofaaGreatmG27
import Derived.Laws.MakeOwn
namespace Go.Proofs.YtflgdhhgnbdofaaGreat
open Go.RowKit
theorem may_iff (x : Ent) : x.may ↔ (1 ≤ x.id ∧ x.id ≤ 1099511627776) ∧ (x.lab = ByteArray.empty ∨ Co.wordB x.lab = true) ∧ conP x.edge x.fr x.til ∧ Se.Iset.NF x.val ∧ x.ps.length ≤ 16 ∧ MayPs x.val x.ps :=
  ⟨fun h => ⟨h.id, h.lab, h.con, h.val, h.num, h.ps⟩, fun ⟨h1, h2, h3, h4, h5, h6⟩ => ⟨h1, h2, h3, h4, h5, h6⟩⟩
theorem setIs_says (va : Value) (a : List (Int × Int)) (w : World) (ha : Se.IsP w va a) (la : a.length ≤ 1000000000000) :
    Calls Tryz.prog 84 #[va] w (Says (Se.Iset.NF a) w) :=
  (Se.Is_any va a w ha la).mono fun _ _ ⟨e, hb⟩ => ⟨_, e, by
    unfold Se.sameL
    rw [decide_eq_true_iff]
    exact ⟨fun h => h ▸ Se.Iset.nf_nf a, fun h => Se.Iset.nf_of_NF h⟩, hb⟩
section
set_option maxRecDepth 100000
set_option maxHeartbeats 8000000
theorem eMay_any (v : Value) (x : Ent) (w : World) (h : EAt w v x) (hx : x.wide) :
    Calls Tryz.prog 22 #[v] w (Says x.may w) := by
  obtain ⟨sv, sp, rfl, hv, hp⟩ := h
  have HB0 : Hid (∀ W, Below w.heap.size w W → Se.IsP W sv x.val ∧ SP W sp x.ps) := Lib.hid fun W hb => ⟨hv.below hb, hp.below hb⟩
  have CI := Lib.hid (fun W => eIsId_any x.id W)
  have CL := Lib.hid (fun W => eIsLabel_any x.lab W)
  have CC := Lib.hid (fun W => mayConnect_any x sv sp W (by obtain ⟨A, c, e, _⟩ := hv; exact ⟨A, _, c, e⟩) (by obtain ⟨A, c, e, _⟩ := hp; exact ⟨A, _, c, e⟩))
  have CN := Lib.hid (fun W (hb : Below w.heap.size w W) => setIs_says sv x.val W (HB0.out W hb).1 (by have := hx.lenV; omega))
  have CP := Lib.hid (fun W (hb : Below w.heap.size w W) => mayProps_any x sv sp W (HB0.out W hb).1 (HB0.out W hb).2 hx)
  have HM := Lib.hid (may_iff x)
  obtain ⟨Av, cv, rfl, _⟩ := hv
  obtain ⟨Ap, cp, rfl, _, _⟩ := hp
  clear hx HB0
  obtain ⟨edge, id, lab, fr, til, val, ps⟩ := x
  have B0 := Lib.hid ((Below.refl w.heap.size w).alloc (Nat.le_refl _) (.cells #[.bool edge, .int .u64 id, .string lab, .int .u64 fr, .int .u64 til, .slice Av val.length cv, .slice Ap ps.length cp] 38))
  have X0 := Lib.hid (Bx.new w #[.bool edge, .int .u64 id, .string lab, .int .u64 fr, .int .u64 til, .slice Av val.length cv, .slice Ap ps.length cp] 38)
  have x0 := X0.out.c
  simp only at CI CL CC CN CP HM ⊢
  go_enter Tryz.func22, Tryz.ntmps22
  go_wp2_with (first
    | (go_at_call 81; (with_reducible refine (CI.out _).mono ?_); rintro e w1 ⟨c1, rfl, hc1, hb⟩; have HC1 := Lib.hid hc1; have B1 := Lib.hid (B0.out.trans (hb.mono B0.out.size)); have X1 := Lib.hid (X0.out.below hb); clear hb hc1 x0; have x0 := X1.out.c; cases c1)
    | (go_at_call 82; (with_reducible refine (CL.out _).mono ?_); rintro e w2 ⟨c2, rfl, hc2, hb⟩; have HC2 := Lib.hid hc2; have B2 := Lib.hid (B1.out.trans (hb.mono B1.out.size)); have X2 := Lib.hid (X1.out.below hb); clear hb hc2 x0; have x0 := X2.out.c; cases c2)
    | (go_at_call 83; (with_reducible refine (CC.out _).mono ?_); rintro e w3 ⟨c3, rfl, hc3, hb⟩; have HC3 := Lib.hid hc3; have B3 := Lib.hid (B2.out.trans (hb.mono B2.out.size)); have X3 := Lib.hid (X2.out.below hb); clear hb hc3 x0; have x0 := X3.out.c; cases c3)
    | (go_at_call 84; (with_reducible refine (CN.out _ B3.out).mono ?_); rintro e w4 ⟨c4, rfl, hc4, hb⟩; have HC4 := Lib.hid hc4; have B4 := Lib.hid (B3.out.trans (hb.mono B3.out.size)); have X4 := Lib.hid (X3.out.below hb); clear hb hc4 x0; have x0 := X4.out.c; cases c4)
    | (go_at_call 85; (with_reducible refine (CP.out _ B4.out).mono ?_); rintro e w5 ⟨c5, rfl, hc5, hb⟩; have HC5 := Lib.hid hc5; have B5 := Lib.hid (B4.out.trans (hb.mono B4.out.size)); clear hb hc5 x0)
    | fail)
  · go_ret
    exact ⟨false, rfl, by rw [HM.out, ← HC1.out]; simp, B1.out⟩
  · go_ret
    exact ⟨false, rfl, by rw [HM.out, ← HC2.out]; simp, B2.out⟩
  · go_ret
    exact ⟨false, rfl, by rw [HM.out, ← HC3.out]; simp, B3.out⟩
  · go_ret
    exact ⟨false, rfl, by rw [HM.out, ← HC4.out]; simp, B4.out⟩
  · go_ret
    exact ⟨c5, rfl, by rw [HM.out, ← HC1.out, ← HC2.out, ← HC3.out, ← HC4.out, ← HC5.out]; simp, B5.out⟩
end
end Go.Proofs.YtflgdhhgnbdofaaGreat

namespace Go.Proofs.YtflgdhhgnbdofaaGreat
open Go.RowKit
/-- What is put where it is already changes nothing. -/
theorem setCell_self (w : World) (g i : Nat) (v : Value) (h : w.cell? ⟨g, i, none⟩ = some v) : w.setCell ⟨g, i, none⟩ v = w := by
  rw [Sort.setCell_eq]
  refine Sort.mapBlock_id w g _ fun c e fr hb => ?_
  unfold World.cell? at h
  simp only [hb, Option.isSome_none, Bool.false_eq_true, if_false] at h
  obtain ⟨hi, rfl⟩ := Array.getElem?_eq_some_iff.1 h
  apply Array.ext_getElem?
  intro k
  rw [Array.getElem?_setIfInBounds]
  split
  · next e => subst e; exact h.symm
  · rfl
theorem cellsL_one' (l : List Pie) : ∀ u ∈ cellsL l, u.oneCell' = true := fun u hu => by
  unfold cellsL at hu
  obtain ⟨x, _, hx⟩ := List.mem_flatMap.1 hu
  simp only [List.mem_cons, List.not_mem_nil, or_false] at hx
  rcases hx with rfl | rfl | rfl | rfl | rfl | rfl | rfl <;> rfl
theorem LAt.cells {w : World} {b off : Nat} {l : List Pie} (h : ∀ i (h : i < l.length), w.rangeAt b (off + i * 7) ((Pie.cells l[i]).toList)) : ∀ j u, (cellsL l)[j]? = some u → w.cell? ((⟨b, off, none⟩ : Addr).add j) = some u := fun j u hj => by
  rw [add_off]
  have hl : j < (cellsL l).length := by
    by_cases e : j < (cellsL l).length
    · exact e
    · rw [List.getElem?_eq_none (by omega)] at hj; cases hj
  rw [cellsL_length] at hl
  have hd : j / 7 < l.length := by omega
  have hg := cellsL_get l (j / 7) hd (j % 7) (by omega)
  rw [show j / 7 * 7 + j % 7 = j by omega, hj] at hg
  have := h (j / 7) hd (j % 7) u hg.symm
  rwa [show off + j / 7 * 7 + j % 7 = off + j by omega] at this
section
set_option maxRecDepth 100000
set_option maxHeartbeats 8000000
theorem cloneL_any (v : Value) (l : List Pie) (w : World) (h : SL w v l) (hl : l.length ≤ 1000000000) :
    Calls Tryz.prog 158 #[v] w fun e w' => ∃ u, e = .returned u ∧ OwnL w.heap.size w' u l ∧ Below w.heap.size w w' := by
  obtain ⟨A, c, rfl, hA, hm⟩ := h
  have q22 : ∀ (w : World) (a : Option Addr) (n c n' c' : Nat), (binOp .eql 60 (.slice a n c) (.slice none n' c')).run Tryz.prog w = .ok (.bool a.isNone) w := fun w a n c n' c' => Lib.run_eql_slice_nil w _ _ a n c n' c' Tryz.underlying60
  cases A with
  | none =>
    have h0 : l = [] := by
      cases l with
      | nil => rfl
      | cons x l => obtain ⟨b, off, e, _⟩ := hA (by simp); cases e
    subst h0
    clear hA hm
    go_enter Tryz.func158, Tryz.ntmps158
    go_wp2
    go_ret
    exact ⟨_, rfl, OwnL.nil _ _, Below.refl _ _⟩
  | some adr =>
    have HC : Hid (∀ W, Below w.heap.size w W → ∀ j u, (cellsL l)[j]? = some u → W.cell? (adr.add j) = some u) := Lib.hid fun W hb j u hj => by
      have h0 : 0 < l.length := by
        cases l with
        | nil => simp [cellsL] at hj
        | cons x l => simp
      obtain ⟨b, off, e, hlt, hc⟩ := hA h0
      cases e
      have := LAt.cells hc j u hj
      rw [add_off] at this ⊢
      exact (hb.cell (p := ⟨b, off + j, none⟩) hlt).trans this
    have LL := Lib.hid hl
    clear hA hm hl
    obtain ⟨i0, hi, hz0, hz1, hz2⟩ := info_parts infoL
    have B0 := Lib.hid ((Below.refl w.heap.size w).alloc (Nat.le_refl _) (.cells #[] 71))
    go_enter Tryz.func158, Tryz.ntmps158
    go_wp2_with (at_builtin; refine wpList_append_own _ rfl (.tmp 5) (.tmp 6) 60 rfl w.heap.size 71 i0 _ 7 64 Tryz.underlying60 hi hz0 hz1 hz2 rfl (by omega) _ _ _ rfl (World.ownsRow_made w #[] 0 (Nat.le_refl _) (Nat.zero_le _) (by simp)) adr l.length c (cellsL l) rfl (cellsL_length l) (HC.out _ B0.out) (cellsL_one' l) (by have := LL.out; unfold maxLen; omega) (by have := LL.out; omega) (by simp) ?_; intro v' w1 hown hgrow hnil; have HO := Lib.hid hown; have HG := Lib.hid hgrow; clear hown hgrow hnil)
    go_ret
    refine ⟨v', rfl, by simpa [OwnL] using HO.out, ?_⟩
    exact B0.out.grown HG.out (by simp) fun k hk => by
      have e : w.heap.size = k := Option.some.inj hk
      omega
/-- A line in new memory. -/
theorem copied_any (v : Value) (l : List Pie) (w : World) (h : SL w v l) (hl : l.length ≤ 1000000000) (hs : ∀ x ∈ l, x.v.s.size ≤ 1000) :
    Calls Tryz.prog 94 #[v] w fun e w' => ∃ u, e = .returned u ∧ OwnL w.heap.size w' u l ∧ Below w.heap.size w w' := by
  have CC := Lib.hid (cloneL_any v l w h hl)
  have HS := Lib.hid hs
  obtain ⟨A, c, rfl, _, _⟩ := h
  clear hs
  go_enter Tryz.func94, Tryz.ntmps94
  go_upto_region 2 with (go_at_call 158; (with_reducible refine (CC.out).mono ?_); rintro e w1 ⟨u, rfl, ho, hb⟩; have HO := Lib.hid ho; have HB := Lib.hid hb; clear ho hb)
  obtain ⟨A1, c1, rfl, hA1, _⟩ := HO.out.at
  have HA := Lib.hid hA1
  clear hA1
  go_wp2_with fail
  go_loopw [8] (fun i wr => ∃ k : Nat, k ≤ l.length ∧ i = .int .i64 k ∧ Below w1.heap.size w1 wr) (fun i _ => l.length - (intOf i).toNat)
  case atStart => exact ⟨0, Nat.zero_le _, rfl, Below.refl _ _⟩
  case round =>
    obtain ⟨k, hk, rfl, hb⟩ := hrel
    have HK := Lib.hid hb
    clear hb
    by_cases hlt : k < l.length
    · obtain ⟨g, cg, e, _, hlg, hfr, hc⟩ := (HO.out.below HK.out).form (by omega)
      cases e
      have r6 : wr.cell? ⟨g, k * 7 + 6, none⟩ = some (.string l[k].v.s) := hc k hlt 6 _ rfl
      have f6 := hfr (k * 7 + 6)
      have i0 : (k : Int) < (l.length : Int) := by omega
      have i1 : (0 : Int) ≤ (k : Int) := by omega
      have CS := Lib.hid (fun W => strsClone_any l[k].v.s W (HS.out _ (List.getElem_mem hlt)))
      clear hc hfr
      obtain ⟨s, hs⟩ : ∃ s, l[k].v.s = s := ⟨_, rfl⟩
      rw [hs] at r6 CS
      clear hs
      go_upto_region 5 with fail
      have L6 := Lib.hid r6
      have F6 := Lib.hid f6
      have LG := Lib.hid hlg
      clear f6
      go_wp2_with (go_at_call 69; (with_reducible refine (CS.out _).mono ?_); rintro e w2 ⟨rfl, hb⟩; have q6 := (hb.cell (p := ⟨g, k * 7 + 6, none⟩) LG.out).trans L6.out; have p6 := (hb.frozen (p := ⟨g, k * 7 + 6, none⟩) LG.out).trans F6.out; have HK2 := Lib.hid (HK.out.trans (hb.mono HK.out.size)); have SC := Lib.hid (setCell_self w2 g (k * 7 + 6) _ q6); clear hb r6)
      exact ⟨⟨k + 1, by omega, by go_num, by rw [SC.out]; exact HK2.out⟩, by simp [intOf]; omega⟩
    · obtain rfl : k = l.length := by omega
      go_wp2_with fail
      go_ret
      exact ⟨_, rfl, HO.out.below HK.out, HB.out.trans (HK.out.mono HB.out.size)⟩
end
end Go.Proofs.YtflgdhhgnbdofaaGreat

namespace Go.Proofs.YtflgdhhgnbdofaaGreat
open Go.RowKit
def cellsR (rs : List (ByteArray × Value)) : List Value := rs.flatMap fun r => [.string r.1, r.2]
theorem cellsR_cons (r : ByteArray × Value) (rs : List (ByteArray × Value)) : cellsR (r :: rs) = .string r.1 :: r.2 :: cellsR rs := rfl
theorem cellsR_length (rs : List (ByteArray × Value)) : (cellsR rs).length = rs.length * 2 := by
  induction rs with
  | nil => rfl
  | cons r rs ih => rw [cellsR_cons]; simp only [List.length_cons, ih]; omega
theorem cellsR_get : ∀ (rs : List (ByteArray × Value)) (i : Nat) (h : i < rs.length), (cellsR rs)[i * 2]? = some (.string rs[i].1) ∧ (cellsR rs)[i * 2 + 1]? = some rs[i].2
  | [], _, h => by simp at h
  | r :: rs, 0, _ => ⟨rfl, rfl⟩
  | r :: rs, i + 1, h => by
    have := cellsR_get rs i (by simpa using h)
    rw [cellsR_cons, show (i + 1) * 2 = i * 2 + 2 by omega, show i * 2 + 2 + 1 = (i * 2 + 1) + 2 by omega]
    simpa using this
theorem cellsR_line : ∀ (rs : List (ByteArray × Value)) (i : Nat) (h : i < rs.length) (u : Value), (cellsR rs).set (i * 2 + 1) u = cellsR (rs.set i (rs[i].1, u))
  | [], _, h, _ => by simp at h
  | r :: rs, 0, _, u => rfl
  | r :: rs, i + 1, h, u => by
    have := cellsR_line rs i (by simpa using h) u
    rw [cellsR_cons, show (i + 1) * 2 + 1 = (i * 2 + 1) + 1 + 1 by omega, List.set_cons_succ, List.set_cons_succ, this]
    simp [cellsR_cons]
theorem cellsR_both : ∀ (rs : List (ByteArray × Value)) (i : Nat) (_ : i < rs.length) (k : ByteArray) (u : Value), ((cellsR rs).set (i * 2) (.string k)).set (i * 2 + 1) u = cellsR (rs.set i (k, u))
  | [], _, h, _, _ => by simp at h
  | r :: rs, 0, _, k, u => rfl
  | r :: rs, i + 1, h, k, u => by
    have := cellsR_both rs i (by simpa using h) k u
    rw [cellsR_cons, show (i + 1) * 2 + 1 = (i * 2 + 1) + 1 + 1 by omega, show (i + 1) * 2 = (i * 2) + 1 + 1 by omega, List.set_cons_succ, List.set_cons_succ, List.set_cons_succ, List.set_cons_succ, this]
    simp [cellsR_cons]
/-- A slice of properties that the call owns. -/
def OwnR (base : Nat) (w : World) (v : Value) (rs : List (ByteArray × Value)) : Prop := w.ownsRow base 62 2 v rs.length (cellsR rs)
theorem OwnR.below {base : Nat} {w w' : World} {v : Value} {rs : List (ByteArray × Value)} (h : OwnR base w v rs) (hb : Below w.heap.size w w') : OwnR base w' v rs := by
  refine ⟨h.1, ?_⟩
  rcases h.2 with h0 | ⟨g, cap, cur, h1, h2, h3, h4⟩
  · exact .inl h0
  · exact .inr ⟨g, cap, cur, h1, h2, (hb.block g (lt_heap h3)).trans h3, h4⟩
theorem OwnR.mono {base base' : Nat} {w : World} {v : Value} {rs : List (ByteArray × Value)} (h : OwnR base w v rs) (hb : base' ≤ base) : OwnR base' w v rs := by
  refine ⟨h.1, ?_⟩
  rcases h.2 with h0 | ⟨g, cap, cur, h1, h2, h3⟩
  · exact .inl h0
  · exact .inr ⟨g, cap, cur, h1, Nat.le_trans hb h2, h3⟩
theorem OwnR.form {base : Nat} {w : World} {v : Value} {rs : List (ByteArray × Value)} (h : OwnR base w v rs) : ∃ A c, v = .slice A rs.length c ∧ rs.length ≤ c ∧ c ≤ 9223372036854775807 ∧ (0 < rs.length → ∃ g, A = some ⟨g, 0, none⟩ ∧ base ≤ g ∧ g < w.heap.size ∧ (∀ j, w.frozen? ⟨g, j, none⟩ = false) ∧ ∀ i (h : i < rs.length), w.cell? ⟨g, i * 2, none⟩ = some (.string rs[i].1) ∧ w.cell? ⟨g, i * 2 + 1, none⟩ = some rs[i].2) := by
  rcases h.2 with ⟨rfl, h0⟩ | ⟨g, cap, cur, rfl, hb, hg, hn, hm, hs, ht⟩
  · exact ⟨none, 0, by rw [h0], by omega, by omega, fun h => by omega⟩
  · refine ⟨_, cap, rfl, hn, by unfold maxLen at hm; omega, fun _ => ⟨g, rfl, hb, lt_heap hg, fun j => by unfold World.frozen?; simp only []; rw [hg]; simp, fun i hi => ?_⟩⟩
    have c0 := cellsR_get rs i hi
    rw [← ht, List.getElem?_take_of_lt (by omega), List.getElem?_take_of_lt (by omega), Array.getElem?_toList, Array.getElem?_toList] at c0
    exact ⟨(cell_of_row w g (i * 2) cur _ _ hg).trans c0.1, (cell_of_row w g (i * 2 + 1) cur _ _ hg).trans c0.2⟩
/-- These rows hold these properties, each with a line of one's own. -/
structure RowsO (base : Nat) (w : World) (rs : List (ByteArray × Value)) (ps : List Prp) : Prop where
  len : rs.length = ps.length
  at' : ∀ i (h : i < rs.length) (g : i < ps.length), rs[i].1 = ps[i].k ∧ OwnL base w rs[i].2 ps[i].l
theorem RowsO.below {base : Nat} {w w' : World} {rs : List (ByteArray × Value)} {ps : List Prp} (h : RowsO base w rs ps) (hb : Below w.heap.size w w') : RowsO base w' rs ps :=
  ⟨h.len, fun i hi hg => ⟨(h.at' i hi hg).1, (h.at' i hi hg).2.below hb⟩⟩
theorem RowsO.mono {base base' : Nat} {w : World} {rs : List (ByteArray × Value)} {ps : List Prp} (h : RowsO base w rs ps) (hb : base' ≤ base) : RowsO base' w rs ps :=
  ⟨h.len, fun i hi hg => ⟨(h.at' i hi hg).1, (h.at' i hi hg).2.mono hb⟩⟩
theorem OwnR.sp {base base' : Nat} {w : World} {v : Value} {rs : List (ByteArray × Value)} {ps : List Prp} (h : OwnR base w v rs) (hr : RowsO base' w rs ps) : SP w v ps := by
  obtain ⟨A, c, rfl, _, _, hA⟩ := h.form
  refine ⟨A, c, by rw [hr.len], fun h0 => ?_, by rw [← hr.len]; omega⟩
  obtain ⟨g, rfl, _, hg, _, hc⟩ := hA (by rw [hr.len]; exact h0)
  refine ⟨g, 0, rfl, hg, fun i hi => ?_⟩
  have hi' : i < rs.length := by rw [hr.len]; exact hi
  have h1 := hc i hi'
  have h2 := hr.at' i hi' hi
  rw [Nat.zero_add]
  exact ⟨by rw [h1.1, h2.1], _, h1.2, h2.2.at⟩
theorem apart_LR {base base' : Nat} {w : World} {v u : Value} {l : List Pie} {rs : List (ByteArray × Value)} (h : OwnL base w v l) (g : OwnR base' w u rs) : v.ownBlock = none ∨ v.ownBlock ≠ u.ownBlock := by
  rcases h.2 with ⟨rfl, _⟩ | ⟨q, cap, cur, rfl, _, hq, _⟩
  · exact .inl rfl
  · refine .inr fun e => ?_
    rcases g.2 with ⟨rfl, _⟩ | ⟨q', cap', cur', rfl, _, hq', _⟩
    · simp [Value.ownBlock] at e
    · simp [Value.ownBlock] at e
      subst e
      rw [hq] at hq'
      simp at hq'
theorem apart_PR {base base' : Nat} {w : World} {v u : Value} {l : List (Int × Int)} {rs : List (ByteArray × Value)} (h : Se.OwnP base w v l) (g : OwnR base' w u rs) : v.ownBlock = none ∨ v.ownBlock ≠ u.ownBlock := by
  rcases h.2 with ⟨rfl, _⟩ | ⟨q, cap, cur, rfl, _, hq, _⟩
  · exact .inl rfl
  · refine .inr fun e => ?_
    rcases g.2 with ⟨rfl, _⟩ | ⟨q', cap', cur', rfl, _, hq', _⟩
    · simp [Value.ownBlock] at e
    · simp [Value.ownBlock] at e
      subst e
      rw [hq] at hq'
      simp at hq'
/-- One line put anew. -/
theorem OwnR.line {base g c : Nat} {w : World} {rs : List (ByteArray × Value)} (h : OwnR base w (.slice (some ⟨g, 0, none⟩) rs.length c) rs) (i : Nat) (hi : i < rs.length) (u : Value) :
    OwnR base (w.setCell ⟨g, i * 2 + 1, none⟩ u) (.slice (some ⟨g, 0, none⟩) rs.length c) (rs.set i (rs[i].1, u)) ∧ w.grownBy (w.setCell ⟨g, i * 2 + 1, none⟩ u) (some g) := by
  have := World.ownsRow.stored h (i * 2 + 1) u
  rw [cellsR_line rs i hi] at this
  unfold OwnR
  rw [List.length_set]
  exact this
theorem OwnR.both {base g c : Nat} {w : World} {rs : List (ByteArray × Value)} (h : OwnR base w (.slice (some ⟨g, 0, none⟩) rs.length c) rs) (i : Nat) (hi : i < rs.length) (k : ByteArray) (u : Value) :
    OwnR base ((w.setCell ⟨g, i * 2, none⟩ (.string k)).setCell ⟨g, i * 2 + 1, none⟩ u) (.slice (some ⟨g, 0, none⟩) rs.length c) (rs.set i (k, u)) ∧ w.grownBy ((w.setCell ⟨g, i * 2, none⟩ (.string k)).setCell ⟨g, i * 2 + 1, none⟩ u) (some g) := by
  have h1 := World.ownsRow.stored h (i * 2) (.string k)
  have h2 := World.ownsRow.stored h1.1 (i * 2 + 1) u
  rw [cellsR_both rs i hi] at h2
  unfold OwnR
  rw [List.length_set]
  exact ⟨h2.1, h1.2.trans h2.2⟩
theorem RowsO.kept {base g c : Nat} {w w' : World} {rs qs : List (ByteArray × Value)} {ps : List Prp} (h : RowsO base w qs ps) (ho : OwnR base w (.slice (some ⟨g, 0, none⟩) rs.length c) rs) (hg : w.grownBy w' (some g)) : RowsO base w' qs ps :=
  ⟨h.len, fun i hi hgi => ⟨(h.at' i hi hgi).1, World.ownsRow.kept (h.at' i hi hgi).2 hg (apart_LR (h.at' i hi hgi).2 ho)⟩⟩
/-- An entity in memory of one's own. -/
def EOwn (base : Nat) (w : World) (v : Value) (x : Ent) : Prop := ∃ sv sp rs, v = .agg (x.cells sv sp) ∧ Se.OwnP base w sv x.val ∧ OwnR base w sp rs ∧ RowsO base w rs x.ps
theorem EOwn.at {base : Nat} {w : World} {v : Value} {x : Ent} (h : EOwn base w v x) : EAt w v x := by
  obtain ⟨sv, sp, rs, e, h1, h2, h3⟩ := h
  exact ⟨sv, sp, e, h1.at, h2.sp h3⟩
theorem EOwn.below {base : Nat} {w w' : World} {v : Value} {x : Ent} (h : EOwn base w v x) (hb : Below w.heap.size w w') : EOwn base w' v x := by
  obtain ⟨sv, sp, rs, e, h1, h2, h3⟩ := h
  exact ⟨sv, sp, rs, e, h1.below hb, h2.below hb, h3.below hb⟩
theorem EOwn.mono {base base' : Nat} {w : World} {v : Value} {x : Ent} (h : EOwn base w v x) (hb : base' ≤ base) : EOwn base' w v x := by
  obtain ⟨sv, sp, rs, e, h1, h2, h3⟩ := h
  exact ⟨sv, sp, rs, e, Se.OwnP.mono h1 hb, h2.mono hb, h3.mono hb⟩
theorem infoE : (Tryz.prog.info? 62).map (fun i => (i.zero, i.size, i.bytes)) = some (some (.agg #[.string ⟨#[]⟩, .slice none 0 0]), 2, 40) := by kernel_rfl
theorem made_props : ∀ n : Nat, (madeCells #[.string ⟨#[]⟩, .slice none 0 0] (n * 2)).toList = cellsR (List.replicate n (⟨#[]⟩, .slice none 0 0)) := fun n => by
  apply List.ext_getElem?
  intro j
  by_cases hj : j < n * 2
  · have hl : (cellsR (List.replicate n ((⟨#[]⟩ : ByteArray), Value.slice none 0 0))).length = n * 2 := by rw [cellsR_length]; simp
    have hi : j / 2 < (List.replicate n ((⟨#[]⟩ : ByteArray), Value.slice none 0 0)).length := by simp; omega
    have hg := cellsR_get _ (j / 2) hi
    rw [Array.getElem?_toList]
    have e : (madeCells #[.string ⟨#[]⟩, .slice none 0 0] (n * 2))[j]? = some ((#[.string ⟨#[]⟩, .slice none 0 0] : Array Value)[j % 2]!) := by
      simp [madeCells, hj]
    rw [e]
    have hm : j % 2 = 0 ∨ j % 2 = 1 := by omega
    rcases hm with hm | hm
    · rw [show j / 2 * 2 = j by omega] at hg
      rw [hg.1, hm]; simp
    · rw [show j / 2 * 2 + 1 = j by omega] at hg
      rw [hg.2, hm]; simp
  · rw [List.getElem?_eq_none (by rw [Array.length_toList, size_madeCells]; omega), List.getElem?_eq_none (by rw [cellsR_length]; simp; omega)]
theorem make_props (n : Nat) (w : World) (hn : n ≤ 1000000) : (Instr.makeSlice 36 (.int .i64 (n : Int)) (.int .i64 (n : Int))).run Tryz.prog w = .ok (.slice (some ⟨w.heap.size, 0, none⟩) n n) (w.alloc (.cells (madeCells #[.string ⟨#[]⟩, .slice none 0 0] (n * 2)) 62)) := by
  obtain ⟨i0, hi, hz0, hz1, hz2⟩ := info_parts infoE
  have e := run_make (P := Tryz.prog) w 36 62 i0 _ Tryz.underlying36 hi hz0 .i64 .i64 (n : Int) (n : Int) (by omega) (Int.le_refl _) (by rw [hz2]; omega) (by omega)
  rw [hz1, Int.toNat_natCast] at e
  exact e
theorem OwnR.made (base : Nat) (w : World) (n : Nat) (h : base ≤ w.heap.size) (hn : n ≤ 1000000) : OwnR base (w.alloc (.cells (madeCells #[.string ⟨#[]⟩, .slice none 0 0] (n * 2)) 62)) (.slice (some ⟨w.heap.size, 0, none⟩) n n) (List.replicate n (⟨#[]⟩, .slice none 0 0)) := by
  refine ⟨by rw [cellsR_length], .inr ⟨w.heap.size, n, _, by rw [List.length_replicate], h, heap_alloc_new w _, by simp, by unfold maxLen; omega, by rw [size_madeCells], ?_⟩⟩
  rw [List.length_replicate, made_props]
  exact List.take_of_length_le (by rw [cellsR_length]; simp)
end Go.Proofs.YtflgdhhgnbdofaaGreat

