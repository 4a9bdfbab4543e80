/- The first property whose line is none: the closure of Apply, IndexFunc. -/
/- Properties whose lines are none go: what DeleteFunc leaves, in plain words; clear. -/
/- slices.DeleteFunc of properties, with the closure of Apply. -/
/- The table of effects. -/
/- The three effects as one: what an operation does to an entity in a box. -/
/- What an entity becomes by an operation: Apply. -/
import Derived.Test.YtmolpogehgeebaaGreatbEC6
import Derived.Lib.SliceRun
import Derived.Maps.Own
import Derived.Maps.OwnOps
import Derived.Maps.OwnSet
namespace Go.Proofs.YtmolpogehgeebaaGreat
open Go.RowKit
/-- A call that looks for the first property without a line. -/
def NoneAt (ps : List Prp) (w : World) (e : Ending) (w' : World) : Prop := ∃ n : Int, e = .returned (.int .i64 n) ∧ Below w.heap.size w w' ∧
  ((n = -1 ∧ ∀ q ∈ ps, q.l.length ≠ 0) ∨ ∃ i : Nat, n = i ∧ ∃ h : i < ps.length, ps[i].l.length = 0 ∧ ∀ j (g : j < ps.length), j < i → ps[j].l.length ≠ 0)
section
set_option maxRecDepth 100000
set_option maxHeartbeats 2000000
theorem Apply1_any (k : ByteArray) (A : Option Addr) (n c : Nat) (w : World) : Calls Tryz.prog 87 #[.agg #[.string k, .slice A n c]] w (Says (n = 0) w) := by
  have HE : Hid (((n : Int) == 0) = true ↔ n = 0) := Lib.hid (by simp)
  have B0 := Lib.hid ((Below.refl w.heap.size w).alloc (Nat.le_refl _) (.cells #[.string k, .slice A n c] 62))
  have x0 := (Bx.new w #[.string k, .slice A n c] 62).c
  go_enter Tryz.func87, Tryz.ntmps87
  go_wp2
  go_ret
  exact ⟨_, rfl, HE.out, B0.out⟩
theorem IndexE_any (v : Value) (ps : List Prp) (w : World) (h : SP w v ps) (hl : ps.length ≤ 1000000) :
    Calls Tryz.prog 157 #[v, .func (.func 87) #[] #[]] w (NoneAt ps w) := by
  obtain ⟨A, c, rfl, hA, hm⟩ := h
  have HA := Lib.hid hA
  clear hA
  go_enter Tryz.func157, Tryz.ntmps157
  go_wp2
  go_loopw [8] (fun i wr => ∃ k : Nat, k ≤ ps.length ∧ i = .int .i64 k ∧ (∀ j (h : j < ps.length), j < k → ps[j].l.length ≠ 0) ∧ Below w.heap.size w wr) (fun i _ => ps.length - (intOf i).toNat)
  case atStart => exact ⟨0, Nat.zero_le _, rfl, fun j _ h => absurd h (Nat.not_lt_zero j), Below.refl _ _⟩
  case round =>
    obtain ⟨k, hk, rfl, hp, hb⟩ := hrel
    have HP := Lib.hid hp
    have HB := Lib.hid hb
    clear hp hb
    by_cases hlt : k < ps.length
    · obtain ⟨g, off, rfl, lg, cg⟩ := (HA.out.below HB.out) (by omega)
      obtain ⟨r0, u, r1, hu⟩ := cg k hlt
      obtain ⟨Al, cl, rfl, _⟩ := hu
      have HK : Hid (ps[k].l.length ≠ 0 → ∀ j (h : j < ps.length), j < k + 1 → ps[j].l.length ≠ 0) := Lib.hid fun h j h1 h2 => if e : j = k then (by subst e; exact h) else HP.out j h1 (by omega)
      have HN : Hid (ps[k].l.length = 0 → ∃ i : Nat, (k : Int) = i ∧ ∃ h : i < ps.length, ps[i].l.length = 0 ∧ ∀ j (g : j < ps.length), j < i → ps[j].l.length ≠ 0) := Lib.hid fun h => ⟨k, rfl, hlt, h, HP.out⟩
      obtain ⟨key, hkey⟩ : ∃ s, ps[k].k = s := ⟨_, rfl⟩
      obtain ⟨n, hn⟩ : ∃ s, ps[k].l.length = s := ⟨_, rfl⟩
      rw [hkey] at r0
      rw [hn] at r1 HK HN
      have CM := Lib.hid (fun W => Apply1_any key Al n cl W)
      have i0 : (k : Int) < (ps.length : Int) := by omega
      have i1 : (0 : Int) ≤ (k : Int) := by omega
      clear cg HA HP hkey hn
      go_wp2_with (first
        | (go_at_call 87; (with_reducible refine (CM.out _).mono ?_); rintro e w1 ⟨c1, rfl, hc, hb⟩; have HC := Lib.hid hc; have B1 := Lib.hid (HB.out.trans (hb.mono HB.out.size)); clear hc hb r0 r1; cases c1)
        | fail)
      · have HK2 := Lib.hid (HK.out (by have := HC.out; simpa using this))
        clear HK HN
        exact ⟨⟨k + 1, by omega, by go_num, HK2.out, B1.out⟩, by simp [intOf]; omega⟩
      · go_ret
        exact ⟨k, rfl, B1.out, .inr (HN.out (by simpa using HC.out))⟩
    · have HT : Hid (∀ q ∈ ps, q.l.length ≠ 0) := Lib.hid fun o ho => by
        obtain ⟨j, hj, rfl⟩ := List.mem_iff_getElem.1 ho
        exact HP.out j hj (by omega)
      clear HP
      go_wp2
      go_ret
      exact ⟨-1, rfl, HB.out, .inl ⟨rfl, HT.out⟩⟩
end
end Go.Proofs.YtmolpogehgeebaaGreat


namespace Go.Proofs.YtmolpogehgeebaaGreat
open Go.RowKit Go.Lib
theorem OwnR.cut {base g c : Nat} {w : World} {rs : List (ByteArray × Value)} (h : OwnR base w (.slice (some ⟨g, 0, none⟩) rs.length c) rs) (i : Nat) (hi : i ≤ rs.length) :
    OwnR base w (.slice (some ⟨g, 0, none⟩) (rs.take i).length c) (rs.take i) := by
  have hl : (rs.take i).length = i := by rw [List.length_take]; omega
  rcases h.2 with ⟨h', _⟩ | ⟨g', cap', cur, h', hb, hg, hnc, hcm, hcs, htake⟩
  · simp at h'
  · simp only [Value.slice.injEq, Option.some.injEq, Addr.mk.injEq, and_true, true_and] at h'
    obtain ⟨rfl, rfl⟩ := h'
    refine ⟨by rw [cellsR_length], .inr ⟨g, c, cur, rfl, hb, hg, by omega, hcm, hcs, ?_⟩⟩
    rw [hl, ← cellsR_take, ← htake, List.take_take, Nat.min_eq_left (by omega)]
theorem OwnR.beyond {base g c : Nat} {rs : List (ByteArray × Value)} : ∀ (vs : List Value) (o : Nat) (w : World), OwnR base w (.slice (some ⟨g, 0, none⟩) rs.length c) rs → rs.length * 2 ≤ o →
    OwnR base (w.setCells g o vs) (.slice (some ⟨g, 0, none⟩) rs.length c) rs ∧ w.grownBy (w.setCells g o vs) (some g)
  | [], _, w, h, _ => ⟨h, ⟨rfl, rfl, rfl, Nat.le_refl _, fun _ _ _ => rfl⟩⟩
  | v :: vs, o, w, h, ho => by
    have h1 := World.ownsRow.stored h o v
    rw [List.set_eq_of_length_le (by rw [cellsR_length]; omega)] at h1
    have h2 := OwnR.beyond vs (o + 1) _ h1.1 (by omega)
    exact ⟨h2.1, h1.2.trans h2.2⟩
/-- What is kept. -/
def hasL (x : (ByteArray × Value) × Prp) : Bool := x.2.l.length != 0
theorem RowsO.all {base : Nat} {w : World} {rs : List (ByteArray × Value)} {ps : List Prp} (h : RowsO base w rs ps) : ∀ x ∈ rs.zip ps, x.1.1 = x.2.k ∧ OwnL base w x.1.2 x.2.l := by
  intro x hx
  obtain ⟨i, hi, rfl⟩ := List.mem_iff_getElem.1 hx
  rw [List.length_zip] at hi
  rw [List.getElem_zip]
  exact h.at' i (by omega) (by omega)
theorem RowsO.sub {base : Nat} {w : World} {z : List ((ByteArray × Value) × Prp)} (h : ∀ x ∈ z, x.1.1 = x.2.k ∧ OwnL base w x.1.2 x.2.l) : RowsO base w (z.map Prod.fst) (z.map Prod.snd) := by
  refine ⟨by simp, fun i hi hg => ?_⟩
  rw [List.getElem_map, List.getElem_map]
  exact h _ (List.getElem_mem _)
theorem full_zip {base : Nat} {w : World} {rs : List (ByteArray × Value)} {ps : List Prp} (h : RowsO base w rs ps) : RowsO base w (((rs.zip ps).filter hasL).map Prod.fst) (full ps) := by
  have e : ((rs.zip ps).filter hasL).map Prod.snd = full ps := by
    have e2 : (rs.zip ps).map Prod.snd = ps := List.map_snd_zip (by have := h.len; omega)
    unfold full
    conv => rhs; rw [← e2, List.filter_map]
    rfl
  rw [← e]
  exact RowsO.sub fun x hx => h.all x (List.mem_filter.1 hx).1
/-- How far DeleteFunc has come: i are kept of the first j. -/
structure DelS (base g c : Nat) (w0 w : World) (rs : List (ByteArray × Value)) (ps : List Prp) (i j : Nat) (cur : List (ByteArray × Value)) : Prop where
  own : OwnR base w (.slice (some ⟨g, 0, none⟩) cur.length c) cur
  len : cur.length = rs.length
  lt : i < j
  le : j ≤ rs.length
  rows : RowsO base w rs ps
  pre : cur.take i = (((rs.zip ps).take j).filter hasL).map Prod.fst
  post : ∀ m, j ≤ m → cur[m]? = rs[m]?
  bel : w0.grownBy w (some g)
  sz : base ≤ w.heap.size
theorem below_by {w w' : World} (hb : Below w.heap.size w w') (row : Option Nat) : w.grownBy w' row := ⟨hb.os, hb.tape, hb.output, hb.size, fun k hk _ => hb.block k hk⟩
theorem DelS.below {base g c : Nat} {w0 w w' : World} {rs cur : List (ByteArray × Value)} {ps : List Prp} {i j : Nat} (h : DelS base g c w0 w rs ps i j cur) (hb : Below w.heap.size w w') : DelS base g c w0 w' rs ps i j cur :=
  ⟨h.own.below hb, h.len, h.lt, h.le, h.rows.below hb, h.pre, h.post, h.bel.trans (below_by hb _), Nat.le_trans h.sz hb.size⟩
theorem zip_take {rs : List (ByteArray × Value)} {ps : List Prp} {j : Nat} (h1 : j < rs.length) (h2 : j < ps.length) : (rs.zip ps).take (j + 1) = (rs.zip ps).take j ++ [(rs[j], ps[j])] := by
  rw [List.take_succ_eq_append_getElem (by rw [List.length_zip]; omega), List.getElem_zip]
theorem DelS.skip {base g c : Nat} {w0 w : World} {rs cur : List (ByteArray × Value)} {ps : List Prp} {i j : Nat} (h : DelS base g c w0 w rs ps i j cur) (hj : j < ps.length) (hn : ps[j].l.length = 0) : DelS base g c w0 w rs ps i (j + 1) cur :=
  ⟨h.own, h.len, by have := h.lt; omega, by have := h.rows.len; omega, h.rows, by
    rw [h.pre, zip_take (by have := h.rows.len; omega) hj, List.filter_append]; simp [hasL, hn], fun m hm => h.post m (by omega), h.bel, h.sz⟩
theorem DelS.keep {base g c : Nat} {w0 w : World} {rs cur : List (ByteArray × Value)} {ps : List Prp} {i j : Nat} (h : DelS base g c w0 w rs ps i j cur) (hj : j < ps.length) (hr : j < rs.length) (hn : ps[j].l.length ≠ 0) :
    DelS base g c w0 ((w.setCell ⟨g, i * 2, none⟩ (.string rs[j].1)).setCell ⟨g, i * 2 + 1, none⟩ rs[j].2) rs ps (i + 1) (j + 1) (cur.set i rs[j]) := by
  have hi : i < cur.length := by have := h.lt; have := h.len; omega
  obtain ⟨n1, n2⟩ := h.own.both i hi rs[j].1 rs[j].2
  refine ⟨by rw [List.length_set]; exact n1, by rw [List.length_set]; exact h.len, by have := h.lt; omega, hr, h.rows.kept h.own n2, ?_, fun m hm => ?_, ?_, Nat.le_trans h.sz n2.size⟩
  · rw [zip_take hr hj, List.filter_append, List.map_append, ← h.pre]
    rw [List.take_succ_eq_append_getElem (by rw [List.length_set]; exact hi), List.getElem_set_self, List.take_set_of_le (Nat.le_refl _)]
    have e : hasL (rs[j], ps[j]) = true := by unfold hasL; simpa using hn
    rw [List.filter_cons_of_pos e]
    rfl
  · rw [List.getElem?_set_ne (by have := h.lt; omega)]
    exact h.post m (by omega)
  · exact h.bel.trans n2
theorem run_clear2 (w : World) (ty : TypeId) (b o n c : Nat) (hn : 0 < n) (hc : ∀ j, j < n * 2 → (w.cell? ⟨b, o + j, none⟩).isSome = true) (hf : ∀ j, j < n * 2 → w.frozen? ⟨b, o + j, none⟩ = false) :
    (Builtin.clear_ #[36] ty #[.slice (some ⟨b, o, none⟩) n c]).run Tryz.prog w = .ok (.tuple #[]) (w.setCells b o (cellsR (List.replicate n (⟨#[]⟩, .slice none 0 0)))) := by
  have hz : (Builtin.zeroCells (Value.agg #[.string ⟨#[]⟩, .slice none 0 0]).cells n).toList = cellsR (List.replicate n (⟨#[]⟩, .slice none 0 0)) := made_props n
  have hl : (cellsR (List.replicate n ((⟨#[]⟩ : ByteArray), Value.slice none 0 0))).length = n * 2 := by rw [cellsR_length]; simp
  have hst := run_storeCells_cells (P := Tryz.prog) b o (cellsR (List.replicate n (⟨#[]⟩, .slice none 0 0))) 0 w (by rw [hl]; simpa using hc) (by rw [hl]; simpa using hf) (by
    intro v hv
    unfold cellsR at hv
    rw [List.mem_flatMap] at hv
    obtain ⟨r, hr, h2⟩ := hv
    rw [List.eq_of_mem_replicate hr] at h2
    simp only [List.mem_cons, List.not_mem_nil, or_false] at h2
    rcases h2 with rfl | rfl <;> rfl)
  simp only [Nat.add_zero] at hst
  obtain ⟨m, rfl⟩ : ∃ m, n = m + 1 := ⟨n - 1, by omega⟩
  have hv : ∀ w, (zeroValue 62).run Tryz.prog w = .ok (.agg #[.string ⟨#[]⟩, .slice none 0 0]) w := fun w => by
    have := Tryz.zeroValue62 w
    exact this
  simp [Builtin.clear_, run_underlying (P := Tryz.prog) Tryz.underlying36, hv, hz, hst]
end Go.Proofs.YtmolpogehgeebaaGreat


namespace Go.Proofs.YtmolpogehgeebaaGreat
open Go.RowKit
def DelAns (base : Nat) (v : Value) (ps : List Prp) (w : World) (e : Ending) (w' : World) : Prop := ∃ u rs, e = .returned u ∧ OwnR base w' u rs ∧ RowsO base w' rs (full ps) ∧ w.grownBy w' v.ownBlock
section
set_option maxRecDepth 100000
set_option maxHeartbeats 8000000
theorem Delete_any (base : Nat) (v : Value) (rs : List (ByteArray × Value)) (ps : List Prp) (w : World) (h : OwnR base w v rs) (hr : RowsO base w rs ps) (hb : base ≤ w.heap.size) (hl : ps.length ≤ 1000000) :
    Calls Tryz.prog 86 #[v, .func (.func 87) #[] #[]] w (DelAns base v ps w) := by
  have CI := Lib.hid (IndexE_any v ps w (h.sp hr) hl)
  have HO := Lib.hid h
  have HR := Lib.hid hr
  have HB := Lib.hid hb
  have HL := Lib.hid hr.len
  obtain ⟨A, c, rfl, hc1, hc2, hA⟩ := h.form
  have HA := Lib.hid hA
  clear h hr hb hA
  go_enter Tryz.func86, Tryz.ntmps86
  go_upto_region 2 with (go_at_call 157; (with_reducible refine CI.out.mono ?_); rintro e w1 ⟨n, rfl, hb, hn⟩; have B1 := Lib.hid hb; have HN := Lib.hid hn; clear hb hn)
  rcases HN.out with ⟨rfl, hall⟩ | ⟨i, rfl, hi, hi0, hpre⟩
  · have HAll := Lib.hid hall
    clear hall HN
    go_wp2_with fail
    go_ret
    refine ⟨_, rs, rfl, HO.out.below B1.out, ?_, below_by B1.out _⟩
    have e : full ps = ps := List.filter_eq_self.2 fun q hq => by simpa using HAll.out q hq
    rw [e]
    exact HR.out.below B1.out
  · obtain ⟨g, rfl, hg, hgl, hfr, _⟩ := HA.out (by have := HL.out; omega)
    have D0 : Hid (DelS base g c w w1 rs ps i (i + 1) rs) := Lib.hid ⟨HO.out.below B1.out, rfl, by omega, by have := HL.out; omega, HR.out.below B1.out, by
      have hri : i < rs.length := by have := HL.out; omega
      rw [zip_take hri hi, List.filter_append]
      have e1 : ((rs.zip ps).take i).filter hasL = (rs.zip ps).take i := List.filter_eq_self.2 fun x hx => by
        obtain ⟨j, hj, rfl⟩ := List.mem_iff_getElem.1 hx
        rw [List.length_take, List.length_zip] at hj
        rw [List.getElem_take, List.getElem_zip]
        have := hpre j (by omega) (by omega)
        unfold hasL
        simp [this]
      rw [e1]
      have e2 : hasL (rs[i], ps[i]) = false := by unfold hasL; simp [hi0]
      rw [List.filter_cons_of_neg (by rw [e2]; exact Bool.false_ne_true)]
      rw [List.filter_nil, List.append_nil, List.map_take, List.map_fst_zip (by have := HL.out; omega)], fun m _ => rfl, below_by B1.out _, Nat.le_trans HB.out B1.out.size⟩
    have b1 : ¬ ((i : Int) = -1) := by omega
    have b2 : ((i : Int) == -1) = false := beq_eq_false_iff_ne.2 b1
    have b3 : (i : Int) ≤ 1000000 := by omega
    have b4 : (0 : Int) ≤ (i : Int) := by omega
    have HI := Lib.hid (show i < ps.length from hi)
    clear hpre hi0 HN b1 hfr HA CI HO HR hgl hi
    go_wp2_with fail
    go_loopw [5, 6, 7] (fun si sj _ wr => ∃ (a j : Nat) (cur : List (ByteArray × Value)), si = .int .i64 a ∧ sj = .int .i64 j ∧ DelS base g c w wr rs ps a j cur) (fun _ sj _ _ => rs.length - (intOf sj).toNat)
    case atStart => exact ⟨i, i + 1, rs, rfl, by go_num, D0.out⟩
    case round =>
      obtain ⟨a, j, cur, rfl, rfl, hd⟩ := hrel
      have HD := Lib.hid hd
      have HCL := Lib.hid hd.len
      have hlt1 := hd.lt
      have hle := hd.le
      obtain ⟨A2, c2, e2, _, _, hA2⟩ := hd.own.form
      cases e2
      obtain ⟨g2, e3, _, hg2, hfr, hcells⟩ := hA2 (by have := hd.len; omega)
      cases e3
      by_cases hlt : j < rs.length
      · have hjp : j < ps.length := by rw [← HL.out]; exact hlt
        have hja : a < cur.length := by rw [HCL.out]; omega
        obtain ⟨r0, r1⟩ := hcells j (by rw [HCL.out]; exact hlt)
        have hpo : cur[j]'(by rw [HCL.out]; exact hlt) = rs[j] := by
          have := hd.post j (Nat.le_refl _)
          rw [List.getElem?_eq_getElem (by rw [HCL.out]; exact hlt), List.getElem?_eq_getElem hlt] at this
          exact Option.some.inj this
        rw [hpo] at r0 r1
        have SK := Lib.hid (fun W (h : DelS base g c w W rs ps a j cur) => h.skip hjp)
        have KE := Lib.hid (fun W (h : DelS base g c w W rs ps a j cur) => h.keep hjp hlt)
        obtain ⟨_, hown⟩ := hd.rows.at' j hlt hjp
        obtain ⟨Al, cl, hu, _, _⟩ := hown.at
        rw [hu] at r1 KE
        obtain ⟨key, hkey⟩ : ∃ s, rs[j].1 = s := ⟨_, rfl⟩
        rw [hkey] at r0 KE
        obtain ⟨n, hn⟩ : ∃ s, ps[j].l.length = s := ⟨_, rfl⟩
        rw [hn] at r1 SK KE
        obtain ⟨q0, q1⟩ := hcells a hja
        clear hd hcells hown hu hkey hn hpo hA2
        have CM := Lib.hid (fun W => Apply1_any key Al n cl W)
        have i0 : (j : Int) < (rs.length : Int) := by omega
        have i1 : (0 : Int) ≤ (j : Int) := by omega
        have i2 : (a : Int) < (rs.length : Int) := by omega
        have i3 : (0 : Int) ≤ (a : Int) := by omega
        go_upto_region 8 with fail
        have Q0 := Lib.hid (Bx.new wr #[.string key, .slice Al n cl] 62)
        have HB0 := Lib.hid ((Below.refl wr.heap.size wr).alloc (Nat.le_refl _) (.cells #[.string key, .slice Al n cl] 62))
        obtain ⟨W5, hW5⟩ : ∃ W, wr.alloc (.cells #[.string key, .slice Al n cl] 62) = W := ⟨_, rfl⟩
        rw [hW5] at Q0 HB0
        try rw [hW5]
        clear hW5 r0 r1
        obtain ⟨pq, hpq⟩ : ∃ q, wr.heap.size = q := ⟨_, rfl⟩
        have HG := Lib.hid (show pq ≠ g by omega)
        rw [hpq] at Q0
        try rw [hpq]
        clear hpq hfr
        have x0 := Q0.out.c
        have HQ0 := Lib.hid q0
        have HQ1 := Lib.hid q1
        clear q0 q1
        go_upto_if 29 with (first
          | (go_at_call 87; (with_reducible refine (CM.out _).mono ?_); rintro e w2 ⟨c1, rfl, hc, hb⟩; have HC := Lib.hid hc; have B5 := Lib.hid (HB0.out.trans (hb.mono HB0.out.size)); have Q1 := Lib.hid (Q0.out.below hb); clear hc hb x0)
          | fail)
        cases c1
        · have D2 := Lib.hid (HD.out.below B5.out)
          have HNN := Lib.hid (show ¬ n = 0 from fun h => by have := HC.out.2 h; simp at this)
          obtain ⟨A3, c3, e4, _, _, hA3⟩ := D2.out.own.form
          cases e4
          obtain ⟨g3, e5, _, _, hfr2, hc3⟩ := hA3 (by omega)
          cases e5
          obtain ⟨q0, q1⟩ := hc3 a hja
          have x0 := Q1.out.c
          have K2 := Lib.hid (KE.out _ D2.out HNN.out)
          clear hA3 hc3
          go_wp2_with fail
          exact ⟨⟨a + 1, j + 1, _, by go_num, by go_num, K2.out⟩, by simp [intOf]; omega⟩
        · have D2 := Lib.hid (HD.out.below B5.out)
          have HNN := Lib.hid (show n = 0 from HC.out.1 (by trivial))
          go_wp2_with fail
          exact ⟨⟨a, j + 1, cur, rfl, by go_num, SK.out _ D2.out HNN.out⟩, by simp [intOf]; omega⟩
      · obtain rfl : j = rs.length := by omega
        have hal : a < rs.length := by omega
        have hcs : ∀ k, k < rs.length * 2 → (wr.cell? ⟨g, k, none⟩).isSome = true := fun k hk => by
          obtain ⟨h1, h2⟩ := hcells (k / 2) (by rw [HCL.out]; omega)
          rcases (show k % 2 = 0 ∨ k % 2 = 1 by omega) with h | h
          · rw [show k / 2 * 2 = k by omega] at h1
            rw [h1]; rfl
          · rw [show k / 2 * 2 + 1 = k by omega] at h2
            rw [h2]; rfl
        have hcl := fun ty => run_clear2 wr ty g (a * 2) (rs.length - a) (c - a) (by omega) (fun k hk => hcs _ (by omega)) (fun k _ => hfr _)
        have HT := Lib.hid (show (cur.take a).length = a by rw [List.length_take, HCL.out]; omega)
        have O1 := hd.own.cut a (by rw [HCL.out]; omega)
        have F1 := full_zip hd.rows
        have hpre := hd.pre
        rw [show (rs.zip ps).take rs.length = rs.zip ps from List.take_of_length_le (by rw [List.length_zip]; omega)] at hpre
        rw [← hpre] at F1
        obtain ⟨o2, g2⟩ := O1.beyond (cellsR (List.replicate (rs.length - a) (⟨#[]⟩, .slice none 0 0))) (a * 2) wr (by rw [HT.out]; exact Nat.le_refl _)
        have F2 := Lib.hid (F1.kept O1 g2)
        have B2 := Lib.hid (hd.bel.trans g2)
        have O2 := Lib.hid o2
        have i1 : (0 : Int) ≤ (a : Int) := by omega
        have i2 : (a : Int) ≤ (rs.length : Int) := by omega
        have i3 : (rs.length : Int) ≤ (c : Int) := by omega
        rw [HT.out] at O2
        clear o2 g2 O1 F1 hpre hd HD hcs hcells hA2 hfr
        go_wp2_with fail
        go_ret
        exact ⟨_, _, rfl, O2.out, F2.out, B2.out⟩
end
end Go.Proofs.YtmolpogehgeebaaGreat


namespace Go.Proofs.YtmolpogehgeebaaGreat
open Go.RowKit Go.Maps
/-- A function without captives, as a number. -/
def RF (v : Value) : Option (DataW Unit × List MemPlace) :=
  match v with
  | .nilFunc => some (.nil, [])
  | .func (.func n) a b => if a.size = 0 ∧ b.size = 0 then some (.lit (.int .i64 n), []) else none
  | _ => none
theorem RF_func (n : Nat) : RF (.func (.func n) #[] #[]) = some (.lit (.int .i64 n), []) := by simp [RF]
theorem RF_inv {v : Value} {n : Nat} {ps : List MemPlace} (h : RF v = some (.lit (.int .i64 n), ps)) : v = .func (.func n) #[] #[] := by
  unfold RF at h
  split at h
  · cases h
  · next m a b =>
    split at h
    · next hs =>
      have h1 := Array.eq_empty_of_size_eq_zero hs.1
      have h2 := Array.eq_empty_of_size_eq_zero hs.2
      subst h1 h2
      simp only [Option.some.injEq, Prod.mk.injEq, DataW.lit.injEq, Lit.int.injEq, true_and] at h
      have h3 : m = n := Int.ofNat.inj h.1
      rw [h3]
    · cases h
  · cases h
theorem RF_nil {v : Value} {ps : List MemPlace} (h : RF v = some (.nil, ps)) : v = .nilFunc := by
  unfold RF at h
  split at h
  · rfl
  · split at h
    · simp at h
    · cases h
  · cases h
theorem keyI : Keyed Tryz.prog 3 := int_keyed Tryz.underlying3
theorem key_int (k : Int) (h : (Lit.int .i64 k).wf = true) : keyOf Tryz.prog 3 (.int .i64 k) = some (.int .i64 k) := keyOf_int_mk Tryz.underlying3 h
theorem isKeyI (k : Int) (h : (Lit.int .i64 k).wf = true) : WideAt.IsKeyLit (.int .i64 k) := keyI.key (key_int k h)
theorem zeroF (w : World) : (zeroValue 156).run Tryz.prog w = .ok .nilFunc w := by kernel_rfl
/-- What the table holds. -/
def effD : DataW Unit := (((DataW.map []).put (.int .i64 3) (.lit (.int .i64 (153 : Nat)))).put (.int .i64 4) (.lit (.int .i64 (154 : Nat)))).put (.int .i64 5) (.lit (.int .i64 (155 : Nat)))
/-- Block m is the table of effects. -/
def EffM (w : World) (m : Nat) : Prop := ∃ n, w.ownsMap Tryz.prog 3 RF m n effD
def fnOf (k : Int) : Value := if k = 3 then .func (.func 153) #[] #[] else if k = 4 then .func (.func 154) #[] #[] else if k = 5 then .func (.func 155) #[] #[] else .nilFunc
theorem eff_at (k : Int) : has effD (.int .i64 k) = decide (k = 3 ∨ k = 4 ∨ k = 5) ∧ (∀ v ps, RF v = some (effD.atKey (.int .i64 k) .nil, ps) → v = fnOf k) := by
  have i0 : IsMap (DataW.map [] : DataW Unit) := isMap_empty
  have i1 : ∀ a b : Int, ∀ d : DataW Unit, ∀ D : DataW Unit, IsMap D → IsMap (D.put (.int .i64 a) d) := fun a b d D h => by
    obtain ⟨es, rfl⟩ := h
    exact ⟨_, rfl⟩
  have hne : ∀ a b : Int, a ≠ b → Lit.int .i64 a ≠ Lit.int .i64 b := fun a b h e => h (by injection e)
  have k3 : WideAt.IsKeyLit (.int .i64 3) := isKeyI 3 (by decide)
  have k4 : WideAt.IsKeyLit (.int .i64 4) := isKeyI 4 (by decide)
  have k5 : WideAt.IsKeyLit (.int .i64 5) := isKeyI 5 (by decide)
  unfold effD fnOf
  by_cases h5 : k = 5
  · subst h5
    rw [has_put_same (i1 4 0 _ _ (i1 3 0 _ _ i0)) k5, atKey_put_same (i1 4 0 _ _ (i1 3 0 _ _ i0)) k5]
    exact ⟨by decide, fun v ps h => by rw [if_neg (by decide), if_neg (by decide), if_pos rfl]; exact RF_inv h⟩
  · rw [has_put_other (hne _ _ h5), atKey_put_other (hne _ _ h5)]
    by_cases h4 : k = 4
    · subst h4
      rw [has_put_same (i1 3 0 _ _ i0) k4, atKey_put_same (i1 3 0 _ _ i0) k4]
      exact ⟨by decide, fun v ps h => by rw [if_neg (by decide), if_pos rfl]; exact RF_inv h⟩
    · rw [has_put_other (hne _ _ h4), atKey_put_other (hne _ _ h4)]
      by_cases h3 : k = 3
      · subst h3
        rw [has_put_same i0 k3, atKey_put_same i0 k3]
        exact ⟨by decide, fun v ps h => by rw [if_pos rfl]; exact RF_inv h⟩
      · rw [has_put_other (hne _ _ h3), atKey_put_other (hne _ _ h3)]
        refine ⟨?_, fun v ps h => by rw [if_neg h3, if_neg h4, if_neg h5]; exact RF_nil h⟩
        rw [decide_eq_false (by omega)]
        rfl
theorem EffM.look {w : World} {m : Nat} (h : EffM w m) (k : Int) (hk : (Lit.int .i64 k).wf = true) :
    (Instr.lookup 158 (.map (some m)) (.int .i64 k) true).run Tryz.prog w = .ok (.tuple #[fnOf k, .bool (decide (k = 3 ∨ k = 4 ∨ k = 5))]) w := by
  obtain ⟨n, h⟩ := h
  obtain ⟨v, ps, hr, hv⟩ := h.look_ok (t := 158) (e := 156) keyI Tryz.underlying158 (zeroF w) (zd := .nil) (zp := []) rfl (key_int k hk)
  rw [hr, (eff_at k).1, (eff_at k).2 v ps hv]
theorem EffM.below {w w' : World} {m : Nat} (h : EffM w m) (hb : Below w.heap.size w w') : EffM w' m := by
  obtain ⟨n, h⟩ := h
  have hlt := h.lt
  obtain ⟨es, clock, hbk, F, hs, hD⟩ := h
  exact ⟨n, es, clock, (hb.block m hlt).trans hbk, F, hs, hD⟩
section
set_option maxRecDepth 100000
set_option maxHeartbeats 2000000
theorem effects_any (w : World) : Calls Tryz.prog 84 #[] w fun e w' => ∃ m, e = .returned (.map (some m)) ∧ EffM w' m ∧ Below w.heap.size w w' := by
  have hmm := @run_makeMap Tryz.prog
  obtain ⟨w1, r1, o1, g1⟩ := (World.ownsMap_made w Tryz.prog 3 RF).update (t := 158) (e := 156) keyI Tryz.underlying158 (by unfold maxLen; omega) (key_int 3 (by decide)) (RF_func 153)
  obtain ⟨w2, r2, o2, g2⟩ := o1.update (t := 158) (e := 156) keyI Tryz.underlying158 (by unfold maxLen; omega) (key_int 4 (by decide)) (RF_func 154)
  obtain ⟨w3, r3, o3, g3⟩ := o2.update (t := 158) (e := 156) keyI Tryz.underlying158 (by unfold maxLen; omega) (key_int 5 (by decide)) (RF_func 155)
  have B3 := Lib.hid (((Below.refl w.heap.size w).alloc (Nat.le_refl _) (.map #[] 0)).grown ((g1.trans g2).trans g3) (by simp) fun q hq => Nat.le_of_eq (Option.some.inj hq))
  have O3 := Lib.hid (show EffM w3 w.heap.size from ⟨_, o3⟩)
  clear o1 o2 o3 g1 g2 g3
  go_enter Tryz.func84, Tryz.ntmps84
  go_wp2
  go_ret
  exact ⟨_, rfl, O3.out, B3.out⟩
end
end Go.Proofs.YtmolpogehgeebaaGreat


namespace Go.Proofs.YtmolpogehgeebaaGreat
open Go.RowKit
/-- What an entity becomes by an operation. -/
def Applied (x : Ent) (o : Co.OP) (y : Ent) : Prop :=
  (o.kind = 3 ∧ kept x o.pf o.pt y) ∨ (o.kind = 4 ∧ dropped x o.pf o.pt y) ∨
  (o.kind = 5 ∧ Se.Iset.covers x.val [((o.pf : Int), (o.pt : Int))] ∧ changed x o.pf o.pt o.key o.v y)
/-- What an operation is refused for. -/
def EntRefused (x : Ent) (o : Co.OP) (n : Int) : Prop := o.kind = 5 ∧
  ((¬ Se.Iset.covers x.val [((o.pf : Int), (o.pt : Int))] ∧ n = 34) ∨ (Se.Iset.covers x.val [((o.pf : Int), (o.pt : Int))] ∧ (∀ q ∈ x.ps, q.k ≠ o.key) ∧ o.v.k ≠ 0 ∧ x.ps.length = 16 ∧ n = 3))
/-- What an effect leaves in the box p. -/
def EffEnd (base p : Nat) (x : Ent) (o : Co.OP) (w : World) (e : Ending) (w' : World) : Prop := ∃ n : Int, e = .returned (.int .i64 n) ∧ But p base w w' ∧
  ((n ≠ 0 ∧ EntRefused x o n) ∨ (n = 0 ∧ ∃ y : Ent, Held base p w' y ∧ y.ps.length ≤ 16 ∧ Applied x o { y with ps := full y.ps }))
theorem may_period {o : Co.OP} (h : o.may) : (o.pf : Int) < o.pt ∧ (o.pt : Int) ≤ 1099511627776 := by
  have h1 := h.2.1
  have h2 := h.2.2.1
  omega
theorem eff_keep (base p : Nat) (x : Ent) (o : Co.OP) (w : World) (h : Held base p w x) (hb : base ≤ w.heap.size) (hx : x.wide) (hm : x.may) (ho : o.may) (hk : o.kind = 3) :
    Calls Tryz.prog 153 #[.pointer (some ⟨p, 0, none⟩), o.val] w (EffEnd base p x o w) := by
  refine (keep_any base p x o.kind o.edge o.id o.label o.fr o.til o.key o.v o.pf o.pt w h hb hx ⟨by omega, by omega⟩).mono ?_
  rintro e w' ⟨R, rfl, hr, hh, hbut⟩
  exact ⟨0, rfl, hbut, .inr ⟨rfl, _, hh, hm.num, .inl ⟨hk, kept_of hm (may_period ho) hr⟩⟩⟩
theorem eff_drop (base p : Nat) (x : Ent) (o : Co.OP) (w : World) (h : Held base p w x) (hb : base ≤ w.heap.size) (hx : x.wide) (hm : x.may) (ho : o.may) (hk : o.kind = 4) :
    Calls Tryz.prog 154 #[.pointer (some ⟨p, 0, none⟩), o.val] w (EffEnd base p x o w) := by
  refine (drop_any base p x o.kind o.edge o.id o.label o.fr o.til o.key o.v o.pf o.pt w h hb hx hm ⟨by omega, by omega⟩).mono ?_
  rintro e w' ⟨R, qs, rfl, hr, hq, hh, hbut⟩
  refine ⟨0, rfl, hbut, .inr ⟨rfl, _, hh, ?_, .inr (.inl ⟨hk, dropped_of hm (may_period ho) hr hq⟩)⟩⟩
  show qs.length ≤ 16
  rw [hq.len]
  exact hm.num
theorem kind5 {o : Co.OP} (ho : o.may) (hk : o.kind = 5) : Co.wordB o.key = true ∧ setP o.v := by
  rcases ho.2.2.2 with h | h | h | h
  · omega
  · omega
  · omega
  · exact ⟨h.2.2.2.2.1, h.2.2.2.2.2.1, h.2.2.2.2.2.2.1, h.2.2.2.2.2.2.2⟩
theorem none_of {v : VP} (h : v.may) (hk : v.k = 0) : v = VP.none := by
  obtain ⟨k, b, n, f, s⟩ := v
  unfold VP.may MayV at h
  simp only at h hk
  subst hk
  unfold VP.none
  simp at h
  simp [h]
theorem eff_set (base p : Nat) (x : Ent) (o : Co.OP) (w : World) (h : Held base p w x) (hb : base ≤ w.heap.size) (hx : x.wide) (hm : x.may) (ho : o.may) (hvw : o.v.wide) (hk : o.kind = 5) :
    Calls Tryz.prog 155 #[.pointer (some ⟨p, 0, none⟩), o.val] w (EffEnd base p x o w) := by
  obtain ⟨hword, hset⟩ := kind5 ho hk
  have hc : Se.Iset.covers x.val [((o.pf : Int), (o.pt : Int))] → ∀ t : Int, (o.pf : Int) ≤ t ∧ t < (o.pt : Int) → Se.Iset.has x.val t = true := fun h t ht => h t ((has_one (may_period ho) t).2 ht)
  refine (set_any base p x o.kind o.edge o.id o.label o.fr o.til o.key o.v o.pf o.pt w h hb hx hm ⟨by omega, by omega⟩ (may_period ho) (by have := (Co.wordB_size hword).1; omega) hset hvw).mono ?_
  rintro e w' ⟨n, rfl, hbut, h⟩
  refine ⟨n, rfl, hbut, ?_⟩
  rcases h with ⟨h1, rfl⟩ | ⟨h1, h2, h3, rfl, hh⟩ | ⟨h1, h2, h3, h4, rfl⟩ | ⟨h1, rfl, qs, L, h2, h3, h4, hh⟩
  · exact .inl ⟨by decide, hk, .inl ⟨h1, rfl⟩⟩
  · refine .inr ⟨rfl, x, hh, hm.num, .inr (.inr ⟨hk, h1, ?_⟩)⟩
    rw [none_of hset.1 h3]
    exact changed_none hm (lineK_none h2)
  · exact .inl ⟨by decide, hk, .inr ⟨h1, h2, h3, h4, rfl⟩⟩
  · exact .inr ⟨rfl, _, hh, h4, .inr (.inr ⟨hk, h1, changed_of hm hword (hc h1) h3 h2 h4⟩)⟩
end Go.Proofs.YtmolpogehgeebaaGreat


namespace Go.Proofs.YtmolpogehgeebaaGreat
open Go.RowKit
/-- The operation is one that applies to the entity. -/
def FitsE (x : Ent) (o : Co.OP) : Prop := (o.kind = 3 ∨ o.kind = 4 ∨ o.kind = 5) ∧ o.may ∧ o.edge = x.edge ∧ (o.id : Int) = x.id
abbrev noE : Ent := ⟨false, 0, ⟨#[]⟩, 0, 0, [], []⟩
def ApplyEnd (x : Ent) (o : Co.OP) (w : World) (e : Ending) (w' : World) : Prop := ∃ (u : Value) (n : Int), e = .returned (.tuple #[u, .int .i64 n]) ∧ Below w.heap.size w w' ∧
  ((¬ x.may ∧ n = 5 ∧ EOwn w.heap.size w' u noE) ∨ (x.may ∧ ¬ FitsE x o ∧ n = 1 ∧ EOwn w.heap.size w' u noE) ∨ (x.may ∧ FitsE x o ∧ n ≠ 0 ∧ EntRefused x o n ∧ EOwn w.heap.size w' u noE) ∨
   (x.may ∧ FitsE x o ∧ n = 0 ∧ ∃ y, EOwn w.heap.size w' u y ∧ Applied x o y))
theorem Bx.butB {g B : Nat} {w w' : World} {p : Nat} {C : Array Value} (h : Bx w p C) (hb : But g B w w') (hp : p < B) (hne : p ≠ g) : Bx w' p C := by
  have e := hb.block p hp hne
  exact ⟨Nat.lt_of_lt_of_le h.lt hb.size, fun j => (World.cell?_of_block (a := ⟨p, j, none⟩) e).trans (h.c j), fun j => (World.frozen?_of_block (a := ⟨p, j, none⟩) e).trans (h.fr j)⟩
/-- A result box filled with an entity whose lists are one's own. -/
theorem res_put {base B p : Nat} {w W : World} {sv sp : Value} {x : Ent} {rs : List (ByteArray × Value)} {c0 c1 c2 c3 c4 c5 c6 : Value} (h : Bx W p #[c0, c1, c2, c3, c4, c5, c6]) (hp : base ≤ p) (hpB : p < B) (hBB : base ≤ B) (hv : Se.OwnP B W sv x.val) (hr : OwnR B W sp rs) (hq : RowsO B W rs x.ps) (hb : Below base w W) (hW : base ≤ W.heap.size) :
    ∃ W2, (((((((W.setCell ⟨p, 0, none⟩ (.bool x.edge)).setCell ⟨p, 1, none⟩ (.int .u64 x.id)).setCell ⟨p, 2, none⟩ (.string x.lab)).setCell ⟨p, 3, none⟩ (.int .u64 x.fr)).setCell ⟨p, 4, none⟩ (.int .u64 x.til)).setCell ⟨p, 5, none⟩ sv).setCell ⟨p, 6, none⟩ sp) = W2 ∧ Bx W2 p (x.cells sv sp) ∧ Below base w W2 ∧ EOwn base W2 (.agg (x.cells sv sp)) x := by
  obtain ⟨X8, G8⟩ := put7 h (.bool x.edge) (.int .u64 x.id) (.string x.lab) (.int .u64 x.fr) (.int .u64 x.til) sv sp
  refine ⟨_, rfl, X8, hb.grown G8 hW (fun q hq => by have e : p = q := Option.some.inj hq; omega), sv, sp, rs, rfl, Se.OwnP.mono (World.ownsRow.kept hv G8 (Se.OwnP.apart hv hpB)) hBB, OwnR.mono (World.ownsRow.kept hr G8 (OwnR.apart hr hpB)) hBB, hq.len, fun i hi hg => ⟨(hq.at' i hi hg).1, OwnL.mono (World.ownsRow.kept (hq.at' i hi hg).2 G8 (OwnL.apart (hq.at' i hi hg).2 hpB)) hBB⟩⟩
end Go.Proofs.YtmolpogehgeebaaGreat


