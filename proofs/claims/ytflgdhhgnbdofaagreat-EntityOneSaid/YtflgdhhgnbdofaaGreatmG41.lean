/- The first property whose line is none: the closure of Apply, IndexFunc. -/
/- Properties whose lines are none go: what DeleteFunc leaves, in plain words; clear. -/
/- slices.DeleteFunc of properties, with the closure of Apply. -/
import Derived.Test.YtflgdhhgnbdofaaGreatmEC6
import Derived.Lib.SliceRun
namespace Go.Proofs.YtflgdhhgnbdofaaGreat
open Go.RowKit
theorem infoP2 : (Tryz.prog.info? 62).map (·.size) = some 2 := by kernel_rfl
/-- A call that looks for the first property without a line. -/
def NoneAt (ps : List Prp) (w : World) (e : Ending) (w' : World) : Prop := ∃ n : Int, e = .returned (.int .i64 n) ∧ Below w.heap.size w w' ∧
  ((n = -1 ∧ ∀ q ∈ ps, q.l.length ≠ 0) ∨ ∃ i : Nat, n = i ∧ ∃ h : i < ps.length, ps[i].l.length = 0 ∧ ∀ j (g : j < ps.length), j < i → ps[j].l.length ≠ 0)
section
set_option maxRecDepth 100000
set_option maxHeartbeats 2000000
theorem Apply1_any (k : ByteArray) (A : Option Addr) (n c : Nat) (w : World) : Calls Tryz.prog 74 #[.agg #[.string k, .slice A n c]] w (Says (n = 0) w) := by
  have HE : Hid (((n : Int) == 0) = true ↔ n = 0) := Lib.hid (by simp)
  have B0 := Lib.hid ((Below.refl w.heap.size w).alloc (Nat.le_refl _) (.cells #[.string k, .slice A n c] 62))
  have x0 := (Bx.new w #[.string k, .slice A n c] 62).c
  go_enter Tryz.func74, Tryz.ntmps74
  go_wp2
  go_ret
  exact ⟨_, rfl, HE.out, B0.out⟩
theorem IndexE_any (v : Value) (ps : List Prp) (w : World) (h : SP w v ps) (hl : ps.length ≤ 1000000) :
    Calls Tryz.prog 146 #[v, .func (.func 74) #[] #[]] w (NoneAt ps w) := by
  obtain ⟨A, c, rfl, hA, hm⟩ := h
  have HA := Lib.hid hA
  clear hA
  go_enter Tryz.func146, Tryz.ntmps146
  go_wp2
  go_loopw [8] (fun i wr => ∃ k : Nat, k ≤ ps.length ∧ i = .int .i64 k ∧ (∀ j (h : j < ps.length), j < k → ps[j].l.length ≠ 0) ∧ Below w.heap.size w wr) (fun i _ => ps.length - (intOf i).toNat)
  case atStart => exact ⟨0, Nat.zero_le _, rfl, fun j _ h => absurd h (Nat.not_lt_zero j), Below.refl _ _⟩
  case round =>
    obtain ⟨k, hk, rfl, hp, hb⟩ := hrel
    have HP := Lib.hid hp
    have HB := Lib.hid hb
    clear hp hb
    by_cases hlt : k < ps.length
    · obtain ⟨g, off, rfl, lg, cg⟩ := (HA.out.below HB.out) (by omega)
      obtain ⟨r0, u, r1, hu⟩ := cg k hlt
      obtain ⟨Al, cl, rfl, _⟩ := hu
      have HK : Hid (ps[k].l.length ≠ 0 → ∀ j (h : j < ps.length), j < k + 1 → ps[j].l.length ≠ 0) := Lib.hid fun h j h1 h2 => if e : j = k then (by subst e; exact h) else HP.out j h1 (by omega)
      have HN : Hid (ps[k].l.length = 0 → ∃ i : Nat, (k : Int) = i ∧ ∃ h : i < ps.length, ps[i].l.length = 0 ∧ ∀ j (g : j < ps.length), j < i → ps[j].l.length ≠ 0) := Lib.hid fun h => ⟨k, rfl, hlt, h, HP.out⟩
      obtain ⟨key, hkey⟩ : ∃ s, ps[k].k = s := ⟨_, rfl⟩
      obtain ⟨n, hn⟩ : ∃ s, ps[k].l.length = s := ⟨_, rfl⟩
      rw [hkey] at r0
      rw [hn] at r1 HK HN
      have CM := Lib.hid (fun W => Apply1_any key Al n cl W)
      have i0 : (k : Int) < (ps.length : Int) := by omega
      have i1 : (0 : Int) ≤ (k : Int) := by omega
      clear cg HA HP hkey hn
      go_wp2_with (first
        | (go_at_call 74; (with_reducible refine (CM.out _).mono ?_); rintro e w1 ⟨c1, rfl, hc, hb⟩; have HC := Lib.hid hc; have B1 := Lib.hid (HB.out.trans (hb.mono HB.out.size)); clear hc hb r0 r1; cases c1)
        | fail)
      · have HK2 := Lib.hid (HK.out (by have := HC.out; simpa using this))
        clear HK HN
        exact ⟨⟨k + 1, by omega, by go_num, HK2.out, B1.out⟩, by simp [intOf]; omega⟩
      · go_ret
        exact ⟨k, rfl, B1.out, .inr (HN.out (by simpa using HC.out))⟩
    · have HT : Hid (∀ q ∈ ps, q.l.length ≠ 0) := Lib.hid fun o ho => by
        obtain ⟨j, hj, rfl⟩ := List.mem_iff_getElem.1 ho
        exact HP.out j hj (by omega)
      clear HP
      go_wp2
      go_ret
      exact ⟨-1, rfl, HB.out, .inl ⟨rfl, HT.out⟩⟩
end
end Go.Proofs.YtflgdhhgnbdofaaGreat

namespace Go.Proofs.YtflgdhhgnbdofaaGreat
open Go.RowKit Go.Lib
theorem OwnR.cut {base g c : Nat} {w : World} {rs : List (ByteArray × Value)} (h : OwnR base w (.slice (some ⟨g, 0, none⟩) rs.length c) rs) (i : Nat) (hi : i ≤ rs.length) :
    OwnR base w (.slice (some ⟨g, 0, none⟩) (rs.take i).length c) (rs.take i) := by
  have hl : (rs.take i).length = i := by rw [List.length_take]; omega
  rcases h.2 with ⟨h', _⟩ | ⟨g', cap', cur, h', hb, hg, hnc, hcm, hcs, htake⟩
  · simp at h'
  · simp only [Value.slice.injEq, Option.some.injEq, Addr.mk.injEq, and_true, true_and] at h'
    obtain ⟨rfl, rfl⟩ := h'
    refine ⟨by rw [cellsR_length], .inr ⟨g, c, cur, rfl, hb, hg, by omega, hcm, hcs, ?_⟩⟩
    rw [hl, ← cellsR_take, ← htake, List.take_take, Nat.min_eq_left (by omega)]
theorem OwnR.beyond {base g c : Nat} {rs : List (ByteArray × Value)} : ∀ (vs : List Value) (o : Nat) (w : World), OwnR base w (.slice (some ⟨g, 0, none⟩) rs.length c) rs → rs.length * 2 ≤ o →
    OwnR base (w.setCells g o vs) (.slice (some ⟨g, 0, none⟩) rs.length c) rs ∧ w.grownBy (w.setCells g o vs) (some g)
  | [], _, w, h, _ => ⟨h, ⟨rfl, rfl, rfl, Nat.le_refl _, fun _ _ _ => rfl⟩⟩
  | v :: vs, o, w, h, ho => by
    have h1 := World.ownsRow.stored h o v
    rw [List.set_eq_of_length_le (by rw [cellsR_length]; omega)] at h1
    have h2 := OwnR.beyond vs (o + 1) _ h1.1 (by omega)
    exact ⟨h2.1, h1.2.trans h2.2⟩
/-- What is kept. -/
def hasL (x : (ByteArray × Value) × Prp) : Bool := x.2.l.length != 0
theorem RowsO.all {base : Nat} {w : World} {rs : List (ByteArray × Value)} {ps : List Prp} (h : RowsO base w rs ps) : ∀ x ∈ rs.zip ps, x.1.1 = x.2.k ∧ OwnL base w x.1.2 x.2.l := by
  intro x hx
  obtain ⟨i, hi, rfl⟩ := List.mem_iff_getElem.1 hx
  rw [List.length_zip] at hi
  rw [List.getElem_zip]
  exact h.at' i (by omega) (by omega)
theorem RowsO.sub {base : Nat} {w : World} {z : List ((ByteArray × Value) × Prp)} (h : ∀ x ∈ z, x.1.1 = x.2.k ∧ OwnL base w x.1.2 x.2.l) : RowsO base w (z.map Prod.fst) (z.map Prod.snd) := by
  refine ⟨by simp, fun i hi hg => ?_⟩
  rw [List.getElem_map, List.getElem_map]
  exact h _ (List.getElem_mem _)
theorem full_zip {base : Nat} {w : World} {rs : List (ByteArray × Value)} {ps : List Prp} (h : RowsO base w rs ps) : RowsO base w (((rs.zip ps).filter hasL).map Prod.fst) (full ps) := by
  have e : ((rs.zip ps).filter hasL).map Prod.snd = full ps := by
    have e2 : (rs.zip ps).map Prod.snd = ps := List.map_snd_zip (by have := h.len; omega)
    unfold full
    conv => rhs; rw [← e2, List.filter_map]
    rfl
  rw [← e]
  exact RowsO.sub fun x hx => h.all x (List.mem_filter.1 hx).1
/-- How far DeleteFunc has come: i are kept of the first j. -/
structure DelS (base g c : Nat) (w0 w : World) (rs : List (ByteArray × Value)) (ps : List Prp) (i j : Nat) (cur : List (ByteArray × Value)) : Prop where
  own : OwnR base w (.slice (some ⟨g, 0, none⟩) cur.length c) cur
  len : cur.length = rs.length
  lt : i < j
  le : j ≤ rs.length
  rows : RowsO base w rs ps
  pre : cur.take i = (((rs.zip ps).take j).filter hasL).map Prod.fst
  post : ∀ m, j ≤ m → cur[m]? = rs[m]?
  bel : w0.grownBy w (some g)
  sz : base ≤ w.heap.size
theorem below_by {w w' : World} (hb : Below w.heap.size w w') (row : Option Nat) : w.grownBy w' row := ⟨hb.os, hb.tape, hb.output, hb.size, fun k hk _ => hb.block k hk⟩
theorem DelS.below {base g c : Nat} {w0 w w' : World} {rs cur : List (ByteArray × Value)} {ps : List Prp} {i j : Nat} (h : DelS base g c w0 w rs ps i j cur) (hb : Below w.heap.size w w') : DelS base g c w0 w' rs ps i j cur :=
  ⟨h.own.below hb, h.len, h.lt, h.le, h.rows.below hb, h.pre, h.post, h.bel.trans (below_by hb _), Nat.le_trans h.sz hb.size⟩
theorem zip_take {rs : List (ByteArray × Value)} {ps : List Prp} {j : Nat} (h1 : j < rs.length) (h2 : j < ps.length) : (rs.zip ps).take (j + 1) = (rs.zip ps).take j ++ [(rs[j], ps[j])] := by
  rw [List.take_succ_eq_append_getElem (by rw [List.length_zip]; omega), List.getElem_zip]
theorem DelS.skip {base g c : Nat} {w0 w : World} {rs cur : List (ByteArray × Value)} {ps : List Prp} {i j : Nat} (h : DelS base g c w0 w rs ps i j cur) (hj : j < ps.length) (hn : ps[j].l.length = 0) : DelS base g c w0 w rs ps i (j + 1) cur :=
  ⟨h.own, h.len, by have := h.lt; omega, by have := h.rows.len; omega, h.rows, by
    rw [h.pre, zip_take (by have := h.rows.len; omega) hj, List.filter_append]; simp [hasL, hn], fun m hm => h.post m (by omega), h.bel, h.sz⟩
theorem DelS.keep {base g c : Nat} {w0 w : World} {rs cur : List (ByteArray × Value)} {ps : List Prp} {i j : Nat} (h : DelS base g c w0 w rs ps i j cur) (hj : j < ps.length) (hr : j < rs.length) (hn : ps[j].l.length ≠ 0) :
    DelS base g c w0 ((w.setCell ⟨g, i * 2, none⟩ (.string rs[j].1)).setCell ⟨g, i * 2 + 1, none⟩ rs[j].2) rs ps (i + 1) (j + 1) (cur.set i rs[j]) := by
  have hi : i < cur.length := by have := h.lt; have := h.len; omega
  obtain ⟨n1, n2⟩ := h.own.both i hi rs[j].1 rs[j].2
  refine ⟨by rw [List.length_set]; exact n1, by rw [List.length_set]; exact h.len, by have := h.lt; omega, hr, h.rows.kept h.own n2, ?_, fun m hm => ?_, ?_, Nat.le_trans h.sz n2.size⟩
  · rw [zip_take hr hj, List.filter_append, List.map_append, ← h.pre]
    rw [List.take_succ_eq_append_getElem (by rw [List.length_set]; exact hi), List.getElem_set_self, List.take_set_of_le (Nat.le_refl _)]
    have e : hasL (rs[j], ps[j]) = true := by unfold hasL; simpa using hn
    rw [List.filter_cons_of_pos e]
    rfl
  · rw [List.getElem?_set_ne (by have := h.lt; omega)]
    exact h.post m (by omega)
  · exact h.bel.trans n2
theorem run_clear2 (w : World) (ty : TypeId) (b o n c : Nat) (hn : 0 < n) (hc : ∀ j, j < n * 2 → (w.cell? ⟨b, o + j, none⟩).isSome = true) (hf : ∀ j, j < n * 2 → w.frozen? ⟨b, o + j, none⟩ = false) :
    (Builtin.clear_ #[36] ty #[.slice (some ⟨b, o, none⟩) n c]).run Tryz.prog w = .ok (.tuple #[]) (w.setCells b o (cellsR (List.replicate n (⟨#[]⟩, .slice none 0 0)))) := by
  have hz : (Builtin.zeroCells (Value.agg #[.string ⟨#[]⟩, .slice none 0 0]).cells n).toList = cellsR (List.replicate n (⟨#[]⟩, .slice none 0 0)) := made_props n
  have hl : (cellsR (List.replicate n ((⟨#[]⟩ : ByteArray), Value.slice none 0 0))).length = n * 2 := by rw [cellsR_length]; simp
  have hst := run_storeCells_cells (P := Tryz.prog) b o (cellsR (List.replicate n (⟨#[]⟩, .slice none 0 0))) 0 w (by rw [hl]; simpa using hc) (by rw [hl]; simpa using hf) (by
    intro v hv
    unfold cellsR at hv
    rw [List.mem_flatMap] at hv
    obtain ⟨r, hr, h2⟩ := hv
    rw [List.eq_of_mem_replicate hr] at h2
    simp only [List.mem_cons, List.not_mem_nil, or_false] at h2
    rcases h2 with rfl | rfl <;> rfl)
  simp only [Nat.add_zero] at hst
  obtain ⟨m, rfl⟩ : ∃ m, n = m + 1 := ⟨n - 1, by omega⟩
  have hv : ∀ w, (zeroValue 62).run Tryz.prog w = .ok (.agg #[.string ⟨#[]⟩, .slice none 0 0]) w := fun w => by
    have := Tryz.zeroValue62 w
    exact this
  simp [Builtin.clear_, run_underlying (P := Tryz.prog) Tryz.underlying36, hv, hz, hst]
end Go.Proofs.YtflgdhhgnbdofaaGreat

namespace Go.Proofs.YtflgdhhgnbdofaaGreat
open Go.RowKit
def DelAns (base : Nat) (v : Value) (ps : List Prp) (w : World) (e : Ending) (w' : World) : Prop := ∃ u rs, e = .returned u ∧ OwnR base w' u rs ∧ RowsO base w' rs (full ps) ∧ w.grownBy w' v.ownBlock
section
set_option maxRecDepth 100000
set_option maxHeartbeats 8000000
theorem Delete_any (base : Nat) (v : Value) (rs : List (ByteArray × Value)) (ps : List Prp) (w : World) (h : OwnR base w v rs) (hr : RowsO base w rs ps) (hb : base ≤ w.heap.size) (hl : ps.length ≤ 1000000) :
    Calls Tryz.prog 73 #[v, .func (.func 74) #[] #[]] w (DelAns base v ps w) := by
  have CI := Lib.hid (IndexE_any v ps w (h.sp hr) hl)
  have HO := Lib.hid h
  have HR := Lib.hid hr
  have HB := Lib.hid hb
  have HL := Lib.hid hr.len
  obtain ⟨A, c, rfl, hc1, hc2, hA⟩ := h.form
  have HA := Lib.hid hA
  clear h hr hb hA
  go_enter Tryz.func73, Tryz.ntmps73
  go_upto_region 2 with (go_at_call 146; (with_reducible refine CI.out.mono ?_); rintro e w1 ⟨n, rfl, hb, hn⟩; have B1 := Lib.hid hb; have HN := Lib.hid hn; clear hb hn)
  rcases HN.out with ⟨rfl, hall⟩ | ⟨i, rfl, hi, hi0, hpre⟩
  · have HAll := Lib.hid hall
    clear hall HN
    go_wp2_with fail
    go_ret
    refine ⟨_, rs, rfl, HO.out.below B1.out, ?_, below_by B1.out _⟩
    have e : full ps = ps := List.filter_eq_self.2 fun q hq => by simpa using HAll.out q hq
    rw [e]
    exact HR.out.below B1.out
  · obtain ⟨g, rfl, hg, hgl, hfr, _⟩ := HA.out (by have := HL.out; omega)
    have D0 : Hid (DelS base g c w w1 rs ps i (i + 1) rs) := Lib.hid ⟨HO.out.below B1.out, rfl, by omega, by have := HL.out; omega, HR.out.below B1.out, by
      have hri : i < rs.length := by have := HL.out; omega
      rw [zip_take hri hi, List.filter_append]
      have e1 : ((rs.zip ps).take i).filter hasL = (rs.zip ps).take i := List.filter_eq_self.2 fun x hx => by
        obtain ⟨j, hj, rfl⟩ := List.mem_iff_getElem.1 hx
        rw [List.length_take, List.length_zip] at hj
        rw [List.getElem_take, List.getElem_zip]
        have := hpre j (by omega) (by omega)
        unfold hasL
        simp [this]
      rw [e1]
      have e2 : hasL (rs[i], ps[i]) = false := by unfold hasL; simp [hi0]
      rw [List.filter_cons_of_neg (by rw [e2]; exact Bool.false_ne_true)]
      rw [List.filter_nil, List.append_nil, List.map_take, List.map_fst_zip (by have := HL.out; omega)], fun m _ => rfl, below_by B1.out _, Nat.le_trans HB.out B1.out.size⟩
    have b1 : ¬ ((i : Int) = -1) := by omega
    have b2 : ((i : Int) == -1) = false := beq_eq_false_iff_ne.2 b1
    have b3 : (i : Int) ≤ 1000000 := by omega
    have b4 : (0 : Int) ≤ (i : Int) := by omega
    have HI := Lib.hid (show i < ps.length from hi)
    clear hpre hi0 HN b1 hfr HA CI HO HR hgl hi
    go_wp2_with fail
    go_loopw [5, 6, 7] (fun si sj _ wr => ∃ (a j : Nat) (cur : List (ByteArray × Value)), si = .int .i64 a ∧ sj = .int .i64 j ∧ DelS base g c w wr rs ps a j cur) (fun _ sj _ _ => rs.length - (intOf sj).toNat)
    case atStart => exact ⟨i, i + 1, rs, rfl, by go_num, D0.out⟩
    case round =>
      obtain ⟨a, j, cur, rfl, rfl, hd⟩ := hrel
      have HD := Lib.hid hd
      have HCL := Lib.hid hd.len
      have hlt1 := hd.lt
      have hle := hd.le
      obtain ⟨A2, c2, e2, _, _, hA2⟩ := hd.own.form
      cases e2
      obtain ⟨g2, e3, _, hg2, hfr, hcells⟩ := hA2 (by have := hd.len; omega)
      cases e3
      by_cases hlt : j < rs.length
      · have hjp : j < ps.length := by rw [← HL.out]; exact hlt
        have hja : a < cur.length := by rw [HCL.out]; omega
        obtain ⟨r0, r1⟩ := hcells j (by rw [HCL.out]; exact hlt)
        have hpo : cur[j]'(by rw [HCL.out]; exact hlt) = rs[j] := by
          have := hd.post j (Nat.le_refl _)
          rw [List.getElem?_eq_getElem (by rw [HCL.out]; exact hlt), List.getElem?_eq_getElem hlt] at this
          exact Option.some.inj this
        rw [hpo] at r0 r1
        have SK := Lib.hid (fun W (h : DelS base g c w W rs ps a j cur) => h.skip hjp)
        have KE := Lib.hid (fun W (h : DelS base g c w W rs ps a j cur) => h.keep hjp hlt)
        obtain ⟨_, hown⟩ := hd.rows.at' j hlt hjp
        obtain ⟨Al, cl, hu, _, _⟩ := hown.at
        rw [hu] at r1 KE
        obtain ⟨key, hkey⟩ : ∃ s, rs[j].1 = s := ⟨_, rfl⟩
        rw [hkey] at r0 KE
        obtain ⟨n, hn⟩ : ∃ s, ps[j].l.length = s := ⟨_, rfl⟩
        rw [hn] at r1 SK KE
        obtain ⟨q0, q1⟩ := hcells a hja
        clear hd hcells hown hu hkey hn hpo hA2
        have CM := Lib.hid (fun W => Apply1_any key Al n cl W)
        have i0 : (j : Int) < (rs.length : Int) := by omega
        have i1 : (0 : Int) ≤ (j : Int) := by omega
        have i2 : (a : Int) < (rs.length : Int) := by omega
        have i3 : (0 : Int) ≤ (a : Int) := by omega
        go_upto_region 8 with fail
        have Q0 := Lib.hid (Bx.new wr #[.string key, .slice Al n cl] 62)
        have HB0 := Lib.hid ((Below.refl wr.heap.size wr).alloc (Nat.le_refl _) (.cells #[.string key, .slice Al n cl] 62))
        obtain ⟨W5, hW5⟩ : ∃ W, wr.alloc (.cells #[.string key, .slice Al n cl] 62) = W := ⟨_, rfl⟩
        rw [hW5] at Q0 HB0
        try rw [hW5]
        clear hW5 r0 r1
        obtain ⟨pq, hpq⟩ : ∃ q, wr.heap.size = q := ⟨_, rfl⟩
        have HG := Lib.hid (show pq ≠ g by omega)
        rw [hpq] at Q0
        try rw [hpq]
        clear hpq hfr
        have x0 := Q0.out.c
        have HQ0 := Lib.hid q0
        have HQ1 := Lib.hid q1
        clear q0 q1
        go_upto_if 29 with (first
          | (go_at_call 74; (with_reducible refine (CM.out _).mono ?_); rintro e w2 ⟨c1, rfl, hc, hb⟩; have HC := Lib.hid hc; have B5 := Lib.hid (HB0.out.trans (hb.mono HB0.out.size)); have Q1 := Lib.hid (Q0.out.below hb); clear hc hb x0)
          | fail)
        cases c1
        · have D2 := Lib.hid (HD.out.below B5.out)
          have HNN := Lib.hid (show ¬ n = 0 from fun h => by have := HC.out.2 h; simp at this)
          obtain ⟨A3, c3, e4, _, _, hA3⟩ := D2.out.own.form
          cases e4
          obtain ⟨g3, e5, _, _, hfr2, hc3⟩ := hA3 (by omega)
          cases e5
          obtain ⟨q0, q1⟩ := hc3 a hja
          have x0 := Q1.out.c
          have K2 := Lib.hid (KE.out _ D2.out HNN.out)
          clear hA3 hc3
          go_wp2_with fail
          exact ⟨⟨a + 1, j + 1, _, by go_num, by go_num, K2.out⟩, by simp [intOf]; omega⟩
        · have D2 := Lib.hid (HD.out.below B5.out)
          have HNN := Lib.hid (show n = 0 from HC.out.1 (by trivial))
          go_wp2_with fail
          exact ⟨⟨a, j + 1, cur, rfl, by go_num, SK.out _ D2.out HNN.out⟩, by simp [intOf]; omega⟩
      · obtain rfl : j = rs.length := by omega
        have hal : a < rs.length := by omega
        have hcs : ∀ k, k < rs.length * 2 → (wr.cell? ⟨g, k, none⟩).isSome = true := fun k hk => by
          obtain ⟨h1, h2⟩ := hcells (k / 2) (by rw [HCL.out]; omega)
          rcases (show k % 2 = 0 ∨ k % 2 = 1 by omega) with h | h
          · rw [show k / 2 * 2 = k by omega] at h1
            rw [h1]; rfl
          · rw [show k / 2 * 2 + 1 = k by omega] at h2
            rw [h2]; rfl
        have hcl := fun ty => run_clear2 wr ty g (a * 2) (rs.length - a) (c - a) (by omega) (fun k hk => hcs _ (by omega)) (fun k _ => hfr _)
        have HT := Lib.hid (show (cur.take a).length = a by rw [List.length_take, HCL.out]; omega)
        have O1 := hd.own.cut a (by rw [HCL.out]; omega)
        have F1 := full_zip hd.rows
        have hpre := hd.pre
        rw [show (rs.zip ps).take rs.length = rs.zip ps from List.take_of_length_le (by rw [List.length_zip]; omega)] at hpre
        rw [← hpre] at F1
        obtain ⟨o2, g2⟩ := O1.beyond (cellsR (List.replicate (rs.length - a) (⟨#[]⟩, .slice none 0 0))) (a * 2) wr (by rw [HT.out]; exact Nat.le_refl _)
        have F2 := Lib.hid (F1.kept O1 g2)
        have B2 := Lib.hid (hd.bel.trans g2)
        have O2 := Lib.hid o2
        have i1 : (0 : Int) ≤ (a : Int) := by omega
        have i2 : (a : Int) ≤ (rs.length : Int) := by omega
        have i3 : (rs.length : Int) ≤ (c : Int) := by omega
        rw [HT.out] at O2
        clear o2 g2 O1 F1 hpre hd HD hcs hcells hA2 hfr
        go_wp2_with fail
        go_ret
        exact ⟨_, _, rfl, O2.out, F2.out, B2.out⟩
end
end Go.Proofs.YtflgdhhgnbdofaaGreat

