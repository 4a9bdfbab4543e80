/- Pieces joined where they touch. -/
/- Where a piece belongs among others: the library's search by halves. -/
import Derived.Test.YtmolpogehgeebaaGreatbB4
import Derived.Laws.OwnMore
namespace Go.Proofs.YtmolpogehgeebaaGreat
open Go.RowKit
theorem add_off (b off j : Nat) : (⟨b, off, none⟩ : Addr).add j = ⟨b, off + j, none⟩ := by unfold Addr.add; split <;> simp_all
theorem OwnL.alloc {base : Nat} {w : World} {v : Value} {l : List Pie} (h : OwnL base w v l) (o : Obj) : OwnL base (w.alloc o) v l := World.ownsRow.alloc h o
/-- append of one piece onto what the call owns. -/
theorem wpList_appL {ops : Array Oper} {rest : List Oper} {o : Oper} {a : Act} {w : World} {Q : Exit → Act → World → Prop} (hgd : o.guard = none) (s x : Operand)
    (ho : o.op = .call { callee := .builtin .append, args := #[s, x], argTypes := #[60, 60] })
    (base : Nat) (v : Value) (L : List Pie) (hs : a.eval s = v) (hown : OwnL base w v L) (g : Nat) (p : Pie) (hx : a.eval x = .slice (some ⟨g, 0, none⟩) 1 1)
    (hp : ∀ j u, (Pie.cells p).toList[j]? = some u → w.cell? ⟨g, j, none⟩ = some u) (hlen : L.length ≤ 1000000000000) (hbase : base ≤ w.heap.size)
    (h : ∀ v' w', OwnL base w' v' (L ++ [p]) → Below base w w' → wpList Tryz.prog ops Q rest (a.put o.dst v') w') :
    wpList Tryz.prog ops Q (o :: rest) a w := by
  obtain ⟨i0, hi, hz0, hz1, hz2⟩ := info_parts infoL
  refine wpList_append_own_at _ hgd s x 60 ho base 148 i0 _ 7 64 Tryz.underlying60 hi hz0 hz1 hz2 rfl (by omega) v _ _ hs hown ⟨g, 0, none⟩ 1 1 (Pie.cells p).toList hx rfl ?_ ?_ (by unfold maxLen; omega) (by omega) hbase ?_
  · intro j u hj
    rw [add_off, Nat.zero_add]
    exact hp j u hj
  · intro u hu
    simp at hu
    rcases hu with rfl | rfl | rfl | rfl | rfl | rfl | rfl <;> rfl
  · intro v' w' h1 h2 h3 _
    refine h v' w' ?_ ((Below.refl _ _).grown h2 hbase fun k hk => (World.ownsRow.lt hown k hk).1)
    unfold OwnL
    rw [cellsL_append, cellsL_one, List.length_append]
    exact h1
theorem cellsL_end (s : List Pie) (q : Pie) (z : Int) : (cellsL (s ++ [q])).set (s.length * 7 + 1) (.int .u64 z) = cellsL (s ++ [⟨q.a, z, q.v⟩]) := by
  rw [cellsL_append, cellsL_append, cellsL_one, cellsL_one, List.set_append_right _ _ (by rw [cellsL_length]; omega), cellsL_length, show s.length * 7 + 1 - s.length * 7 = 1 by omega]
  rfl
/-- What the call owns: its block. -/
theorem OwnL.form {base : Nat} {w : World} {v : Value} {L : List Pie} (h : OwnL base w v L) (hn : 0 < L.length) : ∃ g c, v = .slice (some ⟨g, 0, none⟩) L.length c ∧ base ≤ g ∧ g < w.heap.size ∧ (∀ o, w.frozen? ⟨g, o, none⟩ = false) ∧ ∀ i (h : i < L.length), w.rangeAt g (i * 7) ((Pie.cells L[i]).toList) := by
  have h' := h
  rcases h.2 with ⟨rfl, h0⟩ | ⟨g, cap, cur, rfl, hg, hb, h1, h2, h3, h4⟩
  · omega
  · obtain ⟨A, c, e, k, _⟩ := h'.at
    obtain ⟨b, off, rfl, hl, hc⟩ := k hn
    injection e with e1 e2 e3
    injection e1 with e1
    injection e1 with e4 e5 e6
    subst e4 e5
    refine ⟨g, cap, rfl, hg, hl, fun o => by simp [World.frozen?, hb], fun i hi => ?_⟩
    have := hc i hi
    rw [Nat.zero_add] at this
    exact this
/-- The To of the last one, stored. -/
theorem OwnL.stored {base g c : Nat} {w : World} {s : List Pie} {q : Pie} (h : OwnL base w (.slice (some ⟨g, 0, none⟩) (s.length + 1) c) (s ++ [q])) (z : Int) :
    OwnL base (w.setCell ⟨g, s.length * 7 + 1, none⟩ (.int .u64 z)) (.slice (some ⟨g, 0, none⟩) (s.length + 1) c) (s ++ [⟨q.a, z, q.v⟩]) := by
  unfold OwnL at *
  rw [List.length_append] at *
  have := World.ownsRow.stored h (s.length * 7 + 1) (.int .u64 z)
  rw [cellsL_end] at this
  exact this.1
theorem new_cells (w : World) (x : Pie) (t : TypeId) : ∀ j u, (Pie.cells x).toList[j]? = some u → (w.alloc (.cells (Pie.cells x) t)).cell? ⟨w.heap.size, j, none⟩ = some u := fun j u hj => by
  rw [(Bx.new w (Pie.cells x) t).c j, ← Array.getElem?_toList]; exact hj
theorem fold_more (l : List Pie) (k : Nat) (h : k < l.length) : (l.take (k + 1)).foldl Pl.mstep [] = Pl.mstep ((l.take k).foldl Pl.mstep []) l[k] := by
  rw [List.take_succ_eq_append_getElem h, List.foldl_append]
  rfl
section
set_option maxRecDepth 100000
set_option maxHeartbeats 8000000
theorem merge_any (v : Value) (l : List Pie) (w : World) (h : SL w v l) (hw : ∀ x ∈ l, x.v.wide ∧ x.v.may) (hlen : l.length ≤ 100000000000) :
    Calls Tryz.prog 247 #[v] w fun e w' => ∃ v', e = .returned v' ∧ OwnL w.heap.size w' v' (Pl.merge l) ∧ Below w.heap.size w w' := by
  obtain ⟨A, c, rfl, hA, hm⟩ := h
  have HA := Lib.hid hA
  have HW := Lib.hid hw
  have HD := Lib.hid (show Pl.merge l = l.foldl Pl.mstep [] from rfl)
  have HSW : Hid (∀ k, k ≤ l.length → ∀ x ∈ (l.take k).foldl Pl.mstep [], x.v.wide ∧ x.v.may) := Lib.hid (by
    have gen : ∀ (m s : List Pie), (∀ x ∈ m, x.v.wide ∧ x.v.may) → (∀ x ∈ s, x.v.wide ∧ x.v.may) → ∀ x ∈ m.foldl Pl.mstep s, x.v.wide ∧ x.v.may := by
      intro m
      induction m with
      | nil => intro s _ hs; exact hs
      | cons y m ih =>
        intro s hm hs
        rw [List.foldl_cons]
        refine ih _ (fun x hx => hm x (List.mem_cons_of_mem _ hx)) fun x hx => ?_
        rcases List.eq_nil_or_concat s with rfl | ⟨s', q, rfl⟩
        · rw [Pl.mstep_nil] at hx
          simp only [List.mem_singleton] at hx
          subst hx; exact hm _ (by simp)
        · rw [List.concat_eq_append] at *
          by_cases hf : Pl.follows q y
          · rw [Pl.mstep_snoc_yes s' hf] at hx
            rcases List.mem_append.1 hx with hx | hx
            · exact hs x hx
            · simp only [List.mem_singleton] at hx
              subst hx; exact hm _ (by simp)
          · rw [Pl.mstep_snoc_no s' hf] at hx
            rcases List.mem_append.1 hx with hx | hx
            · exact hs x (List.mem_append_left _ hx)
            · simp only [List.mem_singleton] at hx
              subst hx; exact hs q (by simp)
    exact fun k _ => gen _ _ (fun x hx => hw x (List.mem_of_mem_take hx)) (by simp))
  have HLL : Hid (∀ k, k ≤ l.length → ((l.take k).foldl Pl.mstep []).length ≤ k) := Lib.hid fun k hk => by
    have := Pl.fold_length (l.take k) []
    rw [List.length_take, List.length_nil] at this
    omega
  clear hA hw
  have hsf := store_float
  go_enter Tryz.func247, Tryz.ntmps247
  go_wp2_with fail
  go_step3
  go_wp2_with fail
  go_step3
  go_wp2
  go_loopw [3, 9] (fun u i wr => ∃ k : Nat, k ≤ l.length ∧ i = .int .i64 k ∧ OwnL w.heap.size wr u ((l.take k).foldl Pl.mstep []) ∧ Below w.heap.size w wr) (fun _ i _ => l.length - (intOf i).toNat)
  case atStart => exact ⟨0, Nat.zero_le _, rfl, OwnL.nil _ _, Below.refl _ _⟩
  case round =>
    obtain ⟨k, hk, rfl, ho, hb⟩ := hrel
    have HO := Lib.hid ho
    have HB := Lib.hid hb
    clear ho hb
    by_cases hlt : k < l.length
    · obtain ⟨g, off, rfl, lg, cg⟩ := (HA.out.below HB.out) (by omega)
      have r := cg k hlt
      have WX := Lib.hid (HW.out l[k] (List.getElem_mem hlt))
      have HK := Lib.hid (fold_more l k hlt)
      have SW := Lib.hid (HSW.out k hk)
      have SL := HLL.out k hk
      have i0 : (k : Int) < (l.length : Int) := by omega
      have i1 : (0 : Int) ≤ (k : Int) := by omega
      clear cg
      obtain ⟨x, hx⟩ : ∃ x, l[k] = x := ⟨_, rfl⟩
      rw [hx] at r WX HK
      clear hx
      generalize (l.take k).foldl Pl.mstep [] = s at *
      obtain ⟨a, b, ⟨kk, vb, n, f, st⟩⟩ := x
      go_upto_region 5 with (refine wpList_load_mid rfl 148 (.tmp 11) rfl g (off + k * 7) rfl _ _ r Tryz.underlying148 rfl rowL ?_)
      have X0 := Lib.hid (Bx.new wr (Pie.cells ⟨a, b, ⟨kk, vb, n, f, st⟩⟩) 148)
      have HB1 := Lib.hid (HB.out.alloc HB.out.size (.cells (Pie.cells ⟨a, b, ⟨kk, vb, n, f, st⟩⟩) 148))
      have HO1 := Lib.hid (HO.out.alloc (.cells (Pie.cells ⟨a, b, ⟨kk, vb, n, f, st⟩⟩) 148))
      obtain ⟨W, hW⟩ : ∃ W, wr.alloc (.cells (Pie.cells ⟨a, b, ⟨kk, vb, n, f, st⟩⟩) 148) = W := ⟨_, rfl⟩
      rw [hW] at X0 HB1 HO1 ⊢
      clear hW HO
      have hsW := HB1.out.size
      rcases List.eq_nil_or_concat s with rfl | ⟨s, q, rfl⟩
      · rw [Pl.mstep_nil] at HK
        obtain ⟨A2, c2, rfl, _⟩ := HO1.out.at
        rw [List.length_nil] at HO1 ⊢
        go_upto_region 6 with fail
        go_quiet (fail)
        have X1 := Lib.hid (X0.out.below (bel_drewN nq (Below.refl _ _)))
        have HO2 := Lib.hid (HO1.out.below (bel_drewN nq (Below.refl _ _)))
        have HB3 := Lib.hid (bel_drewN nq HB1.out)
        have hsW : w.heap.size ≤ (W.drewN nq).heap.size := hsW
        clear X0 HO1 HB1
        generalize W.drewN nq = W at *
        have x0 := X1.out.c
        have x1 := X1.out.fr
        go_wp2_with (at_builtin; refine wpList_appL rfl (.tmp 35) (.tmp 37) rfl w.heap.size _ [] rfl (HO2.out.alloc _) W.heap.size ⟨a, b, ⟨kk, vb, n, f, st⟩⟩ rfl (new_cells W _ _) (by simp) (by simp; omega) ?_; intro v2 w2 ho2 hb2; have HO3 := Lib.hid ho2; have HB4 := Lib.hid ((HB3.out.alloc hsW (.cells (Pie.cells ⟨a, b, ⟨kk, vb, n, f, st⟩⟩) 148)).trans hb2); clear ho2 hb2)
        exact ⟨⟨k + 1, by omega, by go_num, by rw [HK.out]; exact HO3.out, HB4.out⟩, by simp [intOf]; omega⟩
      · rw [List.concat_eq_append] at *
        have hn : (s ++ [q]).length = s.length + 1 := by simp
        obtain ⟨g2, c2, rfl, hg1, hg2, hfr, hcl⟩ := HO1.out.form (by omega)
        have hz := hcl s.length (by omega)
        have ez : (s ++ [q])[s.length]'(by omega) = q := by simp
        rw [ez] at hz
        rw [hn] at HO1 ⊢
        have WQ := Lib.hid (SW.out q (by simp))
        have CF := Lib.hid (fun W => follows_any q ⟨a, b, ⟨kk, vb, n, f, st⟩⟩ WQ.out.1 WX.out.1 WQ.out.2 WX.out.2 W)
        have HY := Lib.hid (Pl.mstep_snoc_yes s (q := q) (x := ⟨a, b, ⟨kk, vb, n, f, st⟩⟩))
        have HN := Lib.hid (Pl.mstep_snoc_no s (q := q) (x := ⟨a, b, ⟨kk, vb, n, f, st⟩⟩))
        have hls : s.length + 1 ≤ 100000000000 := by omega
        have HS := Lib.hid (fun z => OwnL.stored (z := z) (HO1.out))
        clear hcl ez hn SW SL WQ
        obtain ⟨a', b', ⟨k', vb', n', f', st'⟩⟩ := q
        have K0 : Hid (∀ w', Below W.heap.size W w' → (∀ j, w'.cell? ⟨wr.heap.size, j, none⟩ = (Pie.cells ⟨a, b, ⟨kk, vb, n, f, st⟩⟩)[j]?) ∧ w'.cell? ⟨g2, s.length * 7, none⟩ = some (.int .u64 a') ∧ w'.cell? ⟨g2, s.length * 7 + 1, none⟩ = some (.int .u64 b') ∧ w'.cell? ⟨g2, s.length * 7 + 2, none⟩ = some (.int .i64 k') ∧ w'.cell? ⟨g2, s.length * 7 + 3, none⟩ = some (.bool vb') ∧ w'.cell? ⟨g2, s.length * 7 + 4, none⟩ = some (.int .i64 n') ∧ w'.cell? ⟨g2, s.length * 7 + 5, none⟩ = some (.float .f64 f') ∧ w'.cell? ⟨g2, s.length * 7 + 6, none⟩ = some (.string st')) := Lib.hid fun w' hb => by
          have on : ∀ j v, (Pie.cells ⟨a', b', ⟨k', vb', n', f', st'⟩⟩).toList[j]? = some v → w'.cell? ⟨g2, s.length * 7 + j, none⟩ = some v := fun j v hv =>
            (hb.cell (p := ⟨g2, s.length * 7 + j, none⟩) hg2).trans (hz j v hv)
          exact ⟨(X0.out.below hb).c, on 0 _ rfl, on 1 _ rfl, on 2 _ rfl, on 3 _ rfl, on 4 _ rfl, on 5 _ rfl, on 6 _ rfl⟩
        clear hz
        have HG2 := Lib.hid (And.intro hg1 hg2)
        have HFR := Lib.hid hfr
        clear hfr
        have k1 : (0 : Int) ≤ (s.length : Int) := by omega
        have k2 : (s.length : Int) < (s.length : Int) + 1 := by omega
        go_upto_region 6 with fail
        go_region_held3 (fun w' => (∀ j, w'.cell? ⟨wr.heap.size, j, none⟩ = (Pie.cells ⟨a, b, ⟨kk, vb, n, f, st⟩⟩)[j]?) ∧ w'.cell? ⟨g2, s.length * 7, none⟩ = some (.int .u64 a') ∧ w'.cell? ⟨g2, s.length * 7 + 1, none⟩ = some (.int .u64 b') ∧ w'.cell? ⟨g2, s.length * 7 + 2, none⟩ = some (.int .i64 k') ∧ w'.cell? ⟨g2, s.length * 7 + 3, none⟩ = some (.bool vb') ∧ w'.cell? ⟨g2, s.length * 7 + 4, none⟩ = some (.int .i64 n') ∧ w'.cell? ⟨g2, s.length * 7 + 5, none⟩ = some (.float .f64 f') ∧ w'.cell? ⟨g2, s.length * 7 + 6, none⟩ = some (.string st')) (first
            | exact K0.out _ (Below.refl _ _).drew
            | exact K0.out _ HU1.out
            | fail) (first
          | (go_at_call 207; (with_reducible refine (CF.out _).mono ?_); rintro e1 w4 ⟨c4, rfl, hc4, b4⟩; have HC4 := Lib.hid hc4; have HU1 := Lib.hid (show Below W.heap.size W w4 from (Below.refl _ _).drew.trans b4); clear b4 hc4)
          | fail)
        have HB3 := Lib.hid (HB1.out.trans (HU1.out.mono hsW))
        have HO2 := Lib.hid (HO1.out.below HU1.out)
        have X1 := Lib.hid (X0.out.below HU1.out)
        have HX2 := Lib.hid (And.intro (HU1.out.size) (fun o => (HU1.out.frozen (p := ⟨g2, o, none⟩) HG2.out.2).trans (HFR.out o)))
        have hsW : w.heap.size ≤ w4.heap.size := Nat.le_trans hsW HU1.out.size
        clear HFR
        have on1 := K0.out w4 HU1.out
        clear K0 HU1 HO1 HB1 X0
        cases c4
        · have HK2 := Lib.hid (HK.out.trans (HN.out (fun h => by have h' := HC4.out.2 h; simp at h')))
          have x0 := on1.1
          have x1 := X1.out.fr
          have x2 := on1.2.2.1
          have x3 := HX2.out.2
          clear on1 HY HN HK CF
          go_wp2
          exact ⟨⟨k + 1, by omega, by go_num, by rw [HK2.out]; exact OwnL.stored HO2.out b, HB3.out.setCell (p := ⟨g2, _, none⟩) HG2.out.1 _⟩, by simp [intOf]; omega⟩
        · have HK2 := Lib.hid (HK.out.trans (HY.out (HC4.out.1 (by simp))))
          have x0 := on1.1
          have x1 := X1.out.fr
          clear on1 HY HN HK CF
          have hlen2 : (s ++ [(⟨a', b', ⟨k', vb', n', f', st'⟩⟩ : Pie)]).length ≤ 1000000000000 := by simp; omega
          have HO4 := Lib.hid (show OwnL w.heap.size w4 (.slice (some ⟨g2, 0, none⟩) (s.length + 1) c2) (s ++ [⟨a', b', ⟨k', vb', n', f', st'⟩⟩]) from HO2.out)
          go_wp2_with (at_builtin; refine wpList_appL rfl (.tmp 35) (.tmp 37) rfl w.heap.size _ (s ++ [⟨a', b', ⟨k', vb', n', f', st'⟩⟩]) rfl (HO4.out.alloc _) w4.heap.size ⟨a, b, ⟨kk, vb, n, f, st⟩⟩ rfl (new_cells w4 _ _) hlen2 (by simp; omega) ?_; intro v2 w2 ho2 hb2; have HO3 := Lib.hid ho2; have HB4 := Lib.hid ((HB3.out.alloc hsW (.cells (Pie.cells ⟨a, b, ⟨kk, vb, n, f, st⟩⟩) 148)).trans hb2); clear ho2 hb2)
          exact ⟨⟨k + 1, by omega, by go_num, by rw [HK2.out]; exact HO3.out, HB4.out⟩, by simp [intOf]; omega⟩
    · obtain rfl : k = l.length := by omega
      have HO2 := Lib.hid (show OwnL w.heap.size wr u3 (Pl.merge l) by
        have h := HO.out
        rwa [List.take_length, ← HD.out] at h)
      clear HO HSW HLL
      go_wp2
      try rw [Exit.noGoto_ret]
      go_ret
      exact ⟨_, rfl, HO2.out, HB.out⟩
end
end Go.Proofs.YtmolpogehgeebaaGreat


namespace Go.Proofs.YtmolpogehgeebaaGreat
open Go.RowKit
/-- The place that is found: what stands ahead of it is less, what stands from it on isn't. -/
def Found (l : List Pie) (c d : Int) (w : World) (e : Ending) (w' : World) : Prop := ∃ (i : Nat) (r : Bool), e = .returned (.tuple #[.int .i64 i, .bool r]) ∧ i ≤ l.length ∧ (∀ j (hj : j < l.length), j < i → Se.cmpP l[j].a l[j].b c d < 0) ∧ (∀ j (hj : j < l.length), i ≤ j → 0 ≤ Se.cmpP l[j].a l[j].b c d) ∧ Below w.heap.size w w'
section
set_option maxRecDepth 100000
set_option maxHeartbeats 8000000
theorem perCompare_any (a b c d : Int) (w : World) : Calls Tryz.prog 234 #[.agg #[.int .u64 a, .int .u64 b], .agg #[.int .u64 c, .int .u64 d]] w fun e w' => e = .returned (.int .i64 (Se.cmpP a b c d)) ∧ Below w.heap.size w w' :=
  (Se.Compare_grew a b c d w).mono fun _ _ ⟨e, h⟩ => ⟨e, h.below⟩
theorem insert1_any (x : Pie) (c d : Int) (w : World) : Calls Tryz.prog 273 #[Pie.val x, .agg #[.int .u64 c, .int .u64 d]] w fun e w' => e = .returned (.int .i64 (Se.cmpP x.a x.b c d)) ∧ Below w.heap.size w w' := by
  have C := Lib.hid (fun W => perCompare_any x.a x.b c d W)
  obtain ⟨a, b, ⟨k, vb, n, f, s⟩⟩ := x
  simp only at C
  generalize Se.cmpP a b c d = r at *
  go_enter Tryz.func273, Tryz.ntmps273
  go_wp2_with (go_at_call 234; (with_reducible refine (C.out _).mono ?_); rintro e w1 ⟨rfl, hb⟩)
  go_ret
  exact ⟨rfl, (((Below.refl w.heap.size w).alloc (Nat.le_refl _) _).alloc (by simp) _).trans (hb.mono (by simp; omega))⟩
theorem Search_any (v : Value) (l : List Pie) (c d : Int) (w : World) (h : SL w v l) (hl : l.length ≤ 1000000000000)
    (hm : ∀ i j (hi : i < l.length) (hj : j < l.length), i ≤ j → Se.cmpP l[j].a l[j].b c d < 0 → Se.cmpP l[i].a l[i].b c d < 0) :
    Calls Tryz.prog 272 #[v, .agg #[.int .u64 c, .int .u64 d], .func (.func 273) #[] #[]] w
      (Found l c d w) := by
  obtain ⟨A, cc, rfl, hA, _⟩ := h
  have HA := Lib.hid hA
  have HM := Lib.hid hm
  clear hA hm
  have hsf := store_float
  go_enter Tryz.func272, Tryz.ntmps272
  go_wp2
  go_loopw [9, 10] (fun u i wr => ∃ p q : Nat, p ≤ q ∧ q ≤ l.length ∧ u = .int .i64 p ∧ i = .int .i64 q ∧ (∀ j (hj : j < l.length), j < p → Se.cmpP l[j].a l[j].b c d < 0) ∧ (∀ j (hj : j < l.length), q ≤ j → 0 ≤ Se.cmpP l[j].a l[j].b c d) ∧ Bx wr w.heap.size #[.int .u64 c, .int .u64 d] ∧ Below w.heap.size w wr) (fun u i _ => (intOf i).toNat - (intOf u).toNat)
  case atStart => exact ⟨0, l.length, by omega, by omega, rfl, rfl, by omega, by omega, Bx.new w _ _, (Below.refl _ _).alloc (Nat.le_refl _) _⟩
  case round =>
    obtain ⟨p, q, hpq, hq, rfl, rfl, h1, h2, hx, hb⟩ := hrel
    have H1 := Lib.hid h1
    have H2 := Lib.hid h2
    have X0 := Lib.hid hx
    have HB := Lib.hid hb
    clear h1 h2 hx hb
    by_cases hlt : p < q
    · go_upto_region 5 with fail
      obtain ⟨i, hi⟩ : ∃ i : Nat, ((p : Int) + (q : Int)) / 2 = (i : Int) := ⟨(p + q) / 2, by omega⟩
      have hip : p ≤ i := by omega
      have hiq : i < q := by omega
      have hil : i < l.length := by omega
      rw [hi]
      have i0 : (i : Int) < (l.length : Int) := by omega
      have i1 : (0 : Int) ≤ (i : Int) := by omega
      clear hi
      obtain ⟨g, off, rfl, lg, cg⟩ := (HA.out.below HB.out) (by omega)
      have rq := cg i hil
      clear cg
      obtain ⟨y, hy⟩ : ∃ y, l[i] = y := ⟨_, rfl⟩
      rw [hy] at rq
      have HY := Lib.hid hy
      clear hy
      have CF := Lib.hid (fun W => insert1_any y c d W)
      obtain ⟨a', b', ⟨k', vb', n', f', s'⟩⟩ := y
      simp only at CF
      have K0 : Hid (∀ w', Below wr.heap.size wr w' → (∀ j, w'.cell? ⟨w.heap.size, j, none⟩ = #[Value.int .u64 c, .int .u64 d][j]?) ∧ w'.cell? ⟨g, off + i * 7, none⟩ = some (.int .u64 a') ∧ w'.cell? ⟨g, off + i * 7 + 1, none⟩ = some (.int .u64 b') ∧ w'.cell? ⟨g, off + i * 7 + 2, none⟩ = some (.int .i64 k') ∧ w'.cell? ⟨g, off + i * 7 + 3, none⟩ = some (.bool vb') ∧ w'.cell? ⟨g, off + i * 7 + 4, none⟩ = some (.int .i64 n') ∧ w'.cell? ⟨g, off + i * 7 + 5, none⟩ = some (.float .f64 f') ∧ w'.cell? ⟨g, off + i * 7 + 6, none⟩ = some (.string s')) := Lib.hid fun w' hb => by
        have on : ∀ j v, (Pie.cells ⟨a', b', ⟨k', vb', n', f', s'⟩⟩).toList[j]? = some v → w'.cell? ⟨g, off + i * 7 + j, none⟩ = some v := fun j v hv =>
          (hb.cell (p := ⟨g, off + i * 7 + j, none⟩) lg).trans (rq j v hv)
        exact ⟨(X0.out.below hb).c, on 0 _ rfl, on 1 _ rfl, on 2 _ rfl, on 3 _ rfl, on 4 _ rfl, on 5 _ rfl, on 6 _ rfl⟩
      clear rq
      generalize hr : Se.cmpP a' b' c d = r at *
      have HR := Lib.hid hr
      clear hr
      go_region_held3 (fun w' => (∀ j, w'.cell? ⟨w.heap.size, j, none⟩ = #[Value.int .u64 c, .int .u64 d][j]?) ∧ w'.cell? ⟨g, off + i * 7, none⟩ = some (.int .u64 a') ∧ w'.cell? ⟨g, off + i * 7 + 1, none⟩ = some (.int .u64 b') ∧ w'.cell? ⟨g, off + i * 7 + 2, none⟩ = some (.int .i64 k') ∧ w'.cell? ⟨g, off + i * 7 + 3, none⟩ = some (.bool vb') ∧ w'.cell? ⟨g, off + i * 7 + 4, none⟩ = some (.int .i64 n') ∧ w'.cell? ⟨g, off + i * 7 + 5, none⟩ = some (.float .f64 f') ∧ w'.cell? ⟨g, off + i * 7 + 6, none⟩ = some (.string s')) (first
          | exact K0.out _ (Below.refl _ _).drew
          | exact K0.out _ HU1.out
          | fail) (first
        | (go_at_call 273; (with_reducible refine (CF.out _).mono ?_); rintro e1 w4 ⟨rfl, b4⟩; have HU1 := Lib.hid (show Below wr.heap.size wr w4 from (Below.refl _ _).drew.trans b4); clear b4)
        | fail)
      all_goals (
        have HB4 := Lib.hid (HB.out.trans (HU1.out.mono HB.out.size))
        have X4 := Lib.hid (X0.out.below HU1.out)
        by_cases hneg : r < 0
        · have L1 : Hid (∀ j (hj : j < l.length), j < i + 1 → Se.cmpP l[j].a l[j].b c d < 0) := Lib.hid fun j hj hji => HM.out j i hj hil (by omega) (by rw [HY.out]; simp only; rw [HR.out]; exact hneg)
          go_wp2
          exact ⟨⟨i + 1, q, by omega, by omega, by go_num, rfl, L1.out, H2.out, X4.out, HB4.out⟩, by simp [intOf]; omega⟩
        · have L1 : Hid (∀ j (hj : j < l.length), i ≤ j → 0 ≤ Se.cmpP l[j].a l[j].b c d) := Lib.hid fun j hj hji => Int.not_lt.1 fun h => hneg (by
            have := HM.out i j hil hj hji h
            rw [HY.out] at this; simp only at this; rw [HR.out] at this; exact this)
          have t1 : 0 ≤ r := by omega
          clear hneg
          go_wp2
          exact ⟨⟨p, i, by omega, by omega, rfl, rfl, H1.out, L1.out, X4.out, HB4.out⟩, by simp [intOf]; omega⟩)
    · obtain rfl : p = q := by omega
      by_cases hil : p < l.length
      · have i0 : (p : Int) < (l.length : Int) := by omega
        have i1 : (0 : Int) ≤ (p : Int) := by omega
        have hl2 : ¬ (p : Int) < (p : Int) := by omega
        go_upto_region 8 with fail
        obtain ⟨g, off, rfl, lg, cg⟩ := (HA.out.below HB.out) (by omega)
        have rq := cg p hil
        clear cg
        obtain ⟨y, hy⟩ : ∃ y, l[p] = y := ⟨_, rfl⟩
        rw [hy] at rq
        have HY := Lib.hid hy
        clear hy
        have CF := Lib.hid (fun W => insert1_any y c d W)
        obtain ⟨a', b', ⟨k', vb', n', f', s'⟩⟩ := y
        simp only at CF
        have K0 : Hid (∀ w', Below wr.heap.size wr w' → (∀ j, w'.cell? ⟨w.heap.size, j, none⟩ = #[Value.int .u64 c, .int .u64 d][j]?) ∧ w'.cell? ⟨g, off + p * 7, none⟩ = some (.int .u64 a') ∧ w'.cell? ⟨g, off + p * 7 + 1, none⟩ = some (.int .u64 b') ∧ w'.cell? ⟨g, off + p * 7 + 2, none⟩ = some (.int .i64 k') ∧ w'.cell? ⟨g, off + p * 7 + 3, none⟩ = some (.bool vb') ∧ w'.cell? ⟨g, off + p * 7 + 4, none⟩ = some (.int .i64 n') ∧ w'.cell? ⟨g, off + p * 7 + 5, none⟩ = some (.float .f64 f') ∧ w'.cell? ⟨g, off + p * 7 + 6, none⟩ = some (.string s')) := Lib.hid fun w' hb => by
          have on : ∀ j v, (Pie.cells ⟨a', b', ⟨k', vb', n', f', s'⟩⟩).toList[j]? = some v → w'.cell? ⟨g, off + p * 7 + j, none⟩ = some v := fun j v hv =>
            (hb.cell (p := ⟨g, off + p * 7 + j, none⟩) lg).trans (rq j v hv)
          exact ⟨(X0.out.below hb).c, on 0 _ rfl, on 1 _ rfl, on 2 _ rfl, on 3 _ rfl, on 4 _ rfl, on 5 _ rfl, on 6 _ rfl⟩
        clear rq
        generalize hr : Se.cmpP a' b' c d = r at *
        have HR := Lib.hid hr
        clear hr
        go_region_held3 (fun w' => (∀ j, w'.cell? ⟨w.heap.size, j, none⟩ = #[Value.int .u64 c, .int .u64 d][j]?) ∧ w'.cell? ⟨g, off + p * 7, none⟩ = some (.int .u64 a') ∧ w'.cell? ⟨g, off + p * 7 + 1, none⟩ = some (.int .u64 b') ∧ w'.cell? ⟨g, off + p * 7 + 2, none⟩ = some (.int .i64 k') ∧ w'.cell? ⟨g, off + p * 7 + 3, none⟩ = some (.bool vb') ∧ w'.cell? ⟨g, off + p * 7 + 4, none⟩ = some (.int .i64 n') ∧ w'.cell? ⟨g, off + p * 7 + 5, none⟩ = some (.float .f64 f') ∧ w'.cell? ⟨g, off + p * 7 + 6, none⟩ = some (.string s')) (first
            | exact K0.out _ (Below.refl _ _).drew
            | exact K0.out _ HU1.out
            | fail) (first
          | (go_at_call 273; (with_reducible refine (CF.out _).mono ?_); rintro e1 w4 ⟨rfl, b4⟩; have HU1 := Lib.hid (show Below wr.heap.size wr w4 from (Below.refl _ _).drew.trans b4); clear b4)
          | fail)
        all_goals (
          have HB4 := Lib.hid (HB.out.trans (HU1.out.mono HB.out.size))
          go_wp2
          go_ret2
          exact ⟨p, _, rfl, by omega, H1.out, H2.out, HB4.out⟩)
      · have i0 : decide ((p : Int) < (l.length : Int)) = false := by simp; omega
        go_upto_region 8 with fail
        go_quiet (fail)
        go_wp2
        go_ret2
        exact ⟨p, _, rfl, by omega, H1.out, H2.out, bel_drewN _ HB.out⟩
end
end Go.Proofs.YtmolpogehgeebaaGreat


