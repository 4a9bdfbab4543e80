/- A piece put among others. -/
import Derived.Test.YtgmaompjhhomcaaGreatmB8
import Derived.Test.YtgmaompjhhomcaaGreatmB9
namespace Go.Proofs.YtgmaompjhhomcaaGreat
open Go.RowKit
theorem cmpP_neg (a b c d : Int) : Se.cmpP a b c d < 0 ↔ a < c ∨ (a = c ∧ b < d) := by
  unfold Se.cmpP Se.orI Se.cmpI
  (repeat' split) <;> omega
section
set_option maxRecDepth 100000
set_option maxHeartbeats 8000000
theorem Insert_end (base : Nat) (gv : Nat) (v : Value) (l : List Pie) (x : Pie) (w : World) (h : OwnL base w v l) (hl : l.length ≤ 1000000000)
    (hv : w.heap[gv]? = some (.cells (Pie.cells x) 43 (0, 0))) (hbase : base ≤ w.heap.size) :
    Calls Tryz.prog 119 #[v, .int .i64 l.length, .slice (some ⟨gv, 0, none⟩) 1 1] w fun e w' => ∃ u, e = .returned u ∧ OwnL base w' u (l ++ [x]) ∧ Below base w w' := by
  have HO := Lib.hid h
  have HC := Lib.hid (show ∀ j u, (Pie.cells x).toList[j]? = some u → w.cell? ⟨gv, j, none⟩ = some u from fun j u hj => by rw [cell_of_row _ gv j _ _ _ hv, ← Array.getElem?_toList]; exact hj)
  have HB := Lib.hid hbase
  obtain ⟨A, c, rfl, hA, _⟩ := h.at
  clear h hv hbase hA
  have b1 : (0 : Int) ≤ (l.length : Int) := by omega
  go_enter Tryz.func119, Tryz.ntmps119
  go_wp2_with (at_builtin; refine wpList_appL rfl (.tmp 23) (.tmp 24) rfl base _ l rfl HO.out gv x rfl HC.out (by omega) HB.out ?_; intro v2 w2 ho2 hb2; have HO2 := Lib.hid ho2; have HB2 := Lib.hid hb2; clear ho2 hb2)
  all_goals
    go_ret
    exact ⟨_, rfl, HO2.out, HB2.out⟩
theorem Insert_any (base : Nat) (gv i : Nat) (v : Value) (l : List Pie) (x : Pie) (w : World) (h : OwnL base w v l) (hi : i ≤ l.length) (hl : l.length ≤ 1000000000)
    (hv : w.heap[gv]? = some (.cells (Pie.cells x) 43 (0, 0))) (hbase : base ≤ w.heap.size) (hne : v.ownBlock ≠ some gv) :
    Calls Tryz.prog 119 #[v, .int .i64 i, .slice (some ⟨gv, 0, none⟩) 1 1] w fun e w' => ∃ u, e = .returned u ∧ OwnL base w' u (l.take i ++ x :: l.drop i) ∧ Below base w w' := by
  rcases Nat.lt_or_ge i l.length with hlt | hge
  · obtain ⟨g, c, rfl, _⟩ := h.form (by omega)
    rcases Nat.lt_or_ge c (l.length + 1) with hc | hc
    · exact Insert_grow base g c gv 1 i l x w h hlt hc (by omega) hv hbase
    · refine Insert_room base g c gv 1 i l x w h hlt hc ?_ hv (fun e => hne (by rw [e]; rfl))
      rcases h.2 with ⟨h0, _⟩ | ⟨g', cap, cur, h0, hb, hg, hn, hm, hs, ht⟩
      · cases h0
      · injection h0 with e1 e2 e3
        subst e3
        unfold maxLen at hm; omega
  · obtain rfl : i = l.length := by omega
    rw [List.take_length, List.drop_length]
    exact Insert_end base gv v l x w h hl hv hbase
/-- insert: x among pieces that stand apart from it. -/
theorem insert_any (base : Nat) (v : Value) (l : List Pie) (x : Pie) (w : World) (h : OwnL base w v l) (hl : l.length ≤ 1000000000) (hbase : base ≤ w.heap.size) (hp : Pl.Par okV l) (hx : x.a < x.b) (ha : ∀ y ∈ l, y.b ≤ x.a ∨ x.b ≤ y.a) :
    Calls Tryz.prog 63 #[v, Pie.val x] w fun e w' => ∃ (u : Value) (i : Nat), e = .returned u ∧ OwnL base w' u (l.take i ++ x :: l.drop i) ∧ (∀ y ∈ l.take i, y.b ≤ x.a) ∧ (∀ y ∈ l.drop i, x.b ≤ y.a) ∧ Below base w w' := by
  have HS := Lib.hid (fun W (hb : Below w.heap.size w W) => Search_any v l x.a x.b W ((h.below hb).at) (by omega) (fun i j hi hj hij hc => by
    rw [cmpP_neg] at hc ⊢
    rcases Nat.lt_or_ge i j with hlt | hge
    · have := (List.pairwise_iff_getElem.1 hp.row) i j hi hj hlt
      have h1 := (hp.good _ (List.getElem_mem hi)).1
      have h2 := (hp.good _ (List.getElem_mem hj)).1
      omega
    · obtain rfl : i = j := by omega
      exact hc))
  have HP := Lib.hid (show ∀ i, i ≤ l.length → (∀ j (hj : j < l.length), j < i → Se.cmpP l[j].a l[j].b x.a x.b < 0) → (∀ j (hj : j < l.length), i ≤ j → 0 ≤ Se.cmpP l[j].a l[j].b x.a x.b) → (∀ y ∈ l.take i, y.b ≤ x.a) ∧ (∀ y ∈ l.drop i, x.b ≤ y.a) from fun i _ h1 h2 => by
    constructor
    · intro y hy
      obtain ⟨j, hj, rfl⟩ := List.mem_take_iff_getElem.1 hy
      have hj' : j < l.length := by omega
      have c := (cmpP_neg _ _ _ _).1 (h1 j hj' (by omega))
      have := (hp.good _ (List.getElem_mem hj')).1
      rcases ha _ (List.getElem_mem hj') with h | h
      · exact h
      · omega
    · intro y hy
      obtain ⟨j, hj, rfl⟩ := List.mem_drop_iff_getElem.1 hy
      have c := h2 (i + j) (by omega) (by omega)
      have hg := (hp.good _ (List.getElem_mem (show i + j < l.length by omega))).1
      rcases ha _ (List.getElem_mem (show i + j < l.length by omega)) with h | h
      · exact absurd ((cmpP_neg l[i + j].a l[i + j].b x.a x.b).2 (by omega)) (by omega)
      · exact h)
  have HO := Lib.hid h
  have HB := Lib.hid hbase
  clear h hbase hp ha hx
  obtain ⟨a, b, ⟨k, vb, n, f, s⟩⟩ := x
  simp only at HS HP
  have hsf := store_float
  go_enter Tryz.func63, Tryz.ntmps63
  go_upto_region 1 with fail
  have X0 := Lib.hid (Bx.new w (Pie.cells ⟨a, b, ⟨k, vb, n, f, s⟩⟩) 43)
  have B0 := Lib.hid ((Below.refl w.heap.size w).alloc (Nat.le_refl _) (.cells (Pie.cells ⟨a, b, ⟨k, vb, n, f, s⟩⟩) 43))
  obtain ⟨W, hW⟩ : ∃ W, w.alloc (.cells (Pie.cells ⟨a, b, ⟨k, vb, n, f, s⟩⟩) 43) = W := ⟨_, rfl⟩
  rw [hW] at X0 B0 ⊢
  clear hW
  have x0 := X0.out.c
  go_upto_region 2 with (go_at_call 116; (with_reducible refine (HS.out _ B0.out).mono ?_); rintro e w1 ⟨i, r, rfl, hi, h1, h2, hb⟩; have HI := Lib.hid (HP.out i hi h1 h2); have B1 := Lib.hid (B0.out.trans (hb.mono B0.out.size)); have X1 := Lib.hid (X0.out.below hb); clear h1 h2 hb x0)
  have x0 := X1.out.c
  have HG := Lib.hid (show (w1.alloc (.cells (Pie.cells ⟨a, b, ⟨k, vb, n, f, s⟩⟩) 43)).heap[w1.heap.size]? = some (.cells (Pie.cells ⟨a, b, ⟨k, vb, n, f, s⟩⟩) 43 (0, 0)) from heap_alloc_new w1 _)
  have B2 := Lib.hid (B1.out.alloc B1.out.size (.cells (Pie.cells ⟨a, b, ⟨k, vb, n, f, s⟩⟩) 43))
  have CI := Lib.hid (Insert_any base w1.heap.size i v l ⟨a, b, ⟨k, vb, n, f, s⟩⟩ (w1.alloc (.cells (Pie.cells ⟨a, b, ⟨k, vb, n, f, s⟩⟩) 43)) (HO.out.below B2.out) hi hl HG.out (Nat.le_trans HB.out B2.out.size) (fun e => by
    have := (HO.out.ownLt _ e).2
    have := B1.out.size
    omega))
  go_wp2_with (go_at_call 119; (with_reducible refine (CI.out).mono ?_); rintro e w3 ⟨u, rfl, ho, hb⟩; have HO3 := Lib.hid ho; have HB3 := Lib.hid hb; clear ho hb)
  go_ret
  exact ⟨_, i, rfl, HO3.out, HI.out.1, HI.out.2, (B2.out.mono HB.out).trans HB3.out⟩
end
end Go.Proofs.YtgmaompjhhomcaaGreat

