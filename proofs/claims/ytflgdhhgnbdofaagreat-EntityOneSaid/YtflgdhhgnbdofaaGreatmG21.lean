/- A piece put among others. -/
/- Set. -/
import Derived.Test.YtflgdhhgnbdofaaGreatmG18
import Derived.Test.YtflgdhhgnbdofaaGreatmB9
namespace Go.Proofs.YtflgdhhgnbdofaaGreat
open Go.RowKit
theorem cmpP_neg (a b c d : Int) : Se.cmpP a b c d < 0 ↔ a < c ∨ (a = c ∧ b < d) := by
  unfold Se.cmpP Se.orI Se.cmpI
  (repeat' split) <;> omega
section
set_option maxRecDepth 100000
set_option maxHeartbeats 8000000
theorem Insert_end (base : Nat) (gv : Nat) (v : Value) (l : List Pie) (x : Pie) (w : World) (h : OwnL base w v l) (hl : l.length ≤ 1000000000)
    (hv : w.heap[gv]? = some (.cells (Pie.cells x) 71 (0, 0))) (hbase : base ≤ w.heap.size) :
    Calls Tryz.prog 170 #[v, .int .i64 l.length, .slice (some ⟨gv, 0, none⟩) 1 1] w fun e w' => ∃ u, e = .returned u ∧ OwnL base w' u (l ++ [x]) ∧ Below base w w' := by
  have HO := Lib.hid h
  have HC := Lib.hid (show ∀ j u, (Pie.cells x).toList[j]? = some u → w.cell? ⟨gv, j, none⟩ = some u from fun j u hj => by rw [cell_of_row _ gv j _ _ _ hv, ← Array.getElem?_toList]; exact hj)
  have HB := Lib.hid hbase
  obtain ⟨A, c, rfl, hA, _⟩ := h.at
  clear h hv hbase hA
  have b1 : (0 : Int) ≤ (l.length : Int) := by omega
  go_enter Tryz.func170, Tryz.ntmps170
  go_wp2_with (at_builtin; refine wpList_appL rfl (.tmp 23) (.tmp 24) rfl base _ l rfl HO.out gv x rfl HC.out (by omega) HB.out ?_; intro v2 w2 ho2 hb2; have HO2 := Lib.hid ho2; have HB2 := Lib.hid hb2; clear ho2 hb2)
  all_goals
    go_ret
    exact ⟨_, rfl, HO2.out, HB2.out⟩
theorem Insert_any (base : Nat) (gv i : Nat) (v : Value) (l : List Pie) (x : Pie) (w : World) (h : OwnL base w v l) (hi : i ≤ l.length) (hl : l.length ≤ 1000000000)
    (hv : w.heap[gv]? = some (.cells (Pie.cells x) 71 (0, 0))) (hbase : base ≤ w.heap.size) (hne : v.ownBlock ≠ some gv) :
    Calls Tryz.prog 170 #[v, .int .i64 i, .slice (some ⟨gv, 0, none⟩) 1 1] w fun e w' => ∃ u, e = .returned u ∧ OwnL base w' u (l.take i ++ x :: l.drop i) ∧ Below base w w' := by
  rcases Nat.lt_or_ge i l.length with hlt | hge
  · obtain ⟨g, c, rfl, _⟩ := h.form (by omega)
    rcases Nat.lt_or_ge c (l.length + 1) with hc | hc
    · exact Insert_grow base g c gv 1 i l x w h hlt hc (by omega) hv hbase
    · refine Insert_room base g c gv 1 i l x w h hlt hc ?_ hv (fun e => hne (by rw [e]; rfl))
      rcases h.2 with ⟨h0, _⟩ | ⟨g', cap, cur, h0, hb, hg, hn, hm, hs, ht⟩
      · cases h0
      · injection h0 with e1 e2 e3
        subst e3
        unfold maxLen at hm; omega
  · obtain rfl : i = l.length := by omega
    rw [List.take_length, List.drop_length]
    exact Insert_end base gv v l x w h hl hv hbase
/-- insert: x among pieces that stand apart from it. -/
theorem insert_any (base : Nat) (v : Value) (l : List Pie) (x : Pie) (w : World) (h : OwnL base w v l) (hl : l.length ≤ 1000000000) (hbase : base ≤ w.heap.size) (hp : Pl.Par okV l) (hx : x.a < x.b) (ha : ∀ y ∈ l, y.b ≤ x.a ∨ x.b ≤ y.a) :
    Calls Tryz.prog 113 #[v, Pie.val x] w fun e w' => ∃ (u : Value) (i : Nat), e = .returned u ∧ OwnL base w' u (l.take i ++ x :: l.drop i) ∧ (∀ y ∈ l.take i, y.b ≤ x.a) ∧ (∀ y ∈ l.drop i, x.b ≤ y.a) ∧ Below base w w' := by
  have HS := Lib.hid (fun W (hb : Below w.heap.size w W) => Search_any v l x.a x.b W ((h.below hb).at) (by omega) (fun i j hi hj hij hc => by
    rw [cmpP_neg] at hc ⊢
    rcases Nat.lt_or_ge i j with hlt | hge
    · have := (List.pairwise_iff_getElem.1 hp.row) i j hi hj hlt
      have h1 := (hp.good _ (List.getElem_mem hi)).1
      have h2 := (hp.good _ (List.getElem_mem hj)).1
      omega
    · obtain rfl : i = j := by omega
      exact hc))
  have HP := Lib.hid (show ∀ i, i ≤ l.length → (∀ j (hj : j < l.length), j < i → Se.cmpP l[j].a l[j].b x.a x.b < 0) → (∀ j (hj : j < l.length), i ≤ j → 0 ≤ Se.cmpP l[j].a l[j].b x.a x.b) → (∀ y ∈ l.take i, y.b ≤ x.a) ∧ (∀ y ∈ l.drop i, x.b ≤ y.a) from fun i _ h1 h2 => by
    constructor
    · intro y hy
      obtain ⟨j, hj, rfl⟩ := List.mem_take_iff_getElem.1 hy
      have hj' : j < l.length := by omega
      have c := (cmpP_neg _ _ _ _).1 (h1 j hj' (by omega))
      have := (hp.good _ (List.getElem_mem hj')).1
      rcases ha _ (List.getElem_mem hj') with h | h
      · exact h
      · omega
    · intro y hy
      obtain ⟨j, hj, rfl⟩ := List.mem_drop_iff_getElem.1 hy
      have c := h2 (i + j) (by omega) (by omega)
      have hg := (hp.good _ (List.getElem_mem (show i + j < l.length by omega))).1
      rcases ha _ (List.getElem_mem (show i + j < l.length by omega)) with h | h
      · exact absurd ((cmpP_neg l[i + j].a l[i + j].b x.a x.b).2 (by omega)) (by omega)
      · exact h)
  have HO := Lib.hid h
  have HB := Lib.hid hbase
  clear h hbase hp ha hx
  obtain ⟨a, b, ⟨k, vb, n, f, s⟩⟩ := x
  simp only at HS HP
  have hsf := store_float
  go_enter Tryz.func113, Tryz.ntmps113
  go_upto_region 1 with fail
  have X0 := Lib.hid (Bx.new w (Pie.cells ⟨a, b, ⟨k, vb, n, f, s⟩⟩) 71)
  have B0 := Lib.hid ((Below.refl w.heap.size w).alloc (Nat.le_refl _) (.cells (Pie.cells ⟨a, b, ⟨k, vb, n, f, s⟩⟩) 71))
  obtain ⟨W, hW⟩ : ∃ W, w.alloc (.cells (Pie.cells ⟨a, b, ⟨k, vb, n, f, s⟩⟩) 71) = W := ⟨_, rfl⟩
  rw [hW] at X0 B0 ⊢
  clear hW
  have x0 := X0.out.c
  go_upto_region 2 with (go_at_call 167; (with_reducible refine (HS.out _ B0.out).mono ?_); rintro e w1 ⟨i, r, rfl, hi, h1, h2, hb⟩; have HI := Lib.hid (HP.out i hi h1 h2); have B1 := Lib.hid (B0.out.trans (hb.mono B0.out.size)); have X1 := Lib.hid (X0.out.below hb); clear h1 h2 hb x0)
  have x0 := X1.out.c
  have HG := Lib.hid (show (w1.alloc (.cells (Pie.cells ⟨a, b, ⟨k, vb, n, f, s⟩⟩) 71)).heap[w1.heap.size]? = some (.cells (Pie.cells ⟨a, b, ⟨k, vb, n, f, s⟩⟩) 71 (0, 0)) from heap_alloc_new w1 _)
  have B2 := Lib.hid (B1.out.alloc B1.out.size (.cells (Pie.cells ⟨a, b, ⟨k, vb, n, f, s⟩⟩) 71))
  have CI := Lib.hid (Insert_any base w1.heap.size i v l ⟨a, b, ⟨k, vb, n, f, s⟩⟩ (w1.alloc (.cells (Pie.cells ⟨a, b, ⟨k, vb, n, f, s⟩⟩) 71)) (HO.out.below B2.out) hi hl HG.out (Nat.le_trans HB.out B2.out.size) (fun e => by
    have := (HO.out.ownLt _ e).2
    have := B1.out.size
    omega))
  go_wp2_with (go_at_call 170; (with_reducible refine (CI.out).mono ?_); rintro e w3 ⟨u, rfl, ho, hb⟩; have HO3 := Lib.hid ho; have HB3 := Lib.hid hb; clear ho hb)
  go_ret
  exact ⟨_, i, rfl, HO3.out, HI.out.1, HI.out.2, (B2.out.mono HB.out).trans HB3.out⟩
end
end Go.Proofs.YtflgdhhgnbdofaaGreat

namespace Go.Proofs.YtflgdhhgnbdofaaGreat
open Go.RowKit
theorem Says.yes {P : Prop} {w w' : World} {e : Ending} (h : Says P w e w') (p : P) : e = .returned (.bool true) ∧ Below w.heap.size w w' := by
  obtain ⟨c, rfl, hc, hb⟩ := h
  exact ⟨by rw [hc.2 p], hb⟩
theorem Says.no {P : Prop} {w w' : World} {e : Ending} (h : Says P w e w') (p : ¬ P) : e = .returned (.bool false) ∧ Below w.heap.size w w' := by
  obtain ⟨c, rfl, hc, hb⟩ := h
  cases c
  · exact ⟨rfl, hb⟩
  · exact absurd (hc.1 rfl) p
theorem may_size {v : VP} (h : v.may) : v.s.size ≤ 1000 := by
  unfold VP.may MayV at h
  have e : ByteArray.empty.size = 0 := rfl
  rcases h with h | h | h | h | h | h
  · rw [h.2.2.2.2]; omega
  · rw [h.2.2.2]; omega
  · rw [h.2.2.2]; omega
  · rw [h.2.2.2.1]; omega
  · omega
  · rw [h.2.2.2.1]; omega
namespace Pl
theorem partsK_congr {V : Type} {F G : Nat → List (Int × Int)} {l : List (PC V)} (h : ∀ k, k < l.length → F k = G k) : ∀ n, n ≤ l.length → partsK F l n = partsK G l n
  | 0, _ => rfl
  | n + 1, hn => by rw [partsK_succ F l n (by omega), partsK_succ G l n (by omega), partsK_congr h n (by omega), h n (by omega)]
theorem minus_count' {V : Type} {ok : V → Prop} (l : List (PC V)) (hl : Par ok l) {c d : Int} (hp : c < d) (F : Nat → List (Int × Int)) (hF : ∀ k (hk : k < l.length), F k = Se.Pe.minusL l[k].a l[k].b c d) : (partsK F l l.length).length ≤ l.length + 1 := by
  have h1 := (minus_count l hl hp l.length (Nat.le_refl _)).1
  rw [partsK_congr (G := F) (fun k hk => by rw [hF k hk]; simp only [List.getElem?_eq_getElem hk]) l.length (Nat.le_refl _)] at h1
  exact h1
theorem setR_null {V : Type} {ok : V → Prop} {z : V} (hz : ¬ ok z) {l P : List (PC V)} (hl : Line ok l) {c d : Int} (hP : CutOf (fun t => ¬ (c ≤ t ∧ t < d)) l P) (hn : P.length ≤ l.length + 1) : SetR ok z l c d z (merge P) := by
  obtain ⟨h1, h2, h3⟩ := merge_spec hz (hP.par hl.par)
  refine ⟨h1, fun t => ⟨fun h => ?_, fun h => ?_⟩, by omega⟩
  · rw [h2]; exact (hP.means hl.par t).2 fun g => g h
  · rw [h2]; exact (hP.means hl.par t).1 h
theorem setR_some {V : Type} {ok : V → Prop} {z v : V} (hz : ¬ ok z) {l P : List (PC V)} (hl : Line ok l) {c d : Int} (hP : CutOf (fun t => ¬ (c ≤ t ∧ t < d)) l P) (hn : P.length ≤ l.length + 1) (i : Nat) (hx : may ok (⟨c, d, v⟩ : PC V))
    (g1 : ∀ y ∈ P.take i, y.b ≤ c) (g2 : ∀ y ∈ P.drop i, d ≤ y.a) : SetR ok z l c d v (merge (P.take i ++ ⟨c, d, v⟩ :: P.drop i)) := by
  obtain ⟨q1, q2⟩ := put_spec z P ⟨c, d, v⟩ i (hP.par hl.par) hx g1 g2
  obtain ⟨h1, h2, h3⟩ := merge_spec hz q1
  refine ⟨h1, fun t => ⟨fun h => ?_, fun h => ?_⟩, ?_⟩
  · rw [h2]; exact (q2 t).1 h
  · rw [h2, (q2 t).2 h]; exact (hP.means hl.par t).1 h
  · have : (P.take i ++ (⟨c, d, v⟩ : PC V) :: P.drop i).length = P.length + 1 := by simp; omega
    omega
theorem CutOf.aside {V : Type} {l P : List (PC V)} {c d : Int} (hP : CutOf (fun t => ¬ (c ≤ t ∧ t < d)) l P) (hcd : c < d) : ∀ y ∈ P, y.b ≤ c ∨ d ≤ y.a := fun y hy => by
  obtain ⟨x, _, _, _, _, hlt, g⟩ := hP.mem y hy
  rcases Int.lt_or_le c y.b with h | h
  · rcases Int.lt_or_le y.a d with k | k
    · have := g (max y.a c) (by omega) (by omega)
      omega
    · exact .inr k
  · exact .inl h
end Pl
/-- What Set answers where something may not be. -/
def Refused (n : Int) (w : World) (e : Ending) (w' : World) : Prop := e = .returned (.tuple #[.slice none 0 0, .int .i64 n]) ∧ Below w.heap.size w w'
/-- What Set answers. -/
def SetAns (l : List Pie) (c d : Int) (v : VP) (w : World) (e : Ending) (w' : World) : Prop := ∃ u R, e = .returned (.tuple #[u, .int .i64 0]) ∧ OwnL w.heap.size w' u R ∧ Pl.SetR okV VP.none l c d v R ∧ Below w.heap.size w w'
section
set_option maxRecDepth 100000
set_option maxHeartbeats 8000000
theorem Set1_any (a b c d : Int) (p : Nat) (w : World) (hp : Bx w p #[.int .u64 c, .int .u64 d]) :
    Calls Tryz.prog 111 #[.agg #[.int .u64 a, .int .u64 b], .pointer (some ⟨p, 0, none⟩)] w fun e w' => ∃ u, e = .returned u ∧ Se.OwnP w.heap.size w' u (Se.Pe.minusL a b c d) ∧ Below w.heap.size w w' := by
  have CM := Lib.hid (fun W => Se.Pe.Minus_any a b c d W)
  have X := Lib.hid (hp.below ((Below.refl _ _).alloc (Nat.le_refl _) (.cells #[.int .u64 a, .int .u64 b] 33)))
  have x0 := X.out.c
  clear hp
  go_enter Tryz.func111, Tryz.ntmps111
  go_wp2_with (go_at_call 112; (with_reducible refine (CM.out _).mono ?_); rintro e w1 ⟨u, rfl, ho, hb⟩; have HO := Lib.hid ho; have HB := Lib.hid hb; clear ho hb x0)
  go_ret
  exact ⟨_, rfl, Se.Pe.ownP_mono HO.out (by simp), ((Below.refl _ _).alloc (Nat.le_refl _) _).trans (HB.out.mono (by simp))⟩
theorem Set_form (sv : Value) (l : List Pie) (c d : Int) (v : VP) (w : World) (h : SL w sv l) (hw : ∀ x ∈ l, x.v.wide) (hL : ¬ Pl.Line okV l) :
    Calls Tryz.prog 47 #[sv, .agg #[.int .u64 c, .int .u64 d], v.val] w (Refused 5 w) := by
  have CI := Lib.hid (fun W (hb : Below w.heap.size w W) => (Is_any sv l W (h.below hb) hw).mono fun _ _ h => h.no hL)
  obtain ⟨k, b, n, f, s⟩ := v
  have hsf := store_float
  have B0 := Lib.hid (((Below.refl w.heap.size w).alloc (Nat.le_refl _) (.cells #[.int .u64 c, .int .u64 d] 33)).alloc (by simp) (.cells (VP.cells ⟨k, b, n, f, s⟩) 31))
  obtain ⟨A, cc, rfl, _⟩ := h
  clear hw hL
  go_enter Tryz.func47, Tryz.ntmps47
  go_wp2_with (go_at_call 57; (with_reducible refine (CI.out _ B0.out).mono ?_); rintro e w1 ⟨rfl, hb⟩)
  go_ret2
  exact ⟨rfl, B0.out.trans (hb.mono B0.out.size)⟩
theorem Set_empty (sv : Value) (l : List Pie) (c d : Int) (v : VP) (w : World) (h : SL w sv l) (hw : ∀ x ∈ l, x.v.wide) (hL : Pl.Line okV l) (hp : ¬ (c < d ∧ d ≤ 1099511627776)) :
    Calls Tryz.prog 47 #[sv, .agg #[.int .u64 c, .int .u64 d], v.val] w (Refused 32 w) := by
  have CI := Lib.hid (fun W (hb : Below w.heap.size w W) => (Is_any sv l W (h.below hb) hw).mono fun _ _ h => h.yes hL)
  have CP := Lib.hid (fun W => (perMay_says c d W).mono fun _ _ h => h.no hp)
  obtain ⟨k, b, n, f, s⟩ := v
  have hsf := store_float
  have B0 := Lib.hid (((Below.refl w.heap.size w).alloc (Nat.le_refl _) (.cells #[.int .u64 c, .int .u64 d] 33)).alloc (by simp) (.cells (VP.cells ⟨k, b, n, f, s⟩) 31))
  have X0 := Lib.hid ((Bx.new w #[.int .u64 c, .int .u64 d] 33).below ((Below.refl _ _).alloc (Nat.le_refl _) (.cells (VP.cells ⟨k, b, n, f, s⟩) 31)))
  obtain ⟨A, cc, rfl, _⟩ := h
  clear hw hL hp
  go_enter Tryz.func47, Tryz.ntmps47
  go_wp2_with (first
    | (go_at_call 57; (with_reducible refine (CI.out _ B0.out).mono ?_); rintro e w1 ⟨rfl, hb⟩; have B1 := Lib.hid (B0.out.trans (hb.mono B0.out.size)); have x0 := (X0.out.below hb).c; clear hb)
    | (go_at_call 80; (with_reducible refine (CP.out _).mono ?_); rintro e w2 ⟨rfl, hb⟩; have B2 := Lib.hid (B1.out.trans (hb.mono B1.out.size)); clear hb))
  go_ret2
  exact ⟨rfl, B2.out⟩
theorem Set_arg (sv : Value) (l : List Pie) (c d : Int) (v : VP) (w : World) (h : SL w sv l) (hw : ∀ x ∈ l, x.v.wide) (hL : Pl.Line okV l) (hp : c < d ∧ d ≤ 1099511627776) (hv : ¬ setP v) (hvw : v.wide) :
    Calls Tryz.prog 47 #[sv, .agg #[.int .u64 c, .int .u64 d], v.val] w (Refused 1 w) := by
  have CI := Lib.hid (fun W (hb : Below w.heap.size w W) => (Is_any sv l W (h.below hb) hw).mono fun _ _ h => h.yes hL)
  have CP := Lib.hid (fun W => (perMay_says c d W).mono fun _ _ h => h.yes hp)
  have CS := Lib.hid (fun W => (settable_any v hvw W).mono fun _ _ h => h.no hv)
  obtain ⟨k, b, n, f, s⟩ := v
  have hsf := store_float
  have B0 := Lib.hid (((Below.refl w.heap.size w).alloc (Nat.le_refl _) (.cells #[.int .u64 c, .int .u64 d] 33)).alloc (by simp) (.cells (VP.cells ⟨k, b, n, f, s⟩) 31))
  have X0 := Lib.hid ((Bx.new w #[.int .u64 c, .int .u64 d] 33).below ((Below.refl _ _).alloc (Nat.le_refl _) (.cells (VP.cells ⟨k, b, n, f, s⟩) 31)))
  have Y0 := Lib.hid (Bx.new (w.alloc (.cells #[.int .u64 c, .int .u64 d] 33)) (VP.cells ⟨k, b, n, f, s⟩) 31)
  rw [show (w.alloc (.cells #[.int .u64 c, .int .u64 d] 33)).heap.size = w.heap.size + 1 by simp] at Y0
  obtain ⟨A, cc, rfl, _⟩ := h
  clear hw hL hp hv hvw
  go_enter Tryz.func47, Tryz.ntmps47
  go_wp2_with (first
    | (go_at_call 57; (with_reducible refine (CI.out _ B0.out).mono ?_); rintro e w1 ⟨rfl, hb⟩; have B1 := Lib.hid (B0.out.trans (hb.mono B0.out.size)); have x0 := (X0.out.below hb).c; have Y1 := Lib.hid (Y0.out.below hb); clear hb)
    | (go_at_call 80; (with_reducible refine (CP.out _).mono ?_); rintro e w2 ⟨rfl, hb⟩; have B2 := Lib.hid (B1.out.trans (hb.mono B1.out.size)); have y0 := (Y1.out.below hb).c; clear hb)
    | (go_at_call 109; (with_reducible refine (CS.out _).mono ?_); rintro e w3 ⟨rfl, hb⟩; have B3 := Lib.hid (B2.out.trans (hb.mono B2.out.size)); clear hb))
  go_ret2
  exact ⟨rfl, B3.out⟩
theorem Set_ok (sv : Value) (l : List Pie) (c d : Int) (v : VP) (w : World) (h : SL w sv l) (hw : ∀ x ∈ l, x.v.wide) (hL : Pl.Line okV l) (hp : c < d ∧ d ≤ 1099511627776) (hv : setP v) (hvw : v.wide) (hl : l.length ≤ 100000) :
    Calls Tryz.prog 47 #[sv, .agg #[.int .u64 c, .int .u64 d], v.val] w (SetAns l c d v w) := by
  have CI := Lib.hid (fun W (hb : Below w.heap.size w W) => (Is_any sv l W (h.below hb) hw).mono fun _ _ h => h.yes hL)
  have CP := Lib.hid (fun W => (perMay_says c d W).mono fun _ _ h => h.yes hp)
  have CS := Lib.hid (fun W => (settable_any v hvw W).mono fun _ _ h => h.yes hv)
  have CL := Lib.hid (fun W => clone_any v (may_size hv.1) W)
  obtain ⟨Fs, hFs⟩ : ∃ Fs : Nat → List (Int × Int), Fs = fun j => match l[j]? with | none => [] | some x => Se.Pe.minusL x.a x.b c d := ⟨_, rfl⟩
  have hFk : ∀ k (hk : k < l.length), Fs k = Se.Pe.minusL l[k].a l[k].b c d := fun k hk => by rw [hFs]; simp only [List.getElem?_eq_getElem hk]
  obtain ⟨P, hP⟩ : ∃ P, P = Pl.partsK Fs l l.length := ⟨_, rfl⟩
  have hCut : Pl.CutOf (fun t => ¬ (c ≤ t ∧ t < d)) l P := by
    rw [hP]
    exact Pl.partsK_all Fs l fun k hk => by rw [hFk k hk]; exact Pl.cuts_minus (hL.good _ (List.getElem_mem hk)) hp
  have hPn : P.length ≤ l.length + 1 := by
    rw [hP]; exact Pl.minus_count' l hL.par hp.1 Fs hFk
  have hPp := hCut.par hL.par
  have hPa := hCut.aside hp.1
  have CC := Lib.hid (fun W (p : Nat) (hz : p < W.heap.size) (hb : Below w.heap.size w W) (hx : Bx W p #[.int .u64 c, .int .u64 d]) => cut_any 111 (.pointer (some ⟨p, 0, none⟩)) (fun args w => by kernel_rfl) sv l W (fun _ W' => Below W.heap.size W W') Fs
    (fun _ _ _ h1 h2 => h1.trans h2) (fun _ _ h1 => (h.below hb).below h1) (fun x hx => may_size (hL.good x hx).2.2.2.1) hl
    (fun k hk => by rw [hFk k hk]; have := Se.Pe.minus_length l[k].a l[k].b c d; omega)
    (fun k hk W1 hs h1 => (Set1_any l[k].a l[k].b c d p W1 (hx.below h1)).mono fun e w' ⟨u, e1, e2, e3⟩ => ⟨u, e1, by rw [hFk k hk]; exact Se.Pe.ownP_mono e2 hs, ⟨e3.size, fun q _ hq => e3.block q hq⟩, h1.trans (e3.mono hs)⟩) (Below.refl _ _))
  have HP := Lib.hid hP
  have HC := Lib.hid hCut
  have HPN := Lib.hid hPn
  have HPP := Lib.hid hPp
  have HPA := Lib.hid hPa
  have HLL := Lib.hid hL
  have HV := Lib.hid (And.intro hv hvw)
  have HPW := Lib.hid (show ∀ x ∈ P, x.v.wide ∧ x.v.may from fun x hx => ⟨(hPp.good x hx).2.2.1, (hPp.good x hx).2.2.2.1⟩)
  have HCD := Lib.hid hp
  obtain ⟨A, cc, rfl, _⟩ := h
  clear hw hL hp hv hvw hFs hFk hP hCut hPn hPp hPa
  obtain ⟨k, b, n, f, s⟩ := v
  have hsf := store_float
  have B0 := Lib.hid (((Below.refl w.heap.size w).alloc (Nat.le_refl _) (.cells #[.int .u64 c, .int .u64 d] 33)).alloc (by simp) (.cells (VP.cells ⟨k, b, n, f, s⟩) 31))
  have X0 := Lib.hid ((Bx.new w #[.int .u64 c, .int .u64 d] 33).below ((Below.refl _ _).alloc (Nat.le_refl _) (.cells (VP.cells ⟨k, b, n, f, s⟩) 31)))
  have Y0 := Lib.hid (Bx.new (w.alloc (.cells #[.int .u64 c, .int .u64 d] 33)) (VP.cells ⟨k, b, n, f, s⟩) 31)
  rw [show (w.alloc (.cells #[.int .u64 c, .int .u64 d] 33)).heap.size = w.heap.size + 1 by simp] at Y0
  go_enter Tryz.func47, Tryz.ntmps47
  go_upto_region 8 with (first
    | (go_at_call 57; (with_reducible refine (CI.out _ B0.out).mono ?_); rintro e w1 ⟨rfl, hb⟩; have B1 := Lib.hid (B0.out.trans (hb.mono B0.out.size)); have X1 := Lib.hid (X0.out.below hb); have x0 := X1.out.c; have Y1 := Lib.hid (Y0.out.below hb); clear hb)
    | (go_at_call 80; (with_reducible refine (CP.out _).mono ?_); rintro e w2 ⟨rfl, hb⟩; have B2 := Lib.hid (B1.out.trans (hb.mono B1.out.size)); have X2 := Lib.hid (X1.out.below hb); have Y2 := Lib.hid (Y1.out.below hb); have y0 := Y2.out.c; clear hb x0)
    | (go_at_call 109; (with_reducible refine (CS.out _).mono ?_); rintro e w3 ⟨rfl, hb⟩; have B3 := Lib.hid (B2.out.trans (hb.mono B2.out.size)); have X3 := Lib.hid (X2.out.below hb); have Y3 := Lib.hid (Y2.out.below hb); clear hb y0)
    | (go_at_call 110; (with_reducible refine (CC.out _ _ X3.out.lt B3.out X3.out).mono ?_); rintro e w4 ⟨u, rfl, ho, hb, hz⟩; have HO := Lib.hid (show OwnL w3.heap.size w4 u P by rw [HP.out]; exact ho); have B4 := Lib.hid hb; have X4 := Lib.hid (X3.out.below hb); have Y4 := Lib.hid (Y3.out.below hb); clear hb ho hz))
  have x0 := X4.out.c
  have y0 := Y4.out.c
  have hlP : P.length ≤ 100001 := by have := HPN.out; omega
  by_cases hk0 : k = 0
  · have VN : Hid ((⟨k, b, n, f, s⟩ : VP) = VP.none) := Lib.hid (may_none HV.out.1.1 hk0)
    have CM := Lib.hid (merge_any u P w4 HO.out.at HPW.out (by omega))
    have RS : Hid (Pl.SetR okV VP.none l c d ⟨k, b, n, f, s⟩ (Pl.merge P)) := Lib.hid (by rw [VN.out]; exact Pl.setR_null none_ok HLL.out HC.out HPN.out)
    have t0 : (k != 0) = false := by simp [hk0]
    clear hk0
    go_wp2_with (go_at_call 115; (with_reducible refine (CM.out).mono ?_); rintro e w5 ⟨u5, rfl, ho, hb⟩; have HO5 := Lib.hid ho; have B5 := Lib.hid hb; clear hb ho)
    go_ret2
    have hz := B3.out.trans (B4.out.mono B3.out.size)
    exact ⟨_, _, rfl, HO5.out.mono hz.size, RS.out, hz.trans (B5.out.mono hz.size)⟩
  · have OV : Hid (okV ⟨k, b, n, f, s⟩) := Lib.hid (set_ok HV.out.1 HV.out.2 hk0)
    have t0 : (k != 0) = true := by simp [hk0]
    clear hk0
    have CN := Lib.hid (fun W (hb : Below w4.heap.size w4 W) => insert_any w3.heap.size u P ⟨c, d, ⟨k, b, n, f, s⟩⟩ W (HO.out.below hb) (by omega) (Nat.le_trans B4.out.size hb.size) HPP.out HCD.out.1 HPA.out)
    have K0 : Hid (∀ w', Below w3.heap.size w4 w' → (∀ j, w'.cell? ⟨w.heap.size, j, none⟩ = #[Value.int .u64 c, .int .u64 d][j]?) ∧ (∀ j, w'.cell? ⟨w.heap.size + 1, j, none⟩ = #[Value.int .i64 k, .bool b, .int .i64 n, .float .f64 f, .string s][j]?)) := Lib.hid fun w' hb =>
      ⟨(X3.out.below (B4.out.trans hb)).c, (Y3.out.below (B4.out.trans hb)).c⟩
    go_wp2_with fail
    clear x0 y0
    go_region_held3 (fun w' => (∀ j, w'.cell? ⟨w.heap.size, j, none⟩ = #[Value.int .u64 c, .int .u64 d][j]?) ∧ (∀ j, w'.cell? ⟨w.heap.size + 1, j, none⟩ = #[Value.int .i64 k, .bool b, .int .i64 n, .float .f64 f, .string s][j]?)) (first
        | exact K0.out _ (Below.refl _ _).drew
        | exact K0.out _ (HU1.out.mono B4.out.size)
        | exact K0.out _ HU2.out
        | fail) (first
      | (go_at_call 114; (with_reducible refine (CL.out _).mono ?_); rintro e1 w5 ⟨rfl, b5⟩; have HU1 := Lib.hid (show Below w4.heap.size w4 w5 from (Below.refl _ _).drew.trans b5); clear b5)
      | (go_at_call 113; (with_reducible refine (CN.out _ HU1.out).mono ?_); rintro e2 w6 ⟨u6, i6, rfl, ho, g1, g2, hb⟩; have HO6 := Lib.hid ho; have G1 := Lib.hid g1; have G2 := Lib.hid g2; have HU2 := Lib.hid (show Below w3.heap.size w4 w6 from (HU1.out.mono B4.out.size).trans hb); clear ho g1 g2 hb)
      | fail)
    all_goals (
      have RS : Hid (Pl.SetR okV VP.none l c d ⟨k, b, n, f, s⟩ (Pl.merge (P.take i6 ++ ⟨c, d, ⟨k, b, n, f, s⟩⟩ :: P.drop i6))) := Lib.hid (Pl.setR_some none_ok HLL.out HC.out HPN.out i6 ⟨HCD.out.1, HCD.out.2, OV.out⟩ G1.out G2.out)
      have CM := Lib.hid (merge_any u6 (P.take i6 ++ ⟨c, d, ⟨k, b, n, f, s⟩⟩ :: P.drop i6) w6 HO6.out.at (fun x hx => by
        rcases List.mem_append.1 hx with hx | hx
        · exact HPW.out x (List.mem_of_mem_take hx)
        · rcases List.mem_cons.1 hx with rfl | hx
          · exact ⟨OV.out.1, OV.out.2.1⟩
          · exact HPW.out x (List.mem_of_mem_drop hx)) (by simp; omega))
      go_wp2_with (go_at_call 115; (with_reducible refine (CM.out).mono ?_); rintro e w7 ⟨u7, rfl, ho, hb⟩; have HO7 := Lib.hid ho; have B7 := Lib.hid hb; clear hb ho)
      go_ret2
      have hz := (B3.out.trans (B4.out.mono B3.out.size)).trans (HU2.out.mono B3.out.size)
      exact ⟨_, _, rfl, HO7.out.mono hz.size, RS.out, hz.trans (B7.out.mono hz.size)⟩)
end
end Go.Proofs.YtflgdhhgnbdofaaGreat

