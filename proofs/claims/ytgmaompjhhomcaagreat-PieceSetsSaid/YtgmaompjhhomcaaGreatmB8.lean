/- Where a piece belongs among others: the library's search by halves. -/
import Derived.Test.YtgmaompjhhomcaaGreatmB6
namespace Go.Proofs.YtgmaompjhhomcaaGreat
open Go.RowKit
/-- The place that is found: what stands ahead of it is less, what stands from it on isn't. -/
def Found (l : List Pie) (c d : Int) (w : World) (e : Ending) (w' : World) : Prop := ∃ (i : Nat) (r : Bool), e = .returned (.tuple #[.int .i64 i, .bool r]) ∧ i ≤ l.length ∧ (∀ j (hj : j < l.length), j < i → Se.cmpP l[j].a l[j].b c d < 0) ∧ (∀ j (hj : j < l.length), i ≤ j → 0 ≤ Se.cmpP l[j].a l[j].b c d) ∧ Below w.heap.size w w'
section
set_option maxRecDepth 100000
set_option maxHeartbeats 8000000
theorem perCompare_any (a b c d : Int) (w : World) : Calls Tryz.prog 118 #[.agg #[.int .u64 a, .int .u64 b], .agg #[.int .u64 c, .int .u64 d]] w fun e w' => e = .returned (.int .i64 (Se.cmpP a b c d)) ∧ Below w.heap.size w w' :=
  (Se.Compare_grew a b c d w).mono fun _ _ ⟨e, h⟩ => ⟨e, h.below⟩
theorem insert1_any (x : Pie) (c d : Int) (w : World) : Calls Tryz.prog 117 #[Pie.val x, .agg #[.int .u64 c, .int .u64 d]] w fun e w' => e = .returned (.int .i64 (Se.cmpP x.a x.b c d)) ∧ Below w.heap.size w w' := by
  have C := Lib.hid (fun W => perCompare_any x.a x.b c d W)
  obtain ⟨a, b, ⟨k, vb, n, f, s⟩⟩ := x
  simp only at C
  generalize Se.cmpP a b c d = r at *
  go_enter Tryz.func117, Tryz.ntmps117
  go_wp2_with (go_at_call 118; (with_reducible refine (C.out _).mono ?_); rintro e w1 ⟨rfl, hb⟩)
  go_ret
  exact ⟨rfl, (((Below.refl w.heap.size w).alloc (Nat.le_refl _) _).alloc (by simp) _).trans (hb.mono (by simp; omega))⟩
theorem Search_any (v : Value) (l : List Pie) (c d : Int) (w : World) (h : SL w v l) (hl : l.length ≤ 1000000000000)
    (hm : ∀ i j (hi : i < l.length) (hj : j < l.length), i ≤ j → Se.cmpP l[j].a l[j].b c d < 0 → Se.cmpP l[i].a l[i].b c d < 0) :
    Calls Tryz.prog 116 #[v, .agg #[.int .u64 c, .int .u64 d], .func (.func 117) #[] #[]] w
      (Found l c d w) := by
  obtain ⟨A, cc, rfl, hA, _⟩ := h
  have HA := Lib.hid hA
  have HM := Lib.hid hm
  clear hA hm
  have hsf := store_float
  go_enter Tryz.func116, Tryz.ntmps116
  go_wp2
  go_loopw [9, 10] (fun u i wr => ∃ p q : Nat, p ≤ q ∧ q ≤ l.length ∧ u = .int .i64 p ∧ i = .int .i64 q ∧ (∀ j (hj : j < l.length), j < p → Se.cmpP l[j].a l[j].b c d < 0) ∧ (∀ j (hj : j < l.length), q ≤ j → 0 ≤ Se.cmpP l[j].a l[j].b c d) ∧ Bx wr w.heap.size #[.int .u64 c, .int .u64 d] ∧ Below w.heap.size w wr) (fun u i _ => (intOf i).toNat - (intOf u).toNat)
  case atStart => exact ⟨0, l.length, by omega, by omega, rfl, rfl, by omega, by omega, Bx.new w _ _, (Below.refl _ _).alloc (Nat.le_refl _) _⟩
  case round =>
    obtain ⟨p, q, hpq, hq, rfl, rfl, h1, h2, hx, hb⟩ := hrel
    have H1 := Lib.hid h1
    have H2 := Lib.hid h2
    have X0 := Lib.hid hx
    have HB := Lib.hid hb
    clear h1 h2 hx hb
    by_cases hlt : p < q
    · go_upto_region 5 with fail
      obtain ⟨i, hi⟩ : ∃ i : Nat, ((p : Int) + (q : Int)) / 2 = (i : Int) := ⟨(p + q) / 2, by omega⟩
      have hip : p ≤ i := by omega
      have hiq : i < q := by omega
      have hil : i < l.length := by omega
      rw [hi]
      have i0 : (i : Int) < (l.length : Int) := by omega
      have i1 : (0 : Int) ≤ (i : Int) := by omega
      clear hi
      obtain ⟨g, off, rfl, lg, cg⟩ := (HA.out.below HB.out) (by omega)
      have rq := cg i hil
      clear cg
      obtain ⟨y, hy⟩ : ∃ y, l[i] = y := ⟨_, rfl⟩
      rw [hy] at rq
      have HY := Lib.hid hy
      clear hy
      have CF := Lib.hid (fun W => insert1_any y c d W)
      obtain ⟨a', b', ⟨k', vb', n', f', s'⟩⟩ := y
      simp only at CF
      have K0 : Hid (∀ w', Below wr.heap.size wr w' → (∀ j, w'.cell? ⟨w.heap.size, j, none⟩ = #[Value.int .u64 c, .int .u64 d][j]?) ∧ w'.cell? ⟨g, off + i * 7, none⟩ = some (.int .u64 a') ∧ w'.cell? ⟨g, off + i * 7 + 1, none⟩ = some (.int .u64 b') ∧ w'.cell? ⟨g, off + i * 7 + 2, none⟩ = some (.int .i64 k') ∧ w'.cell? ⟨g, off + i * 7 + 3, none⟩ = some (.bool vb') ∧ w'.cell? ⟨g, off + i * 7 + 4, none⟩ = some (.int .i64 n') ∧ w'.cell? ⟨g, off + i * 7 + 5, none⟩ = some (.float .f64 f') ∧ w'.cell? ⟨g, off + i * 7 + 6, none⟩ = some (.string s')) := Lib.hid fun w' hb => by
        have on : ∀ j v, (Pie.cells ⟨a', b', ⟨k', vb', n', f', s'⟩⟩).toList[j]? = some v → w'.cell? ⟨g, off + i * 7 + j, none⟩ = some v := fun j v hv =>
          (hb.cell (p := ⟨g, off + i * 7 + j, none⟩) lg).trans (rq j v hv)
        exact ⟨(X0.out.below hb).c, on 0 _ rfl, on 1 _ rfl, on 2 _ rfl, on 3 _ rfl, on 4 _ rfl, on 5 _ rfl, on 6 _ rfl⟩
      clear rq
      generalize hr : Se.cmpP a' b' c d = r at *
      have HR := Lib.hid hr
      clear hr
      go_region_held3 (fun w' => (∀ j, w'.cell? ⟨w.heap.size, j, none⟩ = #[Value.int .u64 c, .int .u64 d][j]?) ∧ w'.cell? ⟨g, off + i * 7, none⟩ = some (.int .u64 a') ∧ w'.cell? ⟨g, off + i * 7 + 1, none⟩ = some (.int .u64 b') ∧ w'.cell? ⟨g, off + i * 7 + 2, none⟩ = some (.int .i64 k') ∧ w'.cell? ⟨g, off + i * 7 + 3, none⟩ = some (.bool vb') ∧ w'.cell? ⟨g, off + i * 7 + 4, none⟩ = some (.int .i64 n') ∧ w'.cell? ⟨g, off + i * 7 + 5, none⟩ = some (.float .f64 f') ∧ w'.cell? ⟨g, off + i * 7 + 6, none⟩ = some (.string s')) (first
          | exact K0.out _ (Below.refl _ _).drew
          | exact K0.out _ HU1.out
          | fail) (first
        | (go_at_call 117; (with_reducible refine (CF.out _).mono ?_); rintro e1 w4 ⟨rfl, b4⟩; have HU1 := Lib.hid (show Below wr.heap.size wr w4 from (Below.refl _ _).drew.trans b4); clear b4)
        | fail)
      all_goals (
        have HB4 := Lib.hid (HB.out.trans (HU1.out.mono HB.out.size))
        have X4 := Lib.hid (X0.out.below HU1.out)
        by_cases hneg : r < 0
        · have L1 : Hid (∀ j (hj : j < l.length), j < i + 1 → Se.cmpP l[j].a l[j].b c d < 0) := Lib.hid fun j hj hji => HM.out j i hj hil (by omega) (by rw [HY.out]; simp only; rw [HR.out]; exact hneg)
          go_wp2
          exact ⟨⟨i + 1, q, by omega, by omega, by go_num, rfl, L1.out, H2.out, X4.out, HB4.out⟩, by simp [intOf]; omega⟩
        · have L1 : Hid (∀ j (hj : j < l.length), i ≤ j → 0 ≤ Se.cmpP l[j].a l[j].b c d) := Lib.hid fun j hj hji => Int.not_lt.1 fun h => hneg (by
            have := HM.out i j hil hj hji h
            rw [HY.out] at this; simp only at this; rw [HR.out] at this; exact this)
          have t1 : 0 ≤ r := by omega
          clear hneg
          go_wp2
          exact ⟨⟨p, i, by omega, by omega, rfl, rfl, H1.out, L1.out, X4.out, HB4.out⟩, by simp [intOf]; omega⟩)
    · obtain rfl : p = q := by omega
      by_cases hil : p < l.length
      · have i0 : (p : Int) < (l.length : Int) := by omega
        have i1 : (0 : Int) ≤ (p : Int) := by omega
        have hl2 : ¬ (p : Int) < (p : Int) := by omega
        go_upto_region 8 with fail
        obtain ⟨g, off, rfl, lg, cg⟩ := (HA.out.below HB.out) (by omega)
        have rq := cg p hil
        clear cg
        obtain ⟨y, hy⟩ : ∃ y, l[p] = y := ⟨_, rfl⟩
        rw [hy] at rq
        have HY := Lib.hid hy
        clear hy
        have CF := Lib.hid (fun W => insert1_any y c d W)
        obtain ⟨a', b', ⟨k', vb', n', f', s'⟩⟩ := y
        simp only at CF
        have K0 : Hid (∀ w', Below wr.heap.size wr w' → (∀ j, w'.cell? ⟨w.heap.size, j, none⟩ = #[Value.int .u64 c, .int .u64 d][j]?) ∧ w'.cell? ⟨g, off + p * 7, none⟩ = some (.int .u64 a') ∧ w'.cell? ⟨g, off + p * 7 + 1, none⟩ = some (.int .u64 b') ∧ w'.cell? ⟨g, off + p * 7 + 2, none⟩ = some (.int .i64 k') ∧ w'.cell? ⟨g, off + p * 7 + 3, none⟩ = some (.bool vb') ∧ w'.cell? ⟨g, off + p * 7 + 4, none⟩ = some (.int .i64 n') ∧ w'.cell? ⟨g, off + p * 7 + 5, none⟩ = some (.float .f64 f') ∧ w'.cell? ⟨g, off + p * 7 + 6, none⟩ = some (.string s')) := Lib.hid fun w' hb => by
          have on : ∀ j v, (Pie.cells ⟨a', b', ⟨k', vb', n', f', s'⟩⟩).toList[j]? = some v → w'.cell? ⟨g, off + p * 7 + j, none⟩ = some v := fun j v hv =>
            (hb.cell (p := ⟨g, off + p * 7 + j, none⟩) lg).trans (rq j v hv)
          exact ⟨(X0.out.below hb).c, on 0 _ rfl, on 1 _ rfl, on 2 _ rfl, on 3 _ rfl, on 4 _ rfl, on 5 _ rfl, on 6 _ rfl⟩
        clear rq
        generalize hr : Se.cmpP a' b' c d = r at *
        have HR := Lib.hid hr
        clear hr
        go_region_held3 (fun w' => (∀ j, w'.cell? ⟨w.heap.size, j, none⟩ = #[Value.int .u64 c, .int .u64 d][j]?) ∧ w'.cell? ⟨g, off + p * 7, none⟩ = some (.int .u64 a') ∧ w'.cell? ⟨g, off + p * 7 + 1, none⟩ = some (.int .u64 b') ∧ w'.cell? ⟨g, off + p * 7 + 2, none⟩ = some (.int .i64 k') ∧ w'.cell? ⟨g, off + p * 7 + 3, none⟩ = some (.bool vb') ∧ w'.cell? ⟨g, off + p * 7 + 4, none⟩ = some (.int .i64 n') ∧ w'.cell? ⟨g, off + p * 7 + 5, none⟩ = some (.float .f64 f') ∧ w'.cell? ⟨g, off + p * 7 + 6, none⟩ = some (.string s')) (first
            | exact K0.out _ (Below.refl _ _).drew
            | exact K0.out _ HU1.out
            | fail) (first
          | (go_at_call 117; (with_reducible refine (CF.out _).mono ?_); rintro e1 w4 ⟨rfl, b4⟩; have HU1 := Lib.hid (show Below wr.heap.size wr w4 from (Below.refl _ _).drew.trans b4); clear b4)
          | fail)
        all_goals (
          have HB4 := Lib.hid (HB.out.trans (HU1.out.mono HB.out.size))
          go_wp2
          go_ret2
          exact ⟨p, _, rfl, by omega, H1.out, H2.out, HB4.out⟩)
      · have i0 : decide ((p : Int) < (l.length : Int)) = false := by simp; omega
        go_upto_region 8 with fail
        go_quiet (fail)
        go_wp2
        go_ret2
        exact ⟨p, _, rfl, by omega, H1.out, H2.out, bel_drewN _ HB.out⟩
end
end Go.Proofs.YtgmaompjhhomcaaGreat

