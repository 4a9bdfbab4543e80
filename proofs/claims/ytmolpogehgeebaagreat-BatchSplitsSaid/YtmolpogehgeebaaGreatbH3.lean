/- Same, of two lists of pieces. -/
/- The chapter's rows. -/
/- Puts, and the line that they build. -/
/- The line of puts, one behind the other. -/
import Derived.Test.YtmolpogehgeebaaGreatbB4
import Derived.Test.YtmolpogehgeebaaGreatbB13
namespace Go.Proofs.YtmolpogehgeebaaGreat
open Go.RowKit
section
set_option maxRecDepth 100000
set_option maxHeartbeats 8000000
theorem Same1_any (x y : Pie) (hx : x.v.wide ∧ x.v.may) (hy : y.v.wide ∧ y.v.may) (w : World) :
    Calls Tryz.prog 141 #[Pie.val x, Pie.val y] w (Says (x = y) w) := by
  have CS := Lib.hid (fun W => valSame_any x.v y.v hx.1 hy.1 hx.2 hy.2 W)
  have HB := Lib.hid (((Below.refl w.heap.size w).alloc (Nat.le_refl _) (.cells (Pie.cells x) 148)).alloc (by simp) (.cells (Pie.cells y) 148))
  have hsf := store_float
  clear hx hy
  obtain ⟨a, b, ⟨k, vb, n, f, s⟩⟩ := x
  obtain ⟨a', b', ⟨k', vb', n', f', s'⟩⟩ := y
  simp only at CS
  by_cases ha : a = a'
  · subst ha
    by_cases hb : b = b'
    · subst hb
      have HE : Hid (∀ c : Bool, (c = true ↔ (⟨k, vb, n, f, s⟩ : VP) = ⟨k', vb', n', f', s'⟩) → (c = true ↔ (⟨a, b, ⟨k, vb, n, f, s⟩⟩ : Pie) = ⟨a, b, ⟨k', vb', n', f', s'⟩⟩)) := Lib.hid fun c h => h.trans ⟨fun e => by rw [e], fun e => by injection e⟩
      go_enter Tryz.func141, Tryz.ntmps141
      go_wp2_with (go_at_call 31; (with_reducible refine (CS.out _).mono ?_); rintro e w1 ⟨c, rfl, hc, hb⟩; have HC := Lib.hid (HE.out c hc); have B1 := Lib.hid (HB.out.trans (hb.mono HB.out.size)); clear hc hb)
      go_ret
      exact ⟨c, rfl, HC.out, B1.out⟩
    · have HN : Hid (¬ (⟨a, b, ⟨k, vb, n, f, s⟩⟩ : Pie) = ⟨a, b', ⟨k', vb', n', f', s'⟩⟩) := Lib.hid fun e => hb (by injection e)
      have t0 : (b == b') = false := by simpa using hb
      clear hb
      go_enter Tryz.func141, Tryz.ntmps141
      go_wp2
      go_ret
      exact ⟨false, rfl, by simp only [HN.out, Bool.false_eq_true], HB.out⟩
  · have HN : Hid (¬ (⟨a, b, ⟨k, vb, n, f, s⟩⟩ : Pie) = ⟨a', b', ⟨k', vb', n', f', s'⟩⟩) := Lib.hid fun e => ha (by injection e)
    have t0 : (a == a') = false := by simpa using ha
    clear ha
    go_enter Tryz.func141, Tryz.ntmps141
    go_wp2
    go_ret
    exact ⟨false, rfl, by simp only [HN.out, Bool.false_eq_true], HB.out⟩
theorem EqualFunc_any (va vb : Value) (l m : List Pie) (w : World) (ha : SL w va l) (hb : SL w vb m) (hl : ∀ x ∈ l, x.v.wide ∧ x.v.may) (hm : ∀ x ∈ m, x.v.wide ∧ x.v.may) :
    Calls Tryz.prog 140 #[va, vb, .func (.func 141) #[] #[]] w (Says (l = m) w) := by
  obtain ⟨A, c, rfl, hA, ha⟩ := ha
  obtain ⟨B, d, rfl, hB, hb⟩ := hb
  have HA := Lib.hid hA
  have HB := Lib.hid hB
  have HL := Lib.hid hl
  have HM := Lib.hid hm
  have hsf := store_float
  clear hA hB hl hm
  by_cases hne : l.length = m.length
  case neg =>
    have HN : Hid (¬ l = m) := Lib.hid fun e => hne (by rw [e])
    have hne' : ((l.length : Int) != (m.length : Int)) = true := by simp; omega
    clear hne
    go_enter Tryz.func140, Tryz.ntmps140
    go_wp2
    go_ret
    exact ⟨false, rfl, by simp [HN.out], Below.refl _ _⟩
  have HE := Lib.hid hne
  have hne' : ((l.length : Int) != (m.length : Int)) = false := by simp [hne]
  clear hne
  go_enter Tryz.func140, Tryz.ntmps140
  go_wp2
  clear hne'
  go_loopw [17] (fun i wr => ∃ k : Nat, k ≤ l.length ∧ i = .int .i64 k ∧ (∀ j (h : j < l.length) (g : j < m.length), j < k → l[j] = m[j]) ∧ Below w.heap.size w wr) (fun i _ => l.length - (intOf i).toNat)
  case atStart => exact ⟨0, Nat.zero_le _, rfl, fun j _ _ h => absurd h (Nat.not_lt_zero j), Below.refl _ _⟩
  case round =>
    obtain ⟨k, hk, rfl, hp, hbl⟩ := hrel
    have HP := Lib.hid hp
    have HBl := Lib.hid hbl
    clear hp hbl
    by_cases hlt : k < l.length
    · have hlt2 : k < m.length := by have := HE.out; omega
      obtain ⟨g, og, rfl, lg, cg⟩ := (HA.out.below HBl.out) (by omega)
      obtain ⟨q, oq, rfl, lq, cq⟩ := (HB.out.below HBl.out) (by omega)
      have r := cg k hlt
      have r2 := cq k hlt2
      have CS := Lib.hid (fun W => Same1_any l[k] m[k] (HL.out _ (List.getElem_mem hlt)) (HM.out _ (List.getElem_mem hlt2)) W)
      have HK : Hid (l[k] = m[k] → ∀ j (h : j < l.length) (g : j < m.length), j < k + 1 → l[j] = m[j]) := Lib.hid fun h j h1 g1 h2 => if e : j = k then (by subst e; exact h) else HP.out j h1 g1 (by omega)
      have HN : Hid (¬ l[k] = m[k] → ¬ l = m) := Lib.hid fun h e => h (by subst e; rfl)
      generalize l[k] = x at *
      generalize m[k] = y at *
      have i0 : (k : Int) < (l.length : Int) := by omega
      have i3 : (k : Int) < (m.length : Int) := by omega
      have i1 : (0 : Int) ≤ (k : Int) := by omega
      clear cg cq HA HB HL HM HP
      obtain ⟨a, b, ⟨kk, vb, n, f, s⟩⟩ := x
      obtain ⟨a', b', ⟨kk', vb', n', f', s'⟩⟩ := y
      have b1 := Lib.hid ((Below.refl wr.heap.size wr).alloc (Nat.le_refl _) (.cells (Pie.cells ⟨a, b, ⟨kk, vb, n, f, s⟩⟩) 148))
      have r3 : (wr.alloc (.cells (Pie.cells ⟨a, b, ⟨kk, vb, n, f, s⟩⟩) 148)).rangeAt q (oq + k * 7) (Pie.cells ⟨a', b', ⟨kk', vb', n', f', s'⟩⟩).toList := fun j v hv => (b1.out.cell (p := ⟨q, oq + k * 7 + j, none⟩) lq).trans (r2 j v hv)
      go_upto_region 6 with (refine wpList_load_mid rfl 148 (.tmp 20) rfl g (og + k * 7) rfl _ _ r Tryz.underlying148 rfl rowL ?_)
      clear r r2
      go_upto_region 7 with (refine wpList_load_mid rfl 148 (.tmp 24) rfl q (oq + k * 7) rfl _ _ r3 Tryz.underlying148 rfl rowL ?_)
      clear r3
      go_upto_if 30 with (go_at_call 141; (with_reducible refine (CS.out _).mono ?_); rintro e w1 ⟨c1, rfl, hc, hb⟩; have HC := Lib.hid hc; have B1 := Lib.hid hb; clear hc hb)
      have B2 : Hid (Below w.heap.size w w1) := Lib.hid (HBl.out.trans ((((Below.refl wr.heap.size wr).alloc (Nat.le_refl _) _).alloc (by simp) _).trans (B1.out.mono (by simp; omega)) |>.mono HBl.out.size))
      cases c1
      · go_wp2
        go_ret
        exact ⟨false, rfl, by have := HN.out (fun e => by have := HC.out.2 e; cases this); simp [this], B2.out⟩
      · have HK2 := Lib.hid (HK.out (HC.out.1 rfl))
        clear HK HN
        go_wp2
        exact ⟨⟨k + 1, by omega, by go_num, HK2.out, B2.out⟩, by simp [intOf]; omega⟩
    · have HT : Hid (l = m) := Lib.hid (List.ext_getElem HE.out fun j h1 h2 => HP.out j h1 h2 (by omega))
      clear HP
      go_wp2
      go_ret
      exact ⟨true, rfl, by simp [HT.out], HBl.out⟩
theorem pSame_any (va vb : Value) (l m : List Pie) (w : World) (ha : SL w va l) (hb : SL w vb m) (hl : ∀ x ∈ l, x.v.wide ∧ x.v.may) (hm : ∀ x ∈ m, x.v.wide ∧ x.v.may) :
    Calls Tryz.prog 78 #[va, vb] w (Says (l = m) w) := by
  have C := Lib.hid (EqualFunc_any va vb l m w ha hb hl hm)
  clear ha hb hl hm
  go_enter Tryz.func78, Tryz.ntmps78
  go_wp2_with (go_at_call 140; ((with_reducible refine (C.out).mono ?_); rintro e w1 ⟨c, rfl, hc, hb⟩; have HC := Lib.hid (And.intro hc hb); clear hc hb))
  go_ret
  exact ⟨c, rfl, HC.out.1, HC.out.2⟩
end
end Go.Proofs.YtmolpogehgeebaaGreat


namespace Go.Proofs.YtmolpogehgeebaaGreat
open Go.RowKit
theorem numV_ok (n : Int) (h : fits n) : okV (numV n) := by
  refine ⟨⟨by unfold numV fits; simp, h, by simp [numV], by simp [numV]⟩, numV_may n, ?_⟩
  simp [numV]
theorem line_wm {l : List Pie} (h : Pl.Line okV l) : ∀ x ∈ l, x.v.wide ∧ x.v.may := fun x hx => ⟨(h.good x hx).2.2.1, (h.good x hx).2.2.2.1⟩
theorem line_w {l : List Pie} (h : Pl.Line okV l) : ∀ x ∈ l, x.v.wide := fun x hx => (h.good x hx).2.2.1
def TD : List T3 := [(7, 9, 2)]
theorem isP_new (w : World) (L : List (Int × Int)) (t : TypeId) (n c : Nat) (hn : L.length = n) : Se.IsP (w.alloc (.cells (Se.cellsP L).toArray t)) (.slice (some ⟨w.heap.size, 0, none⟩) n c) L := by
  subst hn
  refine ⟨_, c, rfl, fun _ => ⟨w.heap.size, 0, rfl, by simp, fun i hi => ?_⟩⟩
  rw [Nat.zero_add, cell_of_row _ _ _ _ _ _ (heap_alloc_new w _), cell_of_row _ _ _ _ _ _ (heap_alloc_new w _)]
  have := Se.cellsP_get L i hi
  simpa using this
section
set_option maxRecDepth 100000
set_option maxHeartbeats 8000000
end
end Go.Proofs.YtmolpogehgeebaaGreat


namespace Go.Proofs.YtmolpogehgeebaaGreat
open Go.RowKit
def goodP (x : Pie) : Prop := (x.a < x.b ∧ x.b ≤ 1099511627776) ∧ setP x.v
open Classical in
/-- What puts say of an instant: the last one that reaches it. -/
noncomputable def lastV (D : List Pie) (t : Int) : VP := D.foldl (fun acc p => if p.a ≤ t ∧ t < p.b then p.v else acc) VP.none
theorem lastV_snoc (D : List Pie) (p : Pie) (t : Int) : (p.a ≤ t ∧ t < p.b → lastV (D ++ [p]) t = p.v) ∧ (¬ (p.a ≤ t ∧ t < p.b) → lastV (D ++ [p]) t = lastV D t) := by
  unfold lastV
  rw [List.foldl_append]
  constructor
  · intro h; simp [h]
  · intro h
    simp only [List.foldl_cons, List.foldl_nil]
    rw [if_neg h]
/-- The line that puts build. -/
structure PutsR (D R : List Pie) : Prop where
  line : Pl.Line okV R
  means : ∀ t, Pl.means VP.none R t = lastV D t
  len : R.length ≤ 2 * D.length
theorem PutsR.nil : PutsR [] [] := ⟨Pl.Line.nil _, fun _ => rfl, by simp⟩
theorem PutsR.snoc {D R S : List Pie} {p : Pie} (h : PutsR D R) (hs : Pl.SetR okV VP.none R p.a p.b p.v S) : PutsR (D ++ [p]) S := by
  refine ⟨hs.line, fun t => ?_, by have := hs.len; have := h.len; simp; omega⟩
  by_cases c : p.a ≤ t ∧ t < p.b
  · rw [(hs.means t).1 c, (lastV_snoc D p t).1 c]
  · rw [(hs.means t).2 c, (lastV_snoc D p t).2 c, h.means]
section
set_option maxRecDepth 100000
set_option maxHeartbeats 8000000
end
end Go.Proofs.YtmolpogehgeebaaGreat


namespace Go.Proofs.YtmolpogehgeebaaGreat
open Go.RowKit
section
set_option maxRecDepth 100000
set_option maxHeartbeats 8000000
end
end Go.Proofs.YtmolpogehgeebaaGreat


