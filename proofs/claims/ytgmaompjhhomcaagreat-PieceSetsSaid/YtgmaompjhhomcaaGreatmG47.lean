/- Same, of two lists of pieces. -/
/- PieceTwice's walk: what is set twice is set once; where two periods have no instant together the order does not matter; a period set in two parts is set. -/
import Derived.Test.YtgmaompjhhomcaaGreatmB5
import Derived.Test.YtgmaompjhhomcaaGreatmH7
namespace Go.Proofs.YtgmaompjhhomcaaGreat
open Go.RowKit
section
set_option maxRecDepth 100000
set_option maxHeartbeats 8000000
theorem Same1_any (x y : Pie) (hx : x.v.wide ∧ x.v.may) (hy : y.v.wide ∧ y.v.may) (w : World) :
    Calls Tryz.prog 75 #[Pie.val x, Pie.val y] w (Says (x = y) w) := by
  have CS := Lib.hid (fun W => valSame_any x.v y.v hx.1 hy.1 hx.2 hy.2 W)
  have HB := Lib.hid (((Below.refl w.heap.size w).alloc (Nat.le_refl _) (.cells (Pie.cells x) 43)).alloc (by simp) (.cells (Pie.cells y) 43))
  have hsf := store_float
  clear hx hy
  obtain ⟨a, b, ⟨k, vb, n, f, s⟩⟩ := x
  obtain ⟨a', b', ⟨k', vb', n', f', s'⟩⟩ := y
  simp only at CS
  by_cases ha : a = a'
  · subst ha
    by_cases hb : b = b'
    · subst hb
      have HE : Hid (∀ c : Bool, (c = true ↔ (⟨k, vb, n, f, s⟩ : VP) = ⟨k', vb', n', f', s'⟩) → (c = true ↔ (⟨a, b, ⟨k, vb, n, f, s⟩⟩ : Pie) = ⟨a, b, ⟨k', vb', n', f', s'⟩⟩)) := Lib.hid fun c h => h.trans ⟨fun e => by rw [e], fun e => by injection e⟩
      go_enter Tryz.func75, Tryz.ntmps75
      go_wp2_with (go_at_call 35; (with_reducible refine (CS.out _).mono ?_); rintro e w1 ⟨c, rfl, hc, hb⟩; have HC := Lib.hid (HE.out c hc); have B1 := Lib.hid (HB.out.trans (hb.mono HB.out.size)); clear hc hb)
      go_ret
      exact ⟨c, rfl, HC.out, B1.out⟩
    · have HN : Hid (¬ (⟨a, b, ⟨k, vb, n, f, s⟩⟩ : Pie) = ⟨a, b', ⟨k', vb', n', f', s'⟩⟩) := Lib.hid fun e => hb (by injection e)
      have t0 : (b == b') = false := by simpa using hb
      clear hb
      go_enter Tryz.func75, Tryz.ntmps75
      go_wp2
      go_ret
      exact ⟨false, rfl, by simp only [HN.out, Bool.false_eq_true], HB.out⟩
  · have HN : Hid (¬ (⟨a, b, ⟨k, vb, n, f, s⟩⟩ : Pie) = ⟨a', b', ⟨k', vb', n', f', s'⟩⟩) := Lib.hid fun e => ha (by injection e)
    have t0 : (a == a') = false := by simpa using ha
    clear ha
    go_enter Tryz.func75, Tryz.ntmps75
    go_wp2
    go_ret
    exact ⟨false, rfl, by simp only [HN.out, Bool.false_eq_true], HB.out⟩
theorem EqualFunc_any (va vb : Value) (l m : List Pie) (w : World) (ha : SL w va l) (hb : SL w vb m) (hl : ∀ x ∈ l, x.v.wide ∧ x.v.may) (hm : ∀ x ∈ m, x.v.wide ∧ x.v.may) :
    Calls Tryz.prog 74 #[va, vb, .func (.func 75) #[] #[]] w (Says (l = m) w) := by
  obtain ⟨A, c, rfl, hA, ha⟩ := ha
  obtain ⟨B, d, rfl, hB, hb⟩ := hb
  have HA := Lib.hid hA
  have HB := Lib.hid hB
  have HL := Lib.hid hl
  have HM := Lib.hid hm
  have hsf := store_float
  clear hA hB hl hm
  by_cases hne : l.length = m.length
  case neg =>
    have HN : Hid (¬ l = m) := Lib.hid fun e => hne (by rw [e])
    have hne' : ((l.length : Int) != (m.length : Int)) = true := by simp; omega
    clear hne
    go_enter Tryz.func74, Tryz.ntmps74
    go_wp2
    go_ret
    exact ⟨false, rfl, by simp [HN.out], Below.refl _ _⟩
  have HE := Lib.hid hne
  have hne' : ((l.length : Int) != (m.length : Int)) = false := by simp [hne]
  clear hne
  go_enter Tryz.func74, Tryz.ntmps74
  go_wp2
  clear hne'
  go_loopw [17] (fun i wr => ∃ k : Nat, k ≤ l.length ∧ i = .int .i64 k ∧ (∀ j (h : j < l.length) (g : j < m.length), j < k → l[j] = m[j]) ∧ Below w.heap.size w wr) (fun i _ => l.length - (intOf i).toNat)
  case atStart => exact ⟨0, Nat.zero_le _, rfl, fun j _ _ h => absurd h (Nat.not_lt_zero j), Below.refl _ _⟩
  case round =>
    obtain ⟨k, hk, rfl, hp, hbl⟩ := hrel
    have HP := Lib.hid hp
    have HBl := Lib.hid hbl
    clear hp hbl
    by_cases hlt : k < l.length
    · have hlt2 : k < m.length := by have := HE.out; omega
      obtain ⟨g, og, rfl, lg, cg⟩ := (HA.out.below HBl.out) (by omega)
      obtain ⟨q, oq, rfl, lq, cq⟩ := (HB.out.below HBl.out) (by omega)
      have r := cg k hlt
      have r2 := cq k hlt2
      have CS := Lib.hid (fun W => Same1_any l[k] m[k] (HL.out _ (List.getElem_mem hlt)) (HM.out _ (List.getElem_mem hlt2)) W)
      have HK : Hid (l[k] = m[k] → ∀ j (h : j < l.length) (g : j < m.length), j < k + 1 → l[j] = m[j]) := Lib.hid fun h j h1 g1 h2 => if e : j = k then (by subst e; exact h) else HP.out j h1 g1 (by omega)
      have HN : Hid (¬ l[k] = m[k] → ¬ l = m) := Lib.hid fun h e => h (by subst e; rfl)
      generalize l[k] = x at *
      generalize m[k] = y at *
      have i0 : (k : Int) < (l.length : Int) := by omega
      have i3 : (k : Int) < (m.length : Int) := by omega
      have i1 : (0 : Int) ≤ (k : Int) := by omega
      clear cg cq HA HB HL HM HP
      obtain ⟨a, b, ⟨kk, vb, n, f, s⟩⟩ := x
      obtain ⟨a', b', ⟨kk', vb', n', f', s'⟩⟩ := y
      have b1 := Lib.hid ((Below.refl wr.heap.size wr).alloc (Nat.le_refl _) (.cells (Pie.cells ⟨a, b, ⟨kk, vb, n, f, s⟩⟩) 43))
      have r3 : (wr.alloc (.cells (Pie.cells ⟨a, b, ⟨kk, vb, n, f, s⟩⟩) 43)).rangeAt q (oq + k * 7) (Pie.cells ⟨a', b', ⟨kk', vb', n', f', s'⟩⟩).toList := fun j v hv => (b1.out.cell (p := ⟨q, oq + k * 7 + j, none⟩) lq).trans (r2 j v hv)
      go_upto_region 6 with (refine wpList_load_mid rfl 43 (.tmp 20) rfl g (og + k * 7) rfl _ _ r Tryz.underlying43 rfl rowL ?_)
      clear r r2
      go_upto_region 7 with (refine wpList_load_mid rfl 43 (.tmp 24) rfl q (oq + k * 7) rfl _ _ r3 Tryz.underlying43 rfl rowL ?_)
      clear r3
      go_upto_if 30 with (go_at_call 75; (with_reducible refine (CS.out _).mono ?_); rintro e w1 ⟨c1, rfl, hc, hb⟩; have HC := Lib.hid hc; have B1 := Lib.hid hb; clear hc hb)
      have B2 : Hid (Below w.heap.size w w1) := Lib.hid (HBl.out.trans ((((Below.refl wr.heap.size wr).alloc (Nat.le_refl _) _).alloc (by simp) _).trans (B1.out.mono (by simp; omega)) |>.mono HBl.out.size))
      cases c1
      · go_wp2
        go_ret
        exact ⟨false, rfl, by have := HN.out (fun e => by have := HC.out.2 e; cases this); simp [this], B2.out⟩
      · have HK2 := Lib.hid (HK.out (HC.out.1 rfl))
        clear HK HN
        go_wp2
        exact ⟨⟨k + 1, by omega, by go_num, HK2.out, B2.out⟩, by simp [intOf]; omega⟩
    · have HT : Hid (l = m) := Lib.hid (List.ext_getElem HE.out fun j h1 h2 => HP.out j h1 h2 (by omega))
      clear HP
      go_wp2
      go_ret
      exact ⟨true, rfl, by simp [HT.out], HBl.out⟩
theorem pSame_any (va vb : Value) (l m : List Pie) (w : World) (ha : SL w va l) (hb : SL w vb m) (hl : ∀ x ∈ l, x.v.wide ∧ x.v.may) (hm : ∀ x ∈ m, x.v.wide ∧ x.v.may) :
    Calls Tryz.prog 20 #[va, vb] w (Says (l = m) w) := by
  have C := Lib.hid (EqualFunc_any va vb l m w ha hb hl hm)
  clear ha hb hl hm
  go_enter Tryz.func20, Tryz.ntmps20
  go_wp2_with (go_at_call 74; ((with_reducible refine (C.out).mono ?_); rintro e w1 ⟨c, rfl, hc, hb⟩; have HC := Lib.hid (And.intro hc hb); clear hc hb))
  go_ret
  exact ⟨c, rfl, HC.out.1, HC.out.2⟩
end
end Go.Proofs.YtgmaompjhhomcaaGreat

namespace Go.Proofs.YtgmaompjhhomcaaGreat
open Go.RowKit
/-- The law's set: the line alone. -/
def SetL (l : List Pie) (c d : Int) (v : VP) (w : World) (e : Ending) (w' : World) : Prop := ∃ u R, e = .returned u ∧ OwnL w.heap.size w' u R ∧ Pl.SetR okV VP.none l c d v R ∧ Below w.heap.size w w'
namespace Pl
variable {V : Type} {ok : V → Prop} {z v u : V} {l R S T : List (PC V)} {c d e f m : Int}
theorem setMeans (h : SetR ok z l c d v R) (t : Int) : means z R t = if c ≤ t ∧ t < d then v else means z l t := by
  by_cases g : c ≤ t ∧ t < d
  · rw [if_pos g]; exact (h.means t).1 g
  · rw [if_neg g]; exact (h.means t).2 g
theorem set_again (hz : ¬ ok z) (h : SetR ok z l c d v R) (k : SetR ok z R c d v S) : R = S := Line.ext hz h.line k.line fun t => by
  rw [setMeans k, setMeans h]
  by_cases g : c ≤ t ∧ t < d
  · rw [if_pos g, if_pos g]
  · rw [if_neg g, if_neg g]
theorem set_over (hz : ¬ ok z) (h : SetR ok z l c d v R) (k : SetR ok z l c d u S) (g : SetR ok z S c d v T) : R = T := Line.ext hz h.line g.line fun t => by
  rw [setMeans g, setMeans k, setMeans h]
  by_cases q : c ≤ t ∧ t < d
  · rw [if_pos q, if_pos q]
  · rw [if_neg q, if_neg q, if_neg q]
theorem set_swap (hz : ¬ ok z) {A AB B BA : List (PC V)} (hd : ∀ t, ¬ ((c ≤ t ∧ t < d) ∧ e ≤ t ∧ t < f)) (h1 : SetR ok z l c d v A) (h2 : SetR ok z A e f u AB) (h3 : SetR ok z l e f u B) (h4 : SetR ok z B c d v BA) : AB = BA := Line.ext hz h2.line h4.line fun t => by
  rw [setMeans h2, setMeans h1, setMeans h4, setMeans h3]
  by_cases q : c ≤ t ∧ t < d
  · have : ¬ (e ≤ t ∧ t < f) := fun r => hd t ⟨q, r⟩
    rw [if_pos q, if_neg this, if_pos q]
  · rw [if_neg q, if_neg q]
theorem set_parts (hz : ¬ ok z) (hm : c ≤ m ∧ m ≤ d) (h : SetR ok z l c d v R) (k : SetR ok z l m d v S) (g : SetR ok z S c m v T) : R = T := Line.ext hz h.line g.line fun t => by
  rw [setMeans g, setMeans k, setMeans h]
  by_cases q : c ≤ t ∧ t < d
  · rw [if_pos q]
    by_cases r : c ≤ t ∧ t < m
    · rw [if_pos r]
    · rw [if_neg r, if_pos (by omega)]
  · rw [if_neg q, if_neg (by omega), if_neg (by omega)]
end Pl
section
set_option maxRecDepth 100000
set_option maxHeartbeats 8000000
/-- No instant together. -/
theorem meet_none {p q R : List (Int × Int)} (h : Se.Iset.Res Se.kAnd p q R) (h0 : R.length = 0) (t : Int) : ¬ (Se.Iset.has p t = true ∧ Se.Iset.has q t = true) := fun g => by
  have := h.has t
  rw [List.eq_nil_of_length_eq_zero h0, g.1, g.2] at this
  cases this
theorem meet_no {a b c d : Int} {R : List (Int × Int)} (h : Se.Iset.Res Se.kAnd [(a, b)] [(c, d)] R) (h0 : R.length = 0) (hb : b ≤ 1099511627776) (hd : d ≤ 1099511627776) (t : Int) : ¬ ((a ≤ t ∧ t < b) ∧ c ≤ t ∧ t < d) := fun g =>
  meet_none h h0 t ⟨(Se.Iset.has_iff _ _).2 ⟨(a, b), List.mem_singleton.2 rfl, (Se.Iset.hasP_iff _ _).2 ⟨⟨by show a < b; omega, hb⟩, g.1⟩⟩, (Se.Iset.has_iff _ _).2 ⟨(c, d), List.mem_singleton.2 rfl, (Se.Iset.hasP_iff _ _).2 ⟨⟨by show c < d; omega, hd⟩, g.2⟩⟩⟩
end
end Go.Proofs.YtgmaompjhhomcaaGreat

