/- Within. -/
/- The law's own small calls: pieces as the document has them; whether two lists of pieces are the same; numbers. -/
/- The law's lines of whole numbers, and whether pieces are these. -/
import Derived.Test.YtmolpogehgeebaaGreatbB12
import Derived.Test.YtmolpogehgeebaaGreatbJ7
import Derived.Test.YtmolpogehgeebaaGreatbH1
namespace Go.Proofs.YtmolpogehgeebaaGreat
open Go.RowKit
theorem ownP_rest {base : Nat} {w : World} {v : Value} {L : List (Int × Int)} (h : Se.OwnP base w v L) : ∃ X c, v = .slice X L.length c ∧ L.length ≤ c ∧ c ≤ 9223372036854775807 ∧ Se.PAt w X L ∧ ∀ b o, X = some ⟨b, o, none⟩ → b < w.heap.size := by
  have h' := Se.OwnP.at h
  rcases h.2 with ⟨rfl, h0⟩ | ⟨g, cap, cur, rfl, hg, hb, h1, h2, h3, h4⟩
  · obtain rfl : L = [] := List.eq_nil_of_length_eq_zero h0
    exact ⟨none, 0, rfl, by simp, by omega, Se.PAt.nil _ _, fun b o e => by cases e⟩
  · obtain ⟨A, c, e, hA⟩ := h'
    cases e
    exact ⟨_, cap, rfl, h1, by unfold maxLen at h2; omega, hA, fun b o e => by cases e; exact lt_heap hb⟩
/-- What Within answers. -/
def WithinAns (l : List Pie) (S : List (Int × Int)) (w : World) (e : Ending) (w' : World) : Prop := ∃ u R, e = .returned (.tuple #[u, .int .i64 0]) ∧ OwnL w.heap.size w' u R ∧ Pl.WithinR okV VP.none l S R ∧ Below w.heap.size w w'
namespace Pl
/-- What is left of a set ahead of piece k. -/
def rst {V : Type} (l : List (PC V)) (R : List (Int × Int)) : Nat → List (Int × Int)
  | 0 => R
  | k + 1 => match l[k]? with | none => R | some x => ahead x.a R
theorem rst_succ {V : Type} (l : List (PC V)) (R : List (Int × Int)) (k : Nat) (h : k < l.length) : rst l R (k + 1) = ahead l[k].a R := by
  show (match l[k]? with | none => R | some x => ahead x.a R) = _
  rw [List.getElem?_eq_getElem h]
theorem rst_ahead {V : Type} {ok : V → Prop} {l : List (PC V)} (hl : Par ok l) (R : List (Int × Int)) (k : Nat) (h : k < l.length) : ahead l[k].a (rst l R k) = ahead l[k].a R := by
  cases k with
  | zero => rfl
  | succ k =>
    rw [rst_succ l R k (by omega)]
    refine ahead_ahead ?_ R
    have := (List.pairwise_iff_getElem.1 hl.row) k (k + 1) (by omega) h (by omega)
    have := (hl.good _ (List.getElem_mem (show k < l.length by omega))).1
    omega
theorem rst_length {V : Type} (l : List (PC V)) (R : List (Int × Int)) (k : Nat) : (rst l R k).length ≤ R.length := by
  cases k with
  | zero => exact Nat.le_refl _
  | succ k =>
    rcases Nat.lt_or_ge k l.length with h | h
    · rw [rst_succ l R k h]; exact dropWhile_length _ _
    · show (match l[k]? with | none => R | some x => ahead x.a R).length ≤ _
      rw [List.getElem?_eq_none h]
      exact Nat.le_refl _
theorem withinR_of {V : Type} {ok : V → Prop} {z : V} (hz : ¬ ok z) {l P : List (PC V)} (hl : Line ok l) {S : List (Int × Int)} (hP : CutOf (fun t => Se.Iset.has (Se.Iset.nf S) t = true) l P) (hn : P.length ≤ l.length * S.length) : WithinR ok z l S (merge P) := by
  obtain ⟨h1, h2, h3⟩ := merge_spec hz (hP.par hl.par)
  refine ⟨h1, fun t => ?_, by omega⟩
  rw [h2]
  have hm := hP.means (z := z) hl.par t
  rw [Se.Iset.nf_has] at hm
  by_cases c : Se.Iset.has S t = true
  · rw [if_pos c]; exact hm.1 c
  · rw [if_neg c]; exact hm.2 c
end Pl
section
set_option maxRecDepth 100000
set_option maxHeartbeats 8000000
theorem Within_ok (sv tv : Value) (l : List Pie) (S : List (Int × Int)) (w : World) (h : SL w sv l) (hS : Se.IsP w tv S) (hw : ∀ x ∈ l, x.v.wide) (hL : Pl.Line okV l) (hl : l.length ≤ 100000) (hs : S.length ≤ 1000000) :
    Calls Tryz.prog 199 #[sv, tv] w (WithinAns l S w) := by
  have CI := Lib.hid (fun W (hb : Below w.heap.size w W) => (Is_any sv l W (h.below hb) hw).mono fun _ _ h => h.yes hL)
  have CO := Lib.hid (fun W (hb : Below w.heap.size w W) => Se.Of_any tv S W (hS.below hb) (by omega))
  obtain ⟨R, hR⟩ : ∃ R, R = Se.Iset.nf S := ⟨_, rfl⟩
  have hRl : R.length ≤ S.length := by rw [hR]; exact Se.Iset.nf_length S
  have hRn : Se.Iset.NF R := by rw [hR]; exact Se.Iset.nf_nf S
  obtain ⟨Fs, hFs⟩ : ∃ Fs : Nat → List (Int × Int), Fs = fun j => match l[j]? with | none => [] | some x => Pl.common x (Pl.ahead x.a R) := ⟨_, rfl⟩
  have hFk : ∀ k (hk : k < l.length), Fs k = Pl.common l[k] (Pl.ahead l[k].a R) := fun k hk => by rw [hFs]; simp only [List.getElem?_eq_getElem hk]
  have hFl : ∀ k, k < l.length → (Fs k).length ≤ S.length := fun k hk => by rw [hFk k hk]; exact Nat.le_trans (Pl.common_length _ _ _) hRl
  obtain ⟨P, hP⟩ : ∃ P, P = Pl.partsK Fs l l.length := ⟨_, rfl⟩
  have hCut : Pl.CutOf (fun t => Se.Iset.has (Se.Iset.nf S) t = true) l P := by
    rw [hP, ← hR]
    exact Pl.partsK_all Fs l fun k hk => by rw [hFk k hk]; exact Pl.cuts_common (hL.good _ (List.getElem_mem hk)) hRn
  have hPn : P.length ≤ l.length * S.length := by rw [hP]; exact Pl.partsK_length Fs l hFl l.length (Nat.le_refl _)
  have hPp := hCut.par hL.par
  have CC := Lib.hid (fun W (g : Nat) (hz : w.heap.size ≤ g) (hb : Below w.heap.size w W) (hx : RestAt W.heap.size W g R) => cut_any 245 (.pointer (some ⟨g, 0, none⟩)) (fun args w => by kernel_rfl) sv l W (fun k W' => RestAt W.heap.size W' g (Pl.rst l R k) ∧ But g W.heap.size W W') Fs
    (fun _ _ _ h1 h2 => ⟨h1.1.below h2, h1.2.trans (Below.but h2)⟩) (fun _ _ h1 => h.below (hb.trans (h1.2.below hz hb.size))) (fun x hx => may_size (hL.good x hx).2.2.2.1) hl
    (fun k hk => by have := hFl k hk; omega)
    (fun k hk W1 hs1 h1 => (Within1_any l[k].a l[k].b g W.heap.size (Pl.rst l R k) l[k] rfl rfl W1 h1.1 hs1 (by have := Pl.rst_length l R k; omega)).mono fun e w' ⟨u, e1, e2, e3, e4⟩ => by
      rw [Pl.rst_ahead hL.par R k hk] at e2 e3
      refine ⟨u, e1, by rw [hFk k hk]; exact Se.Pe.ownP_mono e2 hs1, ⟨e4.size, fun q hq1 hq2 => e4.block q hq2 (by obtain ⟨_, _, _, _, _, _, _, h6⟩ := h1.1; omega)⟩, ?_, h1.2.trans (e4.mono hs1)⟩
      rw [Pl.rst_succ l R k hk]; exact e3) ⟨hx, But.refl _ _ _⟩)
  have HP := Lib.hid hP
  have RS := Lib.hid (Pl.withinR_of none_ok hL hCut hPn)
  have HPW := Lib.hid (show ∀ x ∈ P, x.v.wide ∧ x.v.may from fun x hx => ⟨(hPp.good x hx).2.2.1, (hPp.good x hx).2.2.2.1⟩)
  have HPL : Hid (P.length ≤ 100000000000) := Lib.hid (by
    have := Nat.mul_le_mul hl hs
    omega)
  have HRR := Lib.hid hR
  obtain ⟨A, cc, rfl, _⟩ := h
  clear hS hw hL hFs hFk hFl hP hCut hPn hPp hRl hRn hR
  go_enter Tryz.func199, Tryz.ntmps199
  go_upto_region 4 with (first
    | (go_at_call 162; (with_reducible refine (CI.out _ (Below.refl _ _)).mono ?_); rintro e w1 ⟨rfl, hb⟩; have B1 := Lib.hid hb; clear hb)
    | (go_at_call 121; (with_reducible refine (CO.out _ B1.out).mono ?_); rintro e w2 ⟨tv2, rfl, ho, hb⟩; have B2 := Lib.hid (B1.out.trans (hb.mono B1.out.size)); rw [← HRR.out] at ho; obtain ⟨X, cX, rfl, g1, g2, g3, g4⟩ := ownP_rest ho; have G := Lib.hid (And.intro g1 (And.intro g2 (And.intro g3 g4))); clear hb ho g1 g2 g3 g4))
  have hbz := Lib.hid B2.out.size
  have B3 := Lib.hid (B2.out.alloc B2.out.size (.cells #[.slice X R.length cX] 23))
  have RA : Hid (RestAt (w2.alloc (.cells #[.slice X R.length cX] 23)).heap.size (w2.alloc (.cells #[.slice X R.length cX] 23)) w2.heap.size R) := Lib.hid
    ⟨X, cX, Bx.new w2 _ _, G.out.1, G.out.2.1, Se.PAt.below G.out.2.2.1 ((Below.refl _ _).alloc (Nat.le_refl _) _), fun b o e => by
      have := G.out.2.2.2 b o e
      simp
      omega, by simp⟩
  obtain ⟨g, hg⟩ : ∃ g, w2.heap.size = g := ⟨_, rfl⟩
  obtain ⟨W, hW⟩ : ∃ W, w2.alloc (.cells #[.slice X R.length cX] 23) = W := ⟨_, rfl⟩
  rw [hW, hg] at RA
  rw [hW] at B3 ⊢
  rw [hg] at hbz ⊢
  clear hW hg
  go_wp2_with (first
    | (go_at_call 244; (with_reducible refine (CC.out W g hbz.out B3.out RA.out).mono ?_); rintro e w4 ⟨u, rfl, ho, hb, hz⟩; have HO := Lib.hid (show OwnL W.heap.size w4 u P by rw [HP.out]; exact ho); have B4 := Lib.hid (B3.out.trans (hb.2.below hbz.out B3.out.size)); have CM := Lib.hid (merge_any u P w4 HO.out.at HPW.out HPL.out); clear hb ho hz)
    | (go_at_call 247; (with_reducible refine (CM.out).mono ?_); rintro e w5 ⟨u5, rfl, ho, hb⟩; have HO5 := Lib.hid ho; have B5 := Lib.hid hb; clear hb ho))
  go_ret2
  exact ⟨_, _, rfl, HO5.out.mono B4.out.size, RS.out, B4.out.trans (B5.out.mono B4.out.size)⟩
end
end Go.Proofs.YtmolpogehgeebaaGreat


namespace Go.Proofs.YtmolpogehgeebaaGreat
open Go.RowKit
/-- A slice of the document's pieces that the call owns. -/
def OwnD (base : Nat) (w : World) (v : Value) (l : List Pie) : Prop := w.ownsRow base 155 7 v l.length (cellsL l)
theorem OwnD.nil (base : Nat) (w : World) : OwnD base w (.slice none 0 0) [] := World.ownsRow_nil w base _ 7
theorem OwnD.alloc {base : Nat} {w : World} {v : Value} {l : List Pie} (h : OwnD base w v l) (o : Obj) : OwnD base (w.alloc o) v l := World.ownsRow.alloc h o
theorem OwnD.below {base : Nat} {w w' : World} {v : Value} {l : List Pie} (h : OwnD base w v l) (hb : Below w.heap.size w w') : OwnD base w' v l := by
  refine ⟨h.1, ?_⟩
  rcases h.2 with h0 | ⟨g, cap, cur, h1, h2, h3, h4⟩
  · exact .inl h0
  · exact .inr ⟨g, cap, cur, h1, h2, (hb.block g (lt_heap h3)).trans h3, h4⟩
theorem OwnD.at {base : Nat} {w : World} {v : Value} {l : List Pie} (h : OwnD base w v l) : SL w v l := by
  rcases h.2 with ⟨rfl, h0⟩ | ⟨g, cap, cur, rfl, hb, hg, hn, hm, hs, ht⟩
  · obtain rfl : l = [] := List.eq_nil_of_length_eq_zero h0
    exact SL.nil _
  · refine ⟨_, cap, rfl, fun h0 => ⟨g, 0, rfl, lt_heap hg, fun i hi j v hv => ?_⟩, by unfold maxLen at hm; omega⟩
    have hj : j < 7 := by
      have := (List.getElem?_eq_some_iff.1 hv).1
      rwa [pie_len] at this
    have c0 := cellsL_get l i hi j hj
    rw [← ht, List.getElem?_take_of_lt (by omega), Array.getElem?_toList] at c0
    rw [Nat.zero_add, cell_of_row w g (i * 7 + j) cur _ _ hg, c0, hv]
/-- The value of a whole number. -/
def numV (n : Int) : VP := ⟨2, false, n, 0, ByteArray.empty⟩
theorem numV_may (n : Int) : (numV n).may := by unfold VP.may MayV numV; simp
section
set_option maxRecDepth 100000
set_option maxHeartbeats 8000000
end
end Go.Proofs.YtmolpogehgeebaaGreat


namespace Go.Proofs.YtmolpogehgeebaaGreat
open Go.RowKit
/-- A slice of whole numbers. -/
def UL (w : World) (v : Value) (U : List Int) : Prop := ∃ A c, v = .slice A U.length c ∧ (0 < U.length → ∃ b off, A = some ⟨b, off, none⟩ ∧ b < w.heap.size ∧ ∀ i (h : i < U.length), w.cell? ⟨b, off + i, none⟩ = some (.int .u64 U[i]))
theorem UL.below {w w' : World} {v : Value} {U : List Int} (h : UL w v U) (hb : Below w.heap.size w w') : UL w' v U := by
  obtain ⟨A, c, e, hA⟩ := h
  refine ⟨A, c, e, fun h0 => ?_⟩
  obtain ⟨g, off, e, hl, hc⟩ := hA h0
  exact ⟨g, off, e, Nat.lt_of_lt_of_le hl hb.size, fun i hi => (hb.cell (p := ⟨g, off + i, none⟩) hl).trans (hc i hi)⟩
abbrev T3 := Int × Int × Int
section
set_option maxRecDepth 100000
set_option maxHeartbeats 8000000
end
end Go.Proofs.YtmolpogehgeebaaGreat


