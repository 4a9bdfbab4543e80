/- Within. -/
/- The law's own small calls: pieces as the document has them; whether two lists of pieces are the same; numbers. -/
/- The law's lines of whole numbers, and whether pieces are these. -/
import Derived.Test.YtflgdhhgnbdofaaGreatmB12
import Derived.Test.YtflgdhhgnbdofaaGreatmG24
import Derived.Test.YtflgdhhgnbdofaaGreatmH1
namespace Go.Proofs.YtflgdhhgnbdofaaGreat
open Go.RowKit
theorem ownP_rest {base : Nat} {w : World} {v : Value} {L : List (Int × Int)} (h : Se.OwnP base w v L) : ∃ X c, v = .slice X L.length c ∧ L.length ≤ c ∧ c ≤ 9223372036854775807 ∧ Se.PAt w X L ∧ ∀ b o, X = some ⟨b, o, none⟩ → b < w.heap.size := by
  have h' := Se.OwnP.at h
  rcases h.2 with ⟨rfl, h0⟩ | ⟨g, cap, cur, rfl, hg, hb, h1, h2, h3, h4⟩
  · obtain rfl : L = [] := List.eq_nil_of_length_eq_zero h0
    exact ⟨none, 0, rfl, by simp, by omega, Se.PAt.nil _ _, fun b o e => by cases e⟩
  · obtain ⟨A, c, e, hA⟩ := h'
    cases e
    exact ⟨_, cap, rfl, h1, by unfold maxLen at h2; omega, hA, fun b o e => by cases e; exact lt_heap hb⟩
/-- What Within answers. -/
def WithinAns (l : List Pie) (S : List (Int × Int)) (w : World) (e : Ending) (w' : World) : Prop := ∃ u R, e = .returned (.tuple #[u, .int .i64 0]) ∧ OwnL w.heap.size w' u R ∧ Pl.WithinR okV VP.none l S R ∧ Below w.heap.size w w'
namespace Pl
/-- What is left of a set ahead of piece k. -/
def rst {V : Type} (l : List (PC V)) (R : List (Int × Int)) : Nat → List (Int × Int)
  | 0 => R
  | k + 1 => match l[k]? with | none => R | some x => ahead x.a R
theorem rst_succ {V : Type} (l : List (PC V)) (R : List (Int × Int)) (k : Nat) (h : k < l.length) : rst l R (k + 1) = ahead l[k].a R := by
  show (match l[k]? with | none => R | some x => ahead x.a R) = _
  rw [List.getElem?_eq_getElem h]
theorem rst_ahead {V : Type} {ok : V → Prop} {l : List (PC V)} (hl : Par ok l) (R : List (Int × Int)) (k : Nat) (h : k < l.length) : ahead l[k].a (rst l R k) = ahead l[k].a R := by
  cases k with
  | zero => rfl
  | succ k =>
    rw [rst_succ l R k (by omega)]
    refine ahead_ahead ?_ R
    have := (List.pairwise_iff_getElem.1 hl.row) k (k + 1) (by omega) h (by omega)
    have := (hl.good _ (List.getElem_mem (show k < l.length by omega))).1
    omega
theorem rst_length {V : Type} (l : List (PC V)) (R : List (Int × Int)) (k : Nat) : (rst l R k).length ≤ R.length := by
  cases k with
  | zero => exact Nat.le_refl _
  | succ k =>
    rcases Nat.lt_or_ge k l.length with h | h
    · rw [rst_succ l R k h]; exact dropWhile_length _ _
    · show (match l[k]? with | none => R | some x => ahead x.a R).length ≤ _
      rw [List.getElem?_eq_none h]
      exact Nat.le_refl _
theorem withinR_of {V : Type} {ok : V → Prop} {z : V} (hz : ¬ ok z) {l P : List (PC V)} (hl : Line ok l) {S : List (Int × Int)} (hP : CutOf (fun t => Se.Iset.has (Se.Iset.nf S) t = true) l P) (hn : P.length ≤ l.length * S.length) : WithinR ok z l S (merge P) := by
  obtain ⟨h1, h2, h3⟩ := merge_spec hz (hP.par hl.par)
  refine ⟨h1, fun t => ?_, by omega⟩
  rw [h2]
  have hm := hP.means (z := z) hl.par t
  rw [Se.Iset.nf_has] at hm
  by_cases c : Se.Iset.has S t = true
  · rw [if_pos c]; exact hm.1 c
  · rw [if_neg c]; exact hm.2 c
end Pl
section
set_option maxRecDepth 100000
set_option maxHeartbeats 8000000
theorem Within_form (sv tv : Value) (l : List Pie) (w : World) (h : SL w sv l) (hw : ∀ x ∈ l, x.v.wide) (hL : ¬ Pl.Line okV l) :
    Calls Tryz.prog 49 #[sv, tv] w (Refused 5 w) := by
  have CI := Lib.hid (fun W (hb : Below w.heap.size w W) => (Is_any sv l W (h.below hb) hw).mono fun _ _ h => h.no hL)
  obtain ⟨A, cc, rfl, _⟩ := h
  clear hw hL
  go_enter Tryz.func49, Tryz.ntmps49
  go_wp2_with (go_at_call 57; (with_reducible refine (CI.out _ (Below.refl _ _)).mono ?_); rintro e w1 ⟨rfl, hb⟩)
  go_ret2
  exact ⟨rfl, hb⟩
theorem Within_ok (sv tv : Value) (l : List Pie) (S : List (Int × Int)) (w : World) (h : SL w sv l) (hS : Se.IsP w tv S) (hw : ∀ x ∈ l, x.v.wide) (hL : Pl.Line okV l) (hl : l.length ≤ 100000) (hs : S.length ≤ 1000000) :
    Calls Tryz.prog 49 #[sv, tv] w (WithinAns l S w) := by
  have CI := Lib.hid (fun W (hb : Below w.heap.size w W) => (Is_any sv l W (h.below hb) hw).mono fun _ _ h => h.yes hL)
  have CO := Lib.hid (fun W (hb : Below w.heap.size w W) => Se.Of_any tv S W (hS.below hb) (by omega))
  obtain ⟨R, hR⟩ : ∃ R, R = Se.Iset.nf S := ⟨_, rfl⟩
  have hRl : R.length ≤ S.length := by rw [hR]; exact Se.Iset.nf_length S
  have hRn : Se.Iset.NF R := by rw [hR]; exact Se.Iset.nf_nf S
  obtain ⟨Fs, hFs⟩ : ∃ Fs : Nat → List (Int × Int), Fs = fun j => match l[j]? with | none => [] | some x => Pl.common x (Pl.ahead x.a R) := ⟨_, rfl⟩
  have hFk : ∀ k (hk : k < l.length), Fs k = Pl.common l[k] (Pl.ahead l[k].a R) := fun k hk => by rw [hFs]; simp only [List.getElem?_eq_getElem hk]
  have hFl : ∀ k, k < l.length → (Fs k).length ≤ S.length := fun k hk => by rw [hFk k hk]; exact Nat.le_trans (Pl.common_length _ _ _) hRl
  obtain ⟨P, hP⟩ : ∃ P, P = Pl.partsK Fs l l.length := ⟨_, rfl⟩
  have hCut : Pl.CutOf (fun t => Se.Iset.has (Se.Iset.nf S) t = true) l P := by
    rw [hP, ← hR]
    exact Pl.partsK_all Fs l fun k hk => by rw [hFk k hk]; exact Pl.cuts_common (hL.good _ (List.getElem_mem hk)) hRn
  have hPn : P.length ≤ l.length * S.length := by rw [hP]; exact Pl.partsK_length Fs l hFl l.length (Nat.le_refl _)
  have hPp := hCut.par hL.par
  have CC := Lib.hid (fun W (g : Nat) (hz : w.heap.size ≤ g) (hb : Below w.heap.size w W) (hx : RestAt W.heap.size W g R) => cut_any 118 (.pointer (some ⟨g, 0, none⟩)) (fun args w => by kernel_rfl) sv l W (fun k W' => RestAt W.heap.size W' g (Pl.rst l R k) ∧ But g W.heap.size W W') Fs
    (fun _ _ _ h1 h2 => ⟨h1.1.below h2, h1.2.trans (Below.but h2)⟩) (fun _ _ h1 => h.below (hb.trans (h1.2.below hz hb.size))) (fun x hx => may_size (hL.good x hx).2.2.2.1) hl
    (fun k hk => by have := hFl k hk; omega)
    (fun k hk W1 hs1 h1 => (Within1_any l[k].a l[k].b g W.heap.size (Pl.rst l R k) l[k] rfl rfl W1 h1.1 hs1 (by have := Pl.rst_length l R k; omega)).mono fun e w' ⟨u, e1, e2, e3, e4⟩ => by
      rw [Pl.rst_ahead hL.par R k hk] at e2 e3
      refine ⟨u, e1, by rw [hFk k hk]; exact Se.Pe.ownP_mono e2 hs1, ⟨e4.size, fun q hq1 hq2 => e4.block q hq2 (by obtain ⟨_, _, _, _, _, _, _, h6⟩ := h1.1; omega)⟩, ?_, h1.2.trans (e4.mono hs1)⟩
      rw [Pl.rst_succ l R k hk]; exact e3) ⟨hx, But.refl _ _ _⟩)
  have HP := Lib.hid hP
  have RS := Lib.hid (Pl.withinR_of none_ok hL hCut hPn)
  have HPW := Lib.hid (show ∀ x ∈ P, x.v.wide ∧ x.v.may from fun x hx => ⟨(hPp.good x hx).2.2.1, (hPp.good x hx).2.2.2.1⟩)
  have HPL : Hid (P.length ≤ 100000000000) := Lib.hid (by
    have := Nat.mul_le_mul hl hs
    omega)
  have HRR := Lib.hid hR
  obtain ⟨A, cc, rfl, _⟩ := h
  clear hS hw hL hFs hFk hFl hP hCut hPn hPp hRl hRn hR
  go_enter Tryz.func49, Tryz.ntmps49
  go_upto_region 4 with (first
    | (go_at_call 57; (with_reducible refine (CI.out _ (Below.refl _ _)).mono ?_); rintro e w1 ⟨rfl, hb⟩; have B1 := Lib.hid hb; clear hb)
    | (go_at_call 106; (with_reducible refine (CO.out _ B1.out).mono ?_); rintro e w2 ⟨tv2, rfl, ho, hb⟩; have B2 := Lib.hid (B1.out.trans (hb.mono B1.out.size)); rw [← HRR.out] at ho; obtain ⟨X, cX, rfl, g1, g2, g3, g4⟩ := ownP_rest ho; have G := Lib.hid (And.intro g1 (And.intro g2 (And.intro g3 g4))); clear hb ho g1 g2 g3 g4))
  have hbz := Lib.hid B2.out.size
  have B3 := Lib.hid (B2.out.alloc B2.out.size (.cells #[.slice X R.length cX] 23))
  have RA : Hid (RestAt (w2.alloc (.cells #[.slice X R.length cX] 23)).heap.size (w2.alloc (.cells #[.slice X R.length cX] 23)) w2.heap.size R) := Lib.hid
    ⟨X, cX, Bx.new w2 _ _, G.out.1, G.out.2.1, Se.PAt.below G.out.2.2.1 ((Below.refl _ _).alloc (Nat.le_refl _) _), fun b o e => by
      have := G.out.2.2.2 b o e
      simp
      omega, by simp⟩
  obtain ⟨g, hg⟩ : ∃ g, w2.heap.size = g := ⟨_, rfl⟩
  obtain ⟨W, hW⟩ : ∃ W, w2.alloc (.cells #[.slice X R.length cX] 23) = W := ⟨_, rfl⟩
  rw [hW, hg] at RA
  rw [hW] at B3 ⊢
  rw [hg] at hbz ⊢
  clear hW hg
  go_wp2_with (first
    | (go_at_call 110; (with_reducible refine (CC.out W g hbz.out B3.out RA.out).mono ?_); rintro e w4 ⟨u, rfl, ho, hb, hz⟩; have HO := Lib.hid (show OwnL W.heap.size w4 u P by rw [HP.out]; exact ho); have B4 := Lib.hid (B3.out.trans (hb.2.below hbz.out B3.out.size)); have CM := Lib.hid (merge_any u P w4 HO.out.at HPW.out HPL.out); clear hb ho hz)
    | (go_at_call 115; (with_reducible refine (CM.out).mono ?_); rintro e w5 ⟨u5, rfl, ho, hb⟩; have HO5 := Lib.hid ho; have B5 := Lib.hid hb; clear hb ho))
  go_ret2
  exact ⟨_, _, rfl, HO5.out.mono B4.out.size, RS.out, B4.out.trans (B5.out.mono B4.out.size)⟩
end
end Go.Proofs.YtflgdhhgnbdofaaGreat

namespace Go.Proofs.YtflgdhhgnbdofaaGreat
open Go.RowKit
/-- A slice of the document's pieces that the call owns. -/
def OwnD (base : Nat) (w : World) (v : Value) (l : List Pie) : Prop := w.ownsRow base 110 7 v l.length (cellsL l)
theorem OwnD.nil (base : Nat) (w : World) : OwnD base w (.slice none 0 0) [] := World.ownsRow_nil w base _ 7
theorem OwnD.alloc {base : Nat} {w : World} {v : Value} {l : List Pie} (h : OwnD base w v l) (o : Obj) : OwnD base (w.alloc o) v l := World.ownsRow.alloc h o
theorem OwnD.below {base : Nat} {w w' : World} {v : Value} {l : List Pie} (h : OwnD base w v l) (hb : Below w.heap.size w w') : OwnD base w' v l := by
  refine ⟨h.1, ?_⟩
  rcases h.2 with h0 | ⟨g, cap, cur, h1, h2, h3, h4⟩
  · exact .inl h0
  · exact .inr ⟨g, cap, cur, h1, h2, (hb.block g (lt_heap h3)).trans h3, h4⟩
theorem OwnD.at {base : Nat} {w : World} {v : Value} {l : List Pie} (h : OwnD base w v l) : SL w v l := by
  rcases h.2 with ⟨rfl, h0⟩ | ⟨g, cap, cur, rfl, hb, hg, hn, hm, hs, ht⟩
  · obtain rfl : l = [] := List.eq_nil_of_length_eq_zero h0
    exact SL.nil _
  · refine ⟨_, cap, rfl, fun h0 => ⟨g, 0, rfl, lt_heap hg, fun i hi j v hv => ?_⟩, by unfold maxLen at hm; omega⟩
    have hj : j < 7 := by
      have := (List.getElem?_eq_some_iff.1 hv).1
      rwa [pie_len] at this
    have c0 := cellsL_get l i hi j hj
    rw [← ht, List.getElem?_take_of_lt (by omega), Array.getElem?_toList] at c0
    rw [Nat.zero_add, cell_of_row w g (i * 7 + j) cur _ _ hg, c0, hv]
theorem infoD : (Tryz.prog.info? 110).map (fun i => (i.zero, i.size, i.bytes)) = some (some (.agg #[.int .u64 0, .int .u64 0, .int .i64 0, .bool false, .int .i64 0, .float .f64 0, .string ⟨#[]⟩]), 7, 64) := by kernel_rfl
theorem wpList_appD {ops : Array Oper} {rest : List Oper} {o : Oper} {a : Act} {w : World} {Q : Exit → Act → World → Prop} (hgd : o.guard = none) (s x : Operand)
    (ho : o.op = .call { callee := .builtin .append, args := #[s, x], argTypes := #[96, 96] })
    (base : Nat) (v : Value) (L : List Pie) (hs : a.eval s = v) (hown : OwnD base w v L) (g : Nat) (p : Pie) (hx : a.eval x = .slice (some ⟨g, 0, none⟩) 1 1)
    (hp : ∀ j u, (Pie.cells p).toList[j]? = some u → w.cell? ⟨g, j, none⟩ = some u) (hlen : L.length ≤ 1000000000000) (hbase : base ≤ w.heap.size)
    (h : ∀ v' w', OwnD base w' v' (L ++ [p]) → Below base w w' → wpList Tryz.prog ops Q rest (a.put o.dst v') w') :
    wpList Tryz.prog ops Q (o :: rest) a w := by
  obtain ⟨i0, hi, hz0, hz1, hz2⟩ := info_parts infoD
  refine wpList_append_own_at _ hgd s x 96 ho base 110 i0 _ 7 64 Tryz.underlying96 hi hz0 hz1 hz2 rfl (by omega) v _ _ hs hown ⟨g, 0, none⟩ 1 1 (Pie.cells p).toList hx rfl ?_ ?_ (by unfold maxLen; omega) (by omega) hbase ?_
  · intro j u hj
    rw [add_off, Nat.zero_add]
    exact hp j u hj
  · intro u hu
    simp at hu
    rcases hu with rfl | rfl | rfl | rfl | rfl | rfl | rfl <;> rfl
  · intro v' w' h1 h2 h3 _
    refine h v' w' ?_ ((Below.refl _ _).grown h2 hbase fun k hk => (World.ownsRow.lt hown k hk).1)
    unfold OwnD
    rw [cellsL_append, cellsL_one, List.length_append]
    exact h1
/-- The value of a whole number. -/
def numV (n : Int) : VP := ⟨2, false, n, 0, ByteArray.empty⟩
theorem numV_may (n : Int) : (numV n).may := by unfold VP.may MayV numV; simp
section
set_option maxRecDepth 100000
set_option maxHeartbeats 8000000
theorem Number_any (n : Int) (w : World) : Calls Tryz.prog 101 #[.int .i64 n] w fun e w' => e = .returned (numV n).val ∧ Below w.heap.size w w' := by
  have hsf := store_float
  go_enter Tryz.func101, Tryz.ntmps101
  go_wp2
  go_returns
  exact ⟨rfl, by go_grown⟩
theorem theirs_any (v : Value) (l : List Pie) (w : World) (h : SL w v l) (hl : l.length ≤ 1000000000) :
    Calls Tryz.prog 52 #[v] w fun e w' => ∃ u, e = .returned u ∧ OwnD w.heap.size w' u l ∧ Below w.heap.size w w' := by
  obtain ⟨A, c, rfl, hA, hm⟩ := h
  have HA := Lib.hid hA
  clear hA
  have hsf := store_float
  go_enter Tryz.func52, Tryz.ntmps52
  go_wp2
  go_loopw [3, 4] (fun u i wr => ∃ k : Nat, k ≤ l.length ∧ i = .int .i64 k ∧ OwnD w.heap.size wr u (l.take k) ∧ Below w.heap.size w wr) (fun _ i _ => l.length - (intOf i).toNat)
  case atStart => exact ⟨0, Nat.zero_le _, rfl, OwnD.nil _ _, Below.refl _ _⟩
  case round =>
    obtain ⟨k, hk, rfl, ho, hb⟩ := hrel
    have HO := Lib.hid ho
    have HB := Lib.hid hb
    clear ho hb
    by_cases hlt : k < l.length
    · obtain ⟨g, off, rfl, lg, cg⟩ := (HA.out.below HB.out) (by omega)
      have r := cg k hlt
      have i0 : (k : Int) < (l.length : Int) := by omega
      have i1 : (0 : Int) ≤ (k : Int) := by omega
      have HT := Lib.hid (show l.take (k + 1) = l.take k ++ [l[k]] from List.take_succ_eq_append_getElem hlt)
      have HLN := Lib.hid (show (l.take k).length ≤ 1000000000000 by rw [List.length_take]; omega)
      have hsz := HB.out.size
      clear cg
      generalize l[k] = x at *
      generalize l.take k = M at *
      obtain ⟨a, b, ⟨kk, vb, n, f, s⟩⟩ := x
      go_wp2_with (first
        | refine wpList_load_mid rfl 71 (.tmp 14) rfl g (off + k * 7) rfl _ _ r Tryz.underlying71 rfl rowL ?_
        | (at_builtin; refine wpList_appD rfl (.tmp 11) (.tmp 16) rfl w.heap.size _ M rfl (HO.out.alloc _) wr.heap.size ⟨a, b, ⟨kk, vb, n, f, s⟩⟩ rfl (new_cells wr _ _) HLN.out (by simp; omega) ?_; intro v2 w2 ho2 hb2; have HO3 := Lib.hid ho2; have HB4 := Lib.hid ((HB.out.alloc hsz (.cells (Pie.cells ⟨a, b, ⟨kk, vb, n, f, s⟩⟩) 110)).trans hb2); clear ho2 hb2))
      exact ⟨⟨k + 1, by omega, by go_num, by rw [HT.out]; exact HO3.out, HB4.out⟩, by simp [intOf]; omega⟩
    · obtain rfl : k = l.length := by omega
      rw [List.take_length] at HO
      go_wp2
      go_ret
      exact ⟨_, rfl, HO.out, HB.out⟩
/-- Whether two lists of pieces are the same, as the document asks it. -/
theorem refPSame_any (va vb : Value) (l m : List Pie) (w : World) (ha : SL w va l) (hb : SL w vb m) (hl : ∀ x ∈ l, x.v.wide ∧ x.v.may) (hm : ∀ x ∈ m, x.v.wide ∧ x.v.may) :
    Calls Tryz.prog 51 #[va, vb] w (Says (l = m) w) := by
  obtain ⟨A, c, rfl, hA, hla⟩ := ha
  obtain ⟨B, d, rfl, hB, hlb⟩ := hb
  have HA := Lib.hid hA
  have HB := Lib.hid hB
  have HL := Lib.hid hl
  have HM := Lib.hid hm
  have hsf := store_float
  clear hA hB hl hm
  by_cases hne : l.length = m.length
  case neg =>
    have HN : Hid (¬ l = m) := Lib.hid fun e => hne (by rw [e])
    have hne' : ((l.length : Int) != (m.length : Int)) = true := by simp; omega
    clear hne
    go_enter Tryz.func51, Tryz.ntmps51
    go_wp2
    go_ret
    exact ⟨false, rfl, by simp [HN.out], Below.refl _ _⟩
  have HE := Lib.hid hne
  have hne' : ((l.length : Int) != (m.length : Int)) = false := by simp [hne]
  clear hne
  go_enter Tryz.func51, Tryz.ntmps51
  go_wp2
  clear hne'
  go_loopw [5] (fun i wr => ∃ k : Nat, k ≤ l.length ∧ i = .int .i64 k ∧ (∀ j (h : j < l.length) (g : j < m.length), j < k → l[j] = m[j]) ∧ Below w.heap.size w wr) (fun i _ => l.length - (intOf i).toNat)
  case atStart => exact ⟨0, Nat.zero_le _, rfl, fun j _ _ h => absurd h (Nat.not_lt_zero j), Below.refl _ _⟩
  case round =>
    obtain ⟨i, hi, rfl, hp, hbl⟩ := hrel
    have HP := Lib.hid hp
    have HBl := Lib.hid hbl
    clear hp hbl
    by_cases hlt : i < l.length
    · have hlt2 : i < m.length := by have := HE.out; omega
      obtain ⟨g, off, rfl, lg, cg⟩ := (HA.out.below HBl.out) (by omega)
      obtain ⟨q, oq, rfl, lq, cq⟩ := (HB.out.below HBl.out) (by omega)
      have r := cg i hlt
      have r2 := cq i hlt2
      obtain ⟨w1, v1⟩ := HL.out l[i] (List.getElem_mem hlt)
      obtain ⟨w2, v2⟩ := HM.out m[i] (List.getElem_mem hlt2)
      have CS := Lib.hid (fun W => refSame_any l[i].v m[i].v v1 v2 w1 w2 W)
      have HK : Hid (l[i] = m[i] → ∀ j (h : j < l.length) (g : j < m.length), j < i + 1 → l[j] = m[j]) := Lib.hid fun h j h1 g1 h2 => if e : j = i then (by subst e; exact h) else HP.out j h1 g1 (by omega)
      have HN : Hid (¬ l[i] = m[i] → ¬ l = m) := Lib.hid fun h e => h (by subst e; rfl)
      generalize l[i] = x at *
      generalize m[i] = y at *
      have i0 : (i : Int) < (l.length : Int) := by omega
      have i3 : (i : Int) < (m.length : Int) := by omega
      have i1 : (0 : Int) ≤ (i : Int) := by omega
      clear w1 w2 v1 v2 cg cq HA HB HL HM HP
      obtain ⟨a, b, ⟨k, vb, n, f, s⟩⟩ := x
      obtain ⟨a', b', ⟨k', vb', n', f', s'⟩⟩ := y
      simp only at CS
      have K0 : Hid (∀ w', Below wr.heap.size wr w' → w'.cell? ⟨g, off + i * 7, none⟩ = some (.int .u64 a) ∧ w'.cell? ⟨g, off + i * 7 + 1, none⟩ = some (.int .u64 b) ∧ w'.cell? ⟨g, off + i * 7 + 2, none⟩ = some (.int .i64 k) ∧ w'.cell? ⟨g, off + i * 7 + 3, none⟩ = some (.bool vb) ∧ w'.cell? ⟨g, off + i * 7 + 4, none⟩ = some (.int .i64 n) ∧ w'.cell? ⟨g, off + i * 7 + 5, none⟩ = some (.float .f64 f) ∧ w'.cell? ⟨g, off + i * 7 + 6, none⟩ = some (.string s) ∧ w'.cell? ⟨q, oq + i * 7, none⟩ = some (.int .u64 a') ∧ w'.cell? ⟨q, oq + i * 7 + 1, none⟩ = some (.int .u64 b') ∧ w'.cell? ⟨q, oq + i * 7 + 2, none⟩ = some (.int .i64 k') ∧ w'.cell? ⟨q, oq + i * 7 + 3, none⟩ = some (.bool vb') ∧ w'.cell? ⟨q, oq + i * 7 + 4, none⟩ = some (.int .i64 n') ∧ w'.cell? ⟨q, oq + i * 7 + 5, none⟩ = some (.float .f64 f') ∧ w'.cell? ⟨q, oq + i * 7 + 6, none⟩ = some (.string s')) := Lib.hid fun w' hb => by
        have on : ∀ j v, (Pie.cells ⟨a, b, ⟨k, vb, n, f, s⟩⟩).toList[j]? = some v → w'.cell? ⟨g, off + i * 7 + j, none⟩ = some v := fun j v hv => (hb.cell (p := ⟨g, off + i * 7 + j, none⟩) lg).trans (r j v hv)
        have on2 : ∀ j v, (Pie.cells ⟨a', b', ⟨k', vb', n', f', s'⟩⟩).toList[j]? = some v → w'.cell? ⟨q, oq + i * 7 + j, none⟩ = some v := fun j v hv => (hb.cell (p := ⟨q, oq + i * 7 + j, none⟩) lq).trans (r2 j v hv)
        exact ⟨on 0 _ rfl, on 1 _ rfl, on 2 _ rfl, on 3 _ rfl, on 4 _ rfl, on 5 _ rfl, on 6 _ rfl, on2 0 _ rfl, on2 1 _ rfl, on2 2 _ rfl, on2 3 _ rfl, on2 4 _ rfl, on2 5 _ rfl, on2 6 _ rfl⟩
      clear r r2
      have kk := K0.out wr (Below.refl _ _)
      by_cases hab : a = a' ∧ b = b'
      · obtain ⟨rfl, rfl⟩ := hab
        clear kk
        go_upto_region 6 with fail
        go_region_held3 (fun w' => w'.cell? ⟨g, off + i * 7, none⟩ = some (.int .u64 a) ∧ w'.cell? ⟨g, off + i * 7 + 1, none⟩ = some (.int .u64 b) ∧ w'.cell? ⟨g, off + i * 7 + 2, none⟩ = some (.int .i64 k) ∧ w'.cell? ⟨g, off + i * 7 + 3, none⟩ = some (.bool vb) ∧ w'.cell? ⟨g, off + i * 7 + 4, none⟩ = some (.int .i64 n) ∧ w'.cell? ⟨g, off + i * 7 + 5, none⟩ = some (.float .f64 f) ∧ w'.cell? ⟨g, off + i * 7 + 6, none⟩ = some (.string s) ∧ w'.cell? ⟨q, oq + i * 7, none⟩ = some (.int .u64 a) ∧ w'.cell? ⟨q, oq + i * 7 + 1, none⟩ = some (.int .u64 b) ∧ w'.cell? ⟨q, oq + i * 7 + 2, none⟩ = some (.int .i64 k') ∧ w'.cell? ⟨q, oq + i * 7 + 3, none⟩ = some (.bool vb') ∧ w'.cell? ⟨q, oq + i * 7 + 4, none⟩ = some (.int .i64 n') ∧ w'.cell? ⟨q, oq + i * 7 + 5, none⟩ = some (.float .f64 f') ∧ w'.cell? ⟨q, oq + i * 7 + 6, none⟩ = some (.string s')) (first
            | exact K0.out _ (Below.refl _ _).drew
            | exact K0.out _ HU1.out
            | fail) (first
          | (go_at_call 120; (with_reducible refine (CS.out _).mono ?_); rintro e1 w4 ⟨c4, rfl, hc4, b4⟩; have HC4 := Lib.hid hc4; have HU1 := Lib.hid (show Below wr.heap.size wr w4 from (Below.refl _ _).drew.trans b4); clear b4 hc4)
          | fail)
        all_goals (
          have B4 := Lib.hid (HBl.out.trans (HU1.out.mono HBl.out.size))
          cases c4
          · go_wp2
            go_ret
            exact ⟨false, rfl, by have := HN.out (fun h => by have h' := HC4.out.2 (by injection h); simp at h'); simp [this], B4.out⟩
          · have HK2 := Lib.hid (HK.out (by rw [HC4.out.1 (by simp)]))
            clear HK HN
            go_wp2
            exact ⟨⟨i + 1, by omega, by go_num, HK2.out, B4.out⟩, by simp [intOf]; omega⟩)
      · have HN2 := Lib.hid (HN.out (fun h => hab (by injection h with h1 h2; exact ⟨h1, h2⟩)))
        clear HK HN
        by_cases ha : a = a'
        · have t0 : (b == b') = false := by simp; exact fun h => hab ⟨ha, h⟩
          subst ha
          clear hab
          go_upto_region 6 with fail
          go_quiet (fail)
          go_wp2
          go_ret
          exact ⟨false, rfl, by simp [HN2.out], bel_drewN _ HBl.out⟩
        · have t0 : (a == a') = false := by simpa using ha
          clear hab ha
          go_upto_region 6 with fail
          go_quiet (fail)
          go_wp2
          go_ret
          exact ⟨false, rfl, by simp [HN2.out], bel_drewN _ HBl.out⟩
    · have HT : Hid (l = m) := Lib.hid (List.ext_getElem HE.out fun j h1 h2 => HP.out j h1 h2 (by omega))
      clear HP
      go_wp2
      go_ret
      exact ⟨true, rfl, by simp [HT.out], HBl.out⟩
end
end Go.Proofs.YtflgdhhgnbdofaaGreat

namespace Go.Proofs.YtflgdhhgnbdofaaGreat
open Go.RowKit
/-- A slice of whole numbers. -/
def UL (w : World) (v : Value) (U : List Int) : Prop := ∃ A c, v = .slice A U.length c ∧ (0 < U.length → ∃ b off, A = some ⟨b, off, none⟩ ∧ b < w.heap.size ∧ ∀ i (h : i < U.length), w.cell? ⟨b, off + i, none⟩ = some (.int .u64 U[i]))
theorem UL.below {w w' : World} {v : Value} {U : List Int} (h : UL w v U) (hb : Below w.heap.size w w') : UL w' v U := by
  obtain ⟨A, c, e, hA⟩ := h
  refine ⟨A, c, e, fun h0 => ?_⟩
  obtain ⟨g, off, e, hl, hc⟩ := hA h0
  exact ⟨g, off, e, Nat.lt_of_lt_of_le hl hb.size, fun i hi => (hb.cell (p := ⟨g, off + i, none⟩) hl).trans (hc i hi)⟩
abbrev T3 := Int × Int × Int
def flat3 (T : List T3) : List Int := T.flatMap fun t => [t.1, t.2.1, t.2.2]
def line3 (T : List T3) : List Pie := T.map fun t => ⟨t.1, t.2.1, numV t.2.2⟩
theorem flat3_length (T : List T3) : (flat3 T).length = T.length * 3 := by
  induction T with
  | nil => rfl
  | cons t T ih =>
    have e : flat3 (t :: T) = t.1 :: t.2.1 :: t.2.2 :: flat3 T := by simp [flat3]
    rw [e, List.length_cons, List.length_cons, List.length_cons, ih, List.length_cons]
    omega
theorem flat3_get (T : List T3) (k : Nat) (h : k < T.length) : (flat3 T)[k * 3]? = some T[k].1 ∧ (flat3 T)[k * 3 + 1]? = some T[k].2.1 ∧ (flat3 T)[k * 3 + 2]? = some T[k].2.2 := by
  induction T generalizing k with
  | nil => simp at h
  | cons t T ih =>
    have e : flat3 (t :: T) = t.1 :: t.2.1 :: t.2.2 :: flat3 T := by simp [flat3]
    rw [e]
    cases k with
    | zero => simp
    | succ k =>
      have := ih k (by simpa using h)
      rw [show (k + 1) * 3 = k * 3 + 1 + 1 + 1 by omega]
      simpa using this
theorem line3_wide (T : List T3) (h : ∀ t ∈ T, fits t.2.2) : ∀ x ∈ line3 T, x.v.wide ∧ x.v.may := fun x hx => by
  obtain ⟨t, ht, rfl⟩ := List.mem_map.1 hx
  refine ⟨?_, numV_may _⟩
  unfold VP.wide WideV numV
  exact ⟨by unfold fits; simp, h t ht, by simp, by simp⟩
section
set_option maxRecDepth 100000
set_option maxHeartbeats 8000000
theorem line_any (v : Value) (T : List T3) (w : World) (h : UL w v (flat3 T)) (hl : T.length ≤ 1000) (hT : ∀ t ∈ T, 0 ≤ t.2.2 ∧ t.2.2 ≤ 1000) :
    Calls Tryz.prog 176 #[v] w fun e w' => ∃ u, e = .returned u ∧ OwnL w.heap.size w' u (line3 T) ∧ Below w.heap.size w w' := by
  obtain ⟨A, c, rfl, hA⟩ := h
  have HA := Lib.hid (fun W (hb : Below w.heap.size w W) (h0 : 0 < (flat3 T).length) => (show ∃ b off, A = some ⟨b, off, none⟩ ∧ b < W.heap.size ∧ ∀ i (h : i < (flat3 T).length), W.cell? ⟨b, off + i, none⟩ = some (.int .u64 (flat3 T)[i]) by
    obtain ⟨g, off, e, hl, hc⟩ := hA h0
    exact ⟨g, off, e, Nat.lt_of_lt_of_le hl hb.size, fun i hi => (hb.cell (p := ⟨g, off + i, none⟩) hl).trans (hc i hi)⟩))
  have HT := Lib.hid hT
  have hfl := flat3_length T
  clear hA hT
  have hsf := store_float
  rw [hfl]
  go_enter Tryz.func176, Tryz.ntmps176
  go_wp2
  go_loopw [3, 4] (fun u i wr => ∃ k K : Nat, k ≤ T.length ∧ K = k * 3 ∧ i = .int .i64 K ∧ OwnL w.heap.size wr u (line3 (T.take k)) ∧ Below w.heap.size w wr) (fun _ i _ => T.length * 3 - (intOf i).toNat)
  case atStart => exact ⟨0, 0, Nat.zero_le _, rfl, rfl, by simpa [line3] using OwnL.nil _ _, Below.refl _ _⟩
  case round =>
    obtain ⟨k, K, hk, hK, rfl, ho, hb⟩ := hrel
    have HO := Lib.hid ho
    have HB := Lib.hid hb
    clear ho hb
    by_cases hlt : k < T.length
    · obtain ⟨g, off, rfl, lg, cg⟩ := HA.out wr HB.out (by omega)
      obtain ⟨f0, f1, f2⟩ := flat3_get T k hlt
      have c0 := cg (k * 3) (by omega)
      have c1 := cg (k * 3 + 1) (by omega)
      have c2 := cg (k * 3 + 2) (by omega)
      rw [List.getElem?_eq_getElem (by omega)] at f0 f1 f2
      injection f0 with f0
      injection f1 with f1
      injection f2 with f2
      rw [f0, ← hK] at c0
      rw [f1, ← hK] at c1
      rw [f2, ← hK] at c2
      have ht := HT.out T[k] (List.getElem_mem hlt)
      have HTK := Lib.hid (show line3 (T.take (k + 1)) = line3 (T.take k) ++ [⟨T[k].1, T[k].2.1, numV T[k].2.2⟩] by
        unfold line3; rw [List.take_succ_eq_append_getElem hlt, List.map_append]; rfl)
      have HLN := Lib.hid (show (line3 (T.take k)).length + 1 ≤ 1000000000000 by
        unfold line3; rw [List.length_map, List.length_take]; omega)
      clear f0 f1 f2 cg
      generalize T[k].1 = ta at *
      generalize T[k].2.1 = tb at *
      generalize T[k].2.2 = tc at *
      generalize line3 (T.take k) = M at *
      have CN := Lib.hid (fun W => Number_any tc W)
      have i0 : (K : Int) + 2 < (T.length : Int) * 3 := by omega
      have i1 : (0 : Int) ≤ (K : Int) := by omega
      have i2 : (K : Int) < (T.length : Int) * 3 := by omega
      have i3 : (K : Int) + 1 < (T.length : Int) * 3 := by omega
      have w1 : IntKind.i64.wrap ((K : Int) + 1) = (K : Int) + 1 := by rw [IntKind.wrap_i64]; omega
      have w2 : IntKind.i64.wrap ((K : Int) + 2) = (K : Int) + 2 := by rw [IntKind.wrap_i64]; omega
      have w3 : IntKind.i64.wrap tc = tc := by rw [IntKind.wrap_i64]; omega
      have n1 : ((K : Int) + 1).toNat = K + 1 := by omega
      have n2 : ((K : Int) + 2).toNat = K + 2 := by omega
      have j1 : (0 : Int) ≤ (K : Int) + 1 := by omega
      have j2 : (0 : Int) ≤ (K : Int) + 2 := by omega
      have HKK := Lib.hid hK
      clear hK
      have hsz := HB.out.size
      have K0 : Hid (∀ w', Below wr.heap.size wr w' → w'.cell? ⟨g, off + K, none⟩ = some (.int .u64 ta) ∧ w'.cell? ⟨g, off + (K + 1), none⟩ = some (.int .u64 tb) ∧ w'.cell? ⟨g, off + (K + 2), none⟩ = some (.int .u64 tc)) := Lib.hid fun w' hb =>
        ⟨(hb.cell (p := ⟨g, off + K, none⟩) lg).trans c0, (hb.cell (p := ⟨g, off + (K + 1), none⟩) lg).trans c1, (hb.cell (p := ⟨g, off + (K + 2), none⟩) lg).trans c2⟩
      clear c0 c1 c2
      go_upto_region 5 with fail
      obtain ⟨c0, c1, c2⟩ := K0.out wr (Below.refl _ _)
      go_region_law (first
        | ((with_reducible refine step_appL rfl (.tmp 12) (.tmp 31) rfl w.heap.size u3 M (by simp [Act.eval]) O4.out w4.heap.size ⟨ta, tb, numV tc⟩ (by simp [Act.eval]) R4.out HLN.out Z4.out ?_); intro u6 w6 h2 h3 h4; have O6 := Lib.hid h2; have B6 := Lib.hid ((HB.out.trans (B4.out.mono hsz)).alloc (Nat.le_trans hsz B4.out.size) (.cells (Pie.cells ⟨ta, tb, numV tc⟩) 71) |>.grown h3 Z4.out fun q e => (HO.out.ownLt q e).1); clear h2 h3 h4)
        | (go_simp; go_at_call 101; (refine (CN.out _).mono ?_); rintro e w4 ⟨rfl, hb0⟩; have hb : Below wr.heap.size wr w4 := (Below.refl _ _).drew.trans hb0; have B4 := Lib.hid hb; obtain ⟨d0, d1, d2⟩ := K0.out w4 hb; have O4 := Lib.hid ((HO.out.below hb).alloc (.cells (Pie.cells ⟨ta, tb, numV tc⟩) 71)); have R4 := Lib.hid (Bx.range (Bx.new w4 (Pie.cells ⟨ta, tb, numV tc⟩) 71)); have Z4 := Lib.hid (show w.heap.size ≤ (w4.alloc (.cells (Pie.cells ⟨ta, tb, numV tc⟩) 71)).heap.size from Nat.le_trans hsz (Nat.le_trans hb.size (by simp))); clear hb hb0))
      all_goals
        go_wp2
        exact ⟨⟨k + 1, K + 3, by omega, by have := HKK.out; omega, by go_num, by rw [HTK.out]; exact O6.out, B6.out⟩, by have := HKK.out; simp [intOf]; omega⟩
    · obtain rfl : k = T.length := by omega
      rw [List.take_length] at HO
      have w2 : IntKind.i64.wrap ((K : Int) + 2) = (K : Int) + 2 := by rw [IntKind.wrap_i64]; omega
      have i0 : decide ((K : Int) + 2 < (T.length : Int) * 3) = false := by simp; omega
      have i1 : ¬ ((K : Int) + 2 < (T.length : Int) * 3) := by omega
      clear hK
      go_wp2
      go_ret
      exact ⟨_, rfl, HO.out, HB.out⟩
/-- Whether pieces are these whole numbers'. -/
theorem like_any (v tv : Value) (l : List Pie) (T : List T3) (w : World) (h : SL w v l) (ht : UL w tv (flat3 T)) (hl : l.length ≤ 1000000000) (hw : ∀ x ∈ l, x.v.wide ∧ x.v.may) (hT : T.length ≤ 1000) (hT2 : ∀ t ∈ T, 0 ≤ t.2.2 ∧ t.2.2 ≤ 1000) :
    Calls Tryz.prog 133 #[v, tv] w (Says (l = line3 T) w) := by
  have hTw : ∀ x ∈ line3 T, x.v.wide ∧ x.v.may := line3_wide T fun t ht => by
    have := hT2 t ht
    unfold fits
    omega
  have hTl : (line3 T).length ≤ 1000000000 := by unfold line3; rw [List.length_map]; omega
  have C1 := Lib.hid (theirs_any v l w h hl)
  have C2 := Lib.hid (fun W (hb : Below w.heap.size w W) => line_any tv T W (ht.below hb) hT hT2)
  have C3 := Lib.hid (fun W u (hu : SL W u (line3 T)) => theirs_any u (line3 T) W hu hTl)
  have C4 := Lib.hid (fun W u u2 (hu : SL W u l) (hu2 : SL W u2 (line3 T)) => refPSame_any u u2 l (line3 T) W hu hu2 hw hTw)
  clear h ht hw hTw hT2
  go_enter Tryz.func133, Tryz.ntmps133
  go_wp2_with fail
  refine (C1.out).mono ?_
  rintro e w1 ⟨u1, rfl, ho1, hb1⟩
  have O1 := Lib.hid ho1
  have B1 := Lib.hid hb1
  clear ho1 hb1
  go_wp2_with fail
  refine (C2.out _ B1.out).mono ?_
  rintro e w2 ⟨u2, rfl, ho2, hb2⟩
  have O2 := Lib.hid ho2
  have B2 := Lib.hid hb2
  clear ho2 hb2
  go_wp2_with fail
  refine (C3.out _ _ O2.out.at).mono ?_
  rintro e w3 ⟨u3, rfl, ho3, hb3⟩
  have O3 := Lib.hid ho3
  have B3 := Lib.hid hb3
  clear ho3 hb3
  go_wp2_with fail
  refine (C4.out _ _ _ ((O1.out.below B2.out).below B3.out).at O3.out.at).mono ?_
  rintro e w4 ⟨c, rfl, hc, hb4⟩
  have HC := Lib.hid hc
  have B4 := Lib.hid hb4
  clear hc hb4
  go_wp2
  go_ret
  have e1 := B1.out.trans (B2.out.mono B1.out.size)
  have e2 := e1.trans (B3.out.mono e1.size)
  exact ⟨c, rfl, HC.out, e2.trans (B4.out.mono e2.size)⟩
end
end Go.Proofs.YtflgdhhgnbdofaaGreat

