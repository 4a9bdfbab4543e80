/- What PieceSets says, in plain words: sets of instants of a line, its parts, its ends. No program. -/
/- A region that draws its order: operations whose guard leaves them out, skipped all at once. -/
import Derived.Test.YtgmaompjhhomcaaGreatmG0
import Derived.Test.YtgmaompjhhomcaaGreatmG1
import Derived.Test.YtgmaompjhhomcaaGreatmG47
import Derived.Test.YtgmaompjhhomcaaGreatmG18
import Derived.Deep.RegionHeld3
namespace Go.Proofs.YtgmaompjhhomcaaGreat
open Go.RowKit
theorem within_twice {R W1 W2 W3 : List Pie} {a b M : List (Int × Int)} (h1 : Pl.WithinR okV VP.none R a W1) (h2 : Pl.WithinR okV VP.none W1 b W2) (hm : Se.Iset.Res Se.kAnd a b M) (h3 : Pl.WithinR okV VP.none R M W3) : W2 = W3 :=
  Pl.Line.ext none_ok h2.line h3.line fun t => by
    rw [h2.means, h1.means, h3.means, hm.has t]
    cases Se.Iset.has a t <;> cases Se.Iset.has b t <;> simp [Se.kAnd]
/-- Whether it is something. -/
noncomputable def some? (v : VP) : Bool := @decide (v ≠ VP.none) (Classical.propDecidable _)
theorem some_iff (v : VP) : some? v = true ↔ v ≠ VP.none := by unfold some?; exact @decide_eq_true_iff _ (Classical.propDecidable _)
theorem span_has {l : List Pie} (h : Pl.Line okV l) (t : Int) : Se.Iset.has (spanL l) t = true ↔ Pl.means VP.none l t ≠ VP.none := by
  unfold spanL
  rw [chosen_has h, ← Pl.hit_iff none_ok h.par]
  exact ⟨fun ⟨x, hx, ht, _⟩ => ⟨x, hx, ht⟩, fun ⟨x, hx, ht⟩ => ⟨x, hx, ht, rfl⟩⟩
theorem span_nf (l : List Pie) : Se.Iset.NF (spanL l) := Se.Iset.nf_nf _
theorem span_within {R W1 : List Pie} {a M : List (Int × Int)} (hR : Pl.Line okV R) (h1 : Pl.WithinR okV VP.none R a W1) (hm : Se.Iset.Res Se.kAnd (spanL R) a M) : spanL W1 = M :=
  Se.Iset.NF.ext (span_nf _) hm.nf fun t => by
    rw [hm.has t, Bool.eq_iff_iff, span_has h1.line, h1.means, Bool.and_eq_true, span_has hR]
    by_cases c : Se.Iset.has a t = true
    · simp [c]
    · simp [c]
theorem null_within {R N W : List Pie} {c d : Int} {Q : List (Int × Int)} (hw : ∀ x ∈ R, 0 ≤ x.a) (hp : c < d ∧ d ≤ 1099511627776) (hR : Pl.Line okV R) (h1 : Pl.SetR okV VP.none R c d VP.none N) (hq : Se.NotOf [(c, d)] Q) (h2 : Pl.WithinR okV VP.none R Q W) : N = W :=
  Pl.Line.ext none_ok h1.line h2.line fun t => by
    rw [h2.means]
    have hQ : Se.Iset.has Q t = true ↔ (0 ≤ t ∧ t < 1099511627776) ∧ ¬ (c ≤ t ∧ t < d) := by
      rw [hq.2.1 t, Bool.and_eq_true, Bool.and_eq_true, decide_eq_true_iff, decide_eq_true_iff, Bool.not_eq_true', ← Bool.not_eq_true, Se.Iset.has_cons, Se.Iset.has_nil, Bool.or_false, Se.Iset.hasP_iff]
      constructor
      · exact fun h => ⟨h.1, fun g => h.2 ⟨hp, g⟩⟩
      · exact fun h => ⟨h.1, fun g => h.2 g.2⟩
    by_cases g : c ≤ t ∧ t < d
    · rw [(h1.means t).1 g, if_neg fun h => (hQ.1 h).2 g]
    · rw [(h1.means t).2 g]
      by_cases b : 0 ≤ t ∧ t < 1099511627776
      · rw [if_pos (hQ.2 ⟨b, g⟩)]
      · rw [if_neg fun h => b (hQ.1 h).1]
        refine Pl.means_none _ _ _ fun x hx hh => b ⟨?_, ?_⟩
        · have := hw x hx; omega
        · have := (hR.good x hx).2.1; omega
/-- The parts of a line, value by value. -/
noncomputable def partsV (R : List Pie) (k : Nat) : List (Int × Int) := (R.take k).flatMap fun x => Se.Iset.nf (chosen (isV x.v) R)
theorem partsV_succ (R : List Pie) (k : Nat) (h : k < R.length) : partsV R (k + 1) = partsV R k ++ Se.Iset.nf (chosen (isV R[k].v) R) := by
  unfold partsV
  rw [List.take_succ_eq_append_getElem h, List.flatMap_append]
  simp
theorem partsV_length (R : List Pie) : ∀ k, k ≤ R.length → (partsV R k).length ≤ k * R.length
  | 0, _ => by simp [partsV]
  | k + 1, h => by
    have h1 := partsV_length R k (by omega)
    have h2 := Se.Iset.nf_length (chosen (isV R[k].v) R)
    have h3 := chosen_length (isV R[k].v) R
    rw [partsV_succ R k (by omega), List.length_append, Nat.succ_mul]
    omega
theorem means_isV {R : List Pie} (h : Pl.Line okV R) {x : Pie} (hx : x ∈ R) (t : Int) : Se.Iset.has (Se.Iset.nf (chosen (isV x.v) R)) t = true ↔ Pl.means VP.none R t = x.v := by
  have hg := (h.good x hx).2.2
  rw [chosen_means h (isV_none hg.2.2.1), isV_iff]
  exact ⟨fun e => e.2, fun e => ⟨hg.2.1, e⟩⟩
theorem means_no {R : List Pie} {v : VP} (h : Pl.Line okV R) (hv : v.k ≠ 0) (t : Int) : Se.Iset.has (Se.Iset.nf (chosen (isV v) R)) t = true ↔ v.may ∧ Pl.means VP.none R t = v := by
  rw [chosen_means h (isV_none hv), isV_iff]
theorem parts_span {R : List Pie} (h : Pl.Line okV R) : Se.Iset.nf (partsV R R.length) = spanL R :=
  Se.Iset.NF.ext (Se.Iset.nf_nf _) (span_nf _) fun t => by
    rw [Se.Iset.nf_has, Bool.eq_iff_iff, span_has h]
    unfold partsV
    rw [List.take_length, Se.Iset.has_iff]
    constructor
    · rintro ⟨p, hp, ht⟩
      obtain ⟨x, hx, hpx⟩ := List.mem_flatMap.1 hp
      rw [(means_isV h hx t).1 ((Se.Iset.has_iff _ _).2 ⟨p, hpx, ht⟩)]
      intro e
      exact none_ok (by rw [← e]; exact (h.good x hx).2.2)
    · intro e
      rcases Pl.means_case VP.none R t with ⟨x, hx, _, _, e1⟩ | ⟨_, e1⟩
      · obtain ⟨p, hp, ht⟩ := (Se.Iset.has_iff _ _).1 ((means_isV h hx t).2 e1)
        exact ⟨p, List.mem_flatMap.2 ⟨x, hx, hp⟩, ht⟩
      · exact absurd e1 e
theorem parts_apart {R : List Pie} (h : Pl.Line okV R) {x y : Pie} (hx : x ∈ R) (hy : y ∈ R) (hv : x.v ≠ y.v) {M : List (Int × Int)} (hm : Se.Iset.Res Se.kAnd (Se.Iset.nf (chosen (isV y.v) R)) (Se.Iset.nf (chosen (isV x.v) R)) M) : M = [] :=
  Se.Iset.NF.ext hm.nf Se.Iset.NF.nil fun t => by
    rw [hm.has t, Se.Iset.has_nil, ← Bool.not_eq_true, Bool.and_eq_true, means_isV h hx, means_isV h hy]
    rintro ⟨e1, e2⟩
    exact hv (e2.symm.trans e1)
theorem null_nowhere {R : List Pie} (h : Pl.Line okV R) : Se.Iset.nf (chosen (isV VP.none) R) = [] := by
  have : chosen (isV VP.none) R = [] := by
    unfold chosen pers
    rw [List.filter_eq_nil_iff.2 fun x hx => ?_]
    · rfl
    · rw [isV_iff]
      rintro ⟨_, e⟩
      exact none_ok (by rw [← e]; exact (h.good x hx).2.2)
  rw [this]; exact Se.Iset.nf_of_NF Se.Iset.NF.nil
/-! Where anything changes. -/
theorem still_ends {R : List Pie} {E : List Int} (h : Pl.Line okV R) (hE : EndsOf R E) (t : Int) (ht : t ∉ E) : Pl.means VP.none R t = Pl.means VP.none R (t - 1) := by
  have hn : ∀ x ∈ R, t ≠ x.a ∧ t ≠ x.b := fun x hx => ⟨fun e => ht ((hE.mem t).2 ⟨x, hx, .inl e⟩), fun e => ht ((hE.mem t).2 ⟨x, hx, .inr e⟩)⟩
  rcases Pl.means_case VP.none R t with ⟨x, hx, h1, h2, e⟩ | ⟨h1, e⟩
  · have := hn x hx
    rw [e, Pl.means_at VP.none h.par hx (by omega) (by omega)]
  · rw [e, Pl.means_none VP.none R (t - 1) fun x hx hh => h1 x hx (by have := hn x hx; omega)]
theorem Chain_lt {R : List Pie} (h : Pl.Line okV R) {x : Pie} (hx : x ∈ R) : Pl.means VP.none R x.b ≠ x.v := by
  induction R with
  | nil => simp at hx
  | cons y l ih =>
    rcases List.mem_cons.1 hx with rfl | hx'
    · exact Pl.means_end none_ok h
    · have := h.ahead x hx'
      have := (h.tail.good x hx').1
      rw [Pl.means_tail VP.none h.par (by omega)]
      exact ih h.tail hx'
theorem start_new' : ∀ {l : List Pie}, Pl.Line okV l → ∀ {x : Pie}, x ∈ l → Pl.means VP.none l (x.a - 1) ≠ x.v
  | [], _, _, hx => by simp at hx
  | y :: l, h, x, hx => by
    rcases List.mem_cons.1 hx with rfl | hx'
    · rw [Pl.means_lt VP.none h.par (by omega)]
      exact fun e => none_ok (by rw [e]; exact (h.good x (by simp)).2.2)
    · have hy := (h.good y (by simp)).1
      have ha := h.ahead x hx'
      by_cases c : x.a ≤ y.b
      · have e : x.a = y.b := by omega
        rw [Pl.means_at VP.none h.par (by simp : y ∈ y :: l) (by omega) (by omega)]
        cases l with
        | nil => simp at hx'
        | cons z l =>
          have hz := (h.tail.good z (by simp)).1
          have hf : Pl.follows y z := h.chain.1
          rcases List.mem_cons.1 hx' with rfl | hx2
          · rcases hf with hf | hf
            · omega
            · exact hf.2
          · have := h.tail.ahead x hx2
            unfold Pl.follows at hf
            omega
      · rw [Pl.means_tail VP.none h.par (by omega)]
        exact start_new' h.tail hx'
/-- At an end something changes. -/
theorem ends_change {R : List Pie} {E : List Int} (h : Pl.Line okV R) (hE : EndsOf R E) {t : Int} (ht : t ∈ E) : Pl.means VP.none R (t - 1) ≠ Pl.means VP.none R t := by
  obtain ⟨x, hx, rfl | rfl⟩ := (hE.mem t).1 ht
  · rw [Pl.means_at VP.none h.par hx (Int.le_refl _) (h.good x hx).1]
    exact start_new' h hx
  · have := (h.good x hx).1
    rw [Pl.means_at VP.none h.par hx (by omega) (by omega : x.b - 1 < x.b)]
    exact fun e => Chain_lt h hx e.symm
/-- Between two ends nothing changes. -/
theorem ends_same {R : List Pie} {E : List Int} (h : Pl.Line okV R) (hE : EndsOf R E) {k : Nat} (hk : k + 1 < E.length) : Pl.means VP.none R E[k] = Pl.means VP.none R (E[k + 1] - 1) := by
  have hlt : E[k] < E[k + 1] := (List.pairwise_iff_getElem.1 hE.row) k (k + 1) (by omega) hk (by omega)
  have gap : ∀ t, E[k] < t → t < E[k + 1] → t ∉ E := fun t h1 h2 hm => by
    obtain ⟨j, hj, rfl⟩ := List.getElem_of_mem hm
    rcases Nat.lt_or_ge k j with c | c
    · rcases Nat.lt_or_ge j (k + 1) with c2 | c2
      · omega
      · rcases Nat.lt_or_ge (k + 1) j with c3 | c3
        · have := (List.pairwise_iff_getElem.1 hE.row) (k + 1) j hk hj c3
          omega
        · have : j = k + 1 := by omega
          subst this; omega
    · rcases Nat.lt_or_ge j k with c2 | c2
      · have := (List.pairwise_iff_getElem.1 hE.row) j k hj (by omega) c2
        omega
      · have : j = k := by omega
        subst this; omega
  have run : ∀ n : Nat, E[k] + n < E[k + 1] → Pl.means VP.none R E[k] = Pl.means VP.none R (E[k] + n) := by
    intro n
    induction n with
    | zero => intro _; simp
    | succ n ih =>
      intro hn
      rw [ih (by omega), still_ends h hE (E[k] + (n + 1 : Nat)) (gap _ (by omega) (by omega))]
      congr 1
      omega
  have := run (E[k + 1] - 1 - E[k]).toNat (by omega)
  rw [this]
  congr 1
  omega
end Go.Proofs.YtgmaompjhhomcaaGreat

namespace Go.Proofs.YtgmaompjhhomcaaGreat
open Go.RowKit
section
variable {P : Program} {ops : Array Oper} {Q : Exit → Act → World → Prop} {md : Region.Mode} {S : World → Prop}
/-- The state behind the operations that were left out: each of their temporaries is undefined. -/
def skipped (ops : Array Oper) (a : Act) (us : List Nat) : Act := us.foldl (fun a i => a.put ((ops[i]?).bind (·.dst)) undef) a
def skipListed (listed : Array Bool) (us : List Nat) : Array Bool := us.foldl (fun l i => l.setIfInBounds i true) listed
/-- May these be skipped, one behind the other? -/
def maySkip (md : Region.Mode) (ops : Array Oper) : Array Bool → Array Value → List Nat → Bool
  | _, _, [] => true
  | listed, tmps, i :: us =>
    match ops[i]? with
    | none => false
    | some o => Region.free md ops listed i && (Region.ready md ops listed).contains i && !(Region.wanted o (yielded ops tmps)) && maySkip md ops (listed.setIfInBounds i true) (match o.dst with | some d => tmps.setIfInBounds d undef | none => tmps) us
theorem wpAnyH_skip (hs : Region.noSelect ops = true) (hQ : ∀ c (a : Act) (d : Option Tmp) w, Q (.panic c) (a.put d undef) w → Q (.panic c) a w) :
    ∀ (us : List Nat) (fuel : Nat) (listed : Array Bool) (a : Act) (w : World), maySkip md ops listed a.tmps us = true → S w →
      wpAnyH P md ops Q S fuel (skipListed listed us) (skipped ops a us) w → wpAnyH P md ops Q S (fuel + us.length) listed a w
  | [], _, _, _, _, _, _, h => h
  | i :: us, fuel, listed, a, w, hm, hS, h => by
    unfold maySkip at hm
    cases ho : ops[i]? with
    | none => rw [ho] at hm; cases hm
    | some o =>
      rw [ho] at hm
      simp only [Bool.and_eq_true, Bool.not_eq_true'] at hm
      obtain ⟨⟨⟨h1, h2⟩, h3⟩, h4⟩ := hm
      have e : (a.put o.dst undef).tmps = (match o.dst with | some d => a.tmps.setIfInBounds d undef | none => a.tmps) := by
        unfold Act.put; cases o.dst <;> rfl
      have ih := wpAnyH_skip hs hQ us fuel (listed.setIfInBounds i true) (a.put o.dst undef) w (by rw [e]; exact h4) hS (by
        have : skipped ops a (i :: us) = skipped ops (a.put o.dst undef) us := by
          unfold skipped
          rw [List.foldl_cons, ho]
          rfl
        rw [← this]
        exact h)
      have hl : fuel + (i :: us).length = (fuel + us.length) + 1 := by simp; omega
      rw [hl]
      exact wpAnyH_take ho hs h1 h2 (fun c a w hq => hQ c a o.dst w hq) (.inr ⟨h3, rfl⟩) hS ih
end
theorem take_in {P : Program} {md : Region.Mode} {ops : Array Oper} {Q : Exit → Act → World → Prop} {S : World → Prop} {i : Nat} {oi : Oper} {v : Value} {fuel : Nat} {listed : Array Bool} {a : Act} {w : World} (d : Option Nat) (hi : ops[i]? = some oi) (hd : oi.dst = d)
    (hs : Region.noSelect ops = true) (hf : Region.free md ops listed i = true) (hr : (Region.ready md ops listed).contains i = true)
    (hQ : ∀ c a w, Q (.panic c) (a.put d v) w → Q (.panic c) a w) (hy : YieldsIf P ops S oi v a) (hS : S w)
    (h : wpAnyH P md ops Q S fuel (listed.setIfInBounds i true) (a.put d v) w) : wpAnyH P md ops Q S (fuel + 1) listed a w := by
  subst hd
  exact wpAnyH_take hi hs hf hr hQ hy hS h
theorem wpAnyH_skip' {P : Program} {ops : Array Oper} {Q : Exit → Act → World → Prop} {md : Region.Mode} {S : World → Prop} (hs : Region.noSelect ops = true) (hQ : ∀ c (a : Act) (d : Option Tmp) w, Q (.panic c) (a.put d undef) w → Q (.panic c) a w)
    (us : List Nat) (fuel k : Nat) (hk : us.length = k) (listed l' : Array Bool) (a : Act) (w : World) (hm : maySkip md ops listed a.tmps us = true) (he : skipped ops a us = a) (hl : skipListed listed us = l') (hS : S w)
    (h : wpAnyH P md ops Q S fuel l' a w) : wpAnyH P md ops Q S (fuel + k) listed a w := by
  subst hk hl
  exact wpAnyH_skip hs hQ us fuel listed a w hm hS (by rw [he]; exact h)
theorem wpAnyH_skipd {P : Program} {ops : Array Oper} {Q : Exit → Act → World → Prop} {md : Region.Mode} {S : World → Prop} (hs : Region.noSelect ops = true) (hQ : ∀ c (a : Act) (d : Option Tmp) w, Q (.panic c) (a.put d undef) w → Q (.panic c) a w)
    (us ds : List Nat) (fuel k : Nat) (hk : us.length = k) (listed l' : Array Bool) (a : Act) (w : World) (hm : maySkip md ops listed a.tmps us = true) (he : skipped ops a us = ds.foldl (fun a d => a.put (some d) undef) a) (hl : skipListed listed us = l') (hS : S w)
    (h : wpAnyH P md ops Q S fuel l' (ds.foldl (fun a d => a.put (some d) undef) a) w) : wpAnyH P md ops Q S (fuel + k) listed a w := by
  subst hk hl
  exact wpAnyH_skip hs hQ us fuel listed a w hm hS (by rw [he]; exact h)
end Go.Proofs.YtgmaompjhhomcaaGreat

