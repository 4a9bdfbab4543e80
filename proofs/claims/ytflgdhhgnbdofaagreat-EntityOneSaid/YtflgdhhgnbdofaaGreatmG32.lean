/- Arguments opened: a byte. -/
/- Entities in plain words: which are well-formed, what they mean at an instant, that they are known by it, and what operations make of them. No program. -/
/- How long lines and sets of instants can be, by where they change. No program. -/
/- What the effects leave, in plain words: from the lists that the calls make to what is meant at each instant. No program. -/
import Derived.Test.YtflgdhhgnbdofaaGreatmG27
import Derived.Test.YtflgdhhgnbdofaaGreatmG28
import Derived.Test.YtflgdhhgnbdofaaGreatmG31
import Derived.Test.YtflgdhhgnbdofaaGreatmG25
namespace Go.Proofs.YtflgdhhgnbdofaaGreat
open Go.ChangeShapes Go.WideShapes Go.ChangeAt Go.RowKit
set_option maxRecDepth 100000 in
theorem open_u8 {H : Type} {enc : TypeId × Value → H} {W : World} {base b0 : Nat} {sp : Nat → Bool} {held : Bool} {r : Reach} {v : Value} {d : DataW H} {p : List MemPlace} (hv : Value.okWide Tryz.prog W r b0 5 v) (h : DataW.Trod enc Tryz.prog W base sp held 5 v d p) : ∃ f : Nat, v = .int .u8 (f : Int) ∧ f ≤ 255 := by
  obtain ⟨x, rfl⟩ := okWide_int Tryz.underlying5 hv
  obtain ⟨fuel, hf⟩ := h
  obtain ⟨z, e, _, wz⟩ := DataW.trod_int Tryz.underlying5 hf
  simp [Value.cells] at e
  subst e
  have h2 : 0 ≤ x ∧ x ≤ 255 := by simpa [Lit.wf, IntKind.min, IntKind.max, IntKind.signed, IntKind.bits] using wz
  exact ⟨x.toNat, by rw [Int.toNat_of_nonneg h2.1], by omega⟩
end Go.Proofs.YtflgdhhgnbdofaaGreat

namespace Go.Proofs.YtflgdhhgnbdofaaGreat
open Go.RowKit
/-- A key, and the line under it. -/
structure Prp where
  k : ByteArray
  l : List Pie
/-- A node or an edge over time. -/
structure Ent where
  edge : Bool
  id : Int
  lab : ByteArray
  fr : Int
  til : Int
  val : List (Int × Int)
  ps : List Prp
/-- The order of keys. -/
def ltS (a b : ByteArray) : Prop := Op.bytesLess a.toList b.toList = true
theorem bytesLess_lt : ∀ (l m : List UInt8), Op.bytesLess l m = decide (l < m)
  | [], [] => by simp [Op.bytesLess]
  | [], y :: m => by simp [Op.bytesLess]
  | x :: l, [] => by simp [Op.bytesLess]
  | a :: x, b :: y => by
    rw [Op.bytesLess, bytesLess_lt x y]
    simp only [List.cons_lt_cons_iff]
    by_cases h1 : a < b <;> by_cases h2 : a = b <;> by_cases h3 : x < y <;> simp [h1, h2, h3]
theorem ltS_iff {a b : ByteArray} : ltS a b ↔ a.toList < b.toList := by unfold ltS; rw [bytesLess_lt]; exact decide_eq_true_iff
theorem ltS_irrefl (a : ByteArray) : ¬ ltS a a := fun h => List.lt_irrefl _ (ltS_iff.1 h)
theorem ltS_trans {a b c : ByteArray} (h : ltS a b) (k : ltS b c) : ltS a c := ltS_iff.2 (List.lt_trans (ltS_iff.1 h) (ltS_iff.1 k))
theorem toList_inj {a b : ByteArray} (h : a.toList = b.toList) : a = b := by
  rw [ByteArray.toList_eq, ByteArray.toList_eq] at h
  exact ByteArray.ext (Array.toList_inj.1 h)
theorem ltS_tri (a b : ByteArray) : ltS a b ∨ a = b ∨ ltS b a := by
  by_cases h : ltS a b
  · exact .inl h
  · by_cases k : ltS b a
    · exact .inr (.inr k)
    · refine .inr (.inl (toList_inj ?_))
      have h1 := List.not_lt.1 fun g => h (ltS_iff.2 g)
      have h2 := List.not_lt.1 fun g => k (ltS_iff.2 g)
      exact List.le_antisymm h2 h1
open Classical in
/-- The line of a key. -/
noncomputable def lineK : List Prp → ByteArray → List Pie
  | [], _ => []
  | p :: ps, k => if p.k = k then p.l else lineK ps k
/-- What is meant under a key at an instant. -/
noncomputable def atK (ps : List Prp) (k : ByteArray) (t : Int) : VP := Pl.means VP.none (lineK ps k) t
/-- No piece lies outside of V. -/
def inside (V : List (Int × Int)) (l : List Pie) : Prop := ∀ t, Pl.means VP.none l t ≠ VP.none → Se.Iset.has V t = true
/-- Properties that may be, of what is valid in V. -/
structure MayPs (V : List (Int × Int)) (ps : List Prp) : Prop where
  key : ∀ p ∈ ps, Co.wordB p.k = true
  row : ps.Pairwise fun p q => ltS p.k q.k
  line : ∀ p ∈ ps, Pl.Line okV p.l ∧ p.l ≠ [] ∧ inside V p.l
theorem MayPs.tail {V : List (Int × Int)} {p : Prp} {ps : List Prp} (h : MayPs V (p :: ps)) : MayPs V ps :=
  ⟨fun q hq => h.key q (List.mem_cons_of_mem _ hq), (List.pairwise_cons.1 h.row).2, fun q hq => h.line q (List.mem_cons_of_mem _ hq)⟩
theorem lineK_none : ∀ {ps : List Prp} {k : ByteArray}, (∀ p ∈ ps, p.k ≠ k) → lineK ps k = []
  | [], _, _ => rfl
  | p :: ps, k, h => by
    unfold lineK
    rw [if_neg (h p (by simp))]
    exact lineK_none fun q hq => h q (List.mem_cons_of_mem _ hq)
theorem lineK_below {p : Prp} {ps : List Prp} (h : (p :: ps).Pairwise fun p q => ltS p.k q.k) {k : ByteArray} (hk : ltS k p.k) : lineK (p :: ps) k = [] := by
  refine lineK_none fun q hq e => ?_
  rcases List.mem_cons.1 hq with rfl | hq
  · rw [e] at hk; exact ltS_irrefl _ hk
  · have := ltS_trans hk ((List.pairwise_cons.1 h).1 q hq)
    rw [e] at this; exact ltS_irrefl _ this
theorem lineK_self {p : Prp} {ps : List Prp} (h : (p :: ps).Pairwise fun p q => ltS p.k q.k) : lineK ps p.k = [] :=
  lineK_none fun q hq e => by
    have := (List.pairwise_cons.1 h).1 q hq
    rw [e] at this; exact ltS_irrefl _ this
theorem lineK_mem : ∀ {ps : List Prp}, (ps.Pairwise fun p q => ltS p.k q.k) → ∀ {p : Prp}, p ∈ ps → lineK ps p.k = p.l
  | [], _, _, hp => by simp at hp
  | q :: ps, h, p, hp => by
    unfold lineK
    rcases List.mem_cons.1 hp with rfl | hp
    · rw [if_pos rfl]
    · rw [if_neg (fun e => by have := (List.pairwise_cons.1 h).1 p hp; rw [e] at this; exact ltS_irrefl _ this)]
      exact lineK_mem (List.pairwise_cons.1 h).2 hp
theorem lineK_case (ps : List Prp) (k : ByteArray) : (∃ p ∈ ps, p.k = k ∧ lineK ps k = p.l) ∨ ((∀ p ∈ ps, p.k ≠ k) ∧ lineK ps k = []) := by
  induction ps with
  | nil => exact .inr ⟨by simp, rfl⟩
  | cons q ps ih =>
    unfold lineK
    by_cases h : q.k = k
    · rw [if_pos h]; exact .inl ⟨q, by simp, h, rfl⟩
    · rw [if_neg h]
      rcases ih with ⟨p, hp, e1, e2⟩ | ⟨h1, h2⟩
      · exact .inl ⟨p, by simp [hp], e1, e2⟩
      · exact .inr ⟨fun p hp => by
          rcases List.mem_cons.1 hp with rfl | hp
          · exact h
          · exact h1 p hp, h2⟩
/-- The line of any key is a line. -/
theorem MayPs.any {V : List (Int × Int)} {ps : List Prp} (h : MayPs V ps) (k : ByteArray) : Pl.Line okV (lineK ps k) ∧ inside V (lineK ps k) := by
  rcases lineK_case ps k with ⟨p, hp, _, e⟩ | ⟨_, e⟩
  · rw [e]; exact ⟨(h.line p hp).1, (h.line p hp).2.2⟩
  · rw [e]; exact ⟨Pl.Line.nil _, fun t ht => absurd rfl ht⟩
/-- A line that has a piece means something. -/
theorem line_some {l : List Pie} (h : Pl.Line okV l) (hn : l ≠ []) : ∃ t, Pl.means VP.none l t ≠ VP.none := by
  cases l with
  | nil => exact absurd rfl hn
  | cons x l =>
    have hx := h.good x (by simp)
    refine ⟨x.a, fun e => ?_⟩
    rw [Pl.means_at VP.none h.par (by simp : x ∈ x :: l) (Int.le_refl _) hx.1] at e
    exact none_ok (by rw [← e]; exact hx.2.2)
theorem line_none {l : List Pie} (h : Pl.Line okV l) (hm : ∀ t, Pl.means VP.none l t = VP.none) : l = [] :=
  Classical.byContradiction fun hn => by
    obtain ⟨t, ht⟩ := line_some h hn
    exact ht (hm t)
/-- Properties are known by what they mean. -/
theorem MayPs.ext {V W : List (Int × Int)} : ∀ {ps qs : List Prp}, MayPs V ps → MayPs W qs → (∀ k t, atK ps k t = atK qs k t) → ps = qs
  | [], [], _, _, _ => rfl
  | [], q :: qs, _, hq, h => by
    obtain ⟨t, ht⟩ := line_some (hq.line q (by simp)).1 (hq.line q (by simp)).2.1
    have e := h q.k t
    unfold atK at e
    rw [lineK_mem hq.row (by simp : q ∈ q :: qs)] at e
    exact absurd e.symm ht
  | p :: ps, [], hp, _, h => by
    obtain ⟨t, ht⟩ := line_some (hp.line p (by simp)).1 (hp.line p (by simp)).2.1
    have e := h p.k t
    unfold atK at e
    rw [lineK_mem hp.row (by simp : p ∈ p :: ps)] at e
    exact absurd e ht
  | p :: ps, q :: qs, hp, hq, h => by
    have ek : p.k = q.k := by
      rcases ltS_tri p.k q.k with c | c | c
      · obtain ⟨t, ht⟩ := line_some (hp.line p (by simp)).1 (hp.line p (by simp)).2.1
        have e := h p.k t
        unfold atK at e
        rw [lineK_mem hp.row (by simp : p ∈ p :: ps), lineK_below hq.row c] at e
        exact absurd e ht
      · exact c
      · obtain ⟨t, ht⟩ := line_some (hq.line q (by simp)).1 (hq.line q (by simp)).2.1
        have e := h q.k t
        unfold atK at e
        rw [lineK_mem hq.row (by simp : q ∈ q :: qs), lineK_below hp.row c] at e
        exact absurd e.symm ht
    have el : p.l = q.l := by
      refine Pl.Line.ext none_ok (hp.line p (by simp)).1 (hq.line q (by simp)).1 fun t => ?_
      have e := h p.k t
      unfold atK at e
      rw [lineK_mem hp.row (by simp : p ∈ p :: ps), ek, lineK_mem hq.row (by simp : q ∈ q :: qs)] at e
      exact e
    have e : p = q := by cases p; cases q; simp only at ek el; subst ek el; rfl
    subst e
    rw [MayPs.ext hp.tail hq.tail fun k t => ?_]
    by_cases c : p.k = k
    · subst c
      unfold atK
      rw [lineK_self hp.row, lineK_self hq.row]
    · have e := h k t
      unfold atK at e ⊢
      unfold lineK at e
      rw [if_neg c, if_neg c] at e
      exact e
/-- A node or an edge that is well-formed. -/
structure Ent.may (x : Ent) : Prop where
  id : 1 ≤ x.id ∧ x.id ≤ 1099511627776
  lab : x.lab = ByteArray.empty ∨ Co.wordB x.lab = true
  con : (x.edge = true → (1 ≤ x.fr ∧ x.fr ≤ 1099511627776) ∧ 1 ≤ x.til ∧ x.til ≤ 1099511627776) ∧ (x.edge = false → x.fr = 0 ∧ x.til = 0)
  val : Se.Iset.NF x.val
  num : x.ps.length ≤ 16
  ps : MayPs x.val x.ps
/-- Two that stand for the same. -/
structure Ent.kin (x y : Ent) : Prop where
  edge : y.edge = x.edge
  id : y.id = x.id
  lab : y.lab = x.lab
  fr : y.fr = x.fr
  til : y.til = x.til
theorem Ent.kin.refl (x : Ent) : x.kin x := ⟨rfl, rfl, rfl, rfl, rfl⟩
theorem Ent.kin.trans {x y z : Ent} (h : x.kin y) (k : y.kin z) : x.kin z := ⟨k.edge.trans h.edge, k.id.trans h.id, k.lab.trans h.lab, k.fr.trans h.fr, k.til.trans h.til⟩
/-- What is seen is all. -/
theorem Ent.ext {x y : Ent} (hx : x.may) (hy : y.may) (hk : x.kin y) (hv : ∀ t, Se.Iset.has x.val t = Se.Iset.has y.val t) (hp : ∀ k t, atK x.ps k t = atK y.ps k t) : x = y := by
  have e1 := Se.Iset.NF.ext hx.val hy.val hv
  have e2 := hx.ps.ext hy.ps hp
  cases x; cases y
  obtain ⟨h1, h2, h3, h4, h5⟩ := hk
  simp only at h1 h2 h3 h4 h5 e1 e2
  subst h1 h2 h3 h4 h5 e1 e2
  rfl
/-- The properties whose lines have a piece. -/
def full (ps : List Prp) : List Prp := ps.filter fun p => p.l.length != 0
theorem full_line {ps : List Prp} (hr : ps.Pairwise fun p q => ltS p.k q.k) (k : ByteArray) : lineK (full ps) k = lineK ps k := by
  rcases lineK_case ps k with ⟨p, hp, rfl, e⟩ | ⟨h, e⟩
  · rw [e]
    by_cases c : p.l = []
    · rw [c]
      refine lineK_none fun q hq ek => ?_
      have hq' := List.mem_filter.1 hq
      have : q.l = p.l := by rw [← lineK_mem hr hq'.1, ek, e]
      rw [this, c] at hq'
      simp at hq'
    · exact lineK_mem (hr.sublist List.filter_sublist) (List.mem_filter.2 ⟨hp, by simpa using c⟩)
  · rw [e]
    exact lineK_none fun q hq => h q (List.mem_filter.1 hq).1
theorem full_at {ps : List Prp} (hr : ps.Pairwise fun p q => ltS p.k q.k) (k : ByteArray) (t : Int) : atK (full ps) k t = atK ps k t := by unfold atK; rw [full_line hr]
/-- Lines in order of their keys, each within V: those that have a piece may be properties. -/
theorem full_may {V : List (Int × Int)} {ps : List Prp} (hk : ∀ p ∈ ps, Co.wordB p.k = true) (hr : ps.Pairwise fun p q => ltS p.k q.k) (hl : ∀ p ∈ ps, Pl.Line okV p.l ∧ inside V p.l) : MayPs V (full ps) :=
  ⟨fun p hp => hk p (List.mem_filter.1 hp).1, hr.sublist List.filter_sublist, fun p hp => ⟨(hl p (List.mem_filter.1 hp).1).1, by have := (List.mem_filter.1 hp).2; simpa using this, (hl p (List.mem_filter.1 hp).1).2⟩⟩
/-! What operations make of an entity. -/
def kept (x : Ent) (c d : Int) (y : Ent) : Prop := x.kin y ∧ y.may ∧ (∀ t, Se.Iset.has y.val t = true ↔ Se.Iset.has x.val t = true ∨ (c ≤ t ∧ t < d)) ∧ y.ps = x.ps
def dropped (x : Ent) (c d : Int) (y : Ent) : Prop := x.kin y ∧ y.may ∧ (∀ t, Se.Iset.has y.val t = true ↔ Se.Iset.has x.val t = true ∧ ¬ (c ≤ t ∧ t < d)) ∧ ∀ k t, (c ≤ t ∧ t < d → atK y.ps k t = VP.none) ∧ (¬ (c ≤ t ∧ t < d) → atK y.ps k t = atK x.ps k t)
def changed (x : Ent) (c d : Int) (k : ByteArray) (v : VP) (y : Ent) : Prop := x.kin y ∧ y.may ∧ y.val = x.val ∧ ∀ k' t, (k' = k ∧ c ≤ t ∧ t < d → atK y.ps k' t = v) ∧ (¬ (k' = k ∧ c ≤ t ∧ t < d) → atK y.ps k' t = atK x.ps k' t)
end Go.Proofs.YtflgdhhgnbdofaaGreat

namespace Go.Proofs.YtflgdhhgnbdofaaGreat
open Go.RowKit
/-- Nothing changes but at these instants. -/
def Still {α : Type} (B : List Int) (f : Int → α) : Prop := ∀ t, t ∉ B → f t = f (t - 1)
theorem len_sub : ∀ (L B : List Int), L.Pairwise (· ≠ ·) → (∀ x ∈ L, x ∈ B) → L.length ≤ B.length
  | [], _, _, _ => by simp
  | x :: L, B, hp, hs => by
    have hx := hs x (by simp)
    have h1 := List.length_erase_of_mem hx
    have h2 := len_sub L (B.erase x) (List.pairwise_cons.1 hp).2 fun y hy => (List.mem_erase_of_ne fun e => (List.pairwise_cons.1 hp).1 y hy e.symm).2 (hs y (List.mem_cons_of_mem _ hy))
    have h3 : 0 < B.length := List.length_pos_of_mem hx
    rw [List.length_cons]
    omega
theorem start_new : ∀ {l : List Pie}, Pl.Line okV l → ∀ {x : Pie}, x ∈ l → Pl.means VP.none l (x.a - 1) ≠ x.v
  | [], _, _, hx => by simp at hx
  | y :: l, h, x, hx => by
    rcases List.mem_cons.1 hx with rfl | hx'
    · rw [Pl.means_lt VP.none h.par (by omega)]
      exact fun e => none_ok (by rw [e]; exact (h.good x (by simp)).2.2)
    · have hy := (h.good y (by simp)).1
      have ha := h.ahead x hx'
      by_cases c : x.a ≤ y.b
      · have e : x.a = y.b := by omega
        rw [Pl.means_at VP.none h.par (by simp : y ∈ y :: l) (by omega) (by omega)]
        cases l with
        | nil => simp at hx'
        | cons z l =>
          have hz := (h.tail.good z (by simp)).1
          have hf : Pl.follows y z := h.chain.1
          rcases List.mem_cons.1 hx' with rfl | hx2
          · rcases hf with hf | hf
            · omega
            · exact hf.2
          · have := h.tail.ahead x hx2
            unfold Pl.follows at hf
            omega
      · rw [Pl.means_tail VP.none h.par (by omega)]
        exact start_new h.tail hx'
theorem line_len {l : List Pie} {B : List Int} (h : Pl.Line okV l) (hB : Still B (Pl.means VP.none l)) : l.length ≤ B.length := by
  have e : (l.map fun x => x.a).length = l.length := by simp
  rw [← e]
  refine len_sub _ _ ?_ fun t ht => ?_
  · rw [List.pairwise_map]
    refine (List.Pairwise.and_mem.1 h.par.row).imp ?_
    rintro x y ⟨hx, _, hxy⟩ e
    have := (h.good x hx).1
    omega
  · obtain ⟨x, hx, rfl⟩ := List.mem_map.1 ht
    refine Classical.byContradiction fun hn => start_new h hx ?_
    rw [← hB x.a hn]
    exact Pl.means_at VP.none h.par hx (Int.le_refl _) (h.good x hx).1
theorem set_start : ∀ {R : List (Int × Int)}, Se.Iset.NF R → ∀ {p : Int × Int}, p ∈ R → Se.Iset.has R (p.1 - 1) = false
  | [], _, _, hp => by simp at hp
  | q :: R, h, p, hp => by
    rcases List.mem_cons.1 hp with rfl | hp'
    · rw [← Bool.not_eq_true]
      intro g
      have := h.least _ g
      omega
    · rw [Se.Iset.has_cons, set_start h.cons hp', Bool.or_false, ← Bool.not_eq_true, Se.Iset.hasP_iff]
      intro g
      have h1 := (List.pairwise_cons.1 h.apart).1 p hp'
      omega
theorem set_len {R : List (Int × Int)} {B : List Int} (h : Se.Iset.NF R) (hB : Still B (Se.Iset.has R)) : R.length ≤ B.length := by
  have e : (R.map fun x => x.1).length = R.length := by simp
  rw [← e]
  refine len_sub _ _ ?_ fun t ht => ?_
  · rw [List.pairwise_map]
    refine (List.Pairwise.and_mem.1 h.apart).imp ?_
    rintro x y ⟨hx, _, hxy⟩ e
    have := (Se.Iset.mayP_iff x).1 (h.may x hx)
    omega
  · obtain ⟨x, hx, rfl⟩ := List.mem_map.1 ht
    refine Classical.byContradiction fun hn => ?_
    have h1 := set_start h hx
    rw [← hB x.1 hn] at h1
    have h2 : Se.Iset.has R x.1 = true := (Se.Iset.has_iff R x.1).2 ⟨x, hx, by
      have := (Se.Iset.mayP_iff x).1 (h.may x hx)
      rw [Se.Iset.hasP_iff]
      omega⟩
    rw [h1] at h2
    cases h2
/-- An entity changes at these instants alone. -/
structure Ent.still (x : Ent) (B : List Int) : Prop where
  val : Still B (Se.Iset.has x.val)
  ps : ∀ k, Still B (atK x.ps k)
theorem Ent.still.lens {x : Ent} {B : List Int} (h : x.still B) (hm : x.may) : x.val.length ≤ B.length ∧ ∀ p ∈ x.ps, p.l.length ≤ B.length :=
  ⟨set_len hm.val h.val, fun p hp => line_len (hm.ps.line p hp).1 fun t ht => by
    have := h.ps p.k t ht
    unfold atK at this
    rwa [lineK_mem hm.ps.row hp] at this⟩
theorem in_still {c d t : Int} (h1 : t ≠ c) (h2 : t ≠ d) : (c ≤ t ∧ t < d) ↔ (c ≤ t - 1 ∧ t - 1 < d) := by omega
theorem kept.still {x y : Ent} {c d : Int} {B : List Int} (h : kept x c d y) (hx : x.still B) : y.still (c :: d :: B) := by
  refine ⟨fun t ht => ?_, fun k t ht => ?_⟩ <;> simp only [List.mem_cons, not_or] at ht
  · rw [Bool.eq_iff_iff, h.2.2.1, h.2.2.1, hx.val t ht.2.2, in_still ht.1 ht.2.1]
  · rw [h.2.2.2]; exact hx.ps k t ht.2.2
theorem dropped.still {x y : Ent} {c d : Int} {B : List Int} (h : dropped x c d y) (hx : x.still B) : y.still (c :: d :: B) := by
  refine ⟨fun t ht => ?_, fun k t ht => ?_⟩ <;> simp only [List.mem_cons, not_or] at ht
  · rw [Bool.eq_iff_iff, h.2.2.1, h.2.2.1, hx.val t ht.2.2, in_still ht.1 ht.2.1]
  · have e := in_still ht.1 ht.2.1
    by_cases g : c ≤ t ∧ t < d
    · rw [(h.2.2.2 k t).1 g, (h.2.2.2 k (t - 1)).1 (e.1 g)]
    · rw [(h.2.2.2 k t).2 g, (h.2.2.2 k (t - 1)).2 fun g' => g (e.2 g')]
      exact hx.ps k t ht.2.2
theorem changed.still {x y : Ent} {c d : Int} {k : ByteArray} {v : VP} {B : List Int} (h : changed x c d k v y) (hx : x.still B) : y.still (c :: d :: B) := by
  refine ⟨fun t ht => ?_, fun k' t ht => ?_⟩ <;> simp only [List.mem_cons, not_or] at ht
  · rw [h.2.2.1]; exact hx.val t ht.2.2
  · have e := in_still ht.1 ht.2.1
    by_cases g : k' = k ∧ c ≤ t ∧ t < d
    · rw [(h.2.2.2 k' t).1 g, (h.2.2.2 k' (t - 1)).1 ⟨g.1, e.1 g.2⟩]
    · rw [(h.2.2.2 k' t).2 g, (h.2.2.2 k' (t - 1)).2 fun g' => g ⟨g'.1, e.2 g'.2⟩]
      exact hx.ps k' t ht.2.2
end Go.Proofs.YtflgdhhgnbdofaaGreat

namespace Go.Proofs.YtflgdhhgnbdofaaGreat
open Go.RowKit
theorem inside.mono {V W : List (Int × Int)} {l : List Pie} (h : inside V l) (hvw : ∀ t, Se.Iset.has V t = true → Se.Iset.has W t = true) : inside W l := fun t ht => hvw t (h t ht)
theorem MayPs.mono {V W : List (Int × Int)} {ps : List Prp} (h : MayPs V ps) (hvw : ∀ t, Se.Iset.has V t = true → Se.Iset.has W t = true) : MayPs W ps :=
  ⟨h.key, h.row, fun p hp => ⟨(h.line p hp).1, (h.line p hp).2.1, (h.line p hp).2.2.mono hvw⟩⟩
theorem has_one {c d : Int} (hp : c < d ∧ d ≤ 1099511627776) (t : Int) : Se.Iset.has [(c, d)] t = true ↔ c ≤ t ∧ t < d := by
  rw [Se.Iset.has_cons, Se.Iset.has_nil, Bool.or_false, Se.Iset.hasP_iff]
  exact ⟨fun h => h.2, fun h => ⟨hp, h⟩⟩
theorem full_all {V : List (Int × Int)} {ps : List Prp} (h : MayPs V ps) : full ps = ps :=
  List.filter_eq_self.2 fun p hp => by
    have := (h.line p hp).2.1
    simpa using this
theorem kept_of {x : Ent} {c d : Int} {R : List (Int × Int)} (hx : x.may) (hp : c < d ∧ d ≤ 1099511627776) (hr : Se.Iset.Res Se.kOr x.val [(c, d)] R) : kept x c d { x with val := R, ps := full x.ps } := by
  have e : ∀ t, Se.Iset.has R t = true ↔ Se.Iset.has x.val t = true ∨ (c ≤ t ∧ t < d) := fun t => by rw [hr.has t, Bool.or_eq_true, has_one hp]
  refine ⟨⟨rfl, rfl, rfl, rfl, rfl⟩, ⟨hx.id, hx.lab, hx.con, hr.nf, ?_, ?_⟩, e, full_all hx.ps⟩
  · simp only [full_all hx.ps]; exact hx.num
  · simp only [full_all hx.ps]; exact hx.ps.mono fun t ht => (e t).2 (.inl ht)
/-- Each line is what it was within V. -/
structure Cut (V : List (Int × Int)) (ps qs : List Prp) : Prop where
  len : qs.length = ps.length
  at' : ∀ i (h : i < ps.length) (g : i < qs.length), qs[i].k = ps[i].k ∧ Pl.WithinR okV VP.none ps[i].l V qs[i].l
theorem Cut.mem {V : List (Int × Int)} {ps qs : List Prp} (h : Cut V ps qs) {q : Prp} (hq : q ∈ qs) : ∃ p ∈ ps, q.k = p.k ∧ Pl.WithinR okV VP.none p.l V q.l := by
  obtain ⟨i, hi, rfl⟩ := List.getElem_of_mem hq
  exact ⟨ps[i]'(h.len ▸ hi), List.getElem_mem _, h.at' i (h.len ▸ hi) hi⟩
theorem Cut.row {V : List (Int × Int)} {ps qs : List Prp} (h : Cut V ps qs) (hr : ps.Pairwise fun p q => ltS p.k q.k) : qs.Pairwise fun p q => ltS p.k q.k := by
  rw [List.pairwise_iff_getElem] at hr ⊢
  intro i j hi hj hij
  rw [(h.at' i (h.len ▸ hi) hi).1, (h.at' j (h.len ▸ hj) hj).1]
  exact hr i j _ _ hij
theorem Cut.at {V : List (Int × Int)} {ps qs : List Prp} (h : Cut V ps qs) (hr : ps.Pairwise fun p q => ltS p.k q.k) (k : ByteArray) (t : Int) : atK qs k t = if Se.Iset.has V t = true then atK ps k t else VP.none := by
  unfold atK
  rcases lineK_case qs k with ⟨q, hq, rfl, e⟩ | ⟨hn, e⟩
  · obtain ⟨p, hp, ek, hw⟩ := h.mem hq
    rw [e, ek, lineK_mem hr hp, hw.means t]
  · rw [e, lineK_none (ps := ps) fun p hp ek => by
      obtain ⟨i, hi, rfl⟩ := List.getElem_of_mem hp
      exact hn (qs[i]'(h.len.symm ▸ hi)) (List.getElem_mem _) ((h.at' i hi (h.len.symm ▸ hi)).1.trans ek)]
    split <;> rfl
theorem dropped_of {x : Ent} {c d : Int} {R : List (Int × Int)} {qs : List Prp} (hx : x.may) (hp : c < d ∧ d ≤ 1099511627776) (hr : Se.Iset.Res Se.kLess x.val [(c, d)] R) (hq : Cut R x.ps qs) : dropped x c d { x with val := R, ps := full qs } := by
  have e : ∀ t, Se.Iset.has R t = true ↔ Se.Iset.has x.val t = true ∧ ¬ (c ≤ t ∧ t < d) := fun t => by rw [hr.has t, Bool.and_eq_true, Bool.not_eq_true', ← Bool.not_eq_true, has_one hp]
  have hrow := hq.row hx.ps.row
  refine ⟨⟨rfl, rfl, rfl, rfl, rfl⟩, ⟨hx.id, hx.lab, hx.con, hr.nf, ?_, ?_⟩, e, fun k t => ?_⟩
  · have h1 := hx.num
    have h2 := hq.len
    have h3 : (full qs).length ≤ qs.length := List.length_filter_le _ _
    show (full qs).length ≤ 16
    omega
  · refine full_may (fun q hm => ?_) hrow fun q hm => ?_
    · obtain ⟨p, hpm, ek, _⟩ := hq.mem hm
      rw [ek]; exact hx.ps.key p hpm
    · obtain ⟨p, hpm, ek, hw⟩ := hq.mem hm
      refine ⟨hw.line, fun t ht => ?_⟩
      rw [hw.means t] at ht
      exact Classical.byContradiction fun g => ht (if_neg g)
  · show (_ → atK (full qs) k t = _) ∧ (_ → atK (full qs) k t = _)
    rw [full_at hrow, hq.at hx.ps.row]
    refine ⟨fun g => if_neg fun h => ((e t).1 h).2 g, fun g => ?_⟩
    by_cases hv : Se.Iset.has x.val t = true
    · rw [if_pos ((e t).2 ⟨hv, g⟩)]
    · rw [if_neg fun h => hv ((e t).1 h).1]
      exact Classical.byContradiction fun n => hv ((hx.ps.any k).2 t fun m => n m.symm)
/-- The line of one key is L, all others are as they were. -/
structure Put (ps : List Prp) (k : ByteArray) (L : List Pie) (qs : List Prp) : Prop where
  row : qs.Pairwise fun p q => ltS p.k q.k
  mem : ∀ q ∈ qs, (q.k = k ∧ q.l = L) ∨ q ∈ ps
  has : ∃ q ∈ qs, q.k = k ∧ q.l = L
  old : ∀ p ∈ ps, p.k ≠ k → p ∈ qs
theorem Put.line {ps qs : List Prp} {k : ByteArray} {L : List Pie} (h : Put ps k L qs) (k' : ByteArray) : (k' = k → lineK qs k' = L) ∧ (k' ≠ k → lineK qs k' = lineK ps k') := by
  obtain ⟨q, hq, e1, e2⟩ := h.has
  refine ⟨fun e => ?_, fun e => ?_⟩
  · rw [e, ← e1, lineK_mem h.row hq, e2]
  · rcases lineK_case ps k' with ⟨p, hp, rfl, el⟩ | ⟨hn, el⟩
    · rw [el, lineK_mem h.row (h.old p hp e)]
    · rw [el]
      refine lineK_none fun r hr ek => ?_
      rcases h.mem r hr with g | g
      · exact e (by rw [← ek, g.1])
      · exact hn r g ek
theorem changed_of {x : Ent} {c d : Int} {k : ByteArray} {v : VP} {L : List Pie} {qs : List Prp} (hx : x.may) (hk : Co.wordB k = true) (hc : ∀ t, c ≤ t ∧ t < d → Se.Iset.has x.val t = true) (hl : Pl.SetR okV VP.none (lineK x.ps k) c d v L) (hq : Put x.ps k L qs) (hn : qs.length ≤ 16) : changed x c d k v { x with ps := full qs } := by
  have hin : inside x.val L := fun t ht => by
    by_cases g : c ≤ t ∧ t < d
    · exact hc t g
    · rw [(hl.means t).2 g] at ht
      exact (hx.ps.any k).2 t ht
  refine ⟨⟨rfl, rfl, rfl, rfl, rfl⟩, ⟨hx.id, hx.lab, hx.con, hx.val, ?_, ?_⟩, rfl, fun k' t => ?_⟩
  · have h3 : (full qs).length ≤ qs.length := List.length_filter_le _ _
    show (full qs).length ≤ 16
    omega
  · refine full_may (fun q hm => ?_) hq.row fun q hm => ?_
    · rcases hq.mem q hm with g | g
      · rw [g.1]; exact hk
      · exact hx.ps.key q g
    · rcases hq.mem q hm with g | g
      · rw [g.2]; exact ⟨hl.line, hin⟩
      · exact ⟨(hx.ps.line q g).1, (hx.ps.line q g).2.2⟩
  · show (_ → atK (full qs) k' t = _) ∧ (_ → atK (full qs) k' t = _)
    rw [full_at hq.row]
    have hh := hq.line k'
    unfold atK
    by_cases e : k' = k
    · rw [hh.1 e, e]
      exact ⟨fun g => (hl.means t).1 g.2, fun g => (hl.means t).2 fun n => g ⟨rfl, n⟩⟩
    · rw [hh.2 e]
      exact ⟨fun g => absurd g.1 e, fun _ => rfl⟩
/-- Where a key is, or would have to be. -/
structure Place (ps : List Prp) (k : ByteArray) (i : Nat) : Prop where
  le : i ≤ ps.length
  lo : ∀ j (h : j < ps.length), j < i → ltS ps[j].k k
  hi : ∀ j (h : j < ps.length), i ≤ j → ¬ ltS ps[j].k k
theorem Place.there {ps : List Prp} {k : ByteArray} {i : Nat} (h : Place ps k i) (hr : ps.Pairwise fun p q => ltS p.k q.k) : (∀ g : i < ps.length, ps[i].k = k → lineK ps k = ps[i].l) ∧ ((∀ g : i < ps.length, ps[i].k ≠ k) → ∀ p ∈ ps, p.k ≠ k) := by
  refine ⟨fun g e => ?_, fun g p hp e => ?_⟩
  · rw [← e]; exact lineK_mem hr (List.getElem_mem g)
  · obtain ⟨j, hj, rfl⟩ := List.getElem_of_mem hp
    rcases Nat.lt_trichotomy j i with c | c | c
    · have := h.lo j hj c
      rw [e] at this; exact ltS_irrefl _ this
    · subst c; exact g hj e
    · have h1 := (List.pairwise_iff_getElem.1 hr) i j (by omega) hj c
      rw [e] at h1
      exact h.hi i (by omega) (Nat.le_refl _) h1
theorem put_set {ps : List Prp} {k : ByteArray} {L : List Pie} {i : Nat} (hr : ps.Pairwise fun p q => ltS p.k q.k) (hi : i < ps.length) (he : ps[i].k = k) : Put ps k L (ps.set i ⟨k, L⟩) := by
  have hkey : ∀ j (h : j < (ps.set i ⟨k, L⟩).length) (h' : j < ps.length), (ps.set i ⟨k, L⟩)[j].k = ps[j].k := fun j h h' => by
    rw [List.getElem_set]
    split
    · next e => subst e; exact he.symm
    · rfl
  refine ⟨?_, fun q hq => ?_, ⟨⟨k, L⟩, List.mem_iff_getElem.2 ⟨i, by simpa using hi, by simp⟩, rfl, rfl⟩, fun p hp e => ?_⟩
  · rw [List.pairwise_iff_getElem] at hr ⊢
    intro a b ha hb hab
    rw [hkey a ha (by simpa using ha), hkey b hb (by simpa using hb)]
    exact hr a b _ _ hab
  · rcases List.mem_or_eq_of_mem_set hq with g | g
    · exact .inr g
    · subst g; exact .inl ⟨rfl, rfl⟩
  · obtain ⟨j, hj, rfl⟩ := List.getElem_of_mem hp
    refine List.mem_iff_getElem.2 ⟨j, by simpa using hj, ?_⟩
    rw [List.getElem_set]
    split
    · next c => subst c; exact absurd he e
    · rfl
theorem put_insert {ps : List Prp} {k : ByteArray} {L : List Pie} {i : Nat} (hr : ps.Pairwise fun p q => ltS p.k q.k) (h : Place ps k i) (hn : ∀ g : i < ps.length, ps[i].k ≠ k) : Put ps k L (ps.take i ++ ⟨k, L⟩ :: ps.drop i) := by
  have h1 : ∀ p ∈ ps.take i, ltS p.k k := fun p hp => by
    obtain ⟨j, hj, rfl⟩ := List.getElem_of_mem hp
    have : j < i ∧ j < ps.length := by simp at hj; omega
    rw [List.getElem_take]
    exact h.lo j this.2 this.1
  have h2 : ∀ p ∈ ps.drop i, ltS k p.k := fun p hp => by
    have hne := (h.there hr).2 hn p (List.mem_of_mem_drop hp)
    obtain ⟨j, hj, rfl⟩ := List.getElem_of_mem hp
    have : i + j < ps.length := by simp at hj; omega
    rw [List.getElem_drop] at hne ⊢
    rcases ltS_tri k ps[i + j].k with c | c | c
    · exact c
    · exact absurd c.symm hne
    · exact absurd c (h.hi (i + j) this (by omega))
  refine ⟨?_, fun q hq => ?_, ⟨⟨k, L⟩, by simp, rfl, rfl⟩, fun p hp _ => ?_⟩
  · refine List.pairwise_append.2 ⟨hr.sublist (List.take_sublist _ _), List.pairwise_cons.2 ⟨h2, hr.sublist (List.drop_sublist _ _)⟩, fun p hp q hq => ?_⟩
    rcases List.mem_cons.1 hq with rfl | hq
    · exact h1 p hp
    · exact ltS_trans (h1 p hp) (h2 q hq)
  · rcases List.mem_append.1 hq with g | g
    · exact .inr (List.mem_of_mem_take g)
    · rcases List.mem_cons.1 g with rfl | g
      · exact .inl ⟨rfl, rfl⟩
      · exact .inr (List.mem_of_mem_drop g)
  · rw [← List.take_append_drop i ps] at hp
    rcases List.mem_append.1 hp with g | g
    · exact List.mem_append.2 (.inl g)
    · exact List.mem_append.2 (.inr (List.mem_cons_of_mem _ g))
/-- Null set under a key that is none: nothing changes. -/
theorem changed_none {x : Ent} {c d : Int} {k : ByteArray} (hx : x.may) (hn : lineK x.ps k = []) : changed x c d k VP.none { x with ps := full x.ps } := by
  rw [full_all hx.ps]
  refine ⟨Ent.kin.refl x, hx, rfl, fun k' t => ⟨fun g => ?_, fun _ => rfl⟩⟩
  show atK x.ps k' t = _
  unfold atK
  rw [g.1, hn]; rfl
end Go.Proofs.YtflgdhhgnbdofaaGreat

