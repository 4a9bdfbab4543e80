/- The instants at which a line says what is chosen: instants, Span. -/
/- A region that draws its order: operations whose guard leaves them out, skipped all at once. -/
/- Entities in plain words: which are well-formed, what they mean at an instant, that they are known by it, and what operations make of them. No program. -/
/- How long lines and sets of instants can be, by where they change. No program. -/
/- What the effects leave, in plain words: from the lists that the calls make to what is meant at each instant. No program. -/
/- Entities in memory; ids, labels, what an edge joins. -/
/- Where a key is among properties: the library's search, find. -/
/- Arguments opened: a byte. -/
import Derived.Test.YtmolpogehgeebaaGreatbH3
import Derived.Test.YtmolpogehgeebaaGreatbQ1
import Derived.Deep.RegionHeld3
import Derived.Test.YtmolpogehgeebaaGreatbB13
import Derived.Test.YtmolpogehgeebaaGreatbCO1
import Derived.Test.YtmolpogehgeebaaGreatbH8
import Derived.Test.YtmolpogehgeebaaGreatbL1
import Derived.Test.YtmolpogehgeebaaGreatbCOJ
namespace Go.Proofs.YtmolpogehgeebaaGreat
open Go.RowKit
/-- The periods of pieces. -/
def pers (l : List Pie) : List (Int × Int) := l.map fun x => (x.a, x.b)
/-- The periods of those whose values are chosen. -/
def chosen (sel : VP → Bool) (l : List Pie) : List (Int × Int) := pers (l.filter fun x => sel x.v)
theorem chosen_length (sel : VP → Bool) (l : List Pie) : (chosen sel l).length ≤ l.length := by
  unfold chosen pers
  rw [List.length_map]
  exact List.length_filter_le _ _
theorem chosen_take_yes {sel : VP → Bool} {l : List Pie} {k : Nat} (h : k < l.length) (hs : sel l[k].v = true) : chosen sel (l.take (k + 1)) = chosen sel (l.take k) ++ [(l[k].a, l[k].b)] := by
  unfold chosen pers
  rw [List.take_succ_eq_append_getElem h, List.filter_append, List.map_append]
  simp [hs]
theorem chosen_take_no {sel : VP → Bool} {l : List Pie} {k : Nat} (h : k < l.length) (hs : sel l[k].v = false) : chosen sel (l.take (k + 1)) = chosen sel (l.take k) := by
  unfold chosen pers
  rw [List.take_succ_eq_append_getElem h, List.filter_append, List.map_append]
  simp [hs]
theorem chosen_has {sel : VP → Bool} {l : List Pie} (hl : Pl.Line okV l) (t : Int) : Se.Iset.has (Se.Iset.nf (chosen sel l)) t = true ↔ ∃ x ∈ l, (x.a ≤ t ∧ t < x.b) ∧ sel x.v = true := by
  rw [Se.Iset.nf_has, Se.Iset.has_iff]
  unfold chosen pers
  constructor
  · rintro ⟨p, hp, ht⟩
    obtain ⟨x, hx, rfl⟩ := List.mem_map.1 hp
    rw [List.mem_filter] at hx
    exact ⟨x, hx.1, ((Se.Iset.hasP_iff _ _).1 ht).2, hx.2⟩
  · rintro ⟨x, hx, ht, hs⟩
    have := hl.good x hx
    exact ⟨(x.a, x.b), List.mem_map.2 ⟨x, List.mem_filter.2 ⟨hx, hs⟩, rfl⟩, (Se.Iset.hasP_iff _ _).2 ⟨⟨this.1, this.2.1⟩, ht⟩⟩
/-- A call that answers this new set. -/
def SetIs (S : List (Int × Int)) (w : World) (e : Ending) (w' : World) : Prop := ∃ u, e = .returned u ∧ Se.OwnP w.heap.size w' u S ∧ Below w.heap.size w w'
section
set_option maxRecDepth 100000
set_option maxHeartbeats 8000000
theorem instants_any (F : FuncId) (cb : Array Value) (eg : ∀ args w, (callFunc F args).run Tryz.prog w = .ok (.enter F args) w) (sel : VP → Bool) (v : Value) (l : List Pie) (w : World) (h : SL w v l) (hl : Pl.Line okV l) (hn : l.length ≤ 1000000000000)
    (hc : ∀ k (hk : k < l.length) W, Below w.heap.size w W → Calls Tryz.prog F (#[l[k].v.val] ++ cb) W fun e w' => e = .returned (.bool (sel l[k].v)) ∧ Below W.heap.size W w') :
    Calls Tryz.prog 208 #[v, .func (.func F) #[] cb] w (SetIs (Se.Iset.nf (chosen sel l)) w) := by
  have CI := Lib.hid (fun W (hb : Below w.heap.size w W) => (Is_any v l W (h.below hb) (line_w hl)).mono fun _ _ h => h.yes hl)
  obtain ⟨A, c, rfl, hA, hm⟩ := h
  have HA := Lib.hid hA
  have HC := Lib.hid hc
  have CL := Lib.hid (chosen_length sel)
  clear hA hc hl
  have hsf := store_float
  go_enter Tryz.func208, Tryz.ntmps208
  go_wp2_with (go_at_call 162; (with_reducible refine (CI.out _ (Below.refl _ _)).mono ?_); rintro e w1 ⟨rfl, hb⟩; have B1 := Lib.hid hb; clear hb)
  go_loopw [5, 13] (fun u i wr => ∃ k : Nat, k ≤ l.length ∧ i = .int .i64 k ∧ Se.OwnP w.heap.size wr u (chosen sel (l.take k)) ∧ Below w.heap.size w wr) (fun _ i _ => l.length - (intOf i).toNat)
  case atStart => exact ⟨0, Nat.zero_le _, rfl, Se.OwnP.nil _ _, B1.out⟩
  case round =>
    obtain ⟨k, hk, rfl, ho, hb⟩ := hrel
    have HO := Lib.hid ho
    have HB := Lib.hid hb
    clear ho hb
    by_cases hlt : k < l.length
    · obtain ⟨g, off, rfl, lg, cg⟩ := (HA.out.below HB.out) (by omega)
      have r := cg k hlt
      have CK := Lib.hid (HC.out k hlt)
      have YY := Lib.hid (chosen_take_yes (sel := sel) hlt)
      have NN := Lib.hid (chosen_take_no (sel := sel) hlt)
      have i0 : (k : Int) < (l.length : Int) := by omega
      have i1 : (0 : Int) ≤ (k : Int) := by omega
      clear cg
      obtain ⟨x, hx⟩ : ∃ x, l[k] = x := ⟨_, rfl⟩
      rw [hx] at r CK YY NN
      clear hx
      obtain ⟨a, b, ⟨kk, vb, n, f, s⟩⟩ := x
      simp only at CK YY NN
      go_upto_region 7 with (refine wpList_load_mid rfl 148 (.tmp 15) rfl g (off + k * 7) rfl _ _ r Tryz.underlying148 rfl rowL ?_)
      have X0 := Lib.hid (Bx.new wr (Pie.cells ⟨a, b, ⟨kk, vb, n, f, s⟩⟩) 148)
      have HB0 := Lib.hid (HB.out.trans (((Below.refl wr.heap.size wr).alloc (Nat.le_refl _) (.cells (Pie.cells ⟨a, b, ⟨kk, vb, n, f, s⟩⟩) 148)).mono HB.out.size))
      have HO0 := Lib.hid (HO.out.alloc (.cells (Pie.cells ⟨a, b, ⟨kk, vb, n, f, s⟩⟩) 148))
      obtain ⟨W, hW⟩ : ∃ W, wr.alloc (.cells (Pie.cells ⟨a, b, ⟨kk, vb, n, f, s⟩⟩) 148) = W := ⟨_, rfl⟩
      rw [hW] at X0 HB0 HO0 ⊢
      clear hW
      have x0 := X0.out.c
      obtain ⟨q, hq⟩ : ∃ q, sel ⟨kk, vb, n, f, s⟩ = q := ⟨_, rfl⟩
      rw [hq] at CK YY NN
      clear hq
      go_wp2_with fail
      refine (CK.out _ HB0.out).mono ?_
      rintro e w2 ⟨rfl, hb⟩
      have HB2 := Lib.hid (HB0.out.trans (hb.mono HB0.out.size))
      have HO2 := Lib.hid (HO0.out.below hb)
      have X2 := Lib.hid (X0.out.below hb)
      clear hb x0
      cases q
      · have E := Lib.hid (NN.out rfl)
        go_wp2_with fail
        exact ⟨⟨k + 1, by omega, by go_num, by rw [E.out]; exact HO2.out, HB2.out⟩, by simp [intOf]; omega⟩
      · have E := Lib.hid (YY.out rfl)
        have x0 := X2.out.c
        have LN : Hid ((chosen sel (l.take k)).length ≤ 1000000000000) := Lib.hid (by have := CL.out (l.take k); simp at this; omega)
        have HO3 := Lib.hid (HO2.out.alloc (.cells #[.int .u64 a, .int .u64 b] 33))
        have NB := Lib.hid (Bx.new w2 #[.int .u64 a, .int .u64 b] 33)
        have hsz := HB2.out.size
        go_wp2_with (at_builtin; refine Se.wpList_appP rfl (.tmp 21) (.tmp 24) rfl w.heap.size _ _ rfl HO3.out w2.heap.size a b rfl (NB.out.c 0) (NB.out.c 1) LN.out (by simp; omega) ?_; intro v6 w6 ho6 hb6 _; have O6 := Lib.hid ho6; have B6 := Lib.hid hb6; clear ho6 hb6)
        exact ⟨⟨k + 1, by omega, by go_num, by rw [E.out]; exact O6.out, (HB2.out.alloc HB2.out.size _).trans B6.out⟩, by simp [intOf]; omega⟩
    · obtain rfl : k = l.length := by omega
      rw [List.take_length] at HO
      have CO := Lib.hid (Se.Of_any u5 (chosen sel l) wr HO.out.at (by have := CL.out l; omega))
      go_wp2_with (go_at_call 121; (with_reducible refine (CO.out).mono ?_); rintro e w3 ⟨u3, rfl, ho, hb⟩; have O3 := Lib.hid ho; have B3 := Lib.hid hb; clear ho hb)
      go_ret
      exact ⟨_, rfl, O3.out.mono HB.out.size, HB.out.trans (B3.out.mono HB.out.size)⟩
theorem Span1_any (x : VP) (w : World) : Calls Tryz.prog 209 (#[x.val] ++ #[]) w fun e w' => e = .returned (.bool true) ∧ Below w.heap.size w w' := by
  have hsf := store_float
  obtain ⟨k, b, n, f, s⟩ := x
  show Calls _ _ #[_] _ _
  go_enter Tryz.func209, Tryz.ntmps209
  go_wp2
  go_ret
  exact ⟨rfl, (Below.refl _ _).alloc (Nat.le_refl _) _⟩
/-- The instants of all pieces of a line. -/
noncomputable def spanL (l : List Pie) : List (Int × Int) := Se.Iset.nf (chosen (fun _ => true) l)
theorem Span_any (v : Value) (l : List Pie) (w : World) (h : SL w v l) (hl : Pl.Line okV l) (hn : l.length ≤ 1000000000000) :
    Calls Tryz.prog 163 #[v] w (SetIs (spanL l) w) := by
  have C := Lib.hid (instants_any 209 #[] (enters_of Tryz.func209 (by kernel_rfl) rfl) (fun _ => true) v l w h hl hn fun k hk W _ => Span1_any _ W)
  obtain ⟨A, c, rfl, _⟩ := h
  clear hl
  go_enter Tryz.func163, Tryz.ntmps163
  go_wp2_with (go_at_call 208; (with_reducible refine (C.out).mono ?_); rintro e w3 ⟨u3, rfl, ho, hb⟩; have O3 := Lib.hid ho; have B3 := Lib.hid hb; clear ho hb)
  go_ret
  exact ⟨_, rfl, O3.out, B3.out⟩
end
end Go.Proofs.YtmolpogehgeebaaGreat


namespace Go.Proofs.YtmolpogehgeebaaGreat
open Go.RowKit
section
variable {P : Program} {ops : Array Oper} {Q : Exit → Act → World → Prop} {md : Region.Mode} {S : World → Prop}
/-- The state behind the operations that were left out: each of their temporaries is undefined. -/
def skipped (ops : Array Oper) (a : Act) (us : List Nat) : Act := us.foldl (fun a i => a.put ((ops[i]?).bind (·.dst)) undef) a
def skipListed (listed : Array Bool) (us : List Nat) : Array Bool := us.foldl (fun l i => l.setIfInBounds i true) listed
/-- May these be skipped, one behind the other? -/
def maySkip (md : Region.Mode) (ops : Array Oper) : Array Bool → Array Value → List Nat → Bool
  | _, _, [] => true
  | listed, tmps, i :: us =>
    match ops[i]? with
    | none => false
    | some o => Region.free md ops listed i && (Region.ready md ops listed).contains i && !(Region.wanted o (yielded ops tmps)) && maySkip md ops (listed.setIfInBounds i true) (match o.dst with | some d => tmps.setIfInBounds d undef | none => tmps) us
theorem wpAnyH_skip (hs : Region.noSelect ops = true) (hQ : ∀ c (a : Act) (d : Option Tmp) w, Q (.panic c) (a.put d undef) w → Q (.panic c) a w) :
    ∀ (us : List Nat) (fuel : Nat) (listed : Array Bool) (a : Act) (w : World), maySkip md ops listed a.tmps us = true → S w →
      wpAnyH P md ops Q S fuel (skipListed listed us) (skipped ops a us) w → wpAnyH P md ops Q S (fuel + us.length) listed a w
  | [], _, _, _, _, _, _, h => h
  | i :: us, fuel, listed, a, w, hm, hS, h => by
    unfold maySkip at hm
    cases ho : ops[i]? with
    | none => rw [ho] at hm; cases hm
    | some o =>
      rw [ho] at hm
      simp only [Bool.and_eq_true, Bool.not_eq_true'] at hm
      obtain ⟨⟨⟨h1, h2⟩, h3⟩, h4⟩ := hm
      have e : (a.put o.dst undef).tmps = (match o.dst with | some d => a.tmps.setIfInBounds d undef | none => a.tmps) := by
        unfold Act.put; cases o.dst <;> rfl
      have ih := wpAnyH_skip hs hQ us fuel (listed.setIfInBounds i true) (a.put o.dst undef) w (by rw [e]; exact h4) hS (by
        have : skipped ops a (i :: us) = skipped ops (a.put o.dst undef) us := by
          unfold skipped
          rw [List.foldl_cons, ho]
          rfl
        rw [← this]
        exact h)
      have hl : fuel + (i :: us).length = (fuel + us.length) + 1 := by simp; omega
      rw [hl]
      exact wpAnyH_take ho hs h1 h2 (fun c a w hq => hQ c a o.dst w hq) (.inr ⟨h3, rfl⟩) hS ih
end
theorem take_in {P : Program} {md : Region.Mode} {ops : Array Oper} {Q : Exit → Act → World → Prop} {S : World → Prop} {i : Nat} {oi : Oper} {v : Value} {fuel : Nat} {listed : Array Bool} {a : Act} {w : World} (d : Option Nat) (hi : ops[i]? = some oi) (hd : oi.dst = d)
    (hs : Region.noSelect ops = true) (hf : Region.free md ops listed i = true) (hr : (Region.ready md ops listed).contains i = true)
    (hQ : ∀ c a w, Q (.panic c) (a.put d v) w → Q (.panic c) a w) (hy : YieldsIf P ops S oi v a) (hS : S w)
    (h : wpAnyH P md ops Q S fuel (listed.setIfInBounds i true) (a.put d v) w) : wpAnyH P md ops Q S (fuel + 1) listed a w := by
  subst hd
  exact wpAnyH_take hi hs hf hr hQ hy hS h
theorem wpAnyH_skip' {P : Program} {ops : Array Oper} {Q : Exit → Act → World → Prop} {md : Region.Mode} {S : World → Prop} (hs : Region.noSelect ops = true) (hQ : ∀ c (a : Act) (d : Option Tmp) w, Q (.panic c) (a.put d undef) w → Q (.panic c) a w)
    (us : List Nat) (fuel k : Nat) (hk : us.length = k) (listed l' : Array Bool) (a : Act) (w : World) (hm : maySkip md ops listed a.tmps us = true) (he : skipped ops a us = a) (hl : skipListed listed us = l') (hS : S w)
    (h : wpAnyH P md ops Q S fuel l' a w) : wpAnyH P md ops Q S (fuel + k) listed a w := by
  subst hk hl
  exact wpAnyH_skip hs hQ us fuel listed a w hm hS (by rw [he]; exact h)
theorem wpAnyH_skipd {P : Program} {ops : Array Oper} {Q : Exit → Act → World → Prop} {md : Region.Mode} {S : World → Prop} (hs : Region.noSelect ops = true) (hQ : ∀ c (a : Act) (d : Option Tmp) w, Q (.panic c) (a.put d undef) w → Q (.panic c) a w)
    (us ds : List Nat) (fuel k : Nat) (hk : us.length = k) (listed l' : Array Bool) (a : Act) (w : World) (hm : maySkip md ops listed a.tmps us = true) (he : skipped ops a us = ds.foldl (fun a d => a.put (some d) undef) a) (hl : skipListed listed us = l') (hS : S w)
    (h : wpAnyH P md ops Q S fuel l' (ds.foldl (fun a d => a.put (some d) undef) a) w) : wpAnyH P md ops Q S (fuel + k) listed a w := by
  subst hk hl
  exact wpAnyH_skip hs hQ us fuel listed a w hm hS (by rw [he]; exact h)
end Go.Proofs.YtmolpogehgeebaaGreat


namespace Go.Proofs.YtmolpogehgeebaaGreat
open Go.RowKit
/-- A key, and the line under it. -/
structure Prp where
  k : ByteArray
  l : List Pie
/-- A node or an edge over time. -/
structure Ent where
  edge : Bool
  id : Int
  lab : ByteArray
  fr : Int
  til : Int
  val : List (Int × Int)
  ps : List Prp
/-- The order of keys. -/
def ltS (a b : ByteArray) : Prop := Op.bytesLess a.toList b.toList = true
theorem bytesLess_lt : ∀ (l m : List UInt8), Op.bytesLess l m = decide (l < m)
  | [], [] => by simp [Op.bytesLess]
  | [], y :: m => by simp [Op.bytesLess]
  | x :: l, [] => by simp [Op.bytesLess]
  | a :: x, b :: y => by
    rw [Op.bytesLess, bytesLess_lt x y]
    simp only [List.cons_lt_cons_iff]
    by_cases h1 : a < b <;> by_cases h2 : a = b <;> by_cases h3 : x < y <;> simp [h1, h2, h3]
theorem ltS_iff {a b : ByteArray} : ltS a b ↔ a.toList < b.toList := by unfold ltS; rw [bytesLess_lt]; exact decide_eq_true_iff
theorem ltS_irrefl (a : ByteArray) : ¬ ltS a a := fun h => List.lt_irrefl _ (ltS_iff.1 h)
theorem ltS_trans {a b c : ByteArray} (h : ltS a b) (k : ltS b c) : ltS a c := ltS_iff.2 (List.lt_trans (ltS_iff.1 h) (ltS_iff.1 k))
theorem toList_inj {a b : ByteArray} (h : a.toList = b.toList) : a = b := by
  rw [ByteArray.toList_eq, ByteArray.toList_eq] at h
  exact ByteArray.ext (Array.toList_inj.1 h)
theorem ltS_tri (a b : ByteArray) : ltS a b ∨ a = b ∨ ltS b a := by
  by_cases h : ltS a b
  · exact .inl h
  · by_cases k : ltS b a
    · exact .inr (.inr k)
    · refine .inr (.inl (toList_inj ?_))
      have h1 := List.not_lt.1 fun g => h (ltS_iff.2 g)
      have h2 := List.not_lt.1 fun g => k (ltS_iff.2 g)
      exact List.le_antisymm h2 h1
open Classical in
/-- The line of a key. -/
noncomputable def lineK : List Prp → ByteArray → List Pie
  | [], _ => []
  | p :: ps, k => if p.k = k then p.l else lineK ps k
/-- What is meant under a key at an instant. -/
noncomputable def atK (ps : List Prp) (k : ByteArray) (t : Int) : VP := Pl.means VP.none (lineK ps k) t
/-- No piece lies outside of V. -/
def inside (V : List (Int × Int)) (l : List Pie) : Prop := ∀ t, Pl.means VP.none l t ≠ VP.none → Se.Iset.has V t = true
/-- Properties that may be, of what is valid in V. -/
structure MayPs (V : List (Int × Int)) (ps : List Prp) : Prop where
  key : ∀ p ∈ ps, Co.wordB p.k = true
  row : ps.Pairwise fun p q => ltS p.k q.k
  line : ∀ p ∈ ps, Pl.Line okV p.l ∧ p.l ≠ [] ∧ inside V p.l
theorem MayPs.tail {V : List (Int × Int)} {p : Prp} {ps : List Prp} (h : MayPs V (p :: ps)) : MayPs V ps :=
  ⟨fun q hq => h.key q (List.mem_cons_of_mem _ hq), (List.pairwise_cons.1 h.row).2, fun q hq => h.line q (List.mem_cons_of_mem _ hq)⟩
theorem lineK_none : ∀ {ps : List Prp} {k : ByteArray}, (∀ p ∈ ps, p.k ≠ k) → lineK ps k = []
  | [], _, _ => rfl
  | p :: ps, k, h => by
    unfold lineK
    rw [if_neg (h p (by simp))]
    exact lineK_none fun q hq => h q (List.mem_cons_of_mem _ hq)
theorem lineK_below {p : Prp} {ps : List Prp} (h : (p :: ps).Pairwise fun p q => ltS p.k q.k) {k : ByteArray} (hk : ltS k p.k) : lineK (p :: ps) k = [] := by
  refine lineK_none fun q hq e => ?_
  rcases List.mem_cons.1 hq with rfl | hq
  · rw [e] at hk; exact ltS_irrefl _ hk
  · have := ltS_trans hk ((List.pairwise_cons.1 h).1 q hq)
    rw [e] at this; exact ltS_irrefl _ this
theorem lineK_self {p : Prp} {ps : List Prp} (h : (p :: ps).Pairwise fun p q => ltS p.k q.k) : lineK ps p.k = [] :=
  lineK_none fun q hq e => by
    have := (List.pairwise_cons.1 h).1 q hq
    rw [e] at this; exact ltS_irrefl _ this
theorem lineK_mem : ∀ {ps : List Prp}, (ps.Pairwise fun p q => ltS p.k q.k) → ∀ {p : Prp}, p ∈ ps → lineK ps p.k = p.l
  | [], _, _, hp => by simp at hp
  | q :: ps, h, p, hp => by
    unfold lineK
    rcases List.mem_cons.1 hp with rfl | hp
    · rw [if_pos rfl]
    · rw [if_neg (fun e => by have := (List.pairwise_cons.1 h).1 p hp; rw [e] at this; exact ltS_irrefl _ this)]
      exact lineK_mem (List.pairwise_cons.1 h).2 hp
theorem lineK_case (ps : List Prp) (k : ByteArray) : (∃ p ∈ ps, p.k = k ∧ lineK ps k = p.l) ∨ ((∀ p ∈ ps, p.k ≠ k) ∧ lineK ps k = []) := by
  induction ps with
  | nil => exact .inr ⟨by simp, rfl⟩
  | cons q ps ih =>
    unfold lineK
    by_cases h : q.k = k
    · rw [if_pos h]; exact .inl ⟨q, by simp, h, rfl⟩
    · rw [if_neg h]
      rcases ih with ⟨p, hp, e1, e2⟩ | ⟨h1, h2⟩
      · exact .inl ⟨p, by simp [hp], e1, e2⟩
      · exact .inr ⟨fun p hp => by
          rcases List.mem_cons.1 hp with rfl | hp
          · exact h
          · exact h1 p hp, h2⟩
/-- The line of any key is a line. -/
theorem MayPs.any {V : List (Int × Int)} {ps : List Prp} (h : MayPs V ps) (k : ByteArray) : Pl.Line okV (lineK ps k) ∧ inside V (lineK ps k) := by
  rcases lineK_case ps k with ⟨p, hp, _, e⟩ | ⟨_, e⟩
  · rw [e]; exact ⟨(h.line p hp).1, (h.line p hp).2.2⟩
  · rw [e]; exact ⟨Pl.Line.nil _, fun t ht => absurd rfl ht⟩
/-- A line that has a piece means something. -/
theorem line_some {l : List Pie} (h : Pl.Line okV l) (hn : l ≠ []) : ∃ t, Pl.means VP.none l t ≠ VP.none := by
  cases l with
  | nil => exact absurd rfl hn
  | cons x l =>
    have hx := h.good x (by simp)
    refine ⟨x.a, fun e => ?_⟩
    rw [Pl.means_at VP.none h.par (by simp : x ∈ x :: l) (Int.le_refl _) hx.1] at e
    exact none_ok (by rw [← e]; exact hx.2.2)
theorem line_none {l : List Pie} (h : Pl.Line okV l) (hm : ∀ t, Pl.means VP.none l t = VP.none) : l = [] :=
  Classical.byContradiction fun hn => by
    obtain ⟨t, ht⟩ := line_some h hn
    exact ht (hm t)
/-- Properties are known by what they mean. -/
theorem MayPs.ext {V W : List (Int × Int)} : ∀ {ps qs : List Prp}, MayPs V ps → MayPs W qs → (∀ k t, atK ps k t = atK qs k t) → ps = qs
  | [], [], _, _, _ => rfl
  | [], q :: qs, _, hq, h => by
    obtain ⟨t, ht⟩ := line_some (hq.line q (by simp)).1 (hq.line q (by simp)).2.1
    have e := h q.k t
    unfold atK at e
    rw [lineK_mem hq.row (by simp : q ∈ q :: qs)] at e
    exact absurd e.symm ht
  | p :: ps, [], hp, _, h => by
    obtain ⟨t, ht⟩ := line_some (hp.line p (by simp)).1 (hp.line p (by simp)).2.1
    have e := h p.k t
    unfold atK at e
    rw [lineK_mem hp.row (by simp : p ∈ p :: ps)] at e
    exact absurd e ht
  | p :: ps, q :: qs, hp, hq, h => by
    have ek : p.k = q.k := by
      rcases ltS_tri p.k q.k with c | c | c
      · obtain ⟨t, ht⟩ := line_some (hp.line p (by simp)).1 (hp.line p (by simp)).2.1
        have e := h p.k t
        unfold atK at e
        rw [lineK_mem hp.row (by simp : p ∈ p :: ps), lineK_below hq.row c] at e
        exact absurd e ht
      · exact c
      · obtain ⟨t, ht⟩ := line_some (hq.line q (by simp)).1 (hq.line q (by simp)).2.1
        have e := h q.k t
        unfold atK at e
        rw [lineK_mem hq.row (by simp : q ∈ q :: qs), lineK_below hp.row c] at e
        exact absurd e.symm ht
    have el : p.l = q.l := by
      refine Pl.Line.ext none_ok (hp.line p (by simp)).1 (hq.line q (by simp)).1 fun t => ?_
      have e := h p.k t
      unfold atK at e
      rw [lineK_mem hp.row (by simp : p ∈ p :: ps), ek, lineK_mem hq.row (by simp : q ∈ q :: qs)] at e
      exact e
    have e : p = q := by cases p; cases q; simp only at ek el; subst ek el; rfl
    subst e
    rw [MayPs.ext hp.tail hq.tail fun k t => ?_]
    by_cases c : p.k = k
    · subst c
      unfold atK
      rw [lineK_self hp.row, lineK_self hq.row]
    · have e := h k t
      unfold atK at e ⊢
      unfold lineK at e
      rw [if_neg c, if_neg c] at e
      exact e
/-- A node or an edge that is well-formed. -/
structure Ent.may (x : Ent) : Prop where
  id : 1 ≤ x.id ∧ x.id ≤ 1099511627776
  lab : x.lab = ByteArray.empty ∨ Co.wordB x.lab = true
  con : (x.edge = true → (1 ≤ x.fr ∧ x.fr ≤ 1099511627776) ∧ 1 ≤ x.til ∧ x.til ≤ 1099511627776) ∧ (x.edge = false → x.fr = 0 ∧ x.til = 0)
  val : Se.Iset.NF x.val
  num : x.ps.length ≤ 16
  ps : MayPs x.val x.ps
/-- Two that stand for the same. -/
structure Ent.kin (x y : Ent) : Prop where
  edge : y.edge = x.edge
  id : y.id = x.id
  lab : y.lab = x.lab
  fr : y.fr = x.fr
  til : y.til = x.til
theorem Ent.kin.refl (x : Ent) : x.kin x := ⟨rfl, rfl, rfl, rfl, rfl⟩
theorem Ent.kin.trans {x y z : Ent} (h : x.kin y) (k : y.kin z) : x.kin z := ⟨k.edge.trans h.edge, k.id.trans h.id, k.lab.trans h.lab, k.fr.trans h.fr, k.til.trans h.til⟩
/-- What is seen is all. -/
theorem Ent.ext {x y : Ent} (hx : x.may) (hy : y.may) (hk : x.kin y) (hv : ∀ t, Se.Iset.has x.val t = Se.Iset.has y.val t) (hp : ∀ k t, atK x.ps k t = atK y.ps k t) : x = y := by
  have e1 := Se.Iset.NF.ext hx.val hy.val hv
  have e2 := hx.ps.ext hy.ps hp
  cases x; cases y
  obtain ⟨h1, h2, h3, h4, h5⟩ := hk
  simp only at h1 h2 h3 h4 h5 e1 e2
  subst h1 h2 h3 h4 h5 e1 e2
  rfl
/-- The properties whose lines have a piece. -/
def full (ps : List Prp) : List Prp := ps.filter fun p => p.l.length != 0
theorem full_line {ps : List Prp} (hr : ps.Pairwise fun p q => ltS p.k q.k) (k : ByteArray) : lineK (full ps) k = lineK ps k := by
  rcases lineK_case ps k with ⟨p, hp, rfl, e⟩ | ⟨h, e⟩
  · rw [e]
    by_cases c : p.l = []
    · rw [c]
      refine lineK_none fun q hq ek => ?_
      have hq' := List.mem_filter.1 hq
      have : q.l = p.l := by rw [← lineK_mem hr hq'.1, ek, e]
      rw [this, c] at hq'
      simp at hq'
    · exact lineK_mem (hr.sublist List.filter_sublist) (List.mem_filter.2 ⟨hp, by simpa using c⟩)
  · rw [e]
    exact lineK_none fun q hq => h q (List.mem_filter.1 hq).1
theorem full_at {ps : List Prp} (hr : ps.Pairwise fun p q => ltS p.k q.k) (k : ByteArray) (t : Int) : atK (full ps) k t = atK ps k t := by unfold atK; rw [full_line hr]
/-- Lines in order of their keys, each within V: those that have a piece may be properties. -/
theorem full_may {V : List (Int × Int)} {ps : List Prp} (hk : ∀ p ∈ ps, Co.wordB p.k = true) (hr : ps.Pairwise fun p q => ltS p.k q.k) (hl : ∀ p ∈ ps, Pl.Line okV p.l ∧ inside V p.l) : MayPs V (full ps) :=
  ⟨fun p hp => hk p (List.mem_filter.1 hp).1, hr.sublist List.filter_sublist, fun p hp => ⟨(hl p (List.mem_filter.1 hp).1).1, by have := (List.mem_filter.1 hp).2; simpa using this, (hl p (List.mem_filter.1 hp).1).2⟩⟩
/-! What operations make of an entity. -/
def kept (x : Ent) (c d : Int) (y : Ent) : Prop := x.kin y ∧ y.may ∧ (∀ t, Se.Iset.has y.val t = true ↔ Se.Iset.has x.val t = true ∨ (c ≤ t ∧ t < d)) ∧ y.ps = x.ps
def dropped (x : Ent) (c d : Int) (y : Ent) : Prop := x.kin y ∧ y.may ∧ (∀ t, Se.Iset.has y.val t = true ↔ Se.Iset.has x.val t = true ∧ ¬ (c ≤ t ∧ t < d)) ∧ ∀ k t, (c ≤ t ∧ t < d → atK y.ps k t = VP.none) ∧ (¬ (c ≤ t ∧ t < d) → atK y.ps k t = atK x.ps k t)
def changed (x : Ent) (c d : Int) (k : ByteArray) (v : VP) (y : Ent) : Prop := x.kin y ∧ y.may ∧ y.val = x.val ∧ ∀ k' t, (k' = k ∧ c ≤ t ∧ t < d → atK y.ps k' t = v) ∧ (¬ (k' = k ∧ c ≤ t ∧ t < d) → atK y.ps k' t = atK x.ps k' t)
end Go.Proofs.YtmolpogehgeebaaGreat


namespace Go.Proofs.YtmolpogehgeebaaGreat
open Go.RowKit
/-- Nothing changes but at these instants. -/
def Still {α : Type} (B : List Int) (f : Int → α) : Prop := ∀ t, t ∉ B → f t = f (t - 1)
theorem len_sub : ∀ (L B : List Int), L.Pairwise (· ≠ ·) → (∀ x ∈ L, x ∈ B) → L.length ≤ B.length
  | [], _, _, _ => by simp
  | x :: L, B, hp, hs => by
    have hx := hs x (by simp)
    have h1 := List.length_erase_of_mem hx
    have h2 := len_sub L (B.erase x) (List.pairwise_cons.1 hp).2 fun y hy => (List.mem_erase_of_ne fun e => (List.pairwise_cons.1 hp).1 y hy e.symm).2 (hs y (List.mem_cons_of_mem _ hy))
    have h3 : 0 < B.length := List.length_pos_of_mem hx
    rw [List.length_cons]
    omega
theorem start_new : ∀ {l : List Pie}, Pl.Line okV l → ∀ {x : Pie}, x ∈ l → Pl.means VP.none l (x.a - 1) ≠ x.v
  | [], _, _, hx => by simp at hx
  | y :: l, h, x, hx => by
    rcases List.mem_cons.1 hx with rfl | hx'
    · rw [Pl.means_lt VP.none h.par (by omega)]
      exact fun e => none_ok (by rw [e]; exact (h.good x (by simp)).2.2)
    · have hy := (h.good y (by simp)).1
      have ha := h.ahead x hx'
      by_cases c : x.a ≤ y.b
      · have e : x.a = y.b := by omega
        rw [Pl.means_at VP.none h.par (by simp : y ∈ y :: l) (by omega) (by omega)]
        cases l with
        | nil => simp at hx'
        | cons z l =>
          have hz := (h.tail.good z (by simp)).1
          have hf : Pl.follows y z := h.chain.1
          rcases List.mem_cons.1 hx' with rfl | hx2
          · rcases hf with hf | hf
            · omega
            · exact hf.2
          · have := h.tail.ahead x hx2
            unfold Pl.follows at hf
            omega
      · rw [Pl.means_tail VP.none h.par (by omega)]
        exact start_new h.tail hx'
theorem line_len {l : List Pie} {B : List Int} (h : Pl.Line okV l) (hB : Still B (Pl.means VP.none l)) : l.length ≤ B.length := by
  have e : (l.map fun x => x.a).length = l.length := by simp
  rw [← e]
  refine len_sub _ _ ?_ fun t ht => ?_
  · rw [List.pairwise_map]
    refine (List.Pairwise.and_mem.1 h.par.row).imp ?_
    rintro x y ⟨hx, _, hxy⟩ e
    have := (h.good x hx).1
    omega
  · obtain ⟨x, hx, rfl⟩ := List.mem_map.1 ht
    refine Classical.byContradiction fun hn => start_new h hx ?_
    rw [← hB x.a hn]
    exact Pl.means_at VP.none h.par hx (Int.le_refl _) (h.good x hx).1
theorem set_start : ∀ {R : List (Int × Int)}, Se.Iset.NF R → ∀ {p : Int × Int}, p ∈ R → Se.Iset.has R (p.1 - 1) = false
  | [], _, _, hp => by simp at hp
  | q :: R, h, p, hp => by
    rcases List.mem_cons.1 hp with rfl | hp'
    · rw [← Bool.not_eq_true]
      intro g
      have := h.least _ g
      omega
    · rw [Se.Iset.has_cons, set_start h.cons hp', Bool.or_false, ← Bool.not_eq_true, Se.Iset.hasP_iff]
      intro g
      have h1 := (List.pairwise_cons.1 h.apart).1 p hp'
      omega
theorem set_len {R : List (Int × Int)} {B : List Int} (h : Se.Iset.NF R) (hB : Still B (Se.Iset.has R)) : R.length ≤ B.length := by
  have e : (R.map fun x => x.1).length = R.length := by simp
  rw [← e]
  refine len_sub _ _ ?_ fun t ht => ?_
  · rw [List.pairwise_map]
    refine (List.Pairwise.and_mem.1 h.apart).imp ?_
    rintro x y ⟨hx, _, hxy⟩ e
    have := (Se.Iset.mayP_iff x).1 (h.may x hx)
    omega
  · obtain ⟨x, hx, rfl⟩ := List.mem_map.1 ht
    refine Classical.byContradiction fun hn => ?_
    have h1 := set_start h hx
    rw [← hB x.1 hn] at h1
    have h2 : Se.Iset.has R x.1 = true := (Se.Iset.has_iff R x.1).2 ⟨x, hx, by
      have := (Se.Iset.mayP_iff x).1 (h.may x hx)
      rw [Se.Iset.hasP_iff]
      omega⟩
    rw [h1] at h2
    cases h2
/-- An entity changes at these instants alone. -/
structure Ent.still (x : Ent) (B : List Int) : Prop where
  val : Still B (Se.Iset.has x.val)
  ps : ∀ k, Still B (atK x.ps k)
theorem Ent.still.lens {x : Ent} {B : List Int} (h : x.still B) (hm : x.may) : x.val.length ≤ B.length ∧ ∀ p ∈ x.ps, p.l.length ≤ B.length :=
  ⟨set_len hm.val h.val, fun p hp => line_len (hm.ps.line p hp).1 fun t ht => by
    have := h.ps p.k t ht
    unfold atK at this
    rwa [lineK_mem hm.ps.row hp] at this⟩
theorem in_still {c d t : Int} (h1 : t ≠ c) (h2 : t ≠ d) : (c ≤ t ∧ t < d) ↔ (c ≤ t - 1 ∧ t - 1 < d) := by omega
theorem kept.still {x y : Ent} {c d : Int} {B : List Int} (h : kept x c d y) (hx : x.still B) : y.still (c :: d :: B) := by
  refine ⟨fun t ht => ?_, fun k t ht => ?_⟩ <;> simp only [List.mem_cons, not_or] at ht
  · rw [Bool.eq_iff_iff, h.2.2.1, h.2.2.1, hx.val t ht.2.2, in_still ht.1 ht.2.1]
  · rw [h.2.2.2]; exact hx.ps k t ht.2.2
theorem dropped.still {x y : Ent} {c d : Int} {B : List Int} (h : dropped x c d y) (hx : x.still B) : y.still (c :: d :: B) := by
  refine ⟨fun t ht => ?_, fun k t ht => ?_⟩ <;> simp only [List.mem_cons, not_or] at ht
  · rw [Bool.eq_iff_iff, h.2.2.1, h.2.2.1, hx.val t ht.2.2, in_still ht.1 ht.2.1]
  · have e := in_still ht.1 ht.2.1
    by_cases g : c ≤ t ∧ t < d
    · rw [(h.2.2.2 k t).1 g, (h.2.2.2 k (t - 1)).1 (e.1 g)]
    · rw [(h.2.2.2 k t).2 g, (h.2.2.2 k (t - 1)).2 fun g' => g (e.2 g')]
      exact hx.ps k t ht.2.2
theorem changed.still {x y : Ent} {c d : Int} {k : ByteArray} {v : VP} {B : List Int} (h : changed x c d k v y) (hx : x.still B) : y.still (c :: d :: B) := by
  refine ⟨fun t ht => ?_, fun k' t ht => ?_⟩ <;> simp only [List.mem_cons, not_or] at ht
  · rw [h.2.2.1]; exact hx.val t ht.2.2
  · have e := in_still ht.1 ht.2.1
    by_cases g : k' = k ∧ c ≤ t ∧ t < d
    · rw [(h.2.2.2 k' t).1 g, (h.2.2.2 k' (t - 1)).1 ⟨g.1, e.1 g.2⟩]
    · rw [(h.2.2.2 k' t).2 g, (h.2.2.2 k' (t - 1)).2 fun g' => g ⟨g'.1, e.2 g'.2⟩]
      exact hx.ps k' t ht.2.2
end Go.Proofs.YtmolpogehgeebaaGreat


namespace Go.Proofs.YtmolpogehgeebaaGreat
open Go.RowKit
theorem inside.mono {V W : List (Int × Int)} {l : List Pie} (h : inside V l) (hvw : ∀ t, Se.Iset.has V t = true → Se.Iset.has W t = true) : inside W l := fun t ht => hvw t (h t ht)
theorem MayPs.mono {V W : List (Int × Int)} {ps : List Prp} (h : MayPs V ps) (hvw : ∀ t, Se.Iset.has V t = true → Se.Iset.has W t = true) : MayPs W ps :=
  ⟨h.key, h.row, fun p hp => ⟨(h.line p hp).1, (h.line p hp).2.1, (h.line p hp).2.2.mono hvw⟩⟩
theorem has_one {c d : Int} (hp : c < d ∧ d ≤ 1099511627776) (t : Int) : Se.Iset.has [(c, d)] t = true ↔ c ≤ t ∧ t < d := by
  rw [Se.Iset.has_cons, Se.Iset.has_nil, Bool.or_false, Se.Iset.hasP_iff]
  exact ⟨fun h => h.2, fun h => ⟨hp, h⟩⟩
theorem full_all {V : List (Int × Int)} {ps : List Prp} (h : MayPs V ps) : full ps = ps :=
  List.filter_eq_self.2 fun p hp => by
    have := (h.line p hp).2.1
    simpa using this
theorem kept_of {x : Ent} {c d : Int} {R : List (Int × Int)} (hx : x.may) (hp : c < d ∧ d ≤ 1099511627776) (hr : Se.Iset.Res Se.kOr x.val [(c, d)] R) : kept x c d { x with val := R, ps := full x.ps } := by
  have e : ∀ t, Se.Iset.has R t = true ↔ Se.Iset.has x.val t = true ∨ (c ≤ t ∧ t < d) := fun t => by rw [hr.has t, Bool.or_eq_true, has_one hp]
  refine ⟨⟨rfl, rfl, rfl, rfl, rfl⟩, ⟨hx.id, hx.lab, hx.con, hr.nf, ?_, ?_⟩, e, full_all hx.ps⟩
  · simp only [full_all hx.ps]; exact hx.num
  · simp only [full_all hx.ps]; exact hx.ps.mono fun t ht => (e t).2 (.inl ht)
/-- Each line is what it was within V. -/
structure Cut (V : List (Int × Int)) (ps qs : List Prp) : Prop where
  len : qs.length = ps.length
  at' : ∀ i (h : i < ps.length) (g : i < qs.length), qs[i].k = ps[i].k ∧ Pl.WithinR okV VP.none ps[i].l V qs[i].l
theorem Cut.mem {V : List (Int × Int)} {ps qs : List Prp} (h : Cut V ps qs) {q : Prp} (hq : q ∈ qs) : ∃ p ∈ ps, q.k = p.k ∧ Pl.WithinR okV VP.none p.l V q.l := by
  obtain ⟨i, hi, rfl⟩ := List.getElem_of_mem hq
  exact ⟨ps[i]'(h.len ▸ hi), List.getElem_mem _, h.at' i (h.len ▸ hi) hi⟩
theorem Cut.row {V : List (Int × Int)} {ps qs : List Prp} (h : Cut V ps qs) (hr : ps.Pairwise fun p q => ltS p.k q.k) : qs.Pairwise fun p q => ltS p.k q.k := by
  rw [List.pairwise_iff_getElem] at hr ⊢
  intro i j hi hj hij
  rw [(h.at' i (h.len ▸ hi) hi).1, (h.at' j (h.len ▸ hj) hj).1]
  exact hr i j _ _ hij
theorem Cut.at {V : List (Int × Int)} {ps qs : List Prp} (h : Cut V ps qs) (hr : ps.Pairwise fun p q => ltS p.k q.k) (k : ByteArray) (t : Int) : atK qs k t = if Se.Iset.has V t = true then atK ps k t else VP.none := by
  unfold atK
  rcases lineK_case qs k with ⟨q, hq, rfl, e⟩ | ⟨hn, e⟩
  · obtain ⟨p, hp, ek, hw⟩ := h.mem hq
    rw [e, ek, lineK_mem hr hp, hw.means t]
  · rw [e, lineK_none (ps := ps) fun p hp ek => by
      obtain ⟨i, hi, rfl⟩ := List.getElem_of_mem hp
      exact hn (qs[i]'(h.len.symm ▸ hi)) (List.getElem_mem _) ((h.at' i hi (h.len.symm ▸ hi)).1.trans ek)]
    split <;> rfl
theorem dropped_of {x : Ent} {c d : Int} {R : List (Int × Int)} {qs : List Prp} (hx : x.may) (hp : c < d ∧ d ≤ 1099511627776) (hr : Se.Iset.Res Se.kLess x.val [(c, d)] R) (hq : Cut R x.ps qs) : dropped x c d { x with val := R, ps := full qs } := by
  have e : ∀ t, Se.Iset.has R t = true ↔ Se.Iset.has x.val t = true ∧ ¬ (c ≤ t ∧ t < d) := fun t => by rw [hr.has t, Bool.and_eq_true, Bool.not_eq_true', ← Bool.not_eq_true, has_one hp]
  have hrow := hq.row hx.ps.row
  refine ⟨⟨rfl, rfl, rfl, rfl, rfl⟩, ⟨hx.id, hx.lab, hx.con, hr.nf, ?_, ?_⟩, e, fun k t => ?_⟩
  · have h1 := hx.num
    have h2 := hq.len
    have h3 : (full qs).length ≤ qs.length := List.length_filter_le _ _
    show (full qs).length ≤ 16
    omega
  · refine full_may (fun q hm => ?_) hrow fun q hm => ?_
    · obtain ⟨p, hpm, ek, _⟩ := hq.mem hm
      rw [ek]; exact hx.ps.key p hpm
    · obtain ⟨p, hpm, ek, hw⟩ := hq.mem hm
      refine ⟨hw.line, fun t ht => ?_⟩
      rw [hw.means t] at ht
      exact Classical.byContradiction fun g => ht (if_neg g)
  · show (_ → atK (full qs) k t = _) ∧ (_ → atK (full qs) k t = _)
    rw [full_at hrow, hq.at hx.ps.row]
    refine ⟨fun g => if_neg fun h => ((e t).1 h).2 g, fun g => ?_⟩
    by_cases hv : Se.Iset.has x.val t = true
    · rw [if_pos ((e t).2 ⟨hv, g⟩)]
    · rw [if_neg fun h => hv ((e t).1 h).1]
      exact Classical.byContradiction fun n => hv ((hx.ps.any k).2 t fun m => n m.symm)
/-- The line of one key is L, all others are as they were. -/
structure Put (ps : List Prp) (k : ByteArray) (L : List Pie) (qs : List Prp) : Prop where
  row : qs.Pairwise fun p q => ltS p.k q.k
  mem : ∀ q ∈ qs, (q.k = k ∧ q.l = L) ∨ q ∈ ps
  has : ∃ q ∈ qs, q.k = k ∧ q.l = L
  old : ∀ p ∈ ps, p.k ≠ k → p ∈ qs
theorem Put.line {ps qs : List Prp} {k : ByteArray} {L : List Pie} (h : Put ps k L qs) (k' : ByteArray) : (k' = k → lineK qs k' = L) ∧ (k' ≠ k → lineK qs k' = lineK ps k') := by
  obtain ⟨q, hq, e1, e2⟩ := h.has
  refine ⟨fun e => ?_, fun e => ?_⟩
  · rw [e, ← e1, lineK_mem h.row hq, e2]
  · rcases lineK_case ps k' with ⟨p, hp, rfl, el⟩ | ⟨hn, el⟩
    · rw [el, lineK_mem h.row (h.old p hp e)]
    · rw [el]
      refine lineK_none fun r hr ek => ?_
      rcases h.mem r hr with g | g
      · exact e (by rw [← ek, g.1])
      · exact hn r g ek
theorem changed_of {x : Ent} {c d : Int} {k : ByteArray} {v : VP} {L : List Pie} {qs : List Prp} (hx : x.may) (hk : Co.wordB k = true) (hc : ∀ t, c ≤ t ∧ t < d → Se.Iset.has x.val t = true) (hl : Pl.SetR okV VP.none (lineK x.ps k) c d v L) (hq : Put x.ps k L qs) (hn : qs.length ≤ 16) : changed x c d k v { x with ps := full qs } := by
  have hin : inside x.val L := fun t ht => by
    by_cases g : c ≤ t ∧ t < d
    · exact hc t g
    · rw [(hl.means t).2 g] at ht
      exact (hx.ps.any k).2 t ht
  refine ⟨⟨rfl, rfl, rfl, rfl, rfl⟩, ⟨hx.id, hx.lab, hx.con, hx.val, ?_, ?_⟩, rfl, fun k' t => ?_⟩
  · have h3 : (full qs).length ≤ qs.length := List.length_filter_le _ _
    show (full qs).length ≤ 16
    omega
  · refine full_may (fun q hm => ?_) hq.row fun q hm => ?_
    · rcases hq.mem q hm with g | g
      · rw [g.1]; exact hk
      · exact hx.ps.key q g
    · rcases hq.mem q hm with g | g
      · rw [g.2]; exact ⟨hl.line, hin⟩
      · exact ⟨(hx.ps.line q g).1, (hx.ps.line q g).2.2⟩
  · show (_ → atK (full qs) k' t = _) ∧ (_ → atK (full qs) k' t = _)
    rw [full_at hq.row]
    have hh := hq.line k'
    unfold atK
    by_cases e : k' = k
    · rw [hh.1 e, e]
      exact ⟨fun g => (hl.means t).1 g.2, fun g => (hl.means t).2 fun n => g ⟨rfl, n⟩⟩
    · rw [hh.2 e]
      exact ⟨fun g => absurd g.1 e, fun _ => rfl⟩
/-- Where a key is, or would have to be. -/
structure Place (ps : List Prp) (k : ByteArray) (i : Nat) : Prop where
  le : i ≤ ps.length
  lo : ∀ j (h : j < ps.length), j < i → ltS ps[j].k k
  hi : ∀ j (h : j < ps.length), i ≤ j → ¬ ltS ps[j].k k
theorem Place.there {ps : List Prp} {k : ByteArray} {i : Nat} (h : Place ps k i) (hr : ps.Pairwise fun p q => ltS p.k q.k) : (∀ g : i < ps.length, ps[i].k = k → lineK ps k = ps[i].l) ∧ ((∀ g : i < ps.length, ps[i].k ≠ k) → ∀ p ∈ ps, p.k ≠ k) := by
  refine ⟨fun g e => ?_, fun g p hp e => ?_⟩
  · rw [← e]; exact lineK_mem hr (List.getElem_mem g)
  · obtain ⟨j, hj, rfl⟩ := List.getElem_of_mem hp
    rcases Nat.lt_trichotomy j i with c | c | c
    · have := h.lo j hj c
      rw [e] at this; exact ltS_irrefl _ this
    · subst c; exact g hj e
    · have h1 := (List.pairwise_iff_getElem.1 hr) i j (by omega) hj c
      rw [e] at h1
      exact h.hi i (by omega) (Nat.le_refl _) h1
theorem put_set {ps : List Prp} {k : ByteArray} {L : List Pie} {i : Nat} (hr : ps.Pairwise fun p q => ltS p.k q.k) (hi : i < ps.length) (he : ps[i].k = k) : Put ps k L (ps.set i ⟨k, L⟩) := by
  have hkey : ∀ j (h : j < (ps.set i ⟨k, L⟩).length) (h' : j < ps.length), (ps.set i ⟨k, L⟩)[j].k = ps[j].k := fun j h h' => by
    rw [List.getElem_set]
    split
    · next e => subst e; exact he.symm
    · rfl
  refine ⟨?_, fun q hq => ?_, ⟨⟨k, L⟩, List.mem_iff_getElem.2 ⟨i, by simpa using hi, by simp⟩, rfl, rfl⟩, fun p hp e => ?_⟩
  · rw [List.pairwise_iff_getElem] at hr ⊢
    intro a b ha hb hab
    rw [hkey a ha (by simpa using ha), hkey b hb (by simpa using hb)]
    exact hr a b _ _ hab
  · rcases List.mem_or_eq_of_mem_set hq with g | g
    · exact .inr g
    · subst g; exact .inl ⟨rfl, rfl⟩
  · obtain ⟨j, hj, rfl⟩ := List.getElem_of_mem hp
    refine List.mem_iff_getElem.2 ⟨j, by simpa using hj, ?_⟩
    rw [List.getElem_set]
    split
    · next c => subst c; exact absurd he e
    · rfl
theorem put_insert {ps : List Prp} {k : ByteArray} {L : List Pie} {i : Nat} (hr : ps.Pairwise fun p q => ltS p.k q.k) (h : Place ps k i) (hn : ∀ g : i < ps.length, ps[i].k ≠ k) : Put ps k L (ps.take i ++ ⟨k, L⟩ :: ps.drop i) := by
  have h1 : ∀ p ∈ ps.take i, ltS p.k k := fun p hp => by
    obtain ⟨j, hj, rfl⟩ := List.getElem_of_mem hp
    have : j < i ∧ j < ps.length := by simp at hj; omega
    rw [List.getElem_take]
    exact h.lo j this.2 this.1
  have h2 : ∀ p ∈ ps.drop i, ltS k p.k := fun p hp => by
    have hne := (h.there hr).2 hn p (List.mem_of_mem_drop hp)
    obtain ⟨j, hj, rfl⟩ := List.getElem_of_mem hp
    have : i + j < ps.length := by simp at hj; omega
    rw [List.getElem_drop] at hne ⊢
    rcases ltS_tri k ps[i + j].k with c | c | c
    · exact c
    · exact absurd c.symm hne
    · exact absurd c (h.hi (i + j) this (by omega))
  refine ⟨?_, fun q hq => ?_, ⟨⟨k, L⟩, by simp, rfl, rfl⟩, fun p hp _ => ?_⟩
  · refine List.pairwise_append.2 ⟨hr.sublist (List.take_sublist _ _), List.pairwise_cons.2 ⟨h2, hr.sublist (List.drop_sublist _ _)⟩, fun p hp q hq => ?_⟩
    rcases List.mem_cons.1 hq with rfl | hq
    · exact h1 p hp
    · exact ltS_trans (h1 p hp) (h2 q hq)
  · rcases List.mem_append.1 hq with g | g
    · exact .inr (List.mem_of_mem_take g)
    · rcases List.mem_cons.1 g with rfl | g
      · exact .inl ⟨rfl, rfl⟩
      · exact .inr (List.mem_of_mem_drop g)
  · rw [← List.take_append_drop i ps] at hp
    rcases List.mem_append.1 hp with g | g
    · exact List.mem_append.2 (.inl g)
    · exact List.mem_append.2 (.inr (List.mem_cons_of_mem _ g))
/-- Null set under a key that is none: nothing changes. -/
theorem changed_none {x : Ent} {c d : Int} {k : ByteArray} (hx : x.may) (hn : lineK x.ps k = []) : changed x c d k VP.none { x with ps := full x.ps } := by
  rw [full_all hx.ps]
  refine ⟨Ent.kin.refl x, hx, rfl, fun k' t => ⟨fun g => ?_, fun _ => rfl⟩⟩
  show atK x.ps k' t = _
  unfold atK
  rw [g.1, hn]; rfl
end Go.Proofs.YtmolpogehgeebaaGreat


namespace Go.Proofs.YtmolpogehgeebaaGreat
open Go.RowKit
/-- Where the properties of a slice lie: each with its key, and a slice of its line. -/
def PrAt (w : World) (A : Option Addr) (ps : List Prp) : Prop := 0 < ps.length → ∃ b off, A = some ⟨b, off, none⟩ ∧ b < w.heap.size ∧ ∀ i (h : i < ps.length), w.cell? ⟨b, off + i * 2, none⟩ = some (.string ps[i].k) ∧ ∃ u, w.cell? ⟨b, off + i * 2 + 1, none⟩ = some u ∧ SL w u ps[i].l
theorem PrAt.below {w w' : World} {A : Option Addr} {ps : List Prp} (h : PrAt w A ps) (hb : Below w.heap.size w w') : PrAt w' A ps := fun h0 => by
  obtain ⟨b, off, e, hl, hc⟩ := h h0
  refine ⟨b, off, e, Nat.lt_of_lt_of_le hl hb.size, fun i hi => ?_⟩
  obtain ⟨h1, u, h2, h3⟩ := hc i hi
  exact ⟨(hb.cell (p := ⟨b, off + i * 2, none⟩) hl).trans h1, u, (hb.cell (p := ⟨b, off + i * 2 + 1, none⟩) hl).trans h2, h3.below hb⟩
theorem PrAt.nil (w : World) (A : Option Addr) : PrAt w A [] := fun h => absurd h (Nat.lt_irrefl 0)
/-- A slice that holds these properties. -/
def SP (w : World) (v : Value) (ps : List Prp) : Prop := ∃ A c, v = .slice A ps.length c ∧ PrAt w A ps ∧ ps.length ≤ 9223372036854775807
theorem SP.below {w w' : World} {v : Value} {ps : List Prp} (h : SP w v ps) (hb : Below w.heap.size w w') : SP w' v ps := by
  obtain ⟨A, c, e, hA, hm⟩ := h
  exact ⟨A, c, e, hA.below hb, hm⟩
theorem SP.nil (w : World) : SP w (.slice none 0 0) [] := ⟨none, 0, rfl, PrAt.nil _ _, by simp⟩
/-- The cells of an entity. -/
abbrev Ent.cells (x : Ent) (sv sp : Value) : Array Value := #[.bool x.edge, .int .u64 x.id, .string x.lab, .int .u64 x.fr, .int .u64 x.til, sv, sp]
/-- An entity in memory. -/
def EAt (w : World) (v : Value) (x : Ent) : Prop := ∃ sv sp, v = .agg (x.cells sv sp) ∧ Se.IsP w sv x.val ∧ SP w sp x.ps
theorem EAt.below {w w' : World} {v : Value} {x : Ent} (h : EAt w v x) (hb : Below w.heap.size w w') : EAt w' v x := by
  obtain ⟨sv, sp, e, h1, h2⟩ := h
  exact ⟨sv, sp, e, h1.below hb, h2.below hb⟩
/-- Its numbers lie in their ranges, and its lists are not too long to be gone through. -/
structure Ent.wide (x : Ent) : Prop where
  val : Se.Iset.Wide x.val
  lenV : x.val.length ≤ 100000
  lenP : ∀ p ∈ x.ps, p.l.length ≤ 100000
  v : ∀ p ∈ x.ps, ∀ y ∈ p.l, y.v.wide
  a : ∀ p ∈ x.ps, ∀ y ∈ p.l, 0 ≤ y.a ∧ 0 ≤ y.b
def conP (edge : Bool) (fr til : Int) : Prop := (edge = true → (1 ≤ fr ∧ fr ≤ 1099511627776) ∧ 1 ≤ til ∧ til ≤ 1099511627776) ∧ (edge = false → fr = 0 ∧ til = 0)
section
set_option maxRecDepth 100000
set_option maxHeartbeats 4000000
theorem eIsId_any (n : Int) (w : World) : Calls Tryz.prog 96 #[.int .u64 n] w (Says (1 ≤ n ∧ n ≤ 1099511627776) w) := by
  by_cases h1 : 1 ≤ n
  · have HE : Hid (decide (n ≤ 1099511627776) = true ↔ (1 ≤ n ∧ n ≤ 1099511627776)) := Lib.hid (by simp [h1])
    go_enter Tryz.func96, Tryz.ntmps96
    go_wp2
    go_ret
    exact ⟨_, rfl, HE.out, Below.refl _ _⟩
  · have td : decide (1 ≤ n) = false := by simpa using h1
    have HE : Hid ((false = true) ↔ (1 ≤ n ∧ n ≤ 1099511627776)) := Lib.hid (by simp [h1])
    clear h1
    go_enter Tryz.func96, Tryz.ntmps96
    go_wp2
    go_ret
    exact ⟨false, rfl, HE.out, Below.refl _ _⟩
theorem str_some {s : ByteArray} (h : s ≠ ByteArray.empty) : s.toList.isEmpty = false := by
  rw [List.isEmpty_eq_false_iff, ByteArray.toList_eq]
  intro e
  exact h (ByteArray.ext (Array.toList_inj.1 (by rw [e]; rfl)))
theorem eIsLabel_any (s : ByteArray) (w : World) : Calls Tryz.prog 97 #[.string s] w (Says (s = ByteArray.empty ∨ Co.wordB s = true) w) := by
  have CW := Lib.hid (fun W => Co.Word_any s W)
  by_cases h : s = ByteArray.empty
  · subst h
    go_enter Tryz.func97, Tryz.ntmps97
    go_wp2
    go_ret
    exact ⟨true, rfl, by simp, Below.refl _ _⟩
  · have t0 := str_some h
    have HE : Hid (Co.wordB s = true ↔ (s = ByteArray.empty ∨ Co.wordB s = true)) := Lib.hid ⟨.inr, fun g => g.resolve_left h⟩
    clear h
    go_enter Tryz.func97, Tryz.ntmps97
    go_wp2_with (go_at_call 144; (with_reducible refine (CW.out _).mono ?_); rintro e w' ⟨rfl, rfl⟩)
    go_ret
    exact ⟨_, rfl, HE.out, Below.refl _ _⟩
theorem mayConnect_any (x : Ent) (sv sp : Value) (w : World) (hsv : ∃ A n c, sv = .slice A n c) (hsp : ∃ A n c, sp = .slice A n c) : Calls Tryz.prog 98 #[.agg (x.cells sv sp)] w (Says (conP x.edge x.fr x.til) w) := by
  have CI := Lib.hid (fun n W => eIsId_any n W)
  obtain ⟨Av, nv, cv, rfl⟩ := hsv
  obtain ⟨Ap, np, cp, rfl⟩ := hsp
  obtain ⟨edge, id, lab, fr, til, val, ps⟩ := x
  have B0 := Lib.hid ((Below.refl w.heap.size w).alloc (Nat.le_refl _) (.cells #[.bool edge, .int .u64 id, .string lab, .int .u64 fr, .int .u64 til, .slice Av nv cv, .slice Ap np cp] 38))
  have X0 := Lib.hid (Bx.new w #[.bool edge, .int .u64 id, .string lab, .int .u64 fr, .int .u64 til, .slice Av nv cv, .slice Ap np cp] 38)
  have x0 := X0.out.c
  simp only
  cases edge
  · by_cases hf : fr = 0
    · have HE : Hid ((til == 0) = true ↔ conP false fr til) := Lib.hid (by unfold conP; simp [hf])
      subst hf
      go_enter Tryz.func98, Tryz.ntmps98
      go_wp2
      go_ret
      exact ⟨_, rfl, HE.out, B0.out⟩
    · have HE : Hid ((false = true) ↔ conP false fr til) := Lib.hid (by unfold conP; simp [hf])
      have t0 : (fr == 0) = false := by simpa using hf
      clear hf
      go_enter Tryz.func98, Tryz.ntmps98
      go_wp2
      go_ret
      exact ⟨false, rfl, HE.out, B0.out⟩
  · have HE : Hid (((1 ≤ fr ∧ fr ≤ 1099511627776) ∧ 1 ≤ til ∧ til ≤ 1099511627776) ↔ conP true fr til) := Lib.hid (by unfold conP; simp)
    have CF := Lib.hid (CI.out fr)
    have CT := Lib.hid (CI.out til)
    clear CI
    go_enter Tryz.func98, Tryz.ntmps98
    go_wp2_with (first
      | (go_at_call 96; (with_reducible refine (CF.out _).mono ?_); rintro e w1 ⟨c1, rfl, hc1, hb⟩; have HC1 := Lib.hid hc1; have B1 := Lib.hid (B0.out.trans (hb.mono B0.out.size)); have X1 := Lib.hid (X0.out.below hb); clear hb hc1 x0; have x0 := X1.out.c; cases c1)
      | (go_at_call 96; (with_reducible refine (CT.out _).mono ?_); rintro e w2 ⟨c2, rfl, hc2, hb⟩; have HC2 := Lib.hid hc2; have B2 := Lib.hid (B1.out.trans (hb.mono B1.out.size)); clear hb hc2)
      | fail)
    · go_ret
      exact ⟨false, rfl, by rw [← HE.out, ← HC1.out]; simp, B1.out⟩
    · go_ret
      exact ⟨c2, rfl, by rw [← HE.out, ← HC1.out, HC2.out]; simp, B2.out⟩
end
end Go.Proofs.YtmolpogehgeebaaGreat


namespace Go.Proofs.YtmolpogehgeebaaGreat
open Go.RowKit
/-- What a search finds: the first place at which p holds. -/
def FirstOf (n : Nat) (p : Nat → Bool) (i : Nat) : Prop := i ≤ n ∧ (∀ j, j < i → p j = false) ∧ ∀ j, i ≤ j → j < n → p j = true
def SearchAns (n : Nat) (p : Nat → Bool) (w : World) (e : Ending) (w' : World) : Prop := ∃ i : Nat, e = .returned (.int .i64 i) ∧ FirstOf n p i ∧ Below w.heap.size w w'
section
set_option maxRecDepth 100000
set_option maxHeartbeats 4000000
theorem sortSearch_any (F : FuncId) (cb : Array Value) (eg : ∀ args w, (callFunc F args).run Tryz.prog w = .ok (.enter F args) w) (n : Nat) (p : Nat → Bool) (w : World) (hn : n ≤ 1000000000000)
    (hm : ∀ i j, i ≤ j → j < n → p i = true → p j = true)
    (hc : ∀ i W, i < n → Below w.heap.size w W → Calls Tryz.prog F (#[.int .i64 (i : Int)] ++ cb) W fun e w' => e = .returned (.bool (p i)) ∧ Below W.heap.size W w') :
    Calls Tryz.prog 222 #[.int .i64 (n : Int), .func (.func F) #[] cb] w (SearchAns n p w) := by
  have HM := Lib.hid hm
  have HC := Lib.hid hc
  clear hm hc
  go_enter Tryz.func222, Tryz.ntmps222
  go_wp2
  go_loopw [5, 6] (fun u v wr => ∃ a b : Nat, a ≤ b ∧ b ≤ n ∧ u = .int .i64 a ∧ v = .int .i64 b ∧ (∀ j, j < a → p j = false) ∧ (∀ j, b ≤ j → j < n → p j = true) ∧ Below w.heap.size w wr) (fun u v _ => (intOf v).toNat - (intOf u).toNat)
  case atStart => exact ⟨0, n, by omega, by omega, rfl, rfl, by omega, by omega, Below.refl _ _⟩
  case round =>
    obtain ⟨a, b, hab, hbn, rfl, rfl, h1, h2, hb⟩ := hrel
    have H1 := Lib.hid h1
    have H2 := Lib.hid h2
    have HB := Lib.hid hb
    clear h1 h2 hb
    by_cases hlt : a < b
    · go_upto_region 4 with fail
      obtain ⟨i, hi⟩ : ∃ i : Nat, ((a : Int) + (b : Int)) / 2 = (i : Int) := ⟨(a + b) / 2, by omega⟩
      have hia : a ≤ i := by omega
      have hib : i < b := by omega
      have hin : i < n := by omega
      rw [hi]
      clear hi
      have CI := Lib.hid (HC.out i wr hin HB.out)
      obtain ⟨q, hq⟩ : ∃ q, p i = q := ⟨_, rfl⟩
      have HQ := Lib.hid hq
      rw [hq] at CI
      clear hq
      go_wp2_with fail
      refine (CI.out).mono ?_
      rintro e w1 ⟨rfl, hb⟩
      have HB1 := Lib.hid (HB.out.trans (hb.mono HB.out.size))
      clear hb
      cases q
      · have L1 : Hid (∀ j, j < i + 1 → p j = false) := Lib.hid fun j hj => by
          cases hpj : p j
          · rfl
          · have := HM.out j i (by omega) hin hpj
            rw [HQ.out] at this
            cases this
        go_wp2_with fail
        exact ⟨⟨i + 1, b, by omega, by omega, by go_num, rfl, L1.out, H2.out, HB1.out⟩, by simp [intOf]; omega⟩
      · have L2 : Hid (∀ j, i ≤ j → j < n → p j = true) := Lib.hid fun j hj hjn => HM.out i j hj hjn HQ.out
        go_wp2_with fail
        exact ⟨⟨a, i, by omega, by omega, rfl, rfl, H1.out, L2.out, HB1.out⟩, by simp [intOf]; omega⟩
    · obtain rfl : a = b := by omega
      go_wp2_with fail
      go_ret
      exact ⟨a, rfl, ⟨hbn, H1.out, H2.out⟩, HB.out⟩
/-- Whether the key at a place is no less than k. -/
def geK (ps : List Prp) (k : ByteArray) (i : Nat) : Bool := match ps[i]? with
  | none => true
  | some p => !Op.bytesLess p.k.toList k.toList
theorem geK_at {ps : List Prp} {k : ByteArray} {i : Nat} (h : i < ps.length) : geK ps k i = !Op.bytesLess ps[i].k.toList k.toList := by unfold geK; rw [List.getElem?_eq_getElem h]
theorem geK_mono {ps : List Prp} {k : ByteArray} (hr : ps.Pairwise fun p q => ltS p.k q.k) (i j : Nat) (hij : i ≤ j) (hj : j < ps.length) (h : geK ps k i = true) : geK ps k j = true := by
  rcases Nat.lt_or_ge i j with c | c
  · rw [geK_at (by omega)] at h
    rw [geK_at hj]
    have h1 := (List.pairwise_iff_getElem.1 hr) i j (by omega) hj c
    cases hb : Op.bytesLess ps[j].k.toList k.toList
    · rfl
    · have := ltS_trans h1 (show ltS ps[j].k k from hb)
      unfold ltS at this
      rw [this] at h
      cases h
  · have : i = j := by omega
    subst this; exact h
theorem place_of {ps : List Prp} {k : ByteArray} {i : Nat} (h : FirstOf ps.length (geK ps k) i) : Place ps k i :=
  ⟨h.1, fun j hj hji => by
    have := h.2.1 j hji
    rw [geK_at hj] at this
    unfold ltS
    simpa using this, fun j hj hij => by
    have := h.2.2 j hij hj
    rw [geK_at hj] at this
    unfold ltS
    simpa using this⟩
theorem find1_any (A : Option Addr) (c : Nat) (ps : List Prp) (k : ByteArray) (i q0 q1 : Nat) (w : World) (hA : PrAt w A ps) (hi : i < ps.length) (h0 : Bx w q0 #[.slice A ps.length c]) (h1 : Bx w q1 #[.string k]) :
    Calls Tryz.prog 223 (#[.int .i64 (i : Int)] ++ #[.pointer (some ⟨q0, 0, none⟩), .pointer (some ⟨q1, 0, none⟩)]) w fun e w' => e = .returned (.bool (geK ps k i)) ∧ Below w.heap.size w w' := by
  show Calls _ _ #[_, _, _] _ _
  rw [geK_at hi]
  obtain ⟨g, off, rfl, lg, cg⟩ := hA (by omega)
  have ck := (cg i hi).1
  have i0 : (i : Int) < (ps.length : Int) := by omega
  have i1 : (0 : Int) ≤ (i : Int) := by omega
  obtain ⟨s, hs⟩ : ∃ s, ps[i].k = s := ⟨_, rfl⟩
  rw [hs] at ck ⊢
  clear hs cg hA
  have K0 : Hid (w.cell? ⟨g, off + i * 2, none⟩ = some (.string s) ∧ w.cell? ⟨q0, 0, none⟩ = some (.slice (some ⟨g, off, none⟩) ps.length c) ∧ w.cell? ⟨q1, 0, none⟩ = some (.string k)) := Lib.hid ⟨ck, h0.c 0, h1.c 0⟩
  obtain ⟨k1, k2, k3⟩ := K0.out
  clear h0 h1 ck K0
  go_enter Tryz.func223, Tryz.ntmps223
  go_upto_region 1 with fail
  go_quiet (fail)
  go_wp2_with fail
  go_ret
  exact ⟨rfl, bel_drewN nq (Below.refl _ _)⟩
/-- What find answers: the place, and whether the key is there. -/
def FindAns (ps : List Prp) (k : ByteArray) (w : World) (e : Ending) (w' : World) : Prop := ∃ (i : Nat) (r : Bool), e = .returned (.tuple #[.int .i64 i, .bool r]) ∧ Place ps k i ∧ (r = true ↔ ∃ h : i < ps.length, ps[i].k = k) ∧ Below w.heap.size w w'
theorem toList_beq (a b : ByteArray) : (a.toList == b.toList) = true ↔ a = b := by
  rw [beq_iff_eq]
  exact ⟨toList_inj, fun h => by rw [h]⟩
theorem find_any (v : Value) (ps : List Prp) (k : ByteArray) (w : World) (h : SP w v ps) (hr : ps.Pairwise fun p q => ltS p.k q.k) (hn : ps.length ≤ 1000000000000) :
    Calls Tryz.prog 172 #[v, .string k] w (FindAns ps k w) := by
  obtain ⟨A, c, rfl, hA, hm⟩ := h
  have HA := Lib.hid hA
  have B0 := Lib.hid (((Below.refl w.heap.size w).alloc (Nat.le_refl _) (.cells #[.slice A ps.length c] 36)).alloc (by simp) (.cells #[.string k] 9))
  have Q0 := Lib.hid ((Bx.new w #[.slice A ps.length c] 36).below ((Below.refl _ _).alloc (Nat.le_refl _) (.cells #[.string k] 9)))
  have Q1 := Lib.hid (Bx.new (w.alloc (.cells #[.slice A ps.length c] 36)) #[.string k] 9)
  rw [show (w.alloc (.cells #[.slice A ps.length c] 36)).heap.size = w.heap.size + 1 by simp] at Q1
  have CS := Lib.hid (fun W q0 q1 (hb : Below w.heap.size w W) (h0 : Bx W q0 #[.slice A ps.length c]) (h1 : Bx W q1 #[.string k]) => sortSearch_any 223 #[.pointer (some ⟨q0, 0, none⟩), .pointer (some ⟨q1, 0, none⟩)] (enters_of Tryz.func223 (by kernel_rfl) rfl) ps.length (geK ps k) W hn (geK_mono hr)
    fun i W' hi hb' => find1_any A c ps k i q0 q1 W' (HA.out.below (hb.trans (hb'.mono hb.size))) hi (h0.below hb') (h1.below hb'))
  have HP := Lib.hid (fun i (h : FirstOf ps.length (geK ps k) i) => place_of h)
  clear hA hr
  go_enter Tryz.func172, Tryz.ntmps172
  go_upto_region 1 with fail
  obtain ⟨W0, hW0⟩ : ∃ W, (w.alloc (.cells #[.slice A ps.length c] 36)).alloc (.cells #[.string k] 9) = W := ⟨_, rfl⟩
  rw [hW0] at B0 Q0 Q1
  try rw [hW0]
  clear hW0
  obtain ⟨q0, hq0⟩ : ∃ q, w.heap.size = q := ⟨_, rfl⟩
  obtain ⟨q1, hq1⟩ : ∃ q, w.heap.size + 1 = q := ⟨_, rfl⟩
  rw [hq0] at Q0
  rw [hq1] at Q1
  try rw [hq1]
  try rw [hq0]
  clear hq0 hq1
  have x0 := Q0.out.c
  go_upto_region 2 with (go_at_call 222; (with_reducible refine (CS.out _ _ _ B0.out Q0.out Q1.out).mono ?_); rintro e w1 ⟨i, rfl, hf, hb⟩; have HF := Lib.hid (HP.out i hf); have HB1 := Lib.hid (B0.out.trans (hb.mono B0.out.size)); have R0 := Lib.hid (Q0.out.below hb); have R1 := Lib.hid (Q1.out.below hb); clear hb hf x0)
  have k0 : w1.cell? ⟨q0, 0, none⟩ = some (.slice A ps.length c) := R0.out.c 0
  have k1 : w1.cell? ⟨q1, 0, none⟩ = some (.string k) := R1.out.c 0
  have HL := Lib.hid HF.out.le
  by_cases hlt : i < ps.length
  · obtain ⟨g, off, rfl, lg, cg⟩ := (HA.out.below HB1.out) (by omega)
    have ck := (cg i hlt).1
    have i0 : (i : Int) < (ps.length : Int) := by omega
    have i1 : (0 : Int) ≤ (i : Int) := by omega
    obtain ⟨s, hs⟩ : ∃ s, ps[i].k = s := ⟨_, rfl⟩
    have HS := Lib.hid hs
    rw [hs] at ck
    clear hs cg lg
    have HE : Hid ((s.toList == k.toList) = true ↔ ∃ h : i < ps.length, ps[i].k = k) := Lib.hid (by
      rw [toList_beq, ← HS.out]
      exact ⟨fun h => ⟨hlt, h⟩, fun ⟨_, h⟩ => h⟩)
    go_quiet (fail)
    go_wp2_with fail
    go_ret2
    exact ⟨i, _, rfl, HF.out, HE.out, bel_drewN nq HB1.out⟩
  · have hd : decide ((i : Int) < (ps.length : Int)) = false := by simp; omega
    have HE : Hid ((false = true) ↔ ∃ h : i < ps.length, ps[i].k = k) := Lib.hid ⟨fun h => (by cases h), fun ⟨h, _⟩ => absurd h hlt⟩
    go_quiet (fail)
    go_wp2_with fail
    go_ret2
    exact ⟨i, false, rfl, HF.out, HE.out, bel_drewN nq HB1.out⟩
end
end Go.Proofs.YtmolpogehgeebaaGreat


namespace Go.Proofs.YtmolpogehgeebaaGreat
open Go.ChangeShapes Go.WideShapes Go.ChangeAt Go.RowKit
set_option maxRecDepth 100000 in
theorem open_u8 {H : Type} {enc : TypeId × Value → H} {W : World} {base b0 : Nat} {sp : Nat → Bool} {held : Bool} {r : Reach} {v : Value} {d : DataW H} {p : List MemPlace} (hv : Value.okWide Tryz.prog W r b0 5 v) (h : DataW.Trod enc Tryz.prog W base sp held 5 v d p) : ∃ f : Nat, v = .int .u8 (f : Int) ∧ f ≤ 255 := by
  obtain ⟨x, rfl⟩ := okWide_int Tryz.underlying5 hv
  obtain ⟨fuel, hf⟩ := h
  obtain ⟨z, e, _, wz⟩ := DataW.trod_int Tryz.underlying5 hf
  simp [Value.cells] at e
  subst e
  have h2 : 0 ≤ x ∧ x ≤ 255 := by simpa [Lit.wf, IntKind.min, IntKind.max, IntKind.signed, IntKind.bits] using wz
  exact ⟨x.toNat, by rw [Int.toNat_of_nonneg h2.1], by omega⟩
end Go.Proofs.YtmolpogehgeebaaGreat


