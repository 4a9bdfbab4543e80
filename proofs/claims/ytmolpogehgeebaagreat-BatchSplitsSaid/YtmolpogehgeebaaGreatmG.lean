/- The chapter's rows of batch in plain words. No program. -/
/- The chapter's rows of batch: First, instants, wakes. -/
import Derived.Test.YtmolpogehgeebaaGreatmA
import Derived.Test.YtmolpogehgeebaaGreatbED6d
import Derived.Test.YtmolpogehgeebaaGreatbS1
import Derived.Test.YtmolpogehgeebaaGreatmF
import Derived.Test.YtmolpogehgeebaaGreatmD
import Derived.Test.YtmolpogehgeebaaGreatbCOJ
namespace Go.Proofs.YtmolpogehgeebaaGreat
open Go.RowKit
def fiO1 : Co.OP := ⟨1, false, 1, nul, 0, 0, nul, VP.none, 0, 9⟩
def fiO2 : Co.OP := ⟨1, false, 2, nul, 0, 0, nul, VP.none, 2, 1099511627776⟩
def fiO3 : Co.OP := ⟨2, true, 1, nul, 1, 2, nul, VP.none, 3, 5⟩
abbrev firstL : List Co.OP := [fiO1, fiO2, fiO3]
abbrev fiN1 : Ent := ⟨false, 1, nul, 0, 0, [(0, 9)], []⟩
abbrev fiN2 : Ent := ⟨false, 2, nul, 0, 0, [(2, 1099511627776)], []⟩
abbrev fiE1 : Ent := ⟨true, 1, nul, 1, 2, [(3, 5)], []⟩
/-- What the first operations make. -/
abbrev fiS : St := ⟨[fiN1, fiN2], [fiE1]⟩
/-- No operations, no state yet. -/
abbrev noS : St := ⟨[], []⟩
theorem lab_nul : Co.labelB nul = true := by decide
theorem id_ok {n : Nat} (h : 1 ≤ n ∧ n ≤ 1000) : Co.idP n := ⟨h.1, by omega⟩
theorem fiO1_may : fiO1.may := ⟨id_ok (by show 1 ≤ 1 ∧ 1 ≤ 1000; omega), by show (0 : Nat) < 9; omega, by show (9 : Nat) ≤ 1099511627776; omega, .inl ⟨rfl, rfl, lab_nul, rfl, rfl, rfl, rfl⟩⟩
theorem fiO2_may : fiO2.may := ⟨id_ok (by show 1 ≤ 2 ∧ 2 ≤ 1000; omega), by show (2 : Nat) < 1099511627776; omega, by show (1099511627776 : Nat) ≤ 1099511627776; omega, .inl ⟨rfl, rfl, lab_nul, rfl, rfl, rfl, rfl⟩⟩
theorem fiO3_may : fiO3.may := ⟨id_ok (by show 1 ≤ 1 ∧ 1 ≤ 1000; omega), by show (3 : Nat) < 5; omega, by show (5 : Nat) ≤ 1099511627776; omega, .inr (.inl ⟨rfl, rfl, lab_nul, id_ok (by show 1 ≤ 1 ∧ 1 ≤ 1000; omega), id_ok (by show 1 ≤ 2 ∧ 2 ≤ 1000; omega), rfl, rfl⟩)⟩
theorem bare_wide {k : Int} {e : Bool} {id fr til pf pt : Nat} (hk : 0 ≤ k ∧ k ≤ 9) (h1 : id ≤ 1000) (h2 : fr ≤ 1000) (h3 : til ≤ 1000) (h4 : pf ≤ 1099511627776) (h5 : pt ≤ 1099511627776) : Co.OP.wide ⟨k, e, id, nul, fr, til, nul, VP.none, pf, pt⟩ := by
  refine ⟨by unfold fits; show _ ∧ _; simp only; omega, by show id < _; omega, Nat.zero_le _, by show fr < _; omega, by show til < _; omega, Nat.zero_le _, none_wide, by show pf < _; omega, by show pt < _; omega⟩
theorem first_wide : ∀ o ∈ firstL, o.wide := fun o ho => by
  simp only [List.mem_cons, List.not_mem_nil, or_false] at ho
  rcases ho with rfl | rfl | rfl
  · exact bare_wide (by omega) (by omega) (by omega) (by omega) (by omega) (by omega)
  · exact bare_wide (by omega) (by omega) (by omega) (by omega) (by omega) (by omega)
  · exact bare_wide (by omega) (by omega) (by omega) (by omega) (by omega) (by omega)
theorem first_run : RunOk noS firstL fiS :=
  ⟨_, ⟨fiO1_may, .inl ⟨rfl, rfl, rfl⟩⟩, _, ⟨fiO2_may, .inl ⟨rfl, rfl, rfl⟩⟩, _, ⟨fiO3_may, .inr (.inl ⟨rfl, rfl, by unfold placeB; show (1 : Int) ≤ 1 ∧ (1 : Int) ≤ 2; omega, by unfold placeB; show (1 : Int) ≤ 2 ∧ (2 : Int) ≤ 2; omega, rfl⟩)⟩, rfl⟩
theorem valOf_1 (x y : Ent) : valOf [x, y] 1 = x.val := by unfold valOf; rw [if_pos (by omega)]; rfl
theorem valOf_2 (x y : Ent) : valOf [x, y] 2 = y.val := by unfold valOf; rw [if_pos (by omega)]; rfl
theorem has_n1 (t : Int) : Se.Iset.has [(0, 9)] t = true ↔ 0 ≤ t ∧ t < 9 := has_one (by omega) t
theorem has_n2 (t : Int) : Se.Iset.has [(2, 1099511627776)] t = true ↔ 2 ≤ t ∧ t < 1099511627776 := has_one (by omega) t
theorem has_e1 (t : Int) : Se.Iset.has [(3, 5)] t = true ↔ 3 ≤ t ∧ t < 5 := has_one (by omega) t
/-- Whether an edge between the two nodes dangles. -/
theorem tight_two {x y d : Ent} (h1 : d.fr = 1) (h2 : d.til = 2) (h : ∀ t, Se.Iset.has d.val t = true → Se.Iset.has x.val t = true ∧ Se.Iset.has y.val t = true) : NoLoose ⟨[x, y], [d]⟩ := fun e he t => by
  rw [List.mem_singleton.1 he]
  rintro ⟨g1, g2⟩
  rw [h1, h2, valOf_1, valOf_2] at g2
  exact g2 (h t g1)
theorem loose_two {x y d : Ent} {t : Int} (h1 : d.fr = 1) (h2 : d.til = 2) (h : Se.Iset.has d.val t = true) (hn : ¬ (Se.Iset.has x.val t = true ∧ Se.Iset.has y.val t = true)) : ¬ NoLoose ⟨[x, y], [d]⟩ := fun g => by
  refine g d (by simp) t ⟨h, ?_⟩
  rw [h1, h2, valOf_1, valOf_2]
  exact hn
theorem fi_tight : NoLoose fiS := tight_two rfl rfl fun t ht => by
  rw [has_e1] at ht
  rw [has_n1, has_n2]
  omega
theorem fi_ok : BApplied noS firstL 0 fiS := .inr (.inr (.inr (.inr ⟨empty_may, by simp, first_run, fi_tight, rfl⟩)))
theorem fi_may : fiS.may := fi_ok.ok.2.2
theorem fi_good : fiS.good 6 3 := fi_ok.good empty_good
/-- Drop of node 1 over 4, 5. -/
def drO (e : Bool) (pt : Nat) : Co.OP := ⟨4, e, 1, nul, 0, 0, nul, VP.none, 4, pt⟩
theorem drO_may {e : Bool} {pt : Nat} (h : 4 < pt ∧ pt ≤ 1099511627776) : (drO e pt).may := ⟨id_ok (by show 1 ≤ 1 ∧ 1 ≤ 1000; omega), by show (4 : Nat) < pt; omega, by show pt ≤ 1099511627776; omega, .inr (.inr (.inl ⟨.inr rfl, rfl, rfl, rfl, rfl, rfl⟩))⟩
/-- What a drop makes: no other way. -/
theorem drop_step {s z : St} {e : Bool} {pt : Nat} (h : StepOk s (drO e pt) z) (h0 : 0 < (s.list e).length) : ∃ y, z = (if e = true then ⟨s.ns, s.es.set 0 y⟩ else ⟨s.ns.set 0 y, s.es⟩) ∧ (s.list e)[0].kin y ∧ ∀ t, Se.Iset.has y.val t = true ↔ Se.Iset.has (s.list e)[0].val t = true ∧ ¬ (4 ≤ t ∧ t < (pt : Int)) := by
  have key : ∀ x y : Ent, Applied x (drO e pt) y → x.kin y ∧ ∀ t, Se.Iset.has y.val t = true ↔ Se.Iset.has x.val t = true ∧ ¬ (4 ≤ t ∧ t < (pt : Int)) := fun x y ha => by
    rcases ha with ⟨k, _⟩ | ⟨_, h1, _, h3, _⟩ | ⟨k, _⟩
    · exact absurd k (by show ¬ (4 : Int) = 3; omega)
    · exact ⟨h1, h3⟩
    · exact absurd k (by show ¬ (4 : Int) = 5; omega)
  obtain ⟨_, h⟩ := h
  rcases h with ⟨k, _⟩ | ⟨k, _⟩ | ⟨he, i, hi, hid, y, ha, rfl⟩ | ⟨he, i, hi, hid, y, ha, rfl⟩
  · exact absurd k (by show ¬ (4 : Int) = 1; omega)
  · exact absurd k (by show ¬ (4 : Int) = 2; omega)
  · obtain rfl : e = false := he
    obtain rfl : i = 0 := by have : ((1 : Nat) : Int) = (i : Int) + 1 := hid; omega
    exact ⟨y, rfl, key _ _ ha⟩
  · obtain rfl : e = true := he
    obtain rfl : i = 0 := by have : ((1 : Nat) : Int) = (i : Int) + 1 := hid; omega
    exact ⟨y, rfl, key _ _ ha⟩
/-- A drop of what is there is not refused. -/
theorem drop_bad {s : St} {e : Bool} {pt : Nat} {n : Int} (hp : 4 < pt ∧ pt ≤ 1099511627776) (h0 : 0 < (s.list e).length) : ¬ StepBad s (drO e pt) n := fun h => by
  rcases h with ⟨h, _⟩ | ⟨_, h, _⟩ | ⟨_, k, _⟩ | ⟨_, _, h, _⟩ | ⟨_, _, i, _, _, k, _⟩
  · exact h (drO_may hp)
  · rcases h with k | k
    · exact absurd k (by show ¬ (4 : Int) = 1; omega)
    · exact absurd k (by show ¬ (4 : Int) = 2; omega)
  · exact absurd k (by show ¬ (4 : Int) = 2; omega)
  · exact h (by unfold placeB; show (1 : Int) ≤ 1 ∧ (1 : Int) ≤ ((s.list e).length : Int); omega)
  · exact absurd k (by show ¬ (4 : Int) = 5; omega)
/-- Node 1 gone at 4: the edge dangles. -/
theorem num_a {n : Int} {z : St} (h : BApplied fiS [drO false 6] n z) : n = 33 := by
  rcases h with ⟨h, _⟩ | ⟨_, h, _⟩ | ⟨_, _, h⟩ | ⟨_, _, _, _, _, h⟩ | ⟨_, _, ⟨y, h1, h2⟩, hl, _⟩
  · exact absurd fi_may h
  · exact absurd h (by simp)
  · rcases h with h | ⟨_, _, h⟩
    · exact absurd h (drop_bad (by omega) (by show 0 < 2; omega))
    · exact h.elim
  · exact h
  · subst h2
    obtain ⟨x, rfl, _, hx⟩ := drop_step h1 (by show 0 < 2; omega)
    refine absurd hl (loose_two (t := 4) rfl rfl ((has_e1 4).2 (by omega)) fun g => ?_)
    have := ((hx 4).1 g.1).2
    omega
/-- Both cut at 4: nothing dangles. -/
theorem num_f {n : Int} {z : St} (h : BApplied fiS [drO false 6, drO true 1099511627776] n z) : n = 0 := by
  have tight : ∀ y y2 : St, StepOk fiS (drO false 6) y → StepOk y (drO true 1099511627776) y2 → NoLoose y2 := fun y y2 h1 h2 => by
    obtain ⟨x, rfl, _, hx⟩ := drop_step h1 (by show 0 < 2; omega)
    obtain ⟨d, rfl, hk, hd⟩ := drop_step h2 (by show 0 < 1; omega)
    refine tight_two hk.fr hk.til fun t ht => ?_
    have h3 := (hd t).1 ht
    have h4 : 3 ≤ t ∧ t < 5 := (has_e1 t).1 h3.1
    refine ⟨(hx t).2 ⟨(has_n1 t).2 (by omega), by omega⟩, (has_n2 t).2 (by omega)⟩
  have len : ∀ y : St, StepOk fiS (drO false 6) y → 0 < (y.list true).length := fun y h1 => by
    obtain ⟨x, rfl, _⟩ := drop_step h1 (by show 0 < 2; omega)
    show 0 < 1
    omega
  rcases h with ⟨h, _⟩ | ⟨_, h, _⟩ | ⟨_, _, h⟩ | ⟨_, _, _, ⟨y, h1, y2, h2, h3⟩, hl, _⟩ | ⟨_, _, _, _, h⟩
  · exact absurd fi_may h
  · exact absurd h (by simp)
  · rcases h with h | ⟨y, h1, h | ⟨_, _, h⟩⟩
    · exact absurd h (drop_bad (by omega) (by show 0 < 2; omega))
    · exact absurd h (drop_bad (by omega) (len y h1))
    · exact h.elim
  · rw [h3] at hl
    exact absurd (tight y y2 h1 h2) hl
  · exact h
/-- Node 2 made again. -/
def agO : Co.OP := ⟨1, false, 2, nul, 0, 0, nul, VP.none, 0, 1⟩
theorem agO_may : agO.may := ⟨id_ok (by show 1 ≤ 2 ∧ 2 ≤ 1000; omega), by show (0 : Nat) < 1; omega, by show (1 : Nat) ≤ 1099511627776; omega, .inl ⟨rfl, rfl, lab_nul, rfl, rfl, rfl, rfl⟩⟩
theorem num_b {n : Int} {z : St} (h : BApplied fiS [agO] n z) : n = 1 :=
  (h.one (z := z) (.inr (.inr (.inl ⟨fi_may, by simp, .inl (.inr (.inl ⟨agO_may, .inl rfl, by show ¬ (2 : Int) = 2 + 1; omega, rfl⟩))⟩)))).1
/-- Edge 2 kept: there is none. -/
def kpO : Co.OP := ⟨3, true, 2, nul, 0, 0, nul, VP.none, 0, 1⟩
theorem kpO_may : kpO.may := ⟨id_ok (by show 1 ≤ 2 ∧ 2 ≤ 1000; omega), by show (0 : Nat) < 1; omega, by show (1 : Nat) ≤ 1099511627776; omega, .inr (.inr (.inl ⟨.inl rfl, rfl, rfl, rfl, rfl, rfl⟩))⟩
theorem num_c {n : Int} {z : St} (h : BApplied fiS [kpO] n z) : n = 34 :=
  (h.one (z := z) (.inr (.inr (.inl ⟨fi_may, by simp, .inl (.inr (.inr (.inr (.inl ⟨kpO_may, by unfold isNew; show ¬ ((3 : Int) = 1 ∨ (3 : Int) = 2); omega, by unfold placeB; show ¬ ((1 : Int) ≤ 2 ∧ (2 : Int) ≤ 1); omega, rfl⟩))))⟩)))).1
/-- Node 2 set where it is not valid all the time. -/
def stO : Co.OP := ⟨5, false, 2, nul, 0, 0, bk, numV 1, 0, 3⟩
theorem stO_may : stO.may := ⟨id_ok (by show 1 ≤ 2 ∧ 2 ≤ 1000; omega), by show (0 : Nat) < 3; omega, by show (3 : Nat) ≤ 1099511627776; omega, .inr (.inr (.inr ⟨rfl, rfl, rfl, rfl, word_k, numV_may 1, by show ¬ ((2 : Int) = 5); omega, by show ¬ ((2 : Int) = 6); omega⟩))⟩
theorem num_d {n : Int} {z : St} (h : BApplied fiS [stO] n z) : n = 34 := by
  refine (h.one (z := z) (.inr (.inr (.inl ⟨fi_may, by simp, .inl (.inr (.inr (.inr (.inr ⟨stO_may, by unfold isNew; show ¬ ((5 : Int) = 1 ∨ (5 : Int) = 2); omega, 1, by show 1 < 2; omega, rfl, rfl, .inl ⟨fun hc => ?_, rfl⟩⟩))))⟩)))).1
  have h1 := hc 0 ((has_one (show ((0 : Nat) : Int) < ((3 : Nat) : Int) ∧ ((3 : Nat) : Int) ≤ 1099511627776 by omega) 0).2 (by omega))
  have h2 := (has_n2 0).1 h1
  omega
theorem one_wide {o : Co.OP} (h : o.wide) : ∀ x ∈ [o], x.wide := fun x hx => by rw [List.mem_singleton.1 hx]; exact h
theorem drO_wide (e : Bool) (pt : Nat) (h : pt ≤ 1099511627776) : (drO e pt).wide := bare_wide (by omega) (by omega) (by omega) (by omega) (by omega) h
theorem agO_wide : agO.wide := bare_wide (by omega) (by omega) (by omega) (by omega) (by omega) (by omega)
theorem kpO_wide : kpO.wide := bare_wide (by omega) (by omega) (by omega) (by omega) (by omega) (by omega)
theorem stO_wide : stO.wide := by
  refine ⟨by unfold fits; show _ ∧ _; simp only [stO]; omega, by show 2 < _; omega, Nat.zero_le _, by show 0 < _; omega, by show 0 < _; omega, by show 1 ≤ _; unfold maxLen; omega, (numV_ok 1 (by unfold fits; omega)).1, by show 0 < _; omega, by show 3 < _; omega⟩
/-- Where something begins or ends. -/
abbrev fiEnds : List Int := [0, 2, 3, 5, 9, 1099511627776]
theorem fi_edges (t : Int) : (∃ x ∈ [fiN1, fiN2, fiE1], (∃ p ∈ x.val, t = p.1 ∨ t = p.2) ∨ ∃ q ∈ x.ps, ∃ y ∈ q.l, t = y.a ∨ t = y.b) ↔ t ∈ fiEnds := by
  constructor
  · rintro ⟨x, hx, h⟩
    simp only [List.mem_cons, List.not_mem_nil, or_false] at hx ⊢
    rcases hx with rfl | rfl | rfl
    all_goals
      rcases h with ⟨p, hp, h⟩ | ⟨q, hq, _⟩
      · rw [List.mem_singleton.1 hp] at h
        simp only at h
        rcases h with h | h <;> simp [h]
      · simp at hq
  · intro h
    simp only [List.mem_cons, List.not_mem_nil, or_false] at h
    rcases h with rfl | rfl | rfl | rfl | rfl | rfl
    · exact ⟨fiN1, by simp, .inl ⟨(0, 9), by simp, .inl rfl⟩⟩
    · exact ⟨fiN2, by simp, .inl ⟨(2, 1099511627776), by simp, .inl rfl⟩⟩
    · exact ⟨fiE1, by simp, .inl ⟨(3, 5), by simp, .inl rfl⟩⟩
    · exact ⟨fiE1, by simp, .inl ⟨(3, 5), by simp, .inr rfl⟩⟩
    · exact ⟨fiN1, by simp, .inl ⟨(0, 9), by simp, .inr rfl⟩⟩
    · exact ⟨fiN2, by simp, .inl ⟨(2, 1099511627776), by simp, .inr rfl⟩⟩
end Go.Proofs.YtmolpogehgeebaaGreat


namespace Go.Proofs.YtmolpogehgeebaaGreat
open List (setIfInBounds_toArray set_cons_zero set_cons_succ)
open Go.RowKit
/-- A slice of operations, new. -/
theorem so_new (w : World) (L : List Co.OP) (A : Array Value) (hA : A.toList = Co.cellsO L) (hl : L.length ≤ 1000000) : Co.SO (w.alloc (.cells A 35)) (.slice (some ⟨w.heap.size, 0, none⟩) L.length L.length) L := by
  have hs : A.size = L.length * 14 := by rw [← Array.length_toList, hA, Co.cellsO_length]
  exact Co.OwnO.so (base := 0) ⟨by rw [Co.cellsO_length], .inr ⟨w.heap.size, L.length, A, rfl, Nat.zero_le _, heap_alloc_new w _, Nat.le_refl _, by unfold maxLen; omega, hs, by rw [hA]; exact List.take_of_length_le (by rw [Co.cellsO_length]; exact Nat.le_refl _)⟩⟩
/-- A state and this number are answered. -/
def NumAns (m : Int) (w : World) (e : Ending) (w' : World) : Prop := ∃ A1 n1 c1 A2 n2 c2, e = .returned (.tuple #[.agg #[.slice A1 n1 c1, .slice A2 n2 c2], .int .i64 m]) ∧ Below w.heap.size w w'
theorem num_ans {s : St} {ops : List Co.OP} {m : Int} {w w' : World} {e : Ending} (h : BApplyEnd s ops w e w') (hm : ∀ n z, BApplied s ops n z → n = m) : NumAns m w e w' := by
  obtain ⟨u, n, z, rfl, hb, ⟨sn, se, rfl, h1, h2⟩, ha, _⟩ := h
  obtain ⟨A1, c1, rfl, _⟩ := h1.form
  obtain ⟨A2, c2, rfl, _⟩ := h2.form
  exact ⟨A1, _, c1, A2, _, c2, by rw [hm n z ha], hb⟩
/-- The first state is answered. -/
def FirstAns (w : World) (e : Ending) (w' : World) : Prop := ∃ A1 c1 A2 c2, e = .returned (.tuple #[.agg #[.slice A1 2 c1, .slice A2 1 c2], .int .i64 0]) ∧ SOwn w.heap.size w' (.agg #[.slice A1 2 c1, .slice A2 1 c2]) fiS ∧ Below w.heap.size w w'
theorem first_ans {w w' : World} {e : Ending} (h : BApplyEnd noS firstL w e w') : FirstAns w e w' := by
  obtain ⟨u, n, z, rfl, hb, hs, ha, _⟩ := h
  obtain ⟨h0, hz⟩ := fi_ok.one ha
  subst h0
  obtain rfl := (hz rfl).symm
  have hs' := hs
  obtain ⟨sn, se, rfl, h1, h2⟩ := hs
  obtain ⟨A1, c1, rfl, _⟩ := h1.form
  obtain ⟨A2, c2, rfl, _⟩ := h2.form
  exact ⟨A1, c1, A2, c2, rfl, hs', hb⟩
theorem apply_fi {v sv : Value} {ops : List Co.OP} {m : Int} (w : World) (h : SAt w v fiS) (ho : Co.SO w sv ops) (hw : ∀ o ∈ ops, o.wide) (hm : ∀ n z, BApplied fiS ops n z → n = m) : Calls Tryz.prog 36 #[v, sv] w (NumAns m w) :=
  (bApply_any v sv fiS ops 6 3 w h (fi_good.wide (by omega) (by omega)) (fun _ => fi_good) ⟨by omega, by omega⟩ ho hw).mono fun _ _ h => num_ans h hm
theorem no_wide : noS.wide := ⟨fun x hx => by simp at hx, fun x hx => by simp at hx, by simp, by simp⟩
theorem isU_new (w : World) (L : List Int) (A : Array Value) (t : TypeId) (hA : A.toList = L.map (Value.int .u64)) (hl : L.length ≤ 1000) : Se.IsU (w.alloc (.cells A t)) (.slice (some ⟨w.heap.size, 0, none⟩) L.length L.length) L :=
  ⟨_, _, rfl, Nat.le_refl _, by unfold maxLen; omega, fun _ => ⟨w.heap.size, 0, rfl, by simp, fun i hi => by
    rw [Nat.zero_add, (Bx.new w A t).c i, ← Array.getElem?_toList, hA]
    simp [hi]⟩⟩
section
set_option linter.unusedSimpArgs false
set_option maxRecDepth 100000
set_option maxHeartbeats 16000000
theorem P14_any (a b : Int) (w : World) : Calls Tryz.prog 45 #[.int .u64 a, .int .u64 b] w fun e w' => e = .returned (.agg #[.int .u64 a, .int .u64 b]) ∧ Below w.heap.size w w' := by
  go_enter Tryz.func45, Tryz.ntmps45
  go_wp2
  go_returns
  exact ⟨rfl, by go_grown⟩
theorem number_any (n : Int) (w : World) : Calls Tryz.prog 116 #[.int .i64 n] w fun e w' => e = .returned (.agg #[.int .i64 2, .bool false, .int .i64 n, .float .f64 0, .string ⟨#[]⟩]) ∧ Below w.heap.size w w' := by
  have hsf := store_float
  go_enter Tryz.func116, Tryz.ntmps116
  go_wp2
  go_returns
  exact ⟨rfl, by go_grown⟩
theorem first_any (w : World) : Calls Tryz.prog 43 #[] w fun e w' => ∃ u, e = .returned u ∧ Co.SO w' u firstL ∧ Below w.heap.size w w' := by
  have CP := Lib.hid P14_any
  have hsf := store_float
  have SN := Lib.hid (fun W => so_new W firstL #[.int .i64 1, .bool false, .int .u64 1, .string ⟨#[]⟩, .int .u64 0, .int .u64 0, .string ⟨#[]⟩, .int .i64 0, .bool false, .int .i64 0, .float .f64 0, .string ⟨#[]⟩, .int .u64 0, .int .u64 9, .int .i64 1, .bool false, .int .u64 2, .string ⟨#[]⟩, .int .u64 0, .int .u64 0, .string ⟨#[]⟩, .int .i64 0, .bool false, .int .i64 0, .float .f64 0, .string ⟨#[]⟩, .int .u64 2, .int .u64 1099511627776, .int .i64 2, .bool true, .int .u64 1, .string ⟨#[]⟩, .int .u64 1, .int .u64 2, .string ⟨#[]⟩, .int .i64 0, .bool false, .int .i64 0, .float .f64 0, .string ⟨#[]⟩, .int .u64 3, .int .u64 5] rfl (by simp))
  go_enter Tryz.func43, Tryz.ntmps43
  go_wp2_with (first
    | (go_at_call 45; (with_reducible refine (CP.out 0 9 _).mono ?_); rintro e w1 ⟨rfl, hb⟩; have B1 := Lib.hid hb; clear hb)
    | (go_at_call 45; (with_reducible refine (CP.out 2 1099511627776 _).mono ?_); rintro e w2 ⟨rfl, hb⟩; have B2 := Lib.hid (B1.out.trans (hb.mono B1.out.size)); clear hb)
    | (go_at_call 45; (with_reducible refine (CP.out 3 5 _).mono ?_); rintro e w3 ⟨rfl, hb⟩; have B3 := Lib.hid (B2.out.trans (hb.mono B2.out.size)); clear hb)
    | fail)
  go_ret
  exact ⟨_, rfl, SN.out w3, B3.out.alloc B3.out.size _⟩
theorem inst_yes (va vb : Value) (L : List Int) (w : World) (ha : Se.IsU w va L) (hb : Se.IsU w vb L) (hl : L.length ≤ 1000) :
    Calls Tryz.prog 115 #[va, vb] w fun e w' => e = .returned (.bool true) ∧ Below w.heap.size w w' := by
  obtain ⟨A, c, rfl, _, _, hA⟩ := ha
  obtain ⟨B, d, rfl, _, _, hB⟩ := hb
  have HA := Lib.hid hA
  have HB := Lib.hid hB
  have b1 : (L.length : Int) ≤ 1000 := by omega
  clear hA hB
  go_enter Tryz.func115, Tryz.ntmps115
  go_wp2
  go_loopw [5] (fun i wr => ∃ k : Nat, k ≤ L.length ∧ i = .int .i64 k ∧ Below w.heap.size w wr) (fun i _ => L.length - (intOf i).toNat)
  case atStart => exact ⟨0, Nat.zero_le _, rfl, Below.refl _ _⟩
  case round =>
    obtain ⟨k, hk, rfl, hb⟩ := hrel
    have HBk := Lib.hid hb
    clear hb
    by_cases hlt : k < L.length
    · obtain ⟨g, og, rfl, lg, cg⟩ := HA.out (by omega)
      obtain ⟨q, oq, rfl, lq, cq⟩ := HB.out (by omega)
      have r1 := (HBk.out.cell (p := ⟨g, og + k, none⟩) lg).trans (cg k hlt)
      have r2 := (HBk.out.cell (p := ⟨q, oq + k, none⟩) lq).trans (cq k hlt)
      have i0 : (k : Int) < (L.length : Int) := by omega
      have i1 : (0 : Int) ≤ (k : Int) := by omega
      clear cg cq
      generalize L[k] = x at *
      go_upto_region 6 with fail
      go_quiet (fail)
      have HB2 := Lib.hid (bel_drewN nq HBk.out)
      go_wp2_with fail
      exact ⟨⟨k + 1, by omega, by go_num, HB2.out⟩, by simp [intOf]; omega⟩
    · go_wp2
      go_ret
      exact ⟨rfl, HBk.out⟩
theorem wakes_any (w : World) : Calls Tryz.prog 39 #[] w fun e w' => e = .returned (.bool true) ∧ Below w.heap.size w w' := by
  have CF := Lib.hid first_any
  have CP := Lib.hid P14_any
  have CN := Lib.hid number_any
  have CA1 := Lib.hid (fun W sv (ho : Co.SO W sv firstL) => (bApply_any (.agg #[.slice none 0 0, .slice none 0 0]) sv noS firstL 0 0 W (SAt.nil W) no_wide (fun _ => empty_good) ⟨by omega, by omega⟩ ho first_wide).mono fun _ _ h => first_ans h)
  have hsf := store_float
  go_enter Tryz.func39, Tryz.ntmps39
  go_upto_region 2 with (first
    | (go_at_call 43; (with_reducible refine (CF.out _).mono ?_); rintro e w1 ⟨u, rfl, ho, hb⟩; obtain ⟨Au, cu, hu, _, _⟩ := id ho; obtain rfl : u = .slice Au 3 cu := hu; have HO := Lib.hid ho; have B1 := Lib.hid hb; clear hb ho)
    | (go_at_call 36; (with_reducible refine (CA1.out _ _ HO.out).mono ?_); rintro e w2 ⟨A1, c1, A2, c2, rfl, hs, hb⟩; have HS := Lib.hid hs.at; have B2 := Lib.hid (B1.out.trans (hb.mono B1.out.size)); clear hs hb)
    | fail)
  have HA := Lib.hid ((Below.refl w2.heap.size w2).alloc (Nat.le_refl _) (.cells #[.slice A1 2 c1, .slice A2 1 c2] 76))
  have X1 := Lib.hid (Bx.new w2 #[.slice A1 2 c1, .slice A2 1 c2] 76)
  have HS1 := Lib.hid (HS.out.below HA.out)
  have B3 := Lib.hid (B2.out.trans (HA.out.mono B2.out.size))
  obtain ⟨w3, hw3⟩ : ∃ W, w2.alloc (.cells #[.slice A1 2 c1, .slice A2 1 c2] 76) = W := ⟨_, rfl⟩
  rw [hw3] at X1 HS1 B3
  try rw [hw3]
  clear hw3 HA
  obtain ⟨p1, hp1⟩ : ∃ q, w2.heap.size = q := ⟨_, rfl⟩
  rw [hp1] at X1
  try rw [hp1]
  clear hp1
  have CD := Lib.hid (Dangling_any (.agg #[.slice A1 2 c1, .slice A2 1 c2]) fiS w3 HS1.out (fi_good.wide (by omega) (by omega)))
  have x0 := X1.out.c
  go_upto_region 3 with (go_at_call 44; (with_reducible refine (CD.out).mono ?_); rintro e w4 ⟨n4, t4, is4, rfl, hd, hb⟩; obtain rfl : is4 = false := (by have h := hd.tight.2 fi_tight; cases is4; rfl; cases h); have B4 := Lib.hid (B3.out.trans (hb.mono B3.out.size)); have K4 := Lib.hid hb; have X4 := Lib.hid (X1.out.below hb); have HS4 := Lib.hid (HS1.out.below hb); clear hd hb x0)
  have x4 := X4.out.c
  have CE := Lib.hid (bEnds_any (.agg #[.slice A1 2 c1, .slice A2 1 c2]) fiS [fiN1, fiN2, fiE1] rfl w4 HS4.out (fun x hx => by
    have hm : ∀ y ∈ fiS.ns, y.may ∧ y.wide := fun y hy => ⟨(fi_good.ns y hy).may, (fi_good.ns y hy).wide (by omega)⟩
    have hm2 : ∀ y ∈ fiS.es, y.may ∧ y.wide := fun y hy => ⟨(fi_good.es y hy).may, (fi_good.es y hy).wide (by omega)⟩
    simp only [List.mem_cons, List.not_mem_nil, or_false] at hx
    rcases hx with rfl | rfl | rfl
    · exact ⟨(hm _ (by simp)).1, (hm _ (by simp)).2, by show 0 < 1; omega, by show 2 * 1 + 2 * 0 ≤ 12; omega⟩
    · exact ⟨(hm _ (by simp)).1, (hm _ (by simp)).2, by show 0 < 1; omega, by show 2 * 1 + 2 * 0 ≤ 12; omega⟩
    · exact ⟨(hm2 _ (by simp)).1, (hm2 _ (by simp)).2, by show 0 < 1; omega, by show 2 * 1 + 2 * 0 ≤ 12; omega⟩) (by show 0 < 2; omega) (by show 0 < 1; omega) (by show 2 ≤ 100; omega) (by show 1 ≤ 100; omega)
    (fun K hn hK => Nat.le_trans (len_subA K fiEnds hn fun t ht => (fi_edges t).1 (hK t ht)) (by show 6 ≤ 12; omega)))
  have CI := Lib.hid (fun va vb W h1 h2 => inst_yes va vb fiEnds W h1 h2 (by show 6 ≤ 1000; omega))
  have UN := Lib.hid (fun W => show Se.IsU (W.alloc (.cells #[.int .u64 0, .int .u64 2, .int .u64 3, .int .u64 5, .int .u64 9, .int .u64 1099511627776] 22)) (.slice (some ⟨W.heap.size, 0, none⟩) 6 6) fiEnds from isU_new W fiEnds #[.int .u64 0, .int .u64 2, .int .u64 3, .int .u64 5, .int .u64 9, .int .u64 1099511627776] 22 rfl (by show 6 ≤ 1000; omega))
  go_upto_region 5 with (first
    | (go_at_call 46; (with_reducible refine (CE.out).mono ?_); rintro e w5 ⟨u5, E, rfl, ho, hr, hm, hb⟩; obtain rfl : E = fiEnds := row_ext hr (by decide) (fun t => (hm t).trans (fi_edges t)); obtain ⟨A5, c5, h5, _⟩ := id ho.at; obtain rfl : u5 = .slice A5 6 c5 := h5; have HU5 := Lib.hid ho.at; have B5 := Lib.hid (B4.out.trans (hb.mono B4.out.size)); have K5 := Lib.hid hb; clear ho hr hm hb x4)
    | (go_at_call 115; go_loud ((with_reducible refine (CI.out _ _ _ (HU5.out.below ((Below.refl _ _).alloc (Nat.le_refl _) _)) (UN.out _)).mono ?_); rintro e w6 ⟨rfl, hb⟩; have B6 := Lib.hid ((B5.out.alloc B5.out.size _).trans (hb.mono (by have := B5.out.size; simp; omega))); have K6 := Lib.hid ((K5.out.alloc K5.out.size _).trans (hb.mono (by have := K5.out.size; simp; omega))); clear hb))
    | fail)
  have X6 := Lib.hid (X4.out.below K6.out)
  have HS6 := Lib.hid (HS4.out.below K6.out)
  have SN1 := Lib.hid (fun W => show Co.SO (W.alloc (.cells #[.int .i64 4, .bool false, .int .u64 1, .string ⟨#[]⟩, .int .u64 0, .int .u64 0, .string ⟨#[]⟩, .int .i64 0, .bool false, .int .i64 0, .float .f64 0, .string ⟨#[]⟩, .int .u64 4, .int .u64 6] 35)) (.slice (some ⟨W.heap.size, 0, none⟩) 1 1) [drO false 6] from so_new W [drO false 6] #[.int .i64 4, .bool false, .int .u64 1, .string ⟨#[]⟩, .int .u64 0, .int .u64 0, .string ⟨#[]⟩, .int .i64 0, .bool false, .int .i64 0, .float .f64 0, .string ⟨#[]⟩, .int .u64 4, .int .u64 6] rfl (by simp))
  go_upto_region 6 with (go_at_call 45; (with_reducible refine (CP.out _ _ _).mono ?_); rintro e w7 ⟨rfl, hb⟩; have B7 := Lib.hid (B6.out.trans (hb.mono B6.out.size)); have X7 := Lib.hid (X6.out.below hb); have HS7 := Lib.hid (HS6.out.below hb); clear hb)
  have HA := Lib.hid ((Below.refl w7.heap.size w7).alloc (Nat.le_refl _) (.cells #[.int .i64 4, .bool false, .int .u64 1, .string ⟨#[]⟩, .int .u64 0, .int .u64 0, .string ⟨#[]⟩, .int .i64 0, .bool false, .int .i64 0, .float .f64 0, .string ⟨#[]⟩, .int .u64 4, .int .u64 6] 35))
  have Y8 := Lib.hid (Bx.new w7 #[.int .i64 4, .bool false, .int .u64 1, .string ⟨#[]⟩, .int .u64 0, .int .u64 0, .string ⟨#[]⟩, .int .i64 0, .bool false, .int .i64 0, .float .f64 0, .string ⟨#[]⟩, .int .u64 4, .int .u64 6] 35)
  have X8 := Lib.hid (X7.out.below HA.out)
  have HS8 := Lib.hid (HS7.out.below HA.out)
  have B8 := Lib.hid (B7.out.trans (HA.out.mono B7.out.size))
  obtain ⟨w8, hw8⟩ : ∃ W, w7.alloc (.cells #[.int .i64 4, .bool false, .int .u64 1, .string ⟨#[]⟩, .int .u64 0, .int .u64 0, .string ⟨#[]⟩, .int .i64 0, .bool false, .int .i64 0, .float .f64 0, .string ⟨#[]⟩, .int .u64 4, .int .u64 6] 35) = W := ⟨_, rfl⟩
  rw [hw8] at Y8 X8 HS8 B8
  try rw [hw8]
  clear hw8 HA
  obtain ⟨p6, hp6⟩ : ∃ q, w7.heap.size = q := ⟨_, rfl⟩
  rw [hp6] at Y8
  try rw [hp6]
  clear hp6
  have x8 := X8.out.c
  have RG := Lib.hid Y8.out.rng
  have CA6 := Lib.hid (fun W sv (hb : Below w8.heap.size w8 W) (ho : Co.SO W sv [drO false 6]) => apply_fi W (HS8.out.below hb) ho (one_wide (drO_wide false 6 (by omega))) (fun n z => num_a))
  go_upto_region 7 with (first
    | (refine wpList_load_mid rfl 35 (.tmp 6) rfl p6 0 rfl _ _ RG.out Tryz.underlying35 rfl rowOpB ?_)
    | (go_at_call 36; (with_reducible refine (CA6.out _ _ ((Below.refl w8.heap.size w8).alloc (Nat.le_refl _) _) (SN1.out w8)).mono ?_); rintro e w9 ⟨A3, n3, c3, A4, n4, c4, rfl, hb⟩; have B9 := Lib.hid ((B8.out.alloc B8.out.size _).trans (hb.mono (by have := B8.out.size; simp; omega))); have K9 := Lib.hid (((Below.refl w8.heap.size w8).alloc (Nat.le_refl _) _).trans (hb.mono (by simp))); clear hb x8)
    | fail)
  have HA := Lib.hid ((Below.refl w9.heap.size w9).alloc (Nat.le_refl _) (.cells #[.slice A3 n3 c3, .slice A4 n4 c4] 76))
  have K10 := Lib.hid (K9.out.trans (HA.out.mono K9.out.size))
  have B10 := Lib.hid (B9.out.trans (HA.out.mono B9.out.size))
  obtain ⟨w10, hw10⟩ : ∃ W, w9.alloc (.cells #[.slice A3 n3 c3, .slice A4 n4 c4] 76) = W := ⟨_, rfl⟩
  rw [hw10] at K10 B10
  try rw [hw10]
  clear hw10 HA
  have X10 := Lib.hid (X8.out.below K10.out)
  have HS10 := Lib.hid (HS8.out.below K10.out)
  have Y10 := Lib.hid (Y8.out.below K10.out)
  have CA7 := Lib.hid (fun W sv (hb : Below w10.heap.size w10 W) (ho : Co.SO W sv [agO]) => apply_fi W (HS10.out.below hb) ho (one_wide agO_wide) (fun n z => num_b))
  have K7 := Lib.hid (show ∀ w', Below w10.heap.size w10 w' → ∀ j, w'.cell? ⟨p1, j, none⟩ = #[.slice A1 2 c1, .slice A2 1 c2][j]? from fun w' hb => (X10.out.below hb).c)
  go_upto_region 7 with fail
  go_cut [10] from 9 to 57 (fun t wd => t = .int .i64 1 ∧ Below w10.heap.size w10 wd)
  case first =>
    refine wp_region_held_drew (S := (fun w' => (∀ j, w'.cell? ⟨p1, j, none⟩ = #[.slice A1 2 c1, .slice A2 1 c2][j]?))) (by kernel_rfl) (K7.out _ (Below.refl _ _).drew) (fun hHeld => ?_)
    refine take_in (i := 0) (v := ?_) (some 51) rfl rfl (by kernel_rfl) (by kernel_rfl) (by kernel_rfl) (fun _ _ _ h => h) (Or.inl ⟨by rfl, ?_⟩) (by assumption) ?_
    rotate_left
    · (intro w hSw; (try dsimp only at hSw); (try go_split_ands); go_simp; try with_reducible rfl)
    try simp only [Act.put, setIfInBounds_toArray, set_cons_zero, set_cons_succ]
    refine wpAnyH_ready (rs := [1, 8]) (by kernel_rfl) (by simp) ?_
    refine (AllReadyH.cons rfl (fun K hK => ?_) (AllReadyH.cons rfl (fun K hK => ?_) AllReadyH.nil))
    · go_simp
      (with_reducible refine (CP.out _ _ _).mono ?_)
      rintro e wr7a ⟨rfl, hb⟩
      have Hr7a := Lib.hid ((show Below w10.heap.size w10 w10.drew from (Below.refl _ _).drew).trans (hb.mono (show Below w10.heap.size w10 w10.drew from (Below.refl _ _).drew).size))
      clear hb
      go_wp2_with fail
      refine hK.out _ _ (K7.out _ Hr7a.out) (fun hHeld => ?_)
      clear hK K
      try simp only [Act.put, setIfInBounds_toArray, set_cons_zero, set_cons_succ]
      refine take_in (i := 2) (v := ?_) (some 53) rfl rfl (by kernel_rfl) (by kernel_rfl) (by kernel_rfl) (fun _ _ _ h => h) (Or.inl ⟨by rfl, ?_⟩) (by assumption) ?_
      rotate_left
      · (intro w hSw; (try dsimp only at hSw); (try go_split_ands); go_simp; try with_reducible rfl)
      try simp only [Act.put, setIfInBounds_toArray, set_cons_zero, set_cons_succ]
      refine wpAnyH_ready (rs := [3, 8]) (by kernel_rfl) (by simp) ?_
      refine (AllReadyH.cons rfl (fun K hK => ?_) (AllReadyH.cons rfl (fun K hK => ?_) AllReadyH.nil))
      · go_simp
        refine hK.out _ _ (K7.out _ (Hr7a.out.alloc Hr7a.out.size _)) (fun hHeld => ?_)
        clear hK K
        try simp only [Act.put, setIfInBounds_toArray, set_cons_zero, set_cons_succ]
        obtain ⟨wr7aQ, hWr7⟩ : ∃ W, wr7a.alloc (.cells #[.int .i64 1, .bool false, .int .u64 2, .string ⟨#[]⟩, .int .u64 0, .int .u64 0, .string ⟨#[]⟩, .int .i64 0, .bool false, .int .i64 0, .float .f64 0, .string ⟨#[]⟩, .int .u64 0, .int .u64 1] 35) = W := ⟨_, rfl⟩
        have Hr7aQ := Lib.hid (show Below w10.heap.size w10 wr7aQ by rw [← hWr7]; exact Hr7a.out.alloc Hr7a.out.size _)
        have hbA : Below wr7a.heap.size wr7a wr7aQ := by rw [← hWr7]; exact (Below.refl _ _).alloc (Nat.le_refl _) _
        clear hbA
        have SOaQ := Lib.hid (show Co.SO wr7aQ (.slice (some ⟨wr7a.heap.size, 0, none⟩) 1 1) [agO] by rw [← hWr7]; exact so_new wr7a [agO] #[.int .i64 1, .bool false, .int .u64 2, .string ⟨#[]⟩, .int .u64 0, .int .u64 0, .string ⟨#[]⟩, .int .i64 0, .bool false, .int .i64 0, .float .f64 0, .string ⟨#[]⟩, .int .u64 0, .int .u64 1] rfl (by simp))
        try rw [hWr7] at hHeld
        try rw [hWr7]
        clear hWr7
        refine wpAnyH_ready (rs := [4, 8]) (by kernel_rfl) (by simp) ?_
        refine (AllReadyH.cons rfl (fun K hK => ?_) (AllReadyH.cons rfl (fun K hK => ?_) AllReadyH.nil))
        · go_simp
          (with_reducible refine (CA7.out _ _ Hr7aQ.out SOaQ.out).mono ?_)
          rintro e wr7aQZ ⟨A3, n3, c3, A4, n4, c4, rfl, hb⟩
          have Hr7aQZ := Lib.hid (Hr7aQ.out.trans (hb.mono Hr7aQ.out.size))
          clear hb
          go_wp2_with fail
          refine hK.out _ _ (K7.out _ Hr7aQZ.out) (fun hHeld => ?_)
          clear hK K
          try simp only [Act.put, setIfInBounds_toArray, set_cons_zero, set_cons_succ]
          refine take_in (i := 5) (v := ?_) (some 50) rfl rfl (by kernel_rfl) (by kernel_rfl) (by kernel_rfl) (fun _ _ _ h => h) (Or.inl ⟨by rfl, ?_⟩) (by assumption) ?_
          rotate_left
          · (intro w hSw; (try dsimp only at hSw); (try go_split_ands); go_simp; try with_reducible rfl)
          try simp only [Act.put, setIfInBounds_toArray, set_cons_zero, set_cons_succ]
          refine take_in (i := 6) (v := ?_) (some 56) rfl rfl (by kernel_rfl) (by kernel_rfl) (by kernel_rfl) (fun _ _ _ h => h) (Or.inl ⟨by rfl, ?_⟩) (by assumption) ?_
          rotate_left
          · (intro w hSw; (try dsimp only at hSw); (try go_split_ands); go_simp; try with_reducible rfl)
          try simp only [Act.put, setIfInBounds_toArray, set_cons_zero, set_cons_succ]
          refine take_in (i := 7) (v := ?_) (some 57) rfl rfl (by kernel_rfl) (by kernel_rfl) (by kernel_rfl) (fun _ _ _ h => h) (Or.inl ⟨by rfl, ?_⟩) (by assumption) ?_
          rotate_left
          · (intro w hSw; (try dsimp only at hSw); (try go_split_ands); go_simp; try with_reducible rfl)
          try simp only [Act.put, setIfInBounds_toArray, set_cons_zero, set_cons_succ]
          refine wpAnyH_ready (rs := [8]) (by kernel_rfl) (by simp) ?_
          refine (AllReadyH.cons rfl (fun K hK => ?_) AllReadyH.nil)
          go_simp
          refine hK.out _ _ (K7.out _ (Hr7aQZ.out.alloc Hr7aQZ.out.size _)) (fun hHeld => ?_)
          clear hK K
          try simp only [Act.put, setIfInBounds_toArray, set_cons_zero, set_cons_succ]
          obtain ⟨wr7aQZA, hWr7⟩ : ∃ W, wr7aQZ.alloc (.cells #[.slice none 0 0, .slice none 0 0] 76) = W := ⟨_, rfl⟩
          have Hr7aQZA := Lib.hid (show Below w10.heap.size w10 wr7aQZA by rw [← hWr7]; exact Hr7aQZ.out.alloc Hr7aQZ.out.size _)
          have hbA : Below wr7aQZ.heap.size wr7aQZ wr7aQZA := by rw [← hWr7]; exact (Below.refl _ _).alloc (Nat.le_refl _) _
          clear hbA
          have YBaQZA := Lib.hid (show Bx wr7aQZA wr7aQZ.heap.size #[.slice none 0 0, .slice none 0 0] by rw [← hWr7]; exact Bx.new wr7aQZ _ _)
          have y2 := YBaQZA.out.c
          have y3 := YBaQZA.out.fr
          try rw [hWr7] at hHeld
          try rw [hWr7]
          clear hWr7
          refine wpAnyH_ready (rs := [9]) (by kernel_rfl) (by simp) ?_
          refine (AllReadyH.cons rfl (fun K hK => ?_) AllReadyH.nil)
          go_simp
          refine hK.out _ _ (K7.out _ (Hr7aQZA.out.grown (put2 YBaQZA.out _ _).2 Hr7aQZA.out.size fun q hq => by have e := Option.some.inj hq; have h1 : w10.heap.size ≤ q := (by rw [← e]; exact Hr7aQZ.out.size); exact h1)) (fun hHeld => ?_)
          clear hK K
          try simp only [Act.put, setIfInBounds_toArray, set_cons_zero, set_cons_succ]
          clear y2 y3
          refine take_in (i := 10) (v := ?_) (some 10) rfl rfl (by kernel_rfl) (by kernel_rfl) (by kernel_rfl) (fun _ _ _ h => h) (Or.inl ⟨by rfl, ?_⟩) (by assumption) ?_
          rotate_left
          · (intro w hSw; (try dsimp only at hSw); (try go_split_ands); go_simp; try with_reducible rfl)
          try simp only [Act.put, setIfInBounds_toArray, set_cons_zero, set_cons_succ]
          refine wpAnyH_done (by kernel_rfl) ?_ _
          go_wp2_with fail
          go_meet
          exact ⟨rfl, (Hr7aQZA.out.grown (put2 YBaQZA.out _ _).2 Hr7aQZA.out.size fun q hq => by have e := Option.some.inj hq; have h1 : w10.heap.size ≤ q := (by rw [← e]; exact Hr7aQZ.out.size); exact h1)⟩
        · go_simp
          refine hK.out _ _ (K7.out _ (Hr7aQ.out.alloc Hr7aQ.out.size _)) (fun hHeld => ?_)
          clear hK K
          try simp only [Act.put, setIfInBounds_toArray, set_cons_zero, set_cons_succ]
          obtain ⟨wr7aQA, hWr7⟩ : ∃ W, wr7aQ.alloc (.cells #[.slice none 0 0, .slice none 0 0] 76) = W := ⟨_, rfl⟩
          have Hr7aQA := Lib.hid (show Below w10.heap.size w10 wr7aQA by rw [← hWr7]; exact Hr7aQ.out.alloc Hr7aQ.out.size _)
          have hbA : Below wr7aQ.heap.size wr7aQ wr7aQA := by rw [← hWr7]; exact (Below.refl _ _).alloc (Nat.le_refl _) _
          have SOaQA := Lib.hid (SOaQ.out.below hbA)
          clear hbA
          have YBaQA := Lib.hid (show Bx wr7aQA wr7aQ.heap.size #[.slice none 0 0, .slice none 0 0] by rw [← hWr7]; exact Bx.new wr7aQ _ _)
          try rw [hWr7] at hHeld
          try rw [hWr7]
          clear hWr7
          refine wpAnyH_ready (rs := [4]) (by kernel_rfl) (by simp) ?_
          refine (AllReadyH.cons rfl (fun K hK => ?_) AllReadyH.nil)
          go_simp
          (with_reducible refine (CA7.out _ _ Hr7aQA.out SOaQA.out).mono ?_)
          rintro e wr7aQAZ ⟨A3, n3, c3, A4, n4, c4, rfl, hb⟩
          have Hr7aQAZ := Lib.hid (Hr7aQA.out.trans (hb.mono Hr7aQA.out.size))
          have YBaQAZ := Lib.hid (YBaQA.out.below hb)
          have y2 := YBaQAZ.out.c
          have y3 := YBaQAZ.out.fr
          clear hb
          go_wp2_with fail
          refine hK.out _ _ (K7.out _ Hr7aQAZ.out) (fun hHeld => ?_)
          clear hK K
          try simp only [Act.put, setIfInBounds_toArray, set_cons_zero, set_cons_succ]
          refine take_in (i := 5) (v := ?_) (some 50) rfl rfl (by kernel_rfl) (by kernel_rfl) (by kernel_rfl) (fun _ _ _ h => h) (Or.inl ⟨by rfl, ?_⟩) (by assumption) ?_
          rotate_left
          · (intro w hSw; (try dsimp only at hSw); (try go_split_ands); go_simp; try with_reducible rfl)
          try simp only [Act.put, setIfInBounds_toArray, set_cons_zero, set_cons_succ]
          refine take_in (i := 6) (v := ?_) (some 56) rfl rfl (by kernel_rfl) (by kernel_rfl) (by kernel_rfl) (fun _ _ _ h => h) (Or.inl ⟨by rfl, ?_⟩) (by assumption) ?_
          rotate_left
          · (intro w hSw; (try dsimp only at hSw); (try go_split_ands); go_simp; try with_reducible rfl)
          try simp only [Act.put, setIfInBounds_toArray, set_cons_zero, set_cons_succ]
          refine take_in (i := 7) (v := ?_) (some 57) rfl rfl (by kernel_rfl) (by kernel_rfl) (by kernel_rfl) (fun _ _ _ h => h) (Or.inl ⟨by rfl, ?_⟩) (by assumption) ?_
          rotate_left
          · (intro w hSw; (try dsimp only at hSw); (try go_split_ands); go_simp; try with_reducible rfl)
          try simp only [Act.put, setIfInBounds_toArray, set_cons_zero, set_cons_succ]
          refine wpAnyH_ready (rs := [9]) (by kernel_rfl) (by simp) ?_
          refine (AllReadyH.cons rfl (fun K hK => ?_) AllReadyH.nil)
          go_simp
          refine hK.out _ _ (K7.out _ (Hr7aQAZ.out.grown (put2 YBaQAZ.out _ _).2 Hr7aQAZ.out.size fun q hq => by have e := Option.some.inj hq; have h1 : w10.heap.size ≤ q := (by rw [← e]; exact Hr7aQ.out.size); exact h1)) (fun hHeld => ?_)
          clear hK K
          try simp only [Act.put, setIfInBounds_toArray, set_cons_zero, set_cons_succ]
          clear y2 y3
          refine take_in (i := 10) (v := ?_) (some 10) rfl rfl (by kernel_rfl) (by kernel_rfl) (by kernel_rfl) (fun _ _ _ h => h) (Or.inl ⟨by rfl, ?_⟩) (by assumption) ?_
          rotate_left
          · (intro w hSw; (try dsimp only at hSw); (try go_split_ands); go_simp; try with_reducible rfl)
          try simp only [Act.put, setIfInBounds_toArray, set_cons_zero, set_cons_succ]
          refine wpAnyH_done (by kernel_rfl) ?_ _
          go_wp2_with fail
          go_meet
          exact ⟨rfl, (Hr7aQAZ.out.grown (put2 YBaQAZ.out _ _).2 Hr7aQAZ.out.size fun q hq => by have e := Option.some.inj hq; have h1 : w10.heap.size ≤ q := (by rw [← e]; exact Hr7aQ.out.size); exact h1)⟩
      · go_simp
        refine hK.out _ _ (K7.out _ (Hr7a.out.alloc Hr7a.out.size _)) (fun hHeld => ?_)
        clear hK K
        try simp only [Act.put, setIfInBounds_toArray, set_cons_zero, set_cons_succ]
        obtain ⟨wr7aA, hWr7⟩ : ∃ W, wr7a.alloc (.cells #[.slice none 0 0, .slice none 0 0] 76) = W := ⟨_, rfl⟩
        have Hr7aA := Lib.hid (show Below w10.heap.size w10 wr7aA by rw [← hWr7]; exact Hr7a.out.alloc Hr7a.out.size _)
        have hbA : Below wr7a.heap.size wr7a wr7aA := by rw [← hWr7]; exact (Below.refl _ _).alloc (Nat.le_refl _) _
        clear hbA
        have YBaA := Lib.hid (show Bx wr7aA wr7a.heap.size #[.slice none 0 0, .slice none 0 0] by rw [← hWr7]; exact Bx.new wr7a _ _)
        try rw [hWr7] at hHeld
        try rw [hWr7]
        clear hWr7
        refine wpAnyH_ready (rs := [3]) (by kernel_rfl) (by simp) ?_
        refine (AllReadyH.cons rfl (fun K hK => ?_) AllReadyH.nil)
        go_simp
        refine hK.out _ _ (K7.out _ (Hr7aA.out.alloc Hr7aA.out.size _)) (fun hHeld => ?_)
        clear hK K
        try simp only [Act.put, setIfInBounds_toArray, set_cons_zero, set_cons_succ]
        obtain ⟨wr7aAQ, hWr7⟩ : ∃ W, wr7aA.alloc (.cells #[.int .i64 1, .bool false, .int .u64 2, .string ⟨#[]⟩, .int .u64 0, .int .u64 0, .string ⟨#[]⟩, .int .i64 0, .bool false, .int .i64 0, .float .f64 0, .string ⟨#[]⟩, .int .u64 0, .int .u64 1] 35) = W := ⟨_, rfl⟩
        have Hr7aAQ := Lib.hid (show Below w10.heap.size w10 wr7aAQ by rw [← hWr7]; exact Hr7aA.out.alloc Hr7aA.out.size _)
        have hbA : Below wr7aA.heap.size wr7aA wr7aAQ := by rw [← hWr7]; exact (Below.refl _ _).alloc (Nat.le_refl _) _
        have YBaAQ := Lib.hid (YBaA.out.below hbA)
        clear hbA
        have SOaAQ := Lib.hid (show Co.SO wr7aAQ (.slice (some ⟨wr7aA.heap.size, 0, none⟩) 1 1) [agO] by rw [← hWr7]; exact so_new wr7aA [agO] #[.int .i64 1, .bool false, .int .u64 2, .string ⟨#[]⟩, .int .u64 0, .int .u64 0, .string ⟨#[]⟩, .int .i64 0, .bool false, .int .i64 0, .float .f64 0, .string ⟨#[]⟩, .int .u64 0, .int .u64 1] rfl (by simp))
        try rw [hWr7] at hHeld
        try rw [hWr7]
        clear hWr7
        refine wpAnyH_ready (rs := [4]) (by kernel_rfl) (by simp) ?_
        refine (AllReadyH.cons rfl (fun K hK => ?_) AllReadyH.nil)
        go_simp
        (with_reducible refine (CA7.out _ _ Hr7aAQ.out SOaAQ.out).mono ?_)
        rintro e wr7aAQZ ⟨A3, n3, c3, A4, n4, c4, rfl, hb⟩
        have Hr7aAQZ := Lib.hid (Hr7aAQ.out.trans (hb.mono Hr7aAQ.out.size))
        have YBaAQZ := Lib.hid (YBaAQ.out.below hb)
        have y2 := YBaAQZ.out.c
        have y3 := YBaAQZ.out.fr
        clear hb
        go_wp2_with fail
        refine hK.out _ _ (K7.out _ Hr7aAQZ.out) (fun hHeld => ?_)
        clear hK K
        try simp only [Act.put, setIfInBounds_toArray, set_cons_zero, set_cons_succ]
        refine take_in (i := 5) (v := ?_) (some 50) rfl rfl (by kernel_rfl) (by kernel_rfl) (by kernel_rfl) (fun _ _ _ h => h) (Or.inl ⟨by rfl, ?_⟩) (by assumption) ?_
        rotate_left
        · (intro w hSw; (try dsimp only at hSw); (try go_split_ands); go_simp; try with_reducible rfl)
        try simp only [Act.put, setIfInBounds_toArray, set_cons_zero, set_cons_succ]
        refine take_in (i := 6) (v := ?_) (some 56) rfl rfl (by kernel_rfl) (by kernel_rfl) (by kernel_rfl) (fun _ _ _ h => h) (Or.inl ⟨by rfl, ?_⟩) (by assumption) ?_
        rotate_left
        · (intro w hSw; (try dsimp only at hSw); (try go_split_ands); go_simp; try with_reducible rfl)
        try simp only [Act.put, setIfInBounds_toArray, set_cons_zero, set_cons_succ]
        refine take_in (i := 7) (v := ?_) (some 57) rfl rfl (by kernel_rfl) (by kernel_rfl) (by kernel_rfl) (fun _ _ _ h => h) (Or.inl ⟨by rfl, ?_⟩) (by assumption) ?_
        rotate_left
        · (intro w hSw; (try dsimp only at hSw); (try go_split_ands); go_simp; try with_reducible rfl)
        try simp only [Act.put, setIfInBounds_toArray, set_cons_zero, set_cons_succ]
        refine wpAnyH_ready (rs := [9]) (by kernel_rfl) (by simp) ?_
        refine (AllReadyH.cons rfl (fun K hK => ?_) AllReadyH.nil)
        go_simp
        refine hK.out _ _ (K7.out _ (Hr7aAQZ.out.grown (put2 YBaAQZ.out _ _).2 Hr7aAQZ.out.size fun q hq => by have e := Option.some.inj hq; have h1 : w10.heap.size ≤ q := (by rw [← e]; exact Hr7a.out.size); exact h1)) (fun hHeld => ?_)
        clear hK K
        try simp only [Act.put, setIfInBounds_toArray, set_cons_zero, set_cons_succ]
        clear y2 y3
        refine take_in (i := 10) (v := ?_) (some 10) rfl rfl (by kernel_rfl) (by kernel_rfl) (by kernel_rfl) (fun _ _ _ h => h) (Or.inl ⟨by rfl, ?_⟩) (by assumption) ?_
        rotate_left
        · (intro w hSw; (try dsimp only at hSw); (try go_split_ands); go_simp; try with_reducible rfl)
        try simp only [Act.put, setIfInBounds_toArray, set_cons_zero, set_cons_succ]
        refine wpAnyH_done (by kernel_rfl) ?_ _
        go_wp2_with fail
        go_meet
        exact ⟨rfl, (Hr7aAQZ.out.grown (put2 YBaAQZ.out _ _).2 Hr7aAQZ.out.size fun q hq => by have e := Option.some.inj hq; have h1 : w10.heap.size ≤ q := (by rw [← e]; exact Hr7a.out.size); exact h1)⟩
    · go_simp
      refine hK.out _ _ (K7.out _ ((show Below w10.heap.size w10 w10.drew from (Below.refl _ _).drew).alloc (show Below w10.heap.size w10 w10.drew from (Below.refl _ _).drew).size _)) (fun hHeld => ?_)
      clear hK K
      try simp only [Act.put, setIfInBounds_toArray, set_cons_zero, set_cons_succ]
      obtain ⟨wr7A, hWr7⟩ : ∃ W, (w10.alloc (.cells #[.slice none 0 0, .slice none 0 0] 76)).drew = W := ⟨_, rfl⟩
      have Hr7A := Lib.hid (show Below w10.heap.size w10 wr7A by rw [← hWr7]; exact ((Below.refl _ _).alloc (Nat.le_refl _) _).drew)
      have YBA := Lib.hid (show Bx wr7A w10.heap.size #[.slice none 0 0, .slice none 0 0] by rw [← hWr7]; exact (Bx.new w10 _ _).below (Below.refl _ _).drew)
      try rw [hWr7] at hHeld
      try rw [hWr7]
      clear hWr7
      refine wpAnyH_ready (rs := [1]) (by kernel_rfl) (by simp) ?_
      refine (AllReadyH.cons rfl (fun K hK => ?_) AllReadyH.nil)
      go_simp
      (with_reducible refine (CP.out _ _ _).mono ?_)
      rintro e wr7Aa ⟨rfl, hb⟩
      have Hr7Aa := Lib.hid (Hr7A.out.trans (hb.mono Hr7A.out.size))
      have YBAa := Lib.hid (YBA.out.below hb)
      clear hb
      go_wp2_with fail
      refine hK.out _ _ (K7.out _ Hr7Aa.out) (fun hHeld => ?_)
      clear hK K
      try simp only [Act.put, setIfInBounds_toArray, set_cons_zero, set_cons_succ]
      refine take_in (i := 2) (v := ?_) (some 53) rfl rfl (by kernel_rfl) (by kernel_rfl) (by kernel_rfl) (fun _ _ _ h => h) (Or.inl ⟨by rfl, ?_⟩) (by assumption) ?_
      rotate_left
      · (intro w hSw; (try dsimp only at hSw); (try go_split_ands); go_simp; try with_reducible rfl)
      try simp only [Act.put, setIfInBounds_toArray, set_cons_zero, set_cons_succ]
      refine wpAnyH_ready (rs := [3]) (by kernel_rfl) (by simp) ?_
      refine (AllReadyH.cons rfl (fun K hK => ?_) AllReadyH.nil)
      go_simp
      refine hK.out _ _ (K7.out _ (Hr7Aa.out.alloc Hr7Aa.out.size _)) (fun hHeld => ?_)
      clear hK K
      try simp only [Act.put, setIfInBounds_toArray, set_cons_zero, set_cons_succ]
      obtain ⟨wr7AaQ, hWr7⟩ : ∃ W, wr7Aa.alloc (.cells #[.int .i64 1, .bool false, .int .u64 2, .string ⟨#[]⟩, .int .u64 0, .int .u64 0, .string ⟨#[]⟩, .int .i64 0, .bool false, .int .i64 0, .float .f64 0, .string ⟨#[]⟩, .int .u64 0, .int .u64 1] 35) = W := ⟨_, rfl⟩
      have Hr7AaQ := Lib.hid (show Below w10.heap.size w10 wr7AaQ by rw [← hWr7]; exact Hr7Aa.out.alloc Hr7Aa.out.size _)
      have hbA : Below wr7Aa.heap.size wr7Aa wr7AaQ := by rw [← hWr7]; exact (Below.refl _ _).alloc (Nat.le_refl _) _
      have YBAaQ := Lib.hid (YBAa.out.below hbA)
      clear hbA
      have SOAaQ := Lib.hid (show Co.SO wr7AaQ (.slice (some ⟨wr7Aa.heap.size, 0, none⟩) 1 1) [agO] by rw [← hWr7]; exact so_new wr7Aa [agO] #[.int .i64 1, .bool false, .int .u64 2, .string ⟨#[]⟩, .int .u64 0, .int .u64 0, .string ⟨#[]⟩, .int .i64 0, .bool false, .int .i64 0, .float .f64 0, .string ⟨#[]⟩, .int .u64 0, .int .u64 1] rfl (by simp))
      try rw [hWr7] at hHeld
      try rw [hWr7]
      clear hWr7
      refine wpAnyH_ready (rs := [4]) (by kernel_rfl) (by simp) ?_
      refine (AllReadyH.cons rfl (fun K hK => ?_) AllReadyH.nil)
      go_simp
      (with_reducible refine (CA7.out _ _ Hr7AaQ.out SOAaQ.out).mono ?_)
      rintro e wr7AaQZ ⟨A3, n3, c3, A4, n4, c4, rfl, hb⟩
      have Hr7AaQZ := Lib.hid (Hr7AaQ.out.trans (hb.mono Hr7AaQ.out.size))
      have YBAaQZ := Lib.hid (YBAaQ.out.below hb)
      have y2 := YBAaQZ.out.c
      have y3 := YBAaQZ.out.fr
      clear hb
      go_wp2_with fail
      refine hK.out _ _ (K7.out _ Hr7AaQZ.out) (fun hHeld => ?_)
      clear hK K
      try simp only [Act.put, setIfInBounds_toArray, set_cons_zero, set_cons_succ]
      refine take_in (i := 5) (v := ?_) (some 50) rfl rfl (by kernel_rfl) (by kernel_rfl) (by kernel_rfl) (fun _ _ _ h => h) (Or.inl ⟨by rfl, ?_⟩) (by assumption) ?_
      rotate_left
      · (intro w hSw; (try dsimp only at hSw); (try go_split_ands); go_simp; try with_reducible rfl)
      try simp only [Act.put, setIfInBounds_toArray, set_cons_zero, set_cons_succ]
      refine take_in (i := 6) (v := ?_) (some 56) rfl rfl (by kernel_rfl) (by kernel_rfl) (by kernel_rfl) (fun _ _ _ h => h) (Or.inl ⟨by rfl, ?_⟩) (by assumption) ?_
      rotate_left
      · (intro w hSw; (try dsimp only at hSw); (try go_split_ands); go_simp; try with_reducible rfl)
      try simp only [Act.put, setIfInBounds_toArray, set_cons_zero, set_cons_succ]
      refine take_in (i := 7) (v := ?_) (some 57) rfl rfl (by kernel_rfl) (by kernel_rfl) (by kernel_rfl) (fun _ _ _ h => h) (Or.inl ⟨by rfl, ?_⟩) (by assumption) ?_
      rotate_left
      · (intro w hSw; (try dsimp only at hSw); (try go_split_ands); go_simp; try with_reducible rfl)
      try simp only [Act.put, setIfInBounds_toArray, set_cons_zero, set_cons_succ]
      refine wpAnyH_ready (rs := [9]) (by kernel_rfl) (by simp) ?_
      refine (AllReadyH.cons rfl (fun K hK => ?_) AllReadyH.nil)
      go_simp
      refine hK.out _ _ (K7.out _ (Hr7AaQZ.out.grown (put2 YBAaQZ.out _ _).2 Hr7AaQZ.out.size fun q hq => by have e := Option.some.inj hq; have h1 : w10.heap.size ≤ q := (by rw [← e]; exact Nat.le_refl _); exact h1)) (fun hHeld => ?_)
      clear hK K
      try simp only [Act.put, setIfInBounds_toArray, set_cons_zero, set_cons_succ]
      clear y2 y3
      refine take_in (i := 10) (v := ?_) (some 10) rfl rfl (by kernel_rfl) (by kernel_rfl) (by kernel_rfl) (fun _ _ _ h => h) (Or.inl ⟨by rfl, ?_⟩) (by assumption) ?_
      rotate_left
      · (intro w hSw; (try dsimp only at hSw); (try go_split_ands); go_simp; try with_reducible rfl)
      try simp only [Act.put, setIfInBounds_toArray, set_cons_zero, set_cons_succ]
      refine wpAnyH_done (by kernel_rfl) ?_ _
      go_wp2_with fail
      go_meet
      exact ⟨rfl, (Hr7AaQZ.out.grown (put2 YBAaQZ.out _ _).2 Hr7AaQZ.out.size fun q hq => by have e := Option.some.inj hq; have h1 : w10.heap.size ≤ q := (by rw [← e]; exact Nat.le_refl _); exact h1)⟩
  obtain ⟨rfl, hbc⟩ := hcut
  have K11 := Lib.hid hbc
  obtain ⟨w11, rfl⟩ : ∃ x : World, x = wc := ⟨_, rfl⟩
  clear hbc
  have X11 := Lib.hid (X10.out.below K11.out)
  have HS11 := Lib.hid (HS10.out.below K11.out)
  have Y11 := Lib.hid (Y10.out.below K11.out)
  have B11 := Lib.hid (B10.out.trans (K11.out.mono B10.out.size))
  have CA8 := Lib.hid (fun W sv (hb : Below w11.heap.size w11 W) (ho : Co.SO W sv [kpO]) => apply_fi W (HS11.out.below hb) ho (one_wide kpO_wide) (fun n z => num_c))
  have K8 := Lib.hid (show ∀ w', Below w11.heap.size w11 w' → ∀ j, w'.cell? ⟨p1, j, none⟩ = #[.slice A1 2 c1, .slice A2 1 c2][j]? from fun w' hb => (X11.out.below hb).c)
  go_upto_region 8 with fail
  go_cut [12] from 11 to 65 (fun t wd => t = .int .i64 34 ∧ Below w11.heap.size w11 wd)
  case first =>
    refine wp_region_held_drew (S := (fun w' => (∀ j, w'.cell? ⟨p1, j, none⟩ = #[.slice A1 2 c1, .slice A2 1 c2][j]?))) (by kernel_rfl) (K8.out _ (Below.refl _ _).drew) (fun hHeld => ?_)
    refine take_in (i := 0) (v := ?_) (some 59) rfl rfl (by kernel_rfl) (by kernel_rfl) (by kernel_rfl) (fun _ _ _ h => h) (Or.inl ⟨by rfl, ?_⟩) (by assumption) ?_
    rotate_left
    · (intro w hSw; (try dsimp only at hSw); (try go_split_ands); go_simp; try with_reducible rfl)
    try simp only [Act.put, setIfInBounds_toArray, set_cons_zero, set_cons_succ]
    refine wpAnyH_ready (rs := [1, 8]) (by kernel_rfl) (by simp) ?_
    refine (AllReadyH.cons rfl (fun K hK => ?_) (AllReadyH.cons rfl (fun K hK => ?_) AllReadyH.nil))
    · go_simp
      (with_reducible refine (CP.out _ _ _).mono ?_)
      rintro e wr8a ⟨rfl, hb⟩
      have Hr8a := Lib.hid ((show Below w11.heap.size w11 w11.drew from (Below.refl _ _).drew).trans (hb.mono (show Below w11.heap.size w11 w11.drew from (Below.refl _ _).drew).size))
      clear hb
      go_wp2_with fail
      refine hK.out _ _ (K8.out _ Hr8a.out) (fun hHeld => ?_)
      clear hK K
      try simp only [Act.put, setIfInBounds_toArray, set_cons_zero, set_cons_succ]
      refine take_in (i := 2) (v := ?_) (some 61) rfl rfl (by kernel_rfl) (by kernel_rfl) (by kernel_rfl) (fun _ _ _ h => h) (Or.inl ⟨by rfl, ?_⟩) (by assumption) ?_
      rotate_left
      · (intro w hSw; (try dsimp only at hSw); (try go_split_ands); go_simp; try with_reducible rfl)
      try simp only [Act.put, setIfInBounds_toArray, set_cons_zero, set_cons_succ]
      refine wpAnyH_ready (rs := [3, 8]) (by kernel_rfl) (by simp) ?_
      refine (AllReadyH.cons rfl (fun K hK => ?_) (AllReadyH.cons rfl (fun K hK => ?_) AllReadyH.nil))
      · go_simp
        refine hK.out _ _ (K8.out _ (Hr8a.out.alloc Hr8a.out.size _)) (fun hHeld => ?_)
        clear hK K
        try simp only [Act.put, setIfInBounds_toArray, set_cons_zero, set_cons_succ]
        obtain ⟨wr8aQ, hWr8⟩ : ∃ W, wr8a.alloc (.cells #[.int .i64 3, .bool true, .int .u64 2, .string ⟨#[]⟩, .int .u64 0, .int .u64 0, .string ⟨#[]⟩, .int .i64 0, .bool false, .int .i64 0, .float .f64 0, .string ⟨#[]⟩, .int .u64 0, .int .u64 1] 35) = W := ⟨_, rfl⟩
        have Hr8aQ := Lib.hid (show Below w11.heap.size w11 wr8aQ by rw [← hWr8]; exact Hr8a.out.alloc Hr8a.out.size _)
        have hbA : Below wr8a.heap.size wr8a wr8aQ := by rw [← hWr8]; exact (Below.refl _ _).alloc (Nat.le_refl _) _
        clear hbA
        have SOaQ := Lib.hid (show Co.SO wr8aQ (.slice (some ⟨wr8a.heap.size, 0, none⟩) 1 1) [kpO] by rw [← hWr8]; exact so_new wr8a [kpO] #[.int .i64 3, .bool true, .int .u64 2, .string ⟨#[]⟩, .int .u64 0, .int .u64 0, .string ⟨#[]⟩, .int .i64 0, .bool false, .int .i64 0, .float .f64 0, .string ⟨#[]⟩, .int .u64 0, .int .u64 1] rfl (by simp))
        try rw [hWr8] at hHeld
        try rw [hWr8]
        clear hWr8
        refine wpAnyH_ready (rs := [4, 8]) (by kernel_rfl) (by simp) ?_
        refine (AllReadyH.cons rfl (fun K hK => ?_) (AllReadyH.cons rfl (fun K hK => ?_) AllReadyH.nil))
        · go_simp
          (with_reducible refine (CA8.out _ _ Hr8aQ.out SOaQ.out).mono ?_)
          rintro e wr8aQZ ⟨A3, n3, c3, A4, n4, c4, rfl, hb⟩
          have Hr8aQZ := Lib.hid (Hr8aQ.out.trans (hb.mono Hr8aQ.out.size))
          clear hb
          go_wp2_with fail
          refine hK.out _ _ (K8.out _ Hr8aQZ.out) (fun hHeld => ?_)
          clear hK K
          try simp only [Act.put, setIfInBounds_toArray, set_cons_zero, set_cons_succ]
          refine take_in (i := 5) (v := ?_) (some 58) rfl rfl (by kernel_rfl) (by kernel_rfl) (by kernel_rfl) (fun _ _ _ h => h) (Or.inl ⟨by rfl, ?_⟩) (by assumption) ?_
          rotate_left
          · (intro w hSw; (try dsimp only at hSw); (try go_split_ands); go_simp; try with_reducible rfl)
          try simp only [Act.put, setIfInBounds_toArray, set_cons_zero, set_cons_succ]
          refine take_in (i := 6) (v := ?_) (some 64) rfl rfl (by kernel_rfl) (by kernel_rfl) (by kernel_rfl) (fun _ _ _ h => h) (Or.inl ⟨by rfl, ?_⟩) (by assumption) ?_
          rotate_left
          · (intro w hSw; (try dsimp only at hSw); (try go_split_ands); go_simp; try with_reducible rfl)
          try simp only [Act.put, setIfInBounds_toArray, set_cons_zero, set_cons_succ]
          refine take_in (i := 7) (v := ?_) (some 65) rfl rfl (by kernel_rfl) (by kernel_rfl) (by kernel_rfl) (fun _ _ _ h => h) (Or.inl ⟨by rfl, ?_⟩) (by assumption) ?_
          rotate_left
          · (intro w hSw; (try dsimp only at hSw); (try go_split_ands); go_simp; try with_reducible rfl)
          try simp only [Act.put, setIfInBounds_toArray, set_cons_zero, set_cons_succ]
          refine wpAnyH_ready (rs := [8]) (by kernel_rfl) (by simp) ?_
          refine (AllReadyH.cons rfl (fun K hK => ?_) AllReadyH.nil)
          go_simp
          refine hK.out _ _ (K8.out _ (Hr8aQZ.out.alloc Hr8aQZ.out.size _)) (fun hHeld => ?_)
          clear hK K
          try simp only [Act.put, setIfInBounds_toArray, set_cons_zero, set_cons_succ]
          obtain ⟨wr8aQZA, hWr8⟩ : ∃ W, wr8aQZ.alloc (.cells #[.slice none 0 0, .slice none 0 0] 76) = W := ⟨_, rfl⟩
          have Hr8aQZA := Lib.hid (show Below w11.heap.size w11 wr8aQZA by rw [← hWr8]; exact Hr8aQZ.out.alloc Hr8aQZ.out.size _)
          have hbA : Below wr8aQZ.heap.size wr8aQZ wr8aQZA := by rw [← hWr8]; exact (Below.refl _ _).alloc (Nat.le_refl _) _
          clear hbA
          have YBaQZA := Lib.hid (show Bx wr8aQZA wr8aQZ.heap.size #[.slice none 0 0, .slice none 0 0] by rw [← hWr8]; exact Bx.new wr8aQZ _ _)
          have y2 := YBaQZA.out.c
          have y3 := YBaQZA.out.fr
          try rw [hWr8] at hHeld
          try rw [hWr8]
          clear hWr8
          refine wpAnyH_ready (rs := [9]) (by kernel_rfl) (by simp) ?_
          refine (AllReadyH.cons rfl (fun K hK => ?_) AllReadyH.nil)
          go_simp
          refine hK.out _ _ (K8.out _ (Hr8aQZA.out.grown (put2 YBaQZA.out _ _).2 Hr8aQZA.out.size fun q hq => by have e := Option.some.inj hq; have h1 : w11.heap.size ≤ q := (by rw [← e]; exact Hr8aQZ.out.size); exact h1)) (fun hHeld => ?_)
          clear hK K
          try simp only [Act.put, setIfInBounds_toArray, set_cons_zero, set_cons_succ]
          clear y2 y3
          refine take_in (i := 10) (v := ?_) (some 12) rfl rfl (by kernel_rfl) (by kernel_rfl) (by kernel_rfl) (fun _ _ _ h => h) (Or.inl ⟨by rfl, ?_⟩) (by assumption) ?_
          rotate_left
          · (intro w hSw; (try dsimp only at hSw); (try go_split_ands); go_simp; try with_reducible rfl)
          try simp only [Act.put, setIfInBounds_toArray, set_cons_zero, set_cons_succ]
          refine wpAnyH_done (by kernel_rfl) ?_ _
          go_wp2_with fail
          go_meet
          exact ⟨rfl, (Hr8aQZA.out.grown (put2 YBaQZA.out _ _).2 Hr8aQZA.out.size fun q hq => by have e := Option.some.inj hq; have h1 : w11.heap.size ≤ q := (by rw [← e]; exact Hr8aQZ.out.size); exact h1)⟩
        · go_simp
          refine hK.out _ _ (K8.out _ (Hr8aQ.out.alloc Hr8aQ.out.size _)) (fun hHeld => ?_)
          clear hK K
          try simp only [Act.put, setIfInBounds_toArray, set_cons_zero, set_cons_succ]
          obtain ⟨wr8aQA, hWr8⟩ : ∃ W, wr8aQ.alloc (.cells #[.slice none 0 0, .slice none 0 0] 76) = W := ⟨_, rfl⟩
          have Hr8aQA := Lib.hid (show Below w11.heap.size w11 wr8aQA by rw [← hWr8]; exact Hr8aQ.out.alloc Hr8aQ.out.size _)
          have hbA : Below wr8aQ.heap.size wr8aQ wr8aQA := by rw [← hWr8]; exact (Below.refl _ _).alloc (Nat.le_refl _) _
          have SOaQA := Lib.hid (SOaQ.out.below hbA)
          clear hbA
          have YBaQA := Lib.hid (show Bx wr8aQA wr8aQ.heap.size #[.slice none 0 0, .slice none 0 0] by rw [← hWr8]; exact Bx.new wr8aQ _ _)
          try rw [hWr8] at hHeld
          try rw [hWr8]
          clear hWr8
          refine wpAnyH_ready (rs := [4]) (by kernel_rfl) (by simp) ?_
          refine (AllReadyH.cons rfl (fun K hK => ?_) AllReadyH.nil)
          go_simp
          (with_reducible refine (CA8.out _ _ Hr8aQA.out SOaQA.out).mono ?_)
          rintro e wr8aQAZ ⟨A3, n3, c3, A4, n4, c4, rfl, hb⟩
          have Hr8aQAZ := Lib.hid (Hr8aQA.out.trans (hb.mono Hr8aQA.out.size))
          have YBaQAZ := Lib.hid (YBaQA.out.below hb)
          have y2 := YBaQAZ.out.c
          have y3 := YBaQAZ.out.fr
          clear hb
          go_wp2_with fail
          refine hK.out _ _ (K8.out _ Hr8aQAZ.out) (fun hHeld => ?_)
          clear hK K
          try simp only [Act.put, setIfInBounds_toArray, set_cons_zero, set_cons_succ]
          refine take_in (i := 5) (v := ?_) (some 58) rfl rfl (by kernel_rfl) (by kernel_rfl) (by kernel_rfl) (fun _ _ _ h => h) (Or.inl ⟨by rfl, ?_⟩) (by assumption) ?_
          rotate_left
          · (intro w hSw; (try dsimp only at hSw); (try go_split_ands); go_simp; try with_reducible rfl)
          try simp only [Act.put, setIfInBounds_toArray, set_cons_zero, set_cons_succ]
          refine take_in (i := 6) (v := ?_) (some 64) rfl rfl (by kernel_rfl) (by kernel_rfl) (by kernel_rfl) (fun _ _ _ h => h) (Or.inl ⟨by rfl, ?_⟩) (by assumption) ?_
          rotate_left
          · (intro w hSw; (try dsimp only at hSw); (try go_split_ands); go_simp; try with_reducible rfl)
          try simp only [Act.put, setIfInBounds_toArray, set_cons_zero, set_cons_succ]
          refine take_in (i := 7) (v := ?_) (some 65) rfl rfl (by kernel_rfl) (by kernel_rfl) (by kernel_rfl) (fun _ _ _ h => h) (Or.inl ⟨by rfl, ?_⟩) (by assumption) ?_
          rotate_left
          · (intro w hSw; (try dsimp only at hSw); (try go_split_ands); go_simp; try with_reducible rfl)
          try simp only [Act.put, setIfInBounds_toArray, set_cons_zero, set_cons_succ]
          refine wpAnyH_ready (rs := [9]) (by kernel_rfl) (by simp) ?_
          refine (AllReadyH.cons rfl (fun K hK => ?_) AllReadyH.nil)
          go_simp
          refine hK.out _ _ (K8.out _ (Hr8aQAZ.out.grown (put2 YBaQAZ.out _ _).2 Hr8aQAZ.out.size fun q hq => by have e := Option.some.inj hq; have h1 : w11.heap.size ≤ q := (by rw [← e]; exact Hr8aQ.out.size); exact h1)) (fun hHeld => ?_)
          clear hK K
          try simp only [Act.put, setIfInBounds_toArray, set_cons_zero, set_cons_succ]
          clear y2 y3
          refine take_in (i := 10) (v := ?_) (some 12) rfl rfl (by kernel_rfl) (by kernel_rfl) (by kernel_rfl) (fun _ _ _ h => h) (Or.inl ⟨by rfl, ?_⟩) (by assumption) ?_
          rotate_left
          · (intro w hSw; (try dsimp only at hSw); (try go_split_ands); go_simp; try with_reducible rfl)
          try simp only [Act.put, setIfInBounds_toArray, set_cons_zero, set_cons_succ]
          refine wpAnyH_done (by kernel_rfl) ?_ _
          go_wp2_with fail
          go_meet
          exact ⟨rfl, (Hr8aQAZ.out.grown (put2 YBaQAZ.out _ _).2 Hr8aQAZ.out.size fun q hq => by have e := Option.some.inj hq; have h1 : w11.heap.size ≤ q := (by rw [← e]; exact Hr8aQ.out.size); exact h1)⟩
      · go_simp
        refine hK.out _ _ (K8.out _ (Hr8a.out.alloc Hr8a.out.size _)) (fun hHeld => ?_)
        clear hK K
        try simp only [Act.put, setIfInBounds_toArray, set_cons_zero, set_cons_succ]
        obtain ⟨wr8aA, hWr8⟩ : ∃ W, wr8a.alloc (.cells #[.slice none 0 0, .slice none 0 0] 76) = W := ⟨_, rfl⟩
        have Hr8aA := Lib.hid (show Below w11.heap.size w11 wr8aA by rw [← hWr8]; exact Hr8a.out.alloc Hr8a.out.size _)
        have hbA : Below wr8a.heap.size wr8a wr8aA := by rw [← hWr8]; exact (Below.refl _ _).alloc (Nat.le_refl _) _
        clear hbA
        have YBaA := Lib.hid (show Bx wr8aA wr8a.heap.size #[.slice none 0 0, .slice none 0 0] by rw [← hWr8]; exact Bx.new wr8a _ _)
        try rw [hWr8] at hHeld
        try rw [hWr8]
        clear hWr8
        refine wpAnyH_ready (rs := [3]) (by kernel_rfl) (by simp) ?_
        refine (AllReadyH.cons rfl (fun K hK => ?_) AllReadyH.nil)
        go_simp
        refine hK.out _ _ (K8.out _ (Hr8aA.out.alloc Hr8aA.out.size _)) (fun hHeld => ?_)
        clear hK K
        try simp only [Act.put, setIfInBounds_toArray, set_cons_zero, set_cons_succ]
        obtain ⟨wr8aAQ, hWr8⟩ : ∃ W, wr8aA.alloc (.cells #[.int .i64 3, .bool true, .int .u64 2, .string ⟨#[]⟩, .int .u64 0, .int .u64 0, .string ⟨#[]⟩, .int .i64 0, .bool false, .int .i64 0, .float .f64 0, .string ⟨#[]⟩, .int .u64 0, .int .u64 1] 35) = W := ⟨_, rfl⟩
        have Hr8aAQ := Lib.hid (show Below w11.heap.size w11 wr8aAQ by rw [← hWr8]; exact Hr8aA.out.alloc Hr8aA.out.size _)
        have hbA : Below wr8aA.heap.size wr8aA wr8aAQ := by rw [← hWr8]; exact (Below.refl _ _).alloc (Nat.le_refl _) _
        have YBaAQ := Lib.hid (YBaA.out.below hbA)
        clear hbA
        have SOaAQ := Lib.hid (show Co.SO wr8aAQ (.slice (some ⟨wr8aA.heap.size, 0, none⟩) 1 1) [kpO] by rw [← hWr8]; exact so_new wr8aA [kpO] #[.int .i64 3, .bool true, .int .u64 2, .string ⟨#[]⟩, .int .u64 0, .int .u64 0, .string ⟨#[]⟩, .int .i64 0, .bool false, .int .i64 0, .float .f64 0, .string ⟨#[]⟩, .int .u64 0, .int .u64 1] rfl (by simp))
        try rw [hWr8] at hHeld
        try rw [hWr8]
        clear hWr8
        refine wpAnyH_ready (rs := [4]) (by kernel_rfl) (by simp) ?_
        refine (AllReadyH.cons rfl (fun K hK => ?_) AllReadyH.nil)
        go_simp
        (with_reducible refine (CA8.out _ _ Hr8aAQ.out SOaAQ.out).mono ?_)
        rintro e wr8aAQZ ⟨A3, n3, c3, A4, n4, c4, rfl, hb⟩
        have Hr8aAQZ := Lib.hid (Hr8aAQ.out.trans (hb.mono Hr8aAQ.out.size))
        have YBaAQZ := Lib.hid (YBaAQ.out.below hb)
        have y2 := YBaAQZ.out.c
        have y3 := YBaAQZ.out.fr
        clear hb
        go_wp2_with fail
        refine hK.out _ _ (K8.out _ Hr8aAQZ.out) (fun hHeld => ?_)
        clear hK K
        try simp only [Act.put, setIfInBounds_toArray, set_cons_zero, set_cons_succ]
        refine take_in (i := 5) (v := ?_) (some 58) rfl rfl (by kernel_rfl) (by kernel_rfl) (by kernel_rfl) (fun _ _ _ h => h) (Or.inl ⟨by rfl, ?_⟩) (by assumption) ?_
        rotate_left
        · (intro w hSw; (try dsimp only at hSw); (try go_split_ands); go_simp; try with_reducible rfl)
        try simp only [Act.put, setIfInBounds_toArray, set_cons_zero, set_cons_succ]
        refine take_in (i := 6) (v := ?_) (some 64) rfl rfl (by kernel_rfl) (by kernel_rfl) (by kernel_rfl) (fun _ _ _ h => h) (Or.inl ⟨by rfl, ?_⟩) (by assumption) ?_
        rotate_left
        · (intro w hSw; (try dsimp only at hSw); (try go_split_ands); go_simp; try with_reducible rfl)
        try simp only [Act.put, setIfInBounds_toArray, set_cons_zero, set_cons_succ]
        refine take_in (i := 7) (v := ?_) (some 65) rfl rfl (by kernel_rfl) (by kernel_rfl) (by kernel_rfl) (fun _ _ _ h => h) (Or.inl ⟨by rfl, ?_⟩) (by assumption) ?_
        rotate_left
        · (intro w hSw; (try dsimp only at hSw); (try go_split_ands); go_simp; try with_reducible rfl)
        try simp only [Act.put, setIfInBounds_toArray, set_cons_zero, set_cons_succ]
        refine wpAnyH_ready (rs := [9]) (by kernel_rfl) (by simp) ?_
        refine (AllReadyH.cons rfl (fun K hK => ?_) AllReadyH.nil)
        go_simp
        refine hK.out _ _ (K8.out _ (Hr8aAQZ.out.grown (put2 YBaAQZ.out _ _).2 Hr8aAQZ.out.size fun q hq => by have e := Option.some.inj hq; have h1 : w11.heap.size ≤ q := (by rw [← e]; exact Hr8a.out.size); exact h1)) (fun hHeld => ?_)
        clear hK K
        try simp only [Act.put, setIfInBounds_toArray, set_cons_zero, set_cons_succ]
        clear y2 y3
        refine take_in (i := 10) (v := ?_) (some 12) rfl rfl (by kernel_rfl) (by kernel_rfl) (by kernel_rfl) (fun _ _ _ h => h) (Or.inl ⟨by rfl, ?_⟩) (by assumption) ?_
        rotate_left
        · (intro w hSw; (try dsimp only at hSw); (try go_split_ands); go_simp; try with_reducible rfl)
        try simp only [Act.put, setIfInBounds_toArray, set_cons_zero, set_cons_succ]
        refine wpAnyH_done (by kernel_rfl) ?_ _
        go_wp2_with fail
        go_meet
        exact ⟨rfl, (Hr8aAQZ.out.grown (put2 YBaAQZ.out _ _).2 Hr8aAQZ.out.size fun q hq => by have e := Option.some.inj hq; have h1 : w11.heap.size ≤ q := (by rw [← e]; exact Hr8a.out.size); exact h1)⟩
    · go_simp
      refine hK.out _ _ (K8.out _ ((show Below w11.heap.size w11 w11.drew from (Below.refl _ _).drew).alloc (show Below w11.heap.size w11 w11.drew from (Below.refl _ _).drew).size _)) (fun hHeld => ?_)
      clear hK K
      try simp only [Act.put, setIfInBounds_toArray, set_cons_zero, set_cons_succ]
      obtain ⟨wr8A, hWr8⟩ : ∃ W, (w11.alloc (.cells #[.slice none 0 0, .slice none 0 0] 76)).drew = W := ⟨_, rfl⟩
      have Hr8A := Lib.hid (show Below w11.heap.size w11 wr8A by rw [← hWr8]; exact ((Below.refl _ _).alloc (Nat.le_refl _) _).drew)
      have YBA := Lib.hid (show Bx wr8A w11.heap.size #[.slice none 0 0, .slice none 0 0] by rw [← hWr8]; exact (Bx.new w11 _ _).below (Below.refl _ _).drew)
      try rw [hWr8] at hHeld
      try rw [hWr8]
      clear hWr8
      refine wpAnyH_ready (rs := [1]) (by kernel_rfl) (by simp) ?_
      refine (AllReadyH.cons rfl (fun K hK => ?_) AllReadyH.nil)
      go_simp
      (with_reducible refine (CP.out _ _ _).mono ?_)
      rintro e wr8Aa ⟨rfl, hb⟩
      have Hr8Aa := Lib.hid (Hr8A.out.trans (hb.mono Hr8A.out.size))
      have YBAa := Lib.hid (YBA.out.below hb)
      clear hb
      go_wp2_with fail
      refine hK.out _ _ (K8.out _ Hr8Aa.out) (fun hHeld => ?_)
      clear hK K
      try simp only [Act.put, setIfInBounds_toArray, set_cons_zero, set_cons_succ]
      refine take_in (i := 2) (v := ?_) (some 61) rfl rfl (by kernel_rfl) (by kernel_rfl) (by kernel_rfl) (fun _ _ _ h => h) (Or.inl ⟨by rfl, ?_⟩) (by assumption) ?_
      rotate_left
      · (intro w hSw; (try dsimp only at hSw); (try go_split_ands); go_simp; try with_reducible rfl)
      try simp only [Act.put, setIfInBounds_toArray, set_cons_zero, set_cons_succ]
      refine wpAnyH_ready (rs := [3]) (by kernel_rfl) (by simp) ?_
      refine (AllReadyH.cons rfl (fun K hK => ?_) AllReadyH.nil)
      go_simp
      refine hK.out _ _ (K8.out _ (Hr8Aa.out.alloc Hr8Aa.out.size _)) (fun hHeld => ?_)
      clear hK K
      try simp only [Act.put, setIfInBounds_toArray, set_cons_zero, set_cons_succ]
      obtain ⟨wr8AaQ, hWr8⟩ : ∃ W, wr8Aa.alloc (.cells #[.int .i64 3, .bool true, .int .u64 2, .string ⟨#[]⟩, .int .u64 0, .int .u64 0, .string ⟨#[]⟩, .int .i64 0, .bool false, .int .i64 0, .float .f64 0, .string ⟨#[]⟩, .int .u64 0, .int .u64 1] 35) = W := ⟨_, rfl⟩
      have Hr8AaQ := Lib.hid (show Below w11.heap.size w11 wr8AaQ by rw [← hWr8]; exact Hr8Aa.out.alloc Hr8Aa.out.size _)
      have hbA : Below wr8Aa.heap.size wr8Aa wr8AaQ := by rw [← hWr8]; exact (Below.refl _ _).alloc (Nat.le_refl _) _
      have YBAaQ := Lib.hid (YBAa.out.below hbA)
      clear hbA
      have SOAaQ := Lib.hid (show Co.SO wr8AaQ (.slice (some ⟨wr8Aa.heap.size, 0, none⟩) 1 1) [kpO] by rw [← hWr8]; exact so_new wr8Aa [kpO] #[.int .i64 3, .bool true, .int .u64 2, .string ⟨#[]⟩, .int .u64 0, .int .u64 0, .string ⟨#[]⟩, .int .i64 0, .bool false, .int .i64 0, .float .f64 0, .string ⟨#[]⟩, .int .u64 0, .int .u64 1] rfl (by simp))
      try rw [hWr8] at hHeld
      try rw [hWr8]
      clear hWr8
      refine wpAnyH_ready (rs := [4]) (by kernel_rfl) (by simp) ?_
      refine (AllReadyH.cons rfl (fun K hK => ?_) AllReadyH.nil)
      go_simp
      (with_reducible refine (CA8.out _ _ Hr8AaQ.out SOAaQ.out).mono ?_)
      rintro e wr8AaQZ ⟨A3, n3, c3, A4, n4, c4, rfl, hb⟩
      have Hr8AaQZ := Lib.hid (Hr8AaQ.out.trans (hb.mono Hr8AaQ.out.size))
      have YBAaQZ := Lib.hid (YBAaQ.out.below hb)
      have y2 := YBAaQZ.out.c
      have y3 := YBAaQZ.out.fr
      clear hb
      go_wp2_with fail
      refine hK.out _ _ (K8.out _ Hr8AaQZ.out) (fun hHeld => ?_)
      clear hK K
      try simp only [Act.put, setIfInBounds_toArray, set_cons_zero, set_cons_succ]
      refine take_in (i := 5) (v := ?_) (some 58) rfl rfl (by kernel_rfl) (by kernel_rfl) (by kernel_rfl) (fun _ _ _ h => h) (Or.inl ⟨by rfl, ?_⟩) (by assumption) ?_
      rotate_left
      · (intro w hSw; (try dsimp only at hSw); (try go_split_ands); go_simp; try with_reducible rfl)
      try simp only [Act.put, setIfInBounds_toArray, set_cons_zero, set_cons_succ]
      refine take_in (i := 6) (v := ?_) (some 64) rfl rfl (by kernel_rfl) (by kernel_rfl) (by kernel_rfl) (fun _ _ _ h => h) (Or.inl ⟨by rfl, ?_⟩) (by assumption) ?_
      rotate_left
      · (intro w hSw; (try dsimp only at hSw); (try go_split_ands); go_simp; try with_reducible rfl)
      try simp only [Act.put, setIfInBounds_toArray, set_cons_zero, set_cons_succ]
      refine take_in (i := 7) (v := ?_) (some 65) rfl rfl (by kernel_rfl) (by kernel_rfl) (by kernel_rfl) (fun _ _ _ h => h) (Or.inl ⟨by rfl, ?_⟩) (by assumption) ?_
      rotate_left
      · (intro w hSw; (try dsimp only at hSw); (try go_split_ands); go_simp; try with_reducible rfl)
      try simp only [Act.put, setIfInBounds_toArray, set_cons_zero, set_cons_succ]
      refine wpAnyH_ready (rs := [9]) (by kernel_rfl) (by simp) ?_
      refine (AllReadyH.cons rfl (fun K hK => ?_) AllReadyH.nil)
      go_simp
      refine hK.out _ _ (K8.out _ (Hr8AaQZ.out.grown (put2 YBAaQZ.out _ _).2 Hr8AaQZ.out.size fun q hq => by have e := Option.some.inj hq; have h1 : w11.heap.size ≤ q := (by rw [← e]; exact Nat.le_refl _); exact h1)) (fun hHeld => ?_)
      clear hK K
      try simp only [Act.put, setIfInBounds_toArray, set_cons_zero, set_cons_succ]
      clear y2 y3
      refine take_in (i := 10) (v := ?_) (some 12) rfl rfl (by kernel_rfl) (by kernel_rfl) (by kernel_rfl) (fun _ _ _ h => h) (Or.inl ⟨by rfl, ?_⟩) (by assumption) ?_
      rotate_left
      · (intro w hSw; (try dsimp only at hSw); (try go_split_ands); go_simp; try with_reducible rfl)
      try simp only [Act.put, setIfInBounds_toArray, set_cons_zero, set_cons_succ]
      refine wpAnyH_done (by kernel_rfl) ?_ _
      go_wp2_with fail
      go_meet
      exact ⟨rfl, (Hr8AaQZ.out.grown (put2 YBAaQZ.out _ _).2 Hr8AaQZ.out.size fun q hq => by have e := Option.some.inj hq; have h1 : w11.heap.size ≤ q := (by rw [← e]; exact Nat.le_refl _); exact h1)⟩
  obtain ⟨rfl, hbc⟩ := hcut
  have K12 := Lib.hid hbc
  obtain ⟨w12, rfl⟩ : ∃ x : World, x = wc := ⟨_, rfl⟩
  clear hbc
  have X12 := Lib.hid (X11.out.below K12.out)
  have HS12 := Lib.hid (HS11.out.below K12.out)
  have Y12 := Lib.hid (Y11.out.below K12.out)
  have B12 := Lib.hid (B11.out.trans (K12.out.mono B11.out.size))
  have CA9 := Lib.hid (fun W sv (hb : Below w12.heap.size w12 W) (ho : Co.SO W sv [stO]) => apply_fi W (HS12.out.below hb) ho (one_wide stO_wide) (fun n z => num_d))
  have K9 := Lib.hid (show ∀ w', Below w12.heap.size w12 w' → ∀ j, w'.cell? ⟨p1, j, none⟩ = #[.slice A1 2 c1, .slice A2 1 c2][j]? from fun w' hb => (X12.out.below hb).c)
  go_upto_region 9 with fail
  go_cut [14] from 13 to 74 (fun t wd => t = .int .i64 34 ∧ Below w12.heap.size w12 wd)
  case first =>
    refine wp_region_held_drew (S := (fun w' => (∀ j, w'.cell? ⟨p1, j, none⟩ = #[.slice A1 2 c1, .slice A2 1 c2][j]?))) (by kernel_rfl) (K9.out _ (Below.refl _ _).drew) (fun hHeld => ?_)
    refine take_in (i := 0) (v := ?_) (some 67) rfl rfl (by kernel_rfl) (by kernel_rfl) (by kernel_rfl) (fun _ _ _ h => h) (Or.inl ⟨by rfl, ?_⟩) (by assumption) ?_
    rotate_left
    · (intro w hSw; (try dsimp only at hSw); (try go_split_ands); go_simp; try with_reducible rfl)
    try simp only [Act.put, setIfInBounds_toArray, set_cons_zero, set_cons_succ]
    refine wpAnyH_ready (rs := [1, 9]) (by kernel_rfl) (by simp) ?_
    refine (AllReadyH.cons rfl (fun K hK => ?_) (AllReadyH.cons rfl (fun K hK => ?_) AllReadyH.nil))
    · go_simp
      (with_reducible refine (CN.out _ _).mono ?_)
      rintro e wr9a ⟨rfl, hb⟩
      have Hr9a := Lib.hid ((show Below w12.heap.size w12 w12.drew from (Below.refl _ _).drew).trans (hb.mono (show Below w12.heap.size w12 w12.drew from (Below.refl _ _).drew).size))
      clear hb
      go_wp2_with fail
      refine hK.out _ _ (K9.out _ Hr9a.out) (fun hHeld => ?_)
      clear hK K
      try simp only [Act.put, setIfInBounds_toArray, set_cons_zero, set_cons_succ]
      refine wpAnyH_ready (rs := [2, 9]) (by kernel_rfl) (by simp) ?_
      refine (AllReadyH.cons rfl (fun K hK => ?_) (AllReadyH.cons rfl (fun K hK => ?_) AllReadyH.nil))
      · go_simp
        (with_reducible refine (CP.out _ _ _).mono ?_)
        rintro e wr9ab ⟨rfl, hb⟩
        have Hr9ab := Lib.hid (Hr9a.out.trans (hb.mono Hr9a.out.size))
        clear hb
        go_wp2_with fail
        refine hK.out _ _ (K9.out _ Hr9ab.out) (fun hHeld => ?_)
        clear hK K
        try simp only [Act.put, setIfInBounds_toArray, set_cons_zero, set_cons_succ]
        refine take_in (i := 3) (v := ?_) (some 70) rfl rfl (by kernel_rfl) (by kernel_rfl) (by kernel_rfl) (fun _ _ _ h => h) (Or.inl ⟨by rfl, ?_⟩) (by assumption) ?_
        rotate_left
        · (intro w hSw; (try dsimp only at hSw); (try go_split_ands); go_simp; try with_reducible rfl)
        try simp only [Act.put, setIfInBounds_toArray, set_cons_zero, set_cons_succ]
        refine wpAnyH_ready (rs := [4, 9]) (by kernel_rfl) (by simp) ?_
        refine (AllReadyH.cons rfl (fun K hK => ?_) (AllReadyH.cons rfl (fun K hK => ?_) AllReadyH.nil))
        · go_simp
          refine hK.out _ _ (K9.out _ (Hr9ab.out.alloc Hr9ab.out.size _)) (fun hHeld => ?_)
          clear hK K
          try simp only [Act.put, setIfInBounds_toArray, set_cons_zero, set_cons_succ]
          obtain ⟨wr9abQ, hWr9⟩ : ∃ W, wr9ab.alloc (.cells #[.int .i64 5, .bool false, .int .u64 2, .string ⟨#[]⟩, .int .u64 0, .int .u64 0, .string ⟨#[107]⟩, .int .i64 2, .bool false, .int .i64 1, .float .f64 0, .string ⟨#[]⟩, .int .u64 0, .int .u64 3] 35) = W := ⟨_, rfl⟩
          have Hr9abQ := Lib.hid (show Below w12.heap.size w12 wr9abQ by rw [← hWr9]; exact Hr9ab.out.alloc Hr9ab.out.size _)
          have hbA : Below wr9ab.heap.size wr9ab wr9abQ := by rw [← hWr9]; exact (Below.refl _ _).alloc (Nat.le_refl _) _
          clear hbA
          have SOabQ := Lib.hid (show Co.SO wr9abQ (.slice (some ⟨wr9ab.heap.size, 0, none⟩) 1 1) [stO] by rw [← hWr9]; exact so_new wr9ab [stO] #[.int .i64 5, .bool false, .int .u64 2, .string ⟨#[]⟩, .int .u64 0, .int .u64 0, .string ⟨#[107]⟩, .int .i64 2, .bool false, .int .i64 1, .float .f64 0, .string ⟨#[]⟩, .int .u64 0, .int .u64 3] rfl (by simp))
          try rw [hWr9] at hHeld
          try rw [hWr9]
          clear hWr9
          refine wpAnyH_ready (rs := [5, 9]) (by kernel_rfl) (by simp) ?_
          refine (AllReadyH.cons rfl (fun K hK => ?_) (AllReadyH.cons rfl (fun K hK => ?_) AllReadyH.nil))
          · go_simp
            (with_reducible refine (CA9.out _ _ Hr9abQ.out SOabQ.out).mono ?_)
            rintro e wr9abQZ ⟨A3, n3, c3, A4, n4, c4, rfl, hb⟩
            have Hr9abQZ := Lib.hid (Hr9abQ.out.trans (hb.mono Hr9abQ.out.size))
            clear hb
            go_wp2_with fail
            refine hK.out _ _ (K9.out _ Hr9abQZ.out) (fun hHeld => ?_)
            clear hK K
            try simp only [Act.put, setIfInBounds_toArray, set_cons_zero, set_cons_succ]
            refine take_in (i := 6) (v := ?_) (some 66) rfl rfl (by kernel_rfl) (by kernel_rfl) (by kernel_rfl) (fun _ _ _ h => h) (Or.inl ⟨by rfl, ?_⟩) (by assumption) ?_
            rotate_left
            · (intro w hSw; (try dsimp only at hSw); (try go_split_ands); go_simp; try with_reducible rfl)
            try simp only [Act.put, setIfInBounds_toArray, set_cons_zero, set_cons_succ]
            refine take_in (i := 7) (v := ?_) (some 73) rfl rfl (by kernel_rfl) (by kernel_rfl) (by kernel_rfl) (fun _ _ _ h => h) (Or.inl ⟨by rfl, ?_⟩) (by assumption) ?_
            rotate_left
            · (intro w hSw; (try dsimp only at hSw); (try go_split_ands); go_simp; try with_reducible rfl)
            try simp only [Act.put, setIfInBounds_toArray, set_cons_zero, set_cons_succ]
            refine take_in (i := 8) (v := ?_) (some 74) rfl rfl (by kernel_rfl) (by kernel_rfl) (by kernel_rfl) (fun _ _ _ h => h) (Or.inl ⟨by rfl, ?_⟩) (by assumption) ?_
            rotate_left
            · (intro w hSw; (try dsimp only at hSw); (try go_split_ands); go_simp; try with_reducible rfl)
            try simp only [Act.put, setIfInBounds_toArray, set_cons_zero, set_cons_succ]
            refine wpAnyH_ready (rs := [9]) (by kernel_rfl) (by simp) ?_
            refine (AllReadyH.cons rfl (fun K hK => ?_) AllReadyH.nil)
            go_simp
            refine hK.out _ _ (K9.out _ (Hr9abQZ.out.alloc Hr9abQZ.out.size _)) (fun hHeld => ?_)
            clear hK K
            try simp only [Act.put, setIfInBounds_toArray, set_cons_zero, set_cons_succ]
            obtain ⟨wr9abQZA, hWr9⟩ : ∃ W, wr9abQZ.alloc (.cells #[.slice none 0 0, .slice none 0 0] 76) = W := ⟨_, rfl⟩
            have Hr9abQZA := Lib.hid (show Below w12.heap.size w12 wr9abQZA by rw [← hWr9]; exact Hr9abQZ.out.alloc Hr9abQZ.out.size _)
            have hbA : Below wr9abQZ.heap.size wr9abQZ wr9abQZA := by rw [← hWr9]; exact (Below.refl _ _).alloc (Nat.le_refl _) _
            clear hbA
            have YBabQZA := Lib.hid (show Bx wr9abQZA wr9abQZ.heap.size #[.slice none 0 0, .slice none 0 0] by rw [← hWr9]; exact Bx.new wr9abQZ _ _)
            have y2 := YBabQZA.out.c
            have y3 := YBabQZA.out.fr
            try rw [hWr9] at hHeld
            try rw [hWr9]
            clear hWr9
            refine wpAnyH_ready (rs := [10]) (by kernel_rfl) (by simp) ?_
            refine (AllReadyH.cons rfl (fun K hK => ?_) AllReadyH.nil)
            go_simp
            refine hK.out _ _ (K9.out _ (Hr9abQZA.out.grown (put2 YBabQZA.out _ _).2 Hr9abQZA.out.size fun q hq => by have e := Option.some.inj hq; have h1 : w12.heap.size ≤ q := (by rw [← e]; exact Hr9abQZ.out.size); exact h1)) (fun hHeld => ?_)
            clear hK K
            try simp only [Act.put, setIfInBounds_toArray, set_cons_zero, set_cons_succ]
            clear y2 y3
            refine take_in (i := 11) (v := ?_) (some 14) rfl rfl (by kernel_rfl) (by kernel_rfl) (by kernel_rfl) (fun _ _ _ h => h) (Or.inl ⟨by rfl, ?_⟩) (by assumption) ?_
            rotate_left
            · (intro w hSw; (try dsimp only at hSw); (try go_split_ands); go_simp; try with_reducible rfl)
            try simp only [Act.put, setIfInBounds_toArray, set_cons_zero, set_cons_succ]
            refine wpAnyH_done (by kernel_rfl) ?_ _
            go_wp2_with fail
            go_meet
            exact ⟨rfl, (Hr9abQZA.out.grown (put2 YBabQZA.out _ _).2 Hr9abQZA.out.size fun q hq => by have e := Option.some.inj hq; have h1 : w12.heap.size ≤ q := (by rw [← e]; exact Hr9abQZ.out.size); exact h1)⟩
          · go_simp
            refine hK.out _ _ (K9.out _ (Hr9abQ.out.alloc Hr9abQ.out.size _)) (fun hHeld => ?_)
            clear hK K
            try simp only [Act.put, setIfInBounds_toArray, set_cons_zero, set_cons_succ]
            obtain ⟨wr9abQA, hWr9⟩ : ∃ W, wr9abQ.alloc (.cells #[.slice none 0 0, .slice none 0 0] 76) = W := ⟨_, rfl⟩
            have Hr9abQA := Lib.hid (show Below w12.heap.size w12 wr9abQA by rw [← hWr9]; exact Hr9abQ.out.alloc Hr9abQ.out.size _)
            have hbA : Below wr9abQ.heap.size wr9abQ wr9abQA := by rw [← hWr9]; exact (Below.refl _ _).alloc (Nat.le_refl _) _
            have SOabQA := Lib.hid (SOabQ.out.below hbA)
            clear hbA
            have YBabQA := Lib.hid (show Bx wr9abQA wr9abQ.heap.size #[.slice none 0 0, .slice none 0 0] by rw [← hWr9]; exact Bx.new wr9abQ _ _)
            try rw [hWr9] at hHeld
            try rw [hWr9]
            clear hWr9
            refine wpAnyH_ready (rs := [5]) (by kernel_rfl) (by simp) ?_
            refine (AllReadyH.cons rfl (fun K hK => ?_) AllReadyH.nil)
            go_simp
            (with_reducible refine (CA9.out _ _ Hr9abQA.out SOabQA.out).mono ?_)
            rintro e wr9abQAZ ⟨A3, n3, c3, A4, n4, c4, rfl, hb⟩
            have Hr9abQAZ := Lib.hid (Hr9abQA.out.trans (hb.mono Hr9abQA.out.size))
            have YBabQAZ := Lib.hid (YBabQA.out.below hb)
            have y2 := YBabQAZ.out.c
            have y3 := YBabQAZ.out.fr
            clear hb
            go_wp2_with fail
            refine hK.out _ _ (K9.out _ Hr9abQAZ.out) (fun hHeld => ?_)
            clear hK K
            try simp only [Act.put, setIfInBounds_toArray, set_cons_zero, set_cons_succ]
            refine take_in (i := 6) (v := ?_) (some 66) rfl rfl (by kernel_rfl) (by kernel_rfl) (by kernel_rfl) (fun _ _ _ h => h) (Or.inl ⟨by rfl, ?_⟩) (by assumption) ?_
            rotate_left
            · (intro w hSw; (try dsimp only at hSw); (try go_split_ands); go_simp; try with_reducible rfl)
            try simp only [Act.put, setIfInBounds_toArray, set_cons_zero, set_cons_succ]
            refine take_in (i := 7) (v := ?_) (some 73) rfl rfl (by kernel_rfl) (by kernel_rfl) (by kernel_rfl) (fun _ _ _ h => h) (Or.inl ⟨by rfl, ?_⟩) (by assumption) ?_
            rotate_left
            · (intro w hSw; (try dsimp only at hSw); (try go_split_ands); go_simp; try with_reducible rfl)
            try simp only [Act.put, setIfInBounds_toArray, set_cons_zero, set_cons_succ]
            refine take_in (i := 8) (v := ?_) (some 74) rfl rfl (by kernel_rfl) (by kernel_rfl) (by kernel_rfl) (fun _ _ _ h => h) (Or.inl ⟨by rfl, ?_⟩) (by assumption) ?_
            rotate_left
            · (intro w hSw; (try dsimp only at hSw); (try go_split_ands); go_simp; try with_reducible rfl)
            try simp only [Act.put, setIfInBounds_toArray, set_cons_zero, set_cons_succ]
            refine wpAnyH_ready (rs := [10]) (by kernel_rfl) (by simp) ?_
            refine (AllReadyH.cons rfl (fun K hK => ?_) AllReadyH.nil)
            go_simp
            refine hK.out _ _ (K9.out _ (Hr9abQAZ.out.grown (put2 YBabQAZ.out _ _).2 Hr9abQAZ.out.size fun q hq => by have e := Option.some.inj hq; have h1 : w12.heap.size ≤ q := (by rw [← e]; exact Hr9abQ.out.size); exact h1)) (fun hHeld => ?_)
            clear hK K
            try simp only [Act.put, setIfInBounds_toArray, set_cons_zero, set_cons_succ]
            clear y2 y3
            refine take_in (i := 11) (v := ?_) (some 14) rfl rfl (by kernel_rfl) (by kernel_rfl) (by kernel_rfl) (fun _ _ _ h => h) (Or.inl ⟨by rfl, ?_⟩) (by assumption) ?_
            rotate_left
            · (intro w hSw; (try dsimp only at hSw); (try go_split_ands); go_simp; try with_reducible rfl)
            try simp only [Act.put, setIfInBounds_toArray, set_cons_zero, set_cons_succ]
            refine wpAnyH_done (by kernel_rfl) ?_ _
            go_wp2_with fail
            go_meet
            exact ⟨rfl, (Hr9abQAZ.out.grown (put2 YBabQAZ.out _ _).2 Hr9abQAZ.out.size fun q hq => by have e := Option.some.inj hq; have h1 : w12.heap.size ≤ q := (by rw [← e]; exact Hr9abQ.out.size); exact h1)⟩
        · go_simp
          refine hK.out _ _ (K9.out _ (Hr9ab.out.alloc Hr9ab.out.size _)) (fun hHeld => ?_)
          clear hK K
          try simp only [Act.put, setIfInBounds_toArray, set_cons_zero, set_cons_succ]
          obtain ⟨wr9abA, hWr9⟩ : ∃ W, wr9ab.alloc (.cells #[.slice none 0 0, .slice none 0 0] 76) = W := ⟨_, rfl⟩
          have Hr9abA := Lib.hid (show Below w12.heap.size w12 wr9abA by rw [← hWr9]; exact Hr9ab.out.alloc Hr9ab.out.size _)
          have hbA : Below wr9ab.heap.size wr9ab wr9abA := by rw [← hWr9]; exact (Below.refl _ _).alloc (Nat.le_refl _) _
          clear hbA
          have YBabA := Lib.hid (show Bx wr9abA wr9ab.heap.size #[.slice none 0 0, .slice none 0 0] by rw [← hWr9]; exact Bx.new wr9ab _ _)
          try rw [hWr9] at hHeld
          try rw [hWr9]
          clear hWr9
          refine wpAnyH_ready (rs := [4]) (by kernel_rfl) (by simp) ?_
          refine (AllReadyH.cons rfl (fun K hK => ?_) AllReadyH.nil)
          go_simp
          refine hK.out _ _ (K9.out _ (Hr9abA.out.alloc Hr9abA.out.size _)) (fun hHeld => ?_)
          clear hK K
          try simp only [Act.put, setIfInBounds_toArray, set_cons_zero, set_cons_succ]
          obtain ⟨wr9abAQ, hWr9⟩ : ∃ W, wr9abA.alloc (.cells #[.int .i64 5, .bool false, .int .u64 2, .string ⟨#[]⟩, .int .u64 0, .int .u64 0, .string ⟨#[107]⟩, .int .i64 2, .bool false, .int .i64 1, .float .f64 0, .string ⟨#[]⟩, .int .u64 0, .int .u64 3] 35) = W := ⟨_, rfl⟩
          have Hr9abAQ := Lib.hid (show Below w12.heap.size w12 wr9abAQ by rw [← hWr9]; exact Hr9abA.out.alloc Hr9abA.out.size _)
          have hbA : Below wr9abA.heap.size wr9abA wr9abAQ := by rw [← hWr9]; exact (Below.refl _ _).alloc (Nat.le_refl _) _
          have YBabAQ := Lib.hid (YBabA.out.below hbA)
          clear hbA
          have SOabAQ := Lib.hid (show Co.SO wr9abAQ (.slice (some ⟨wr9abA.heap.size, 0, none⟩) 1 1) [stO] by rw [← hWr9]; exact so_new wr9abA [stO] #[.int .i64 5, .bool false, .int .u64 2, .string ⟨#[]⟩, .int .u64 0, .int .u64 0, .string ⟨#[107]⟩, .int .i64 2, .bool false, .int .i64 1, .float .f64 0, .string ⟨#[]⟩, .int .u64 0, .int .u64 3] rfl (by simp))
          try rw [hWr9] at hHeld
          try rw [hWr9]
          clear hWr9
          refine wpAnyH_ready (rs := [5]) (by kernel_rfl) (by simp) ?_
          refine (AllReadyH.cons rfl (fun K hK => ?_) AllReadyH.nil)
          go_simp
          (with_reducible refine (CA9.out _ _ Hr9abAQ.out SOabAQ.out).mono ?_)
          rintro e wr9abAQZ ⟨A3, n3, c3, A4, n4, c4, rfl, hb⟩
          have Hr9abAQZ := Lib.hid (Hr9abAQ.out.trans (hb.mono Hr9abAQ.out.size))
          have YBabAQZ := Lib.hid (YBabAQ.out.below hb)
          have y2 := YBabAQZ.out.c
          have y3 := YBabAQZ.out.fr
          clear hb
          go_wp2_with fail
          refine hK.out _ _ (K9.out _ Hr9abAQZ.out) (fun hHeld => ?_)
          clear hK K
          try simp only [Act.put, setIfInBounds_toArray, set_cons_zero, set_cons_succ]
          refine take_in (i := 6) (v := ?_) (some 66) rfl rfl (by kernel_rfl) (by kernel_rfl) (by kernel_rfl) (fun _ _ _ h => h) (Or.inl ⟨by rfl, ?_⟩) (by assumption) ?_
          rotate_left
          · (intro w hSw; (try dsimp only at hSw); (try go_split_ands); go_simp; try with_reducible rfl)
          try simp only [Act.put, setIfInBounds_toArray, set_cons_zero, set_cons_succ]
          refine take_in (i := 7) (v := ?_) (some 73) rfl rfl (by kernel_rfl) (by kernel_rfl) (by kernel_rfl) (fun _ _ _ h => h) (Or.inl ⟨by rfl, ?_⟩) (by assumption) ?_
          rotate_left
          · (intro w hSw; (try dsimp only at hSw); (try go_split_ands); go_simp; try with_reducible rfl)
          try simp only [Act.put, setIfInBounds_toArray, set_cons_zero, set_cons_succ]
          refine take_in (i := 8) (v := ?_) (some 74) rfl rfl (by kernel_rfl) (by kernel_rfl) (by kernel_rfl) (fun _ _ _ h => h) (Or.inl ⟨by rfl, ?_⟩) (by assumption) ?_
          rotate_left
          · (intro w hSw; (try dsimp only at hSw); (try go_split_ands); go_simp; try with_reducible rfl)
          try simp only [Act.put, setIfInBounds_toArray, set_cons_zero, set_cons_succ]
          refine wpAnyH_ready (rs := [10]) (by kernel_rfl) (by simp) ?_
          refine (AllReadyH.cons rfl (fun K hK => ?_) AllReadyH.nil)
          go_simp
          refine hK.out _ _ (K9.out _ (Hr9abAQZ.out.grown (put2 YBabAQZ.out _ _).2 Hr9abAQZ.out.size fun q hq => by have e := Option.some.inj hq; have h1 : w12.heap.size ≤ q := (by rw [← e]; exact Hr9ab.out.size); exact h1)) (fun hHeld => ?_)
          clear hK K
          try simp only [Act.put, setIfInBounds_toArray, set_cons_zero, set_cons_succ]
          clear y2 y3
          refine take_in (i := 11) (v := ?_) (some 14) rfl rfl (by kernel_rfl) (by kernel_rfl) (by kernel_rfl) (fun _ _ _ h => h) (Or.inl ⟨by rfl, ?_⟩) (by assumption) ?_
          rotate_left
          · (intro w hSw; (try dsimp only at hSw); (try go_split_ands); go_simp; try with_reducible rfl)
          try simp only [Act.put, setIfInBounds_toArray, set_cons_zero, set_cons_succ]
          refine wpAnyH_done (by kernel_rfl) ?_ _
          go_wp2_with fail
          go_meet
          exact ⟨rfl, (Hr9abAQZ.out.grown (put2 YBabAQZ.out _ _).2 Hr9abAQZ.out.size fun q hq => by have e := Option.some.inj hq; have h1 : w12.heap.size ≤ q := (by rw [← e]; exact Hr9ab.out.size); exact h1)⟩
      · go_simp
        refine hK.out _ _ (K9.out _ (Hr9a.out.alloc Hr9a.out.size _)) (fun hHeld => ?_)
        clear hK K
        try simp only [Act.put, setIfInBounds_toArray, set_cons_zero, set_cons_succ]
        obtain ⟨wr9aA, hWr9⟩ : ∃ W, wr9a.alloc (.cells #[.slice none 0 0, .slice none 0 0] 76) = W := ⟨_, rfl⟩
        have Hr9aA := Lib.hid (show Below w12.heap.size w12 wr9aA by rw [← hWr9]; exact Hr9a.out.alloc Hr9a.out.size _)
        have hbA : Below wr9a.heap.size wr9a wr9aA := by rw [← hWr9]; exact (Below.refl _ _).alloc (Nat.le_refl _) _
        clear hbA
        have YBaA := Lib.hid (show Bx wr9aA wr9a.heap.size #[.slice none 0 0, .slice none 0 0] by rw [← hWr9]; exact Bx.new wr9a _ _)
        try rw [hWr9] at hHeld
        try rw [hWr9]
        clear hWr9
        refine wpAnyH_ready (rs := [2]) (by kernel_rfl) (by simp) ?_
        refine (AllReadyH.cons rfl (fun K hK => ?_) AllReadyH.nil)
        go_simp
        (with_reducible refine (CP.out _ _ _).mono ?_)
        rintro e wr9aAb ⟨rfl, hb⟩
        have Hr9aAb := Lib.hid (Hr9aA.out.trans (hb.mono Hr9aA.out.size))
        have YBaAb := Lib.hid (YBaA.out.below hb)
        clear hb
        go_wp2_with fail
        refine hK.out _ _ (K9.out _ Hr9aAb.out) (fun hHeld => ?_)
        clear hK K
        try simp only [Act.put, setIfInBounds_toArray, set_cons_zero, set_cons_succ]
        refine take_in (i := 3) (v := ?_) (some 70) rfl rfl (by kernel_rfl) (by kernel_rfl) (by kernel_rfl) (fun _ _ _ h => h) (Or.inl ⟨by rfl, ?_⟩) (by assumption) ?_
        rotate_left
        · (intro w hSw; (try dsimp only at hSw); (try go_split_ands); go_simp; try with_reducible rfl)
        try simp only [Act.put, setIfInBounds_toArray, set_cons_zero, set_cons_succ]
        refine wpAnyH_ready (rs := [4]) (by kernel_rfl) (by simp) ?_
        refine (AllReadyH.cons rfl (fun K hK => ?_) AllReadyH.nil)
        go_simp
        refine hK.out _ _ (K9.out _ (Hr9aAb.out.alloc Hr9aAb.out.size _)) (fun hHeld => ?_)
        clear hK K
        try simp only [Act.put, setIfInBounds_toArray, set_cons_zero, set_cons_succ]
        obtain ⟨wr9aAbQ, hWr9⟩ : ∃ W, wr9aAb.alloc (.cells #[.int .i64 5, .bool false, .int .u64 2, .string ⟨#[]⟩, .int .u64 0, .int .u64 0, .string ⟨#[107]⟩, .int .i64 2, .bool false, .int .i64 1, .float .f64 0, .string ⟨#[]⟩, .int .u64 0, .int .u64 3] 35) = W := ⟨_, rfl⟩
        have Hr9aAbQ := Lib.hid (show Below w12.heap.size w12 wr9aAbQ by rw [← hWr9]; exact Hr9aAb.out.alloc Hr9aAb.out.size _)
        have hbA : Below wr9aAb.heap.size wr9aAb wr9aAbQ := by rw [← hWr9]; exact (Below.refl _ _).alloc (Nat.le_refl _) _
        have YBaAbQ := Lib.hid (YBaAb.out.below hbA)
        clear hbA
        have SOaAbQ := Lib.hid (show Co.SO wr9aAbQ (.slice (some ⟨wr9aAb.heap.size, 0, none⟩) 1 1) [stO] by rw [← hWr9]; exact so_new wr9aAb [stO] #[.int .i64 5, .bool false, .int .u64 2, .string ⟨#[]⟩, .int .u64 0, .int .u64 0, .string ⟨#[107]⟩, .int .i64 2, .bool false, .int .i64 1, .float .f64 0, .string ⟨#[]⟩, .int .u64 0, .int .u64 3] rfl (by simp))
        try rw [hWr9] at hHeld
        try rw [hWr9]
        clear hWr9
        refine wpAnyH_ready (rs := [5]) (by kernel_rfl) (by simp) ?_
        refine (AllReadyH.cons rfl (fun K hK => ?_) AllReadyH.nil)
        go_simp
        (with_reducible refine (CA9.out _ _ Hr9aAbQ.out SOaAbQ.out).mono ?_)
        rintro e wr9aAbQZ ⟨A3, n3, c3, A4, n4, c4, rfl, hb⟩
        have Hr9aAbQZ := Lib.hid (Hr9aAbQ.out.trans (hb.mono Hr9aAbQ.out.size))
        have YBaAbQZ := Lib.hid (YBaAbQ.out.below hb)
        have y2 := YBaAbQZ.out.c
        have y3 := YBaAbQZ.out.fr
        clear hb
        go_wp2_with fail
        refine hK.out _ _ (K9.out _ Hr9aAbQZ.out) (fun hHeld => ?_)
        clear hK K
        try simp only [Act.put, setIfInBounds_toArray, set_cons_zero, set_cons_succ]
        refine take_in (i := 6) (v := ?_) (some 66) rfl rfl (by kernel_rfl) (by kernel_rfl) (by kernel_rfl) (fun _ _ _ h => h) (Or.inl ⟨by rfl, ?_⟩) (by assumption) ?_
        rotate_left
        · (intro w hSw; (try dsimp only at hSw); (try go_split_ands); go_simp; try with_reducible rfl)
        try simp only [Act.put, setIfInBounds_toArray, set_cons_zero, set_cons_succ]
        refine take_in (i := 7) (v := ?_) (some 73) rfl rfl (by kernel_rfl) (by kernel_rfl) (by kernel_rfl) (fun _ _ _ h => h) (Or.inl ⟨by rfl, ?_⟩) (by assumption) ?_
        rotate_left
        · (intro w hSw; (try dsimp only at hSw); (try go_split_ands); go_simp; try with_reducible rfl)
        try simp only [Act.put, setIfInBounds_toArray, set_cons_zero, set_cons_succ]
        refine take_in (i := 8) (v := ?_) (some 74) rfl rfl (by kernel_rfl) (by kernel_rfl) (by kernel_rfl) (fun _ _ _ h => h) (Or.inl ⟨by rfl, ?_⟩) (by assumption) ?_
        rotate_left
        · (intro w hSw; (try dsimp only at hSw); (try go_split_ands); go_simp; try with_reducible rfl)
        try simp only [Act.put, setIfInBounds_toArray, set_cons_zero, set_cons_succ]
        refine wpAnyH_ready (rs := [10]) (by kernel_rfl) (by simp) ?_
        refine (AllReadyH.cons rfl (fun K hK => ?_) AllReadyH.nil)
        go_simp
        refine hK.out _ _ (K9.out _ (Hr9aAbQZ.out.grown (put2 YBaAbQZ.out _ _).2 Hr9aAbQZ.out.size fun q hq => by have e := Option.some.inj hq; have h1 : w12.heap.size ≤ q := (by rw [← e]; exact Hr9a.out.size); exact h1)) (fun hHeld => ?_)
        clear hK K
        try simp only [Act.put, setIfInBounds_toArray, set_cons_zero, set_cons_succ]
        clear y2 y3
        refine take_in (i := 11) (v := ?_) (some 14) rfl rfl (by kernel_rfl) (by kernel_rfl) (by kernel_rfl) (fun _ _ _ h => h) (Or.inl ⟨by rfl, ?_⟩) (by assumption) ?_
        rotate_left
        · (intro w hSw; (try dsimp only at hSw); (try go_split_ands); go_simp; try with_reducible rfl)
        try simp only [Act.put, setIfInBounds_toArray, set_cons_zero, set_cons_succ]
        refine wpAnyH_done (by kernel_rfl) ?_ _
        go_wp2_with fail
        go_meet
        exact ⟨rfl, (Hr9aAbQZ.out.grown (put2 YBaAbQZ.out _ _).2 Hr9aAbQZ.out.size fun q hq => by have e := Option.some.inj hq; have h1 : w12.heap.size ≤ q := (by rw [← e]; exact Hr9a.out.size); exact h1)⟩
    · go_simp
      refine hK.out _ _ (K9.out _ ((show Below w12.heap.size w12 w12.drew from (Below.refl _ _).drew).alloc (show Below w12.heap.size w12 w12.drew from (Below.refl _ _).drew).size _)) (fun hHeld => ?_)
      clear hK K
      try simp only [Act.put, setIfInBounds_toArray, set_cons_zero, set_cons_succ]
      obtain ⟨wr9A, hWr9⟩ : ∃ W, (w12.alloc (.cells #[.slice none 0 0, .slice none 0 0] 76)).drew = W := ⟨_, rfl⟩
      have Hr9A := Lib.hid (show Below w12.heap.size w12 wr9A by rw [← hWr9]; exact ((Below.refl _ _).alloc (Nat.le_refl _) _).drew)
      have YBA := Lib.hid (show Bx wr9A w12.heap.size #[.slice none 0 0, .slice none 0 0] by rw [← hWr9]; exact (Bx.new w12 _ _).below (Below.refl _ _).drew)
      try rw [hWr9] at hHeld
      try rw [hWr9]
      clear hWr9
      refine wpAnyH_ready (rs := [1]) (by kernel_rfl) (by simp) ?_
      refine (AllReadyH.cons rfl (fun K hK => ?_) AllReadyH.nil)
      go_simp
      (with_reducible refine (CN.out _ _).mono ?_)
      rintro e wr9Aa ⟨rfl, hb⟩
      have Hr9Aa := Lib.hid (Hr9A.out.trans (hb.mono Hr9A.out.size))
      have YBAa := Lib.hid (YBA.out.below hb)
      clear hb
      go_wp2_with fail
      refine hK.out _ _ (K9.out _ Hr9Aa.out) (fun hHeld => ?_)
      clear hK K
      try simp only [Act.put, setIfInBounds_toArray, set_cons_zero, set_cons_succ]
      refine wpAnyH_ready (rs := [2]) (by kernel_rfl) (by simp) ?_
      refine (AllReadyH.cons rfl (fun K hK => ?_) AllReadyH.nil)
      go_simp
      (with_reducible refine (CP.out _ _ _).mono ?_)
      rintro e wr9Aab ⟨rfl, hb⟩
      have Hr9Aab := Lib.hid (Hr9Aa.out.trans (hb.mono Hr9Aa.out.size))
      have YBAab := Lib.hid (YBAa.out.below hb)
      clear hb
      go_wp2_with fail
      refine hK.out _ _ (K9.out _ Hr9Aab.out) (fun hHeld => ?_)
      clear hK K
      try simp only [Act.put, setIfInBounds_toArray, set_cons_zero, set_cons_succ]
      refine take_in (i := 3) (v := ?_) (some 70) rfl rfl (by kernel_rfl) (by kernel_rfl) (by kernel_rfl) (fun _ _ _ h => h) (Or.inl ⟨by rfl, ?_⟩) (by assumption) ?_
      rotate_left
      · (intro w hSw; (try dsimp only at hSw); (try go_split_ands); go_simp; try with_reducible rfl)
      try simp only [Act.put, setIfInBounds_toArray, set_cons_zero, set_cons_succ]
      refine wpAnyH_ready (rs := [4]) (by kernel_rfl) (by simp) ?_
      refine (AllReadyH.cons rfl (fun K hK => ?_) AllReadyH.nil)
      go_simp
      refine hK.out _ _ (K9.out _ (Hr9Aab.out.alloc Hr9Aab.out.size _)) (fun hHeld => ?_)
      clear hK K
      try simp only [Act.put, setIfInBounds_toArray, set_cons_zero, set_cons_succ]
      obtain ⟨wr9AabQ, hWr9⟩ : ∃ W, wr9Aab.alloc (.cells #[.int .i64 5, .bool false, .int .u64 2, .string ⟨#[]⟩, .int .u64 0, .int .u64 0, .string ⟨#[107]⟩, .int .i64 2, .bool false, .int .i64 1, .float .f64 0, .string ⟨#[]⟩, .int .u64 0, .int .u64 3] 35) = W := ⟨_, rfl⟩
      have Hr9AabQ := Lib.hid (show Below w12.heap.size w12 wr9AabQ by rw [← hWr9]; exact Hr9Aab.out.alloc Hr9Aab.out.size _)
      have hbA : Below wr9Aab.heap.size wr9Aab wr9AabQ := by rw [← hWr9]; exact (Below.refl _ _).alloc (Nat.le_refl _) _
      have YBAabQ := Lib.hid (YBAab.out.below hbA)
      clear hbA
      have SOAabQ := Lib.hid (show Co.SO wr9AabQ (.slice (some ⟨wr9Aab.heap.size, 0, none⟩) 1 1) [stO] by rw [← hWr9]; exact so_new wr9Aab [stO] #[.int .i64 5, .bool false, .int .u64 2, .string ⟨#[]⟩, .int .u64 0, .int .u64 0, .string ⟨#[107]⟩, .int .i64 2, .bool false, .int .i64 1, .float .f64 0, .string ⟨#[]⟩, .int .u64 0, .int .u64 3] rfl (by simp))
      try rw [hWr9] at hHeld
      try rw [hWr9]
      clear hWr9
      refine wpAnyH_ready (rs := [5]) (by kernel_rfl) (by simp) ?_
      refine (AllReadyH.cons rfl (fun K hK => ?_) AllReadyH.nil)
      go_simp
      (with_reducible refine (CA9.out _ _ Hr9AabQ.out SOAabQ.out).mono ?_)
      rintro e wr9AabQZ ⟨A3, n3, c3, A4, n4, c4, rfl, hb⟩
      have Hr9AabQZ := Lib.hid (Hr9AabQ.out.trans (hb.mono Hr9AabQ.out.size))
      have YBAabQZ := Lib.hid (YBAabQ.out.below hb)
      have y2 := YBAabQZ.out.c
      have y3 := YBAabQZ.out.fr
      clear hb
      go_wp2_with fail
      refine hK.out _ _ (K9.out _ Hr9AabQZ.out) (fun hHeld => ?_)
      clear hK K
      try simp only [Act.put, setIfInBounds_toArray, set_cons_zero, set_cons_succ]
      refine take_in (i := 6) (v := ?_) (some 66) rfl rfl (by kernel_rfl) (by kernel_rfl) (by kernel_rfl) (fun _ _ _ h => h) (Or.inl ⟨by rfl, ?_⟩) (by assumption) ?_
      rotate_left
      · (intro w hSw; (try dsimp only at hSw); (try go_split_ands); go_simp; try with_reducible rfl)
      try simp only [Act.put, setIfInBounds_toArray, set_cons_zero, set_cons_succ]
      refine take_in (i := 7) (v := ?_) (some 73) rfl rfl (by kernel_rfl) (by kernel_rfl) (by kernel_rfl) (fun _ _ _ h => h) (Or.inl ⟨by rfl, ?_⟩) (by assumption) ?_
      rotate_left
      · (intro w hSw; (try dsimp only at hSw); (try go_split_ands); go_simp; try with_reducible rfl)
      try simp only [Act.put, setIfInBounds_toArray, set_cons_zero, set_cons_succ]
      refine take_in (i := 8) (v := ?_) (some 74) rfl rfl (by kernel_rfl) (by kernel_rfl) (by kernel_rfl) (fun _ _ _ h => h) (Or.inl ⟨by rfl, ?_⟩) (by assumption) ?_
      rotate_left
      · (intro w hSw; (try dsimp only at hSw); (try go_split_ands); go_simp; try with_reducible rfl)
      try simp only [Act.put, setIfInBounds_toArray, set_cons_zero, set_cons_succ]
      refine wpAnyH_ready (rs := [10]) (by kernel_rfl) (by simp) ?_
      refine (AllReadyH.cons rfl (fun K hK => ?_) AllReadyH.nil)
      go_simp
      refine hK.out _ _ (K9.out _ (Hr9AabQZ.out.grown (put2 YBAabQZ.out _ _).2 Hr9AabQZ.out.size fun q hq => by have e := Option.some.inj hq; have h1 : w12.heap.size ≤ q := (by rw [← e]; exact Nat.le_refl _); exact h1)) (fun hHeld => ?_)
      clear hK K
      try simp only [Act.put, setIfInBounds_toArray, set_cons_zero, set_cons_succ]
      clear y2 y3
      refine take_in (i := 11) (v := ?_) (some 14) rfl rfl (by kernel_rfl) (by kernel_rfl) (by kernel_rfl) (fun _ _ _ h => h) (Or.inl ⟨by rfl, ?_⟩) (by assumption) ?_
      rotate_left
      · (intro w hSw; (try dsimp only at hSw); (try go_split_ands); go_simp; try with_reducible rfl)
      try simp only [Act.put, setIfInBounds_toArray, set_cons_zero, set_cons_succ]
      refine wpAnyH_done (by kernel_rfl) ?_ _
      go_wp2_with fail
      go_meet
      exact ⟨rfl, (Hr9AabQZ.out.grown (put2 YBAabQZ.out _ _).2 Hr9AabQZ.out.size fun q hq => by have e := Option.some.inj hq; have h1 : w12.heap.size ≤ q := (by rw [← e]; exact Nat.le_refl _); exact h1)⟩
  obtain ⟨rfl, hbc⟩ := hcut
  have K13 := Lib.hid hbc
  obtain ⟨w13, rfl⟩ : ∃ x : World, x = wc := ⟨_, rfl⟩
  clear hbc
  have X13 := Lib.hid (X12.out.below K13.out)
  have HS13 := Lib.hid (HS12.out.below K13.out)
  have Y13 := Lib.hid (Y12.out.below K13.out)
  have B13 := Lib.hid (B12.out.trans (K13.out.mono B12.out.size))
  have CA10 := Lib.hid (fun W sv (hb : Below w13.heap.size w13 W) (ho : Co.SO W sv [drO false 6, drO true 1099511627776]) => apply_fi W (HS13.out.below hb) ho (fun x hx => by
    simp only [List.mem_cons, List.not_mem_nil, or_false] at hx
    rcases hx with rfl | rfl
    · exact drO_wide _ _ (by omega)
    · exact drO_wide _ _ (by omega)) (fun n z => num_f))
  have K10 := Lib.hid (show ∀ w', Below w13.heap.size w13 w' → (∀ j, w'.cell? ⟨p1, j, none⟩ = #[.slice A1 2 c1, .slice A2 1 c2][j]?) ∧ ∀ j, w'.cell? ⟨p6, j, none⟩ = #[.int .i64 4, .bool false, .int .u64 1, .string ⟨#[]⟩, .int .u64 0, .int .u64 0, .string ⟨#[]⟩, .int .i64 0, .bool false, .int .i64 0, .float .f64 0, .string ⟨#[]⟩, .int .u64 4, .int .u64 6][j]? from fun w' hb => ⟨(X13.out.below hb).c, (Y13.out.below hb).c⟩)
  go_upto_region 10 with fail
  go_cut [16] from 15 to 83 (fun t wd => t = .int .i64 0 ∧ Below w13.heap.size w13 wd)
  case first =>
    refine wp_region_held_drew (S := (fun w' => (∀ j, w'.cell? ⟨p1, j, none⟩ = #[.slice A1 2 c1, .slice A2 1 c2][j]?) ∧ ∀ j, w'.cell? ⟨p6, j, none⟩ = #[.int .i64 4, .bool false, .int .u64 1, .string ⟨#[]⟩, .int .u64 0, .int .u64 0, .string ⟨#[]⟩, .int .i64 0, .bool false, .int .i64 0, .float .f64 0, .string ⟨#[]⟩, .int .u64 4, .int .u64 6][j]?)) (by kernel_rfl) (K10.out _ (Below.refl _ _).drew) (fun hHeld => ?_)
    refine take_in (i := 0) (v := ?_) (some 76) rfl rfl (by kernel_rfl) (by kernel_rfl) (by kernel_rfl) (fun _ _ _ h => h) (Or.inl ⟨by rfl, ?_⟩) (by assumption) ?_
    rotate_left
    · (intro w hSw; (try dsimp only at hSw); (try go_split_ands); go_simp; try with_reducible rfl)
    try simp only [Act.put, setIfInBounds_toArray, set_cons_zero, set_cons_succ]
    refine take_in (i := 1) (v := ?_) (some 77) rfl rfl (by kernel_rfl) (by kernel_rfl) (by kernel_rfl) (fun _ _ _ h => h) (Or.inl ⟨by rfl, ?_⟩) (by assumption) ?_
    rotate_left
    · (intro w hSw; (try dsimp only at hSw); (try go_split_ands); go_simp; try with_reducible rfl)
    try simp only [Act.put, setIfInBounds_toArray, set_cons_zero, set_cons_succ]
    refine wpAnyH_ready (rs := [2, 9]) (by kernel_rfl) (by simp) ?_
    refine (AllReadyH.cons rfl (fun K hK => ?_) (AllReadyH.cons rfl (fun K hK => ?_) AllReadyH.nil))
    · go_simp
      (with_reducible refine (CP.out _ _ _).mono ?_)
      rintro e wr10a ⟨rfl, hb⟩
      have Hr10a := Lib.hid ((show Below w13.heap.size w13 w13.drew from (Below.refl _ _).drew).trans (hb.mono (show Below w13.heap.size w13 w13.drew from (Below.refl _ _).drew).size))
      clear hb
      go_wp2_with fail
      refine hK.out _ _ (K10.out _ Hr10a.out) (fun hHeld => ?_)
      clear hK K
      try simp only [Act.put, setIfInBounds_toArray, set_cons_zero, set_cons_succ]
      refine take_in (i := 3) (v := ?_) (some 79) rfl rfl (by kernel_rfl) (by kernel_rfl) (by kernel_rfl) (fun _ _ _ h => h) (Or.inl ⟨by rfl, ?_⟩) (by assumption) ?_
      rotate_left
      · (intro w hSw; (try dsimp only at hSw); (try go_split_ands); go_simp; try with_reducible rfl)
      try simp only [Act.put, setIfInBounds_toArray, set_cons_zero, set_cons_succ]
      refine wpAnyH_ready (rs := [4, 9]) (by kernel_rfl) (by simp) ?_
      refine (AllReadyH.cons rfl (fun K hK => ?_) (AllReadyH.cons rfl (fun K hK => ?_) AllReadyH.nil))
      · go_simp
        refine hK.out _ _ (K10.out _ (Hr10a.out.alloc Hr10a.out.size _)) (fun hHeld => ?_)
        clear hK K
        try simp only [Act.put, setIfInBounds_toArray, set_cons_zero, set_cons_succ]
        obtain ⟨wr10aQ, hWr10⟩ : ∃ W, wr10a.alloc (.cells #[.int .i64 4, .bool false, .int .u64 1, .string ⟨#[]⟩, .int .u64 0, .int .u64 0, .string ⟨#[]⟩, .int .i64 0, .bool false, .int .i64 0, .float .f64 0, .string ⟨#[]⟩, .int .u64 4, .int .u64 6, .int .i64 4, .bool true, .int .u64 1, .string ⟨#[]⟩, .int .u64 0, .int .u64 0, .string ⟨#[]⟩, .int .i64 0, .bool false, .int .i64 0, .float .f64 0, .string ⟨#[]⟩, .int .u64 4, .int .u64 1099511627776] 35) = W := ⟨_, rfl⟩
        have Hr10aQ := Lib.hid (show Below w13.heap.size w13 wr10aQ by rw [← hWr10]; exact Hr10a.out.alloc Hr10a.out.size _)
        have hbA : Below wr10a.heap.size wr10a wr10aQ := by rw [← hWr10]; exact (Below.refl _ _).alloc (Nat.le_refl _) _
        clear hbA
        have SOaQ := Lib.hid (show Co.SO wr10aQ (.slice (some ⟨wr10a.heap.size, 0, none⟩) 2 2) [drO false 6, drO true 1099511627776] by rw [← hWr10]; exact so_new wr10a [drO false 6, drO true 1099511627776] #[.int .i64 4, .bool false, .int .u64 1, .string ⟨#[]⟩, .int .u64 0, .int .u64 0, .string ⟨#[]⟩, .int .i64 0, .bool false, .int .i64 0, .float .f64 0, .string ⟨#[]⟩, .int .u64 4, .int .u64 6, .int .i64 4, .bool true, .int .u64 1, .string ⟨#[]⟩, .int .u64 0, .int .u64 0, .string ⟨#[]⟩, .int .i64 0, .bool false, .int .i64 0, .float .f64 0, .string ⟨#[]⟩, .int .u64 4, .int .u64 1099511627776] rfl (by simp))
        try rw [hWr10] at hHeld
        try rw [hWr10]
        clear hWr10
        refine wpAnyH_ready (rs := [5, 9]) (by kernel_rfl) (by simp) ?_
        refine (AllReadyH.cons rfl (fun K hK => ?_) (AllReadyH.cons rfl (fun K hK => ?_) AllReadyH.nil))
        · go_simp
          (with_reducible refine (CA10.out _ _ Hr10aQ.out SOaQ.out).mono ?_)
          rintro e wr10aQZ ⟨A3, n3, c3, A4, n4, c4, rfl, hb⟩
          have Hr10aQZ := Lib.hid (Hr10aQ.out.trans (hb.mono Hr10aQ.out.size))
          clear hb
          go_wp2_with fail
          refine hK.out _ _ (K10.out _ Hr10aQZ.out) (fun hHeld => ?_)
          clear hK K
          try simp only [Act.put, setIfInBounds_toArray, set_cons_zero, set_cons_succ]
          refine take_in (i := 6) (v := ?_) (some 75) rfl rfl (by kernel_rfl) (by kernel_rfl) (by kernel_rfl) (fun _ _ _ h => h) (Or.inl ⟨by rfl, ?_⟩) (by assumption) ?_
          rotate_left
          · (intro w hSw; (try dsimp only at hSw); (try go_split_ands); go_simp; try with_reducible rfl)
          try simp only [Act.put, setIfInBounds_toArray, set_cons_zero, set_cons_succ]
          refine take_in (i := 7) (v := ?_) (some 82) rfl rfl (by kernel_rfl) (by kernel_rfl) (by kernel_rfl) (fun _ _ _ h => h) (Or.inl ⟨by rfl, ?_⟩) (by assumption) ?_
          rotate_left
          · (intro w hSw; (try dsimp only at hSw); (try go_split_ands); go_simp; try with_reducible rfl)
          try simp only [Act.put, setIfInBounds_toArray, set_cons_zero, set_cons_succ]
          refine take_in (i := 8) (v := ?_) (some 83) rfl rfl (by kernel_rfl) (by kernel_rfl) (by kernel_rfl) (fun _ _ _ h => h) (Or.inl ⟨by rfl, ?_⟩) (by assumption) ?_
          rotate_left
          · (intro w hSw; (try dsimp only at hSw); (try go_split_ands); go_simp; try with_reducible rfl)
          try simp only [Act.put, setIfInBounds_toArray, set_cons_zero, set_cons_succ]
          refine wpAnyH_ready (rs := [9]) (by kernel_rfl) (by simp) ?_
          refine (AllReadyH.cons rfl (fun K hK => ?_) AllReadyH.nil)
          go_simp
          refine hK.out _ _ (K10.out _ (Hr10aQZ.out.alloc Hr10aQZ.out.size _)) (fun hHeld => ?_)
          clear hK K
          try simp only [Act.put, setIfInBounds_toArray, set_cons_zero, set_cons_succ]
          obtain ⟨wr10aQZA, hWr10⟩ : ∃ W, wr10aQZ.alloc (.cells #[.slice none 0 0, .slice none 0 0] 76) = W := ⟨_, rfl⟩
          have Hr10aQZA := Lib.hid (show Below w13.heap.size w13 wr10aQZA by rw [← hWr10]; exact Hr10aQZ.out.alloc Hr10aQZ.out.size _)
          have hbA : Below wr10aQZ.heap.size wr10aQZ wr10aQZA := by rw [← hWr10]; exact (Below.refl _ _).alloc (Nat.le_refl _) _
          clear hbA
          have YBaQZA := Lib.hid (show Bx wr10aQZA wr10aQZ.heap.size #[.slice none 0 0, .slice none 0 0] by rw [← hWr10]; exact Bx.new wr10aQZ _ _)
          have y2 := YBaQZA.out.c
          have y3 := YBaQZA.out.fr
          try rw [hWr10] at hHeld
          try rw [hWr10]
          clear hWr10
          refine wpAnyH_ready (rs := [10]) (by kernel_rfl) (by simp) ?_
          refine (AllReadyH.cons rfl (fun K hK => ?_) AllReadyH.nil)
          go_simp
          refine hK.out _ _ (K10.out _ (Hr10aQZA.out.grown (put2 YBaQZA.out _ _).2 Hr10aQZA.out.size fun q hq => by have e := Option.some.inj hq; have h1 : w13.heap.size ≤ q := (by rw [← e]; exact Hr10aQZ.out.size); exact h1)) (fun hHeld => ?_)
          clear hK K
          try simp only [Act.put, setIfInBounds_toArray, set_cons_zero, set_cons_succ]
          clear y2 y3
          refine take_in (i := 11) (v := ?_) (some 16) rfl rfl (by kernel_rfl) (by kernel_rfl) (by kernel_rfl) (fun _ _ _ h => h) (Or.inl ⟨by rfl, ?_⟩) (by assumption) ?_
          rotate_left
          · (intro w hSw; (try dsimp only at hSw); (try go_split_ands); go_simp; try with_reducible rfl)
          try simp only [Act.put, setIfInBounds_toArray, set_cons_zero, set_cons_succ]
          refine wpAnyH_done (by kernel_rfl) ?_ _
          go_wp2_with fail
          go_meet
          exact ⟨rfl, (Hr10aQZA.out.grown (put2 YBaQZA.out _ _).2 Hr10aQZA.out.size fun q hq => by have e := Option.some.inj hq; have h1 : w13.heap.size ≤ q := (by rw [← e]; exact Hr10aQZ.out.size); exact h1)⟩
        · go_simp
          refine hK.out _ _ (K10.out _ (Hr10aQ.out.alloc Hr10aQ.out.size _)) (fun hHeld => ?_)
          clear hK K
          try simp only [Act.put, setIfInBounds_toArray, set_cons_zero, set_cons_succ]
          obtain ⟨wr10aQA, hWr10⟩ : ∃ W, wr10aQ.alloc (.cells #[.slice none 0 0, .slice none 0 0] 76) = W := ⟨_, rfl⟩
          have Hr10aQA := Lib.hid (show Below w13.heap.size w13 wr10aQA by rw [← hWr10]; exact Hr10aQ.out.alloc Hr10aQ.out.size _)
          have hbA : Below wr10aQ.heap.size wr10aQ wr10aQA := by rw [← hWr10]; exact (Below.refl _ _).alloc (Nat.le_refl _) _
          have SOaQA := Lib.hid (SOaQ.out.below hbA)
          clear hbA
          have YBaQA := Lib.hid (show Bx wr10aQA wr10aQ.heap.size #[.slice none 0 0, .slice none 0 0] by rw [← hWr10]; exact Bx.new wr10aQ _ _)
          try rw [hWr10] at hHeld
          try rw [hWr10]
          clear hWr10
          refine wpAnyH_ready (rs := [5]) (by kernel_rfl) (by simp) ?_
          refine (AllReadyH.cons rfl (fun K hK => ?_) AllReadyH.nil)
          go_simp
          (with_reducible refine (CA10.out _ _ Hr10aQA.out SOaQA.out).mono ?_)
          rintro e wr10aQAZ ⟨A3, n3, c3, A4, n4, c4, rfl, hb⟩
          have Hr10aQAZ := Lib.hid (Hr10aQA.out.trans (hb.mono Hr10aQA.out.size))
          have YBaQAZ := Lib.hid (YBaQA.out.below hb)
          have y2 := YBaQAZ.out.c
          have y3 := YBaQAZ.out.fr
          clear hb
          go_wp2_with fail
          refine hK.out _ _ (K10.out _ Hr10aQAZ.out) (fun hHeld => ?_)
          clear hK K
          try simp only [Act.put, setIfInBounds_toArray, set_cons_zero, set_cons_succ]
          refine take_in (i := 6) (v := ?_) (some 75) rfl rfl (by kernel_rfl) (by kernel_rfl) (by kernel_rfl) (fun _ _ _ h => h) (Or.inl ⟨by rfl, ?_⟩) (by assumption) ?_
          rotate_left
          · (intro w hSw; (try dsimp only at hSw); (try go_split_ands); go_simp; try with_reducible rfl)
          try simp only [Act.put, setIfInBounds_toArray, set_cons_zero, set_cons_succ]
          refine take_in (i := 7) (v := ?_) (some 82) rfl rfl (by kernel_rfl) (by kernel_rfl) (by kernel_rfl) (fun _ _ _ h => h) (Or.inl ⟨by rfl, ?_⟩) (by assumption) ?_
          rotate_left
          · (intro w hSw; (try dsimp only at hSw); (try go_split_ands); go_simp; try with_reducible rfl)
          try simp only [Act.put, setIfInBounds_toArray, set_cons_zero, set_cons_succ]
          refine take_in (i := 8) (v := ?_) (some 83) rfl rfl (by kernel_rfl) (by kernel_rfl) (by kernel_rfl) (fun _ _ _ h => h) (Or.inl ⟨by rfl, ?_⟩) (by assumption) ?_
          rotate_left
          · (intro w hSw; (try dsimp only at hSw); (try go_split_ands); go_simp; try with_reducible rfl)
          try simp only [Act.put, setIfInBounds_toArray, set_cons_zero, set_cons_succ]
          refine wpAnyH_ready (rs := [10]) (by kernel_rfl) (by simp) ?_
          refine (AllReadyH.cons rfl (fun K hK => ?_) AllReadyH.nil)
          go_simp
          refine hK.out _ _ (K10.out _ (Hr10aQAZ.out.grown (put2 YBaQAZ.out _ _).2 Hr10aQAZ.out.size fun q hq => by have e := Option.some.inj hq; have h1 : w13.heap.size ≤ q := (by rw [← e]; exact Hr10aQ.out.size); exact h1)) (fun hHeld => ?_)
          clear hK K
          try simp only [Act.put, setIfInBounds_toArray, set_cons_zero, set_cons_succ]
          clear y2 y3
          refine take_in (i := 11) (v := ?_) (some 16) rfl rfl (by kernel_rfl) (by kernel_rfl) (by kernel_rfl) (fun _ _ _ h => h) (Or.inl ⟨by rfl, ?_⟩) (by assumption) ?_
          rotate_left
          · (intro w hSw; (try dsimp only at hSw); (try go_split_ands); go_simp; try with_reducible rfl)
          try simp only [Act.put, setIfInBounds_toArray, set_cons_zero, set_cons_succ]
          refine wpAnyH_done (by kernel_rfl) ?_ _
          go_wp2_with fail
          go_meet
          exact ⟨rfl, (Hr10aQAZ.out.grown (put2 YBaQAZ.out _ _).2 Hr10aQAZ.out.size fun q hq => by have e := Option.some.inj hq; have h1 : w13.heap.size ≤ q := (by rw [← e]; exact Hr10aQ.out.size); exact h1)⟩
      · go_simp
        refine hK.out _ _ (K10.out _ (Hr10a.out.alloc Hr10a.out.size _)) (fun hHeld => ?_)
        clear hK K
        try simp only [Act.put, setIfInBounds_toArray, set_cons_zero, set_cons_succ]
        obtain ⟨wr10aA, hWr10⟩ : ∃ W, wr10a.alloc (.cells #[.slice none 0 0, .slice none 0 0] 76) = W := ⟨_, rfl⟩
        have Hr10aA := Lib.hid (show Below w13.heap.size w13 wr10aA by rw [← hWr10]; exact Hr10a.out.alloc Hr10a.out.size _)
        have hbA : Below wr10a.heap.size wr10a wr10aA := by rw [← hWr10]; exact (Below.refl _ _).alloc (Nat.le_refl _) _
        clear hbA
        have YBaA := Lib.hid (show Bx wr10aA wr10a.heap.size #[.slice none 0 0, .slice none 0 0] by rw [← hWr10]; exact Bx.new wr10a _ _)
        try rw [hWr10] at hHeld
        try rw [hWr10]
        clear hWr10
        refine wpAnyH_ready (rs := [4]) (by kernel_rfl) (by simp) ?_
        refine (AllReadyH.cons rfl (fun K hK => ?_) AllReadyH.nil)
        go_simp
        refine hK.out _ _ (K10.out _ (Hr10aA.out.alloc Hr10aA.out.size _)) (fun hHeld => ?_)
        clear hK K
        try simp only [Act.put, setIfInBounds_toArray, set_cons_zero, set_cons_succ]
        obtain ⟨wr10aAQ, hWr10⟩ : ∃ W, wr10aA.alloc (.cells #[.int .i64 4, .bool false, .int .u64 1, .string ⟨#[]⟩, .int .u64 0, .int .u64 0, .string ⟨#[]⟩, .int .i64 0, .bool false, .int .i64 0, .float .f64 0, .string ⟨#[]⟩, .int .u64 4, .int .u64 6, .int .i64 4, .bool true, .int .u64 1, .string ⟨#[]⟩, .int .u64 0, .int .u64 0, .string ⟨#[]⟩, .int .i64 0, .bool false, .int .i64 0, .float .f64 0, .string ⟨#[]⟩, .int .u64 4, .int .u64 1099511627776] 35) = W := ⟨_, rfl⟩
        have Hr10aAQ := Lib.hid (show Below w13.heap.size w13 wr10aAQ by rw [← hWr10]; exact Hr10aA.out.alloc Hr10aA.out.size _)
        have hbA : Below wr10aA.heap.size wr10aA wr10aAQ := by rw [← hWr10]; exact (Below.refl _ _).alloc (Nat.le_refl _) _
        have YBaAQ := Lib.hid (YBaA.out.below hbA)
        clear hbA
        have SOaAQ := Lib.hid (show Co.SO wr10aAQ (.slice (some ⟨wr10aA.heap.size, 0, none⟩) 2 2) [drO false 6, drO true 1099511627776] by rw [← hWr10]; exact so_new wr10aA [drO false 6, drO true 1099511627776] #[.int .i64 4, .bool false, .int .u64 1, .string ⟨#[]⟩, .int .u64 0, .int .u64 0, .string ⟨#[]⟩, .int .i64 0, .bool false, .int .i64 0, .float .f64 0, .string ⟨#[]⟩, .int .u64 4, .int .u64 6, .int .i64 4, .bool true, .int .u64 1, .string ⟨#[]⟩, .int .u64 0, .int .u64 0, .string ⟨#[]⟩, .int .i64 0, .bool false, .int .i64 0, .float .f64 0, .string ⟨#[]⟩, .int .u64 4, .int .u64 1099511627776] rfl (by simp))
        try rw [hWr10] at hHeld
        try rw [hWr10]
        clear hWr10
        refine wpAnyH_ready (rs := [5]) (by kernel_rfl) (by simp) ?_
        refine (AllReadyH.cons rfl (fun K hK => ?_) AllReadyH.nil)
        go_simp
        (with_reducible refine (CA10.out _ _ Hr10aAQ.out SOaAQ.out).mono ?_)
        rintro e wr10aAQZ ⟨A3, n3, c3, A4, n4, c4, rfl, hb⟩
        have Hr10aAQZ := Lib.hid (Hr10aAQ.out.trans (hb.mono Hr10aAQ.out.size))
        have YBaAQZ := Lib.hid (YBaAQ.out.below hb)
        have y2 := YBaAQZ.out.c
        have y3 := YBaAQZ.out.fr
        clear hb
        go_wp2_with fail
        refine hK.out _ _ (K10.out _ Hr10aAQZ.out) (fun hHeld => ?_)
        clear hK K
        try simp only [Act.put, setIfInBounds_toArray, set_cons_zero, set_cons_succ]
        refine take_in (i := 6) (v := ?_) (some 75) rfl rfl (by kernel_rfl) (by kernel_rfl) (by kernel_rfl) (fun _ _ _ h => h) (Or.inl ⟨by rfl, ?_⟩) (by assumption) ?_
        rotate_left
        · (intro w hSw; (try dsimp only at hSw); (try go_split_ands); go_simp; try with_reducible rfl)
        try simp only [Act.put, setIfInBounds_toArray, set_cons_zero, set_cons_succ]
        refine take_in (i := 7) (v := ?_) (some 82) rfl rfl (by kernel_rfl) (by kernel_rfl) (by kernel_rfl) (fun _ _ _ h => h) (Or.inl ⟨by rfl, ?_⟩) (by assumption) ?_
        rotate_left
        · (intro w hSw; (try dsimp only at hSw); (try go_split_ands); go_simp; try with_reducible rfl)
        try simp only [Act.put, setIfInBounds_toArray, set_cons_zero, set_cons_succ]
        refine take_in (i := 8) (v := ?_) (some 83) rfl rfl (by kernel_rfl) (by kernel_rfl) (by kernel_rfl) (fun _ _ _ h => h) (Or.inl ⟨by rfl, ?_⟩) (by assumption) ?_
        rotate_left
        · (intro w hSw; (try dsimp only at hSw); (try go_split_ands); go_simp; try with_reducible rfl)
        try simp only [Act.put, setIfInBounds_toArray, set_cons_zero, set_cons_succ]
        refine wpAnyH_ready (rs := [10]) (by kernel_rfl) (by simp) ?_
        refine (AllReadyH.cons rfl (fun K hK => ?_) AllReadyH.nil)
        go_simp
        refine hK.out _ _ (K10.out _ (Hr10aAQZ.out.grown (put2 YBaAQZ.out _ _).2 Hr10aAQZ.out.size fun q hq => by have e := Option.some.inj hq; have h1 : w13.heap.size ≤ q := (by rw [← e]; exact Hr10a.out.size); exact h1)) (fun hHeld => ?_)
        clear hK K
        try simp only [Act.put, setIfInBounds_toArray, set_cons_zero, set_cons_succ]
        clear y2 y3
        refine take_in (i := 11) (v := ?_) (some 16) rfl rfl (by kernel_rfl) (by kernel_rfl) (by kernel_rfl) (fun _ _ _ h => h) (Or.inl ⟨by rfl, ?_⟩) (by assumption) ?_
        rotate_left
        · (intro w hSw; (try dsimp only at hSw); (try go_split_ands); go_simp; try with_reducible rfl)
        try simp only [Act.put, setIfInBounds_toArray, set_cons_zero, set_cons_succ]
        refine wpAnyH_done (by kernel_rfl) ?_ _
        go_wp2_with fail
        go_meet
        exact ⟨rfl, (Hr10aAQZ.out.grown (put2 YBaAQZ.out _ _).2 Hr10aAQZ.out.size fun q hq => by have e := Option.some.inj hq; have h1 : w13.heap.size ≤ q := (by rw [← e]; exact Hr10a.out.size); exact h1)⟩
    · go_simp
      refine hK.out _ _ (K10.out _ ((show Below w13.heap.size w13 w13.drew from (Below.refl _ _).drew).alloc (show Below w13.heap.size w13 w13.drew from (Below.refl _ _).drew).size _)) (fun hHeld => ?_)
      clear hK K
      try simp only [Act.put, setIfInBounds_toArray, set_cons_zero, set_cons_succ]
      obtain ⟨wr10A, hWr10⟩ : ∃ W, (w13.alloc (.cells #[.slice none 0 0, .slice none 0 0] 76)).drew = W := ⟨_, rfl⟩
      have Hr10A := Lib.hid (show Below w13.heap.size w13 wr10A by rw [← hWr10]; exact ((Below.refl _ _).alloc (Nat.le_refl _) _).drew)
      have YBA := Lib.hid (show Bx wr10A w13.heap.size #[.slice none 0 0, .slice none 0 0] by rw [← hWr10]; exact (Bx.new w13 _ _).below (Below.refl _ _).drew)
      try rw [hWr10] at hHeld
      try rw [hWr10]
      clear hWr10
      refine wpAnyH_ready (rs := [2]) (by kernel_rfl) (by simp) ?_
      refine (AllReadyH.cons rfl (fun K hK => ?_) AllReadyH.nil)
      go_simp
      (with_reducible refine (CP.out _ _ _).mono ?_)
      rintro e wr10Aa ⟨rfl, hb⟩
      have Hr10Aa := Lib.hid (Hr10A.out.trans (hb.mono Hr10A.out.size))
      have YBAa := Lib.hid (YBA.out.below hb)
      clear hb
      go_wp2_with fail
      refine hK.out _ _ (K10.out _ Hr10Aa.out) (fun hHeld => ?_)
      clear hK K
      try simp only [Act.put, setIfInBounds_toArray, set_cons_zero, set_cons_succ]
      refine take_in (i := 3) (v := ?_) (some 79) rfl rfl (by kernel_rfl) (by kernel_rfl) (by kernel_rfl) (fun _ _ _ h => h) (Or.inl ⟨by rfl, ?_⟩) (by assumption) ?_
      rotate_left
      · (intro w hSw; (try dsimp only at hSw); (try go_split_ands); go_simp; try with_reducible rfl)
      try simp only [Act.put, setIfInBounds_toArray, set_cons_zero, set_cons_succ]
      refine wpAnyH_ready (rs := [4]) (by kernel_rfl) (by simp) ?_
      refine (AllReadyH.cons rfl (fun K hK => ?_) AllReadyH.nil)
      go_simp
      refine hK.out _ _ (K10.out _ (Hr10Aa.out.alloc Hr10Aa.out.size _)) (fun hHeld => ?_)
      clear hK K
      try simp only [Act.put, setIfInBounds_toArray, set_cons_zero, set_cons_succ]
      obtain ⟨wr10AaQ, hWr10⟩ : ∃ W, wr10Aa.alloc (.cells #[.int .i64 4, .bool false, .int .u64 1, .string ⟨#[]⟩, .int .u64 0, .int .u64 0, .string ⟨#[]⟩, .int .i64 0, .bool false, .int .i64 0, .float .f64 0, .string ⟨#[]⟩, .int .u64 4, .int .u64 6, .int .i64 4, .bool true, .int .u64 1, .string ⟨#[]⟩, .int .u64 0, .int .u64 0, .string ⟨#[]⟩, .int .i64 0, .bool false, .int .i64 0, .float .f64 0, .string ⟨#[]⟩, .int .u64 4, .int .u64 1099511627776] 35) = W := ⟨_, rfl⟩
      have Hr10AaQ := Lib.hid (show Below w13.heap.size w13 wr10AaQ by rw [← hWr10]; exact Hr10Aa.out.alloc Hr10Aa.out.size _)
      have hbA : Below wr10Aa.heap.size wr10Aa wr10AaQ := by rw [← hWr10]; exact (Below.refl _ _).alloc (Nat.le_refl _) _
      have YBAaQ := Lib.hid (YBAa.out.below hbA)
      clear hbA
      have SOAaQ := Lib.hid (show Co.SO wr10AaQ (.slice (some ⟨wr10Aa.heap.size, 0, none⟩) 2 2) [drO false 6, drO true 1099511627776] by rw [← hWr10]; exact so_new wr10Aa [drO false 6, drO true 1099511627776] #[.int .i64 4, .bool false, .int .u64 1, .string ⟨#[]⟩, .int .u64 0, .int .u64 0, .string ⟨#[]⟩, .int .i64 0, .bool false, .int .i64 0, .float .f64 0, .string ⟨#[]⟩, .int .u64 4, .int .u64 6, .int .i64 4, .bool true, .int .u64 1, .string ⟨#[]⟩, .int .u64 0, .int .u64 0, .string ⟨#[]⟩, .int .i64 0, .bool false, .int .i64 0, .float .f64 0, .string ⟨#[]⟩, .int .u64 4, .int .u64 1099511627776] rfl (by simp))
      try rw [hWr10] at hHeld
      try rw [hWr10]
      clear hWr10
      refine wpAnyH_ready (rs := [5]) (by kernel_rfl) (by simp) ?_
      refine (AllReadyH.cons rfl (fun K hK => ?_) AllReadyH.nil)
      go_simp
      (with_reducible refine (CA10.out _ _ Hr10AaQ.out SOAaQ.out).mono ?_)
      rintro e wr10AaQZ ⟨A3, n3, c3, A4, n4, c4, rfl, hb⟩
      have Hr10AaQZ := Lib.hid (Hr10AaQ.out.trans (hb.mono Hr10AaQ.out.size))
      have YBAaQZ := Lib.hid (YBAaQ.out.below hb)
      have y2 := YBAaQZ.out.c
      have y3 := YBAaQZ.out.fr
      clear hb
      go_wp2_with fail
      refine hK.out _ _ (K10.out _ Hr10AaQZ.out) (fun hHeld => ?_)
      clear hK K
      try simp only [Act.put, setIfInBounds_toArray, set_cons_zero, set_cons_succ]
      refine take_in (i := 6) (v := ?_) (some 75) rfl rfl (by kernel_rfl) (by kernel_rfl) (by kernel_rfl) (fun _ _ _ h => h) (Or.inl ⟨by rfl, ?_⟩) (by assumption) ?_
      rotate_left
      · (intro w hSw; (try dsimp only at hSw); (try go_split_ands); go_simp; try with_reducible rfl)
      try simp only [Act.put, setIfInBounds_toArray, set_cons_zero, set_cons_succ]
      refine take_in (i := 7) (v := ?_) (some 82) rfl rfl (by kernel_rfl) (by kernel_rfl) (by kernel_rfl) (fun _ _ _ h => h) (Or.inl ⟨by rfl, ?_⟩) (by assumption) ?_
      rotate_left
      · (intro w hSw; (try dsimp only at hSw); (try go_split_ands); go_simp; try with_reducible rfl)
      try simp only [Act.put, setIfInBounds_toArray, set_cons_zero, set_cons_succ]
      refine take_in (i := 8) (v := ?_) (some 83) rfl rfl (by kernel_rfl) (by kernel_rfl) (by kernel_rfl) (fun _ _ _ h => h) (Or.inl ⟨by rfl, ?_⟩) (by assumption) ?_
      rotate_left
      · (intro w hSw; (try dsimp only at hSw); (try go_split_ands); go_simp; try with_reducible rfl)
      try simp only [Act.put, setIfInBounds_toArray, set_cons_zero, set_cons_succ]
      refine wpAnyH_ready (rs := [10]) (by kernel_rfl) (by simp) ?_
      refine (AllReadyH.cons rfl (fun K hK => ?_) AllReadyH.nil)
      go_simp
      refine hK.out _ _ (K10.out _ (Hr10AaQZ.out.grown (put2 YBAaQZ.out _ _).2 Hr10AaQZ.out.size fun q hq => by have e := Option.some.inj hq; have h1 : w13.heap.size ≤ q := (by rw [← e]; exact Nat.le_refl _); exact h1)) (fun hHeld => ?_)
      clear hK K
      try simp only [Act.put, setIfInBounds_toArray, set_cons_zero, set_cons_succ]
      clear y2 y3
      refine take_in (i := 11) (v := ?_) (some 16) rfl rfl (by kernel_rfl) (by kernel_rfl) (by kernel_rfl) (fun _ _ _ h => h) (Or.inl ⟨by rfl, ?_⟩) (by assumption) ?_
      rotate_left
      · (intro w hSw; (try dsimp only at hSw); (try go_split_ands); go_simp; try with_reducible rfl)
      try simp only [Act.put, setIfInBounds_toArray, set_cons_zero, set_cons_succ]
      refine wpAnyH_done (by kernel_rfl) ?_ _
      go_wp2_with fail
      go_meet
      exact ⟨rfl, (Hr10AaQZ.out.grown (put2 YBAaQZ.out _ _).2 Hr10AaQZ.out.size fun q hq => by have e := Option.some.inj hq; have h1 : w13.heap.size ≤ q := (by rw [← e]; exact Nat.le_refl _); exact h1)⟩
  obtain ⟨rfl, hbc⟩ := hcut
  have K14 := Lib.hid hbc
  obtain ⟨w14, rfl⟩ : ∃ x : World, x = wc := ⟨_, rfl⟩
  clear hbc
  have B14 := Lib.hid (B13.out.trans (K14.out.mono B13.out.size))
  go_wp2_with fail
  go_ret
  exact ⟨rfl, B14.out⟩
end
end Go.Proofs.YtmolpogehgeebaaGreat


