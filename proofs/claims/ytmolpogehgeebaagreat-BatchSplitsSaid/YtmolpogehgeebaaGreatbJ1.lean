/- Worlds that only grew; comparing periods; slices of periods, those that came in and those that a call builds. -/
/- Meet, Hull, Compare, and the document's own. -/
import Derived.Test.YtmolpogehgeebaaGreatbP1
import Derived.Test.YtmolpogehgeebaaGreatbI2
import Derived.Sort.Grow
namespace Go.Proofs.YtmolpogehgeebaaGreat.Se
open Go.RowKit Go.Sort
/-- Memory as it was, draws and blocks behind it. -/
def Grew (w w' : World) : Prop := ∃ (q : Nat) (os : Array Obj), w' = grow (w.drewN q) os
theorem Grew.refl (w : World) : Grew w w := ⟨0, #[], by rw [grow_empty]; rfl⟩
theorem Grew.trans {a b c : World} (h : Grew a b) (k : Grew b c) : Grew a c := by
  obtain ⟨q, os, rfl⟩ := h
  obtain ⟨q', os', rfl⟩ := k
  exact ⟨q + q', os ++ os', by show grow (grow ((a.drewN q).drewN q') os) os' = _; rw [grow_grow, World.drewN_drewN]⟩
theorem Grew.alloc {a b : World} (h : Grew a b) (o : Obj) : Grew a (b.alloc o) := h.trans ⟨0, #[o], by rw [alloc_eq_grow]; rfl⟩
theorem Grew.drew {a b : World} (h : Grew a b) : Grew a b.drew := h.trans ⟨1, #[], by rw [grow_empty]; rfl⟩
theorem Grew.below {a b : World} (h : Grew a b) : Below a.heap.size a b := by
  obtain ⟨q, os, rfl⟩ := h
  refine ⟨rfl, rfl, rfl, by simp [grow, World.drewN], fun k hk => ?_⟩
  simp [grow, World.drewN, Array.getElem?_append, hk]
def cmpI (a b : Int) : Int := if a < b then -1 else if b < a then 1 else 0
set_option maxHeartbeats 1000000 in
theorem cmpU_any (a b : Int) (w : World) :
    Calls Tryz.prog 266 #[.int .u64 a, .int .u64 b] w fun e w' => e = .returned (.int .i64 (cmpI a b)) ∧ w = w' := by
  have hnn : ∀ z : Int, (z != z) = false := fun z => by simp
  rcases Int.lt_trichotomy (a : Int) (b : Int) with h | h | h
  · have t1 : decide (a < b) = true := by simp; omega
    have HE := Lib.hid (show cmpI a b = -1 from if_pos h)
    clear h
    go_enter Tryz.func266, Tryz.ntmps266
    go_wp2
    go_ret
    exact ⟨by rw [HE.out]; rfl, rfl⟩
  · have t1 : decide (a < b) = false := by simp; omega
    have t2 : decide (b < a) = false := by simp; omega
    have HE := Lib.hid (show cmpI a b = 0 from (if_neg (by omega)).trans (if_neg (by omega)))
    clear h
    go_enter Tryz.func266, Tryz.ntmps266
    go_wp2
    go_ret
    exact ⟨by rw [HE.out]; rfl, rfl⟩
  · have t1 : decide (a < b) = false := by simp; omega
    have t2 : decide (b < a) = true := by simp; omega
    have HE := Lib.hid (show cmpI a b = 1 from (if_neg (by omega)).trans (if_pos h))
    clear h
    go_enter Tryz.func266, Tryz.ntmps266
    go_wp2
    go_ret
    exact ⟨by rw [HE.out]; rfl, rfl⟩
/-- The first that is not nought. -/
def orI (x y : Int) : Int := if x = 0 then y else x
set_option maxRecDepth 100000 in
set_option maxHeartbeats 1000000 in
theorem Or_two (x y : Int) (g : Nat) (w : World) (h0 : w.cell? ⟨g, 0, none⟩ = some (.int .i64 x)) (h1 : w.cell? ⟨g, 1, none⟩ = some (.int .i64 y)) :
    Calls Tryz.prog 265 #[.slice (some ⟨g, 0, none⟩) 2 2] w fun e w' => e = .returned (.int .i64 (orI x y)) ∧ w = w' := by
  by_cases hx : x = 0
  · subst hx
    rw [show orI 0 y = y from if_pos rfl]
    by_cases hy : y = 0
    · subst hy
      go_enter Tryz.func265, Tryz.ntmps265
      go_wp2
      go_rounds 3
      go_ret
      exact ⟨rfl, rfl⟩
    · have hy' : (y != 0) = true := by simpa using hy
      clear hy
      go_enter Tryz.func265, Tryz.ntmps265
      go_wp2
      go_rounds 2
      go_ret
      exact ⟨rfl, rfl⟩
  · rw [show orI x y = x from if_neg hx]
    have hx' : (x != 0) = true := by simpa using hx
    clear hx
    go_enter Tryz.func265, Tryz.ntmps265
    go_wp2
    go_rounds 1
    go_ret
    exact ⟨rfl, rfl⟩
/-- Compare. -/
def cmpP (a b c d : Int) : Int := orI (cmpI a c) (cmpI b d)
set_option maxRecDepth 100000 in
set_option maxHeartbeats 1000000 in
theorem Compare_grew (a b c d : Int) (w : World) :
    Calls Tryz.prog 234 #[.agg #[.int .u64 a, .int .u64 b], .agg #[.int .u64 c, .int .u64 d]] w fun e w' => e = .returned (.int .i64 (cmpP a b c d)) ∧ Grew w w' := by
  have h1 := cmpU_any a c
  have h2 := cmpU_any b d
  unfold cmpP
  generalize cmpI a c = x at *
  generalize cmpI b d = y at *
  have H1 := Lib.hid h1
  have H2 := Lib.hid h2
  clear h1 h2
  have H3 := Lib.hid (Or_two x y)
  generalize orI x y = z at *
  obtain ⟨W, hW⟩ : ∃ W, (w.alloc (.cells #[.int .u64 a, .int .u64 b] 33)).alloc (.cells #[.int .u64 c, .int .u64 d] 33) = W := ⟨_, rfl⟩
  have b0 : Box W w.heap.size a b := by rw [← hW]; exact Box.alloc (box_at _ a b _ _ rfl) _
  have b1 : Box W (w.heap.size + 1) c d := by rw [← hW]; exact box_at _ c d _ _ (by simp)
  have K0 := Lib.hid (fun w' (hg : Grew W w') => (⟨hg, (b0.below hg.below).c0, (b0.below hg.below).c1, (b1.below hg.below).c0, (b1.below hg.below).c1⟩ : Grew W w' ∧ w'.cell? ⟨w.heap.size, 0, none⟩ = some (.int .u64 a) ∧ w'.cell? ⟨w.heap.size, 1, none⟩ = some (.int .u64 b) ∧ w'.cell? ⟨w.heap.size + 1, 0, none⟩ = some (.int .u64 c) ∧ w'.cell? ⟨w.heap.size + 1, 1, none⟩ = some (.int .u64 d)))
  have HB := Lib.hid (show Grew w W by rw [← hW]; exact ((Grew.refl _).alloc _).alloc _)
  clear b0 b1
  go_enter Tryz.func234, Tryz.ntmps234
  go_upto_region 1 with fail
  try rw [hW]
  clear hW
  go_region_held3 (fun w' => Grew W w' ∧ w'.cell? ⟨w.heap.size, 0, none⟩ = some (.int .u64 a) ∧ w'.cell? ⟨w.heap.size, 1, none⟩ = some (.int .u64 b) ∧ w'.cell? ⟨w.heap.size + 1, 0, none⟩ = some (.int .u64 c) ∧ w'.cell? ⟨w.heap.size + 1, 1, none⟩ = some (.int .u64 d)) (first | exact K0.out _ (Grew.refl _).drew | exact K0.out _ ((Grew.refl _).alloc _).drew | fail) (first
    | (go_at_call 266; (first
      | ((with_reducible refine (H1.out _).mono ?_); rintro e w1 ⟨rfl, rfl⟩)
      | ((with_reducible refine (H2.out _).mono ?_); rintro e w1 ⟨rfl, rfl⟩)
      | fail))
    | (go_at_call 265; ((with_reducible refine (H3.out _ _ ?_ ?_).mono ?_); go_simp; go_simp; rintro e w1 ⟨rfl, rfl⟩))
    | fail)
  all_goals (go_wp2; go_ret; exact ⟨rfl, HB.out.trans ((Grew.refl _).alloc _).drew⟩)
def cellsP (L : List (Int × Int)) : List Value := L.flatMap fun p => [.int .u64 p.1, .int .u64 p.2]
theorem cellsP_length (L : List (Int × Int)) : (cellsP L).length = L.length * 2 := by
  induction L with
  | nil => rfl
  | cons x L ih => simp only [cellsP, List.flatMap_cons, List.length_append, List.length_cons, List.length_nil] at *; omega
theorem cellsP_append (A B : List (Int × Int)) : cellsP (A ++ B) = cellsP A ++ cellsP B := by simp [cellsP]
theorem cellsP_get (L : List (Int × Int)) (i : Nat) (h : i < L.length) : (cellsP L)[i * 2]? = some (.int .u64 (L[i].1)) ∧ (cellsP L)[i * 2 + 1]? = some (.int .u64 (L[i].2)) := by
  induction L generalizing i with
  | nil => simp at h
  | cons x L ih =>
    cases i with
    | zero => simp [cellsP]
    | succ i =>
      have := ih i (by simpa using h)
      have e : cellsP (x :: L) = .int .u64 x.1 :: .int .u64 x.2 :: cellsP L := by simp [cellsP]
      rw [e, show (i + 1) * 2 = i * 2 + 1 + 1 by omega]
      simpa using this
/-- A slice that the call owns holds these periods. -/
def OwnP (base : Nat) (w : World) (v : Value) (L : List (Int × Int)) : Prop := w.ownsRow base 33 2 v L.length (cellsP L)
theorem OwnP.nil (base : Nat) (w : World) : OwnP base w (.slice none 0 0) [] := ⟨rfl, .inl ⟨rfl, rfl⟩⟩
theorem OwnP.alloc {base : Nat} {w : World} {v : Value} {L : List (Int × Int)} (h : OwnP base w v L) (o : Obj) : OwnP base (w.alloc o) v L := World.ownsRow.alloc h o
theorem OwnP.below {base : Nat} {w w' : World} {v : Value} {L : List (Int × Int)} (h : OwnP base w v L) (hb : Below w.heap.size w w') : OwnP base w' v L := by
  refine ⟨h.1, ?_⟩
  rcases h.2 with h0 | ⟨g, cap, cur, e, hg, hc, h1, h2, h3, h4⟩
  · exact .inl h0
  · exact .inr ⟨g, cap, cur, e, hg, (hb.block g (Array.getElem?_eq_some_iff.1 hc).1).trans hc, h1, h2, h3, h4⟩
/-- Where the periods of a slice lie. -/
def PAt (w : World) (A : Option Addr) (L : List (Int × Int)) : Prop := 0 < L.length → ∃ b off, A = some ⟨b, off, none⟩ ∧ b < w.heap.size ∧ ∀ i (h : i < L.length), w.cell? ⟨b, off + i * 2, none⟩ = some (.int .u64 (L[i].1)) ∧ w.cell? ⟨b, off + i * 2 + 1, none⟩ = some (.int .u64 (L[i].2))
theorem PAt.below {w w' : World} {A : Option Addr} {L : List (Int × Int)} (h : PAt w A L) (hb : Below w.heap.size w w') : PAt w' A L := fun h0 => by
  obtain ⟨g, off, e, hl, hc⟩ := h h0
  have hs := hb.size
  exact ⟨g, off, e, by omega, fun i hi => ⟨(hb.cell (p := ⟨g, off + i * 2, none⟩) hl).trans (hc i hi).1, (hb.cell (p := ⟨g, off + i * 2 + 1, none⟩) hl).trans (hc i hi).2⟩⟩
theorem PAt.nil (w : World) (A : Option Addr) : PAt w A [] := fun h => absurd h (Nat.lt_irrefl 0)
theorem PAt.take {w : World} {A : Option Addr} {L : List (Int × Int)} (h : PAt w A L) (n : Nat) : PAt w A (L.take n) := fun h0 => by
  rw [List.length_take] at h0
  obtain ⟨b, off, e, hl, hc⟩ := h (by omega)
  exact ⟨b, off, e, hl, fun i hi => by
    rw [List.length_take] at hi
    rw [List.getElem_take]
    exact hc i (by omega)⟩
/-- A value that is a slice of these periods. -/
def IsP (w : World) (v : Value) (L : List (Int × Int)) : Prop := ∃ A c, v = .slice A L.length c ∧ PAt w A L
theorem IsP.below {w w' : World} {v : Value} {L : List (Int × Int)} (h : IsP w v L) (hb : Below w.heap.size w w') : IsP w' v L := by
  obtain ⟨A, c, e, k⟩ := h
  exact ⟨A, c, e, k.below hb⟩
theorem IsP.nil (w : World) : IsP w (.slice none 0 0) [] := ⟨none, 0, rfl, PAt.nil _ _⟩
theorem OwnP.at {base : Nat} {w : World} {v : Value} {L : List (Int × Int)} (h : OwnP base w v L) : IsP w v L := by
  rcases h.2 with ⟨rfl, h0⟩ | ⟨g, cap, cur, rfl, hg, hb, h1, h2, h3, h4⟩
  · exact ⟨none, 0, by rw [h0], fun e => absurd e (by omega)⟩
  · refine ⟨_, _, rfl, fun _ => ⟨g, 0, rfl, (Array.getElem?_eq_some_iff.1 hb).1, fun i hi => ?_⟩⟩
    have key : ∀ k, k < L.length * 2 → w.cell? ⟨g, k, none⟩ = (cellsP L)[k]? := fun k hk => by
      rw [← h4, List.getElem?_take_of_lt hk, Array.getElem?_toList]
      simp [World.cell?, hb]
    rw [Nat.zero_add, key _ (by omega), key _ (by omega)]
    exact cellsP_get L i hi
theorem infoP : (Tryz.prog.info? 33).map (fun i => (i.zero, i.size, i.bytes)) = some (some (.agg #[.int .u64 0, .int .u64 0]), 2, 16) := by kernel_rfl
theorem infoU : (Tryz.prog.info? 22).map (fun i => (i.zero, i.size, i.bytes)) = some (some (.int .u64 0), 1, 8) := by kernel_rfl
theorem add_plain (b off j : Nat) : (⟨b, off, none⟩ : Addr).add j = ⟨b, off + j, none⟩ := by unfold Addr.add; split <;> simp_all
/-- append of one period onto what the call owns. -/
theorem wpList_appP {ops : Array Oper} {rest : List Oper} {o : Oper} {a : Act} {w : World} {Q : Exit → Act → World → Prop} (hgd : o.guard = none) (s x : Operand)
    (ho : o.op = .call { callee := .builtin .append, args := #[s, x], argTypes := #[23, 23] })
    (base : Nat) (v : Value) (L : List (Int × Int)) (hs : a.eval s = v) (hown : OwnP base w v L) (g : Nat) (p q : Int) (hx : a.eval x = .slice (some ⟨g, 0, none⟩) 1 1)
    (hp : w.cell? ⟨g, 0, none⟩ = some (.int .u64 p)) (hq : w.cell? ⟨g, 1, none⟩ = some (.int .u64 q)) (hlen : L.length ≤ 1000000000000) (hbase : base ≤ w.heap.size)
    (h : ∀ v' w', OwnP base w' v' (L ++ [(p, q)]) → Below base w w' → v'.ownBlock ≠ none → wpList Tryz.prog ops Q rest (a.put o.dst v') w') :
    wpList Tryz.prog ops Q (o :: rest) a w := by
  obtain ⟨i0, hi, hz0, hz1, hz2⟩ := info_parts infoP
  refine wpList_append_own_at _ hgd s x 23 ho base 33 i0 _ 2 16 Tryz.underlying23 hi hz0 hz1 hz2 rfl (by omega) v _ _ hs hown ⟨g, 0, none⟩ 1 1 [.int .u64 p, .int .u64 q] hx rfl ?_ ?_ (by unfold maxLen; omega) (by omega) hbase ?_
  · intro j u hj
    rw [add_plain, Nat.zero_add]
    match j, hj with
    | 0, hj => simp at hj; subst hj; exact hp
    | 1, hj => simp at hj; subst hj; exact hq
  · intro u hu
    simp at hu
    rcases hu with rfl | rfl <;> rfl
  · intro v' w' h1 h2 h3 _
    refine h v' w' ?_ ((Below.refl _ _).grown h2 hbase fun k hk => (World.ownsRow.lt hown k hk).1) ?_
    · unfold OwnP
      rw [cellsP_append, List.length_append]
      exact h1
    · intro e
      rcases h1.2 with ⟨e2, e3⟩ | ⟨g', cap, cur, rfl, _⟩
      · omega
      · cases e
end Go.Proofs.YtmolpogehgeebaaGreat.Se


namespace Go.Proofs.YtmolpogehgeebaaGreat.Se.Pe
open Go.RowKit
def mx (a c : Int) : Int := if a < c then c else a
def mn (b d : Int) : Int := if d < b then d else b
/-- Meet: whether there are instants; from, to. -/
def meetB (a b c d : Int) : Bool := mayB a b && mayB c d && mayB (mx a c) (mn b d)
def meetF (a b c d : Int) : Int := if meetB a b c d = true then mx a c else 0
def meetT (a b c d : Int) : Int := if meetB a b c d = true then mn b d else 0
theorem meet_no {a b c d : Int} (h : meetB a b c d = false) : meetF a b c d = 0 ∧ meetT a b c d = 0 := by simp [meetF, meetT, h]
theorem meet_yes {a b c d : Int} (h : meetB a b c d = true) : meetF a b c d = mx a c ∧ meetT a b c d = mn b d := by simp [meetF, meetT, h]
theorem mx_yes {a c : Int} (h : a < c) : mx a c = c := if_pos h
theorem mx_no {a c : Int} (h : ¬ a < c) : mx a c = a := if_neg h
theorem mn_yes {b d : Int} (h : d < b) : mn b d = d := if_pos h
theorem mn_no {b d : Int} (h : ¬ d < b) : mn b d = b := if_neg h
theorem on_at {w w' : World} (hb : Below w.heap.size w w') (b : Nat) (h : b < w.heap.size) : (∀ o, w'.cell? ⟨b, o, none⟩ = w.cell? ⟨b, o, none⟩) ∧ (∀ o, w'.frozen? ⟨b, o, none⟩ = w.frozen? ⟨b, o, none⟩) :=
  ⟨fun _ => hb.cell (p := ⟨b, _, none⟩) h, fun _ => hb.frozen (p := ⟨b, _, none⟩) h⟩
set_option maxRecDepth 100000 in
set_option maxHeartbeats 2000000 in
theorem Meet_any (a b c d : Int) (w : World) : Calls Tryz.prog 246 #[.agg #[.int .u64 a, .int .u64 b], .agg #[.int .u64 c, .int .u64 d]] w fun e w' => e = .returned (.tuple #[.agg #[.int .u64 (meetF a b c d), .int .u64 (meetT a b c d)], .bool (meetB a b c d)]) ∧ Below w.heap.size w w' := by
  have hM := May_any a b
  have hN := May_any c d
  cases h1 : mayB a b
  · have hm : meetB a b c d = false := by simp [meetB, h1]
    obtain ⟨e1, e2⟩ := meet_no hm
    rw [hm, e1, e2]
    rw [h1] at hM
    have HM := Lib.hid hM
    clear hM hN h1 hm e1 e2
    by_cases x1 : a < c <;> by_cases x2 : d < b
    all_goals as_aux_lemma =>
      go_enter Tryz.func246, Tryz.ntmps246
      go_wp2_with fail
      refine (HM.out _).mono ?_
      rintro e w1 ⟨rfl, hb1⟩
      have hz1 := hb1.size
      simp at hz1
      obtain ⟨p10, q10⟩ := on_at hb1 (w.heap.size) (by simp <;> omega)
      obtain ⟨p11, q11⟩ := on_at hb1 (w.heap.size + 1) (by simp <;> omega)
      obtain ⟨p12, q12⟩ := on_at hb1 (w.heap.size + 1 + 1) (by simp <;> omega)
      obtain ⟨p13, q13⟩ := on_at hb1 (w.heap.size + 1 + 1 + 1) (by simp <;> omega)
      go_wp2
      refine bodyPost_ret (v := .tuple #[.agg #[.int .u64 0, .int .u64 0], .bool false]) (by simp [results, Tryz.results246, go_sem, p12]) rfl ⟨rfl, ?_⟩
      exact ((((((Below.refl _ _).alloc (Nat.le_refl _) _).alloc (by simp) _).alloc (by simp <;> omega) _).alloc (by simp <;> omega) _).trans (hb1.mono (by simp <;> omega))).setCell (by simp <;> omega) _ |>.setCell (by simp <;> omega) _
  rw [h1] at hM
  have HM := Lib.hid hM
  clear hM
  cases h2 : mayB c d
  · have hm : meetB a b c d = false := by simp [meetB, h2]
    obtain ⟨e1, e2⟩ := meet_no hm
    rw [hm, e1, e2]
    rw [h2] at hN
    have HN := Lib.hid hN
    clear hN h1 h2 hm e1 e2
    by_cases x1 : a < c <;> by_cases x2 : d < b
    all_goals as_aux_lemma =>
      go_enter Tryz.func246, Tryz.ntmps246
      go_wp2_with fail
      refine (HM.out _).mono ?_
      rintro e w1 ⟨rfl, hb1⟩
      have hz1 := hb1.size
      simp at hz1
      obtain ⟨p10, q10⟩ := on_at hb1 (w.heap.size) (by simp <;> omega)
      obtain ⟨p11, q11⟩ := on_at hb1 (w.heap.size + 1) (by simp <;> omega)
      obtain ⟨p12, q12⟩ := on_at hb1 (w.heap.size + 1 + 1) (by simp <;> omega)
      obtain ⟨p13, q13⟩ := on_at hb1 (w.heap.size + 1 + 1 + 1) (by simp <;> omega)
      go_wp2_with fail
      refine (HN.out _).mono ?_
      rintro e w2 ⟨rfl, hb2⟩
      have hz2 := hb2.size
      obtain ⟨p20, q20⟩ := on_at hb2 (w.heap.size) (by omega)
      obtain ⟨p21, q21⟩ := on_at hb2 (w.heap.size + 1) (by omega)
      obtain ⟨p22, q22⟩ := on_at hb2 (w.heap.size + 1 + 1) (by omega)
      obtain ⟨p23, q23⟩ := on_at hb2 (w.heap.size + 1 + 1 + 1) (by omega)
      go_wp2
      refine bodyPost_ret (v := .tuple #[.agg #[.int .u64 0, .int .u64 0], .bool false]) (by simp [results, Tryz.results246, go_sem, p12, p22]) rfl ⟨rfl, ?_⟩
      exact (((((((Below.refl _ _).alloc (Nat.le_refl _) _).alloc (by simp) _).alloc (by simp <;> omega) _).alloc (by simp <;> omega) _).trans (hb1.mono (by simp <;> omega))).trans (hb2.mono (by omega))).setCell (by simp <;> omega) _ |>.setCell (by simp <;> omega) _
  rw [h2] at hN
  have HN := Lib.hid hN
  clear hN
  have hB : meetB a b c d = mayB (mx a c) (mn b d) := by simp [meetB, h1, h2]
  have hO := May_any (mx a c) (mn b d)
  cases h3 : mayB (mx a c) (mn b d)
  · rw [h3] at hB hO
    obtain ⟨e1, e2⟩ := meet_no hB
    rw [hB, e1, e2]
    clear h1 h2 h3 hB e1 e2
    by_cases x1 : a < c <;> by_cases x2 : d < b
    all_goals as_aux_lemma =>
      (first | rw [mx_yes x1] at hO | rw [mx_no x1] at hO)
      (first | rw [mn_yes x2] at hO | rw [mn_no x2] at hO)
      have HO := Lib.hid hO
      clear hO
      go_enter Tryz.func246, Tryz.ntmps246
      go_wp2_with fail
      refine (HM.out _).mono ?_
      rintro e w1 ⟨rfl, hb1⟩
      have hz1 := hb1.size
      simp at hz1
      obtain ⟨p10, q10⟩ := on_at hb1 (w.heap.size) (by simp <;> omega)
      obtain ⟨p11, q11⟩ := on_at hb1 (w.heap.size + 1) (by simp <;> omega)
      obtain ⟨p12, q12⟩ := on_at hb1 (w.heap.size + 1 + 1) (by simp <;> omega)
      obtain ⟨p13, q13⟩ := on_at hb1 (w.heap.size + 1 + 1 + 1) (by simp <;> omega)
      go_wp2_with fail
      refine (HN.out _).mono ?_
      rintro e w2 ⟨rfl, hb2⟩
      have hz2 := hb2.size
      obtain ⟨p20, q20⟩ := on_at hb2 (w.heap.size) (by omega)
      obtain ⟨p21, q21⟩ := on_at hb2 (w.heap.size + 1) (by omega)
      obtain ⟨p22, q22⟩ := on_at hb2 (w.heap.size + 1 + 1) (by omega)
      obtain ⟨p23, q23⟩ := on_at hb2 (w.heap.size + 1 + 1 + 1) (by omega)
      go_wp2_with fail
      refine (HO.out _).mono ?_
      rintro e w3 ⟨rfl, hb3⟩
      have hz3 := hb3.size
      obtain ⟨p30, q30⟩ := on_at hb3 (w.heap.size) (by omega)
      obtain ⟨p31, q31⟩ := on_at hb3 (w.heap.size + 1) (by omega)
      obtain ⟨p32, q32⟩ := on_at hb3 (w.heap.size + 1 + 1) (by omega)
      obtain ⟨p33, q33⟩ := on_at hb3 (w.heap.size + 1 + 1 + 1) (by omega)
      go_wp2
      refine bodyPost_ret (v := .tuple #[.agg #[.int .u64 0, .int .u64 0], .bool false]) (by simp [results, Tryz.results246, go_sem, p12, p22, p32]) rfl ⟨rfl, ?_⟩
      exact ((((((((Below.refl _ _).alloc (Nat.le_refl _) _).alloc (by simp) _).alloc (by simp <;> omega) _).alloc (by simp <;> omega) _).trans (hb1.mono (by simp <;> omega))).trans (hb2.mono (by omega))).trans (hb3.mono (by omega))).setCell (by simp <;> omega) _ |>.setCell (by simp <;> omega) _
  · rw [h3] at hB hO
    obtain ⟨e1, e2⟩ := meet_yes hB
    rw [hB, e1, e2]
    clear h1 h2 h3 hB e1 e2
    by_cases x1 : a < c <;> by_cases x2 : d < b
    all_goals as_aux_lemma =>
      (first | rw [mx_yes x1] at hO ⊢ | rw [mx_no x1] at hO ⊢)
      (first | rw [mn_yes x2] at hO ⊢ | rw [mn_no x2] at hO ⊢)
      have HO := Lib.hid hO
      clear hO
      go_enter Tryz.func246, Tryz.ntmps246
      go_wp2_with fail
      refine (HM.out _).mono ?_
      rintro e w1 ⟨rfl, hb1⟩
      have hz1 := hb1.size
      simp at hz1
      obtain ⟨p10, q10⟩ := on_at hb1 (w.heap.size) (by simp <;> omega)
      obtain ⟨p11, q11⟩ := on_at hb1 (w.heap.size + 1) (by simp <;> omega)
      obtain ⟨p12, q12⟩ := on_at hb1 (w.heap.size + 1 + 1) (by simp <;> omega)
      obtain ⟨p13, q13⟩ := on_at hb1 (w.heap.size + 1 + 1 + 1) (by simp <;> omega)
      go_wp2_with fail
      refine (HN.out _).mono ?_
      rintro e w2 ⟨rfl, hb2⟩
      have hz2 := hb2.size
      obtain ⟨p20, q20⟩ := on_at hb2 (w.heap.size) (by omega)
      obtain ⟨p21, q21⟩ := on_at hb2 (w.heap.size + 1) (by omega)
      obtain ⟨p22, q22⟩ := on_at hb2 (w.heap.size + 1 + 1) (by omega)
      obtain ⟨p23, q23⟩ := on_at hb2 (w.heap.size + 1 + 1 + 1) (by omega)
      go_wp2_with fail
      refine (HO.out _).mono ?_
      rintro e w3 ⟨rfl, hb3⟩
      have hz3 := hb3.size
      obtain ⟨p30, q30⟩ := on_at hb3 (w.heap.size) (by omega)
      obtain ⟨p31, q31⟩ := on_at hb3 (w.heap.size + 1) (by omega)
      obtain ⟨p32, q32⟩ := on_at hb3 (w.heap.size + 1 + 1) (by omega)
      obtain ⟨p33, q33⟩ := on_at hb3 (w.heap.size + 1 + 1 + 1) (by omega)
      go_wp2
      refine bodyPost_ret (v := .tuple #[.agg #[.int .u64 _, .int .u64 _], .bool true]) (by simp [results, Tryz.results246, go_sem, p12, p22, p32]) rfl ⟨rfl, ?_⟩
      exact ((((((((Below.refl _ _).alloc (Nat.le_refl _) _).alloc (by simp) _).alloc (by simp <;> omega) _).alloc (by simp <;> omega) _).trans (hb1.mono (by simp <;> omega))).trans (hb2.mono (by omega))).trans (hb3.mono (by omega))).setCell (by simp <;> omega) _ |>.setCell (by simp <;> omega) _
end Go.Proofs.YtmolpogehgeebaaGreat.Se.Pe


