/- Meet, Hull, Compare, and the document's own. -/
import Derived.Test.YtgmaompjhhomcaaGreatmP1
namespace Go.Proofs.YtgmaompjhhomcaaGreat.Se.Pe
open Go.RowKit
def mx (a c : Int) : Int := if a < c then c else a
def mn (b d : Int) : Int := if d < b then d else b
/-- Meet: whether there are instants; from, to. -/
def meetB (a b c d : Int) : Bool := mayB a b && mayB c d && mayB (mx a c) (mn b d)
def meetF (a b c d : Int) : Int := if meetB a b c d = true then mx a c else 0
def meetT (a b c d : Int) : Int := if meetB a b c d = true then mn b d else 0
theorem meet_no {a b c d : Int} (h : meetB a b c d = false) : meetF a b c d = 0 ∧ meetT a b c d = 0 := by simp [meetF, meetT, h]
theorem meet_yes {a b c d : Int} (h : meetB a b c d = true) : meetF a b c d = mx a c ∧ meetT a b c d = mn b d := by simp [meetF, meetT, h]
theorem mx_yes {a c : Int} (h : a < c) : mx a c = c := if_pos h
theorem mx_no {a c : Int} (h : ¬ a < c) : mx a c = a := if_neg h
theorem mn_yes {b d : Int} (h : d < b) : mn b d = d := if_pos h
theorem mn_no {b d : Int} (h : ¬ d < b) : mn b d = b := if_neg h
theorem on_at {w w' : World} (hb : Below w.heap.size w w') (b : Nat) (h : b < w.heap.size) : (∀ o, w'.cell? ⟨b, o, none⟩ = w.cell? ⟨b, o, none⟩) ∧ (∀ o, w'.frozen? ⟨b, o, none⟩ = w.frozen? ⟨b, o, none⟩) :=
  ⟨fun _ => hb.cell (p := ⟨b, _, none⟩) h, fun _ => hb.frozen (p := ⟨b, _, none⟩) h⟩
set_option maxRecDepth 100000 in
set_option maxHeartbeats 2000000 in
theorem Meet_any (a b c d : Int) (w : World) : Calls Tryz.prog 69 #[.agg #[.int .u64 a, .int .u64 b], .agg #[.int .u64 c, .int .u64 d]] w fun e w' => e = .returned (.tuple #[.agg #[.int .u64 (meetF a b c d), .int .u64 (meetT a b c d)], .bool (meetB a b c d)]) ∧ Below w.heap.size w w' := by
  have hM := May_any a b
  have hN := May_any c d
  cases h1 : mayB a b
  · have hm : meetB a b c d = false := by simp [meetB, h1]
    obtain ⟨e1, e2⟩ := meet_no hm
    rw [hm, e1, e2]
    rw [h1] at hM
    have HM := Lib.hid hM
    clear hM hN h1 hm e1 e2
    by_cases x1 : a < c <;> by_cases x2 : d < b
    all_goals as_aux_lemma =>
      go_enter Tryz.func69, Tryz.ntmps69
      go_wp2_with fail
      refine (HM.out _).mono ?_
      rintro e w1 ⟨rfl, hb1⟩
      have hz1 := hb1.size
      simp at hz1
      obtain ⟨p10, q10⟩ := on_at hb1 (w.heap.size) (by simp <;> omega)
      obtain ⟨p11, q11⟩ := on_at hb1 (w.heap.size + 1) (by simp <;> omega)
      obtain ⟨p12, q12⟩ := on_at hb1 (w.heap.size + 1 + 1) (by simp <;> omega)
      obtain ⟨p13, q13⟩ := on_at hb1 (w.heap.size + 1 + 1 + 1) (by simp <;> omega)
      go_wp2
      refine bodyPost_ret (v := .tuple #[.agg #[.int .u64 0, .int .u64 0], .bool false]) (by simp [results, Tryz.results69, go_sem, p12]) rfl ⟨rfl, ?_⟩
      exact ((((((Below.refl _ _).alloc (Nat.le_refl _) _).alloc (by simp) _).alloc (by simp <;> omega) _).alloc (by simp <;> omega) _).trans (hb1.mono (by simp <;> omega))).setCell (by simp <;> omega) _ |>.setCell (by simp <;> omega) _
  rw [h1] at hM
  have HM := Lib.hid hM
  clear hM
  cases h2 : mayB c d
  · have hm : meetB a b c d = false := by simp [meetB, h2]
    obtain ⟨e1, e2⟩ := meet_no hm
    rw [hm, e1, e2]
    rw [h2] at hN
    have HN := Lib.hid hN
    clear hN h1 h2 hm e1 e2
    by_cases x1 : a < c <;> by_cases x2 : d < b
    all_goals as_aux_lemma =>
      go_enter Tryz.func69, Tryz.ntmps69
      go_wp2_with fail
      refine (HM.out _).mono ?_
      rintro e w1 ⟨rfl, hb1⟩
      have hz1 := hb1.size
      simp at hz1
      obtain ⟨p10, q10⟩ := on_at hb1 (w.heap.size) (by simp <;> omega)
      obtain ⟨p11, q11⟩ := on_at hb1 (w.heap.size + 1) (by simp <;> omega)
      obtain ⟨p12, q12⟩ := on_at hb1 (w.heap.size + 1 + 1) (by simp <;> omega)
      obtain ⟨p13, q13⟩ := on_at hb1 (w.heap.size + 1 + 1 + 1) (by simp <;> omega)
      go_wp2_with fail
      refine (HN.out _).mono ?_
      rintro e w2 ⟨rfl, hb2⟩
      have hz2 := hb2.size
      obtain ⟨p20, q20⟩ := on_at hb2 (w.heap.size) (by omega)
      obtain ⟨p21, q21⟩ := on_at hb2 (w.heap.size + 1) (by omega)
      obtain ⟨p22, q22⟩ := on_at hb2 (w.heap.size + 1 + 1) (by omega)
      obtain ⟨p23, q23⟩ := on_at hb2 (w.heap.size + 1 + 1 + 1) (by omega)
      go_wp2
      refine bodyPost_ret (v := .tuple #[.agg #[.int .u64 0, .int .u64 0], .bool false]) (by simp [results, Tryz.results69, go_sem, p12, p22]) rfl ⟨rfl, ?_⟩
      exact (((((((Below.refl _ _).alloc (Nat.le_refl _) _).alloc (by simp) _).alloc (by simp <;> omega) _).alloc (by simp <;> omega) _).trans (hb1.mono (by simp <;> omega))).trans (hb2.mono (by omega))).setCell (by simp <;> omega) _ |>.setCell (by simp <;> omega) _
  rw [h2] at hN
  have HN := Lib.hid hN
  clear hN
  have hB : meetB a b c d = mayB (mx a c) (mn b d) := by simp [meetB, h1, h2]
  have hO := May_any (mx a c) (mn b d)
  cases h3 : mayB (mx a c) (mn b d)
  · rw [h3] at hB hO
    obtain ⟨e1, e2⟩ := meet_no hB
    rw [hB, e1, e2]
    clear h1 h2 h3 hB e1 e2
    by_cases x1 : a < c <;> by_cases x2 : d < b
    all_goals as_aux_lemma =>
      (first | rw [mx_yes x1] at hO | rw [mx_no x1] at hO)
      (first | rw [mn_yes x2] at hO | rw [mn_no x2] at hO)
      have HO := Lib.hid hO
      clear hO
      go_enter Tryz.func69, Tryz.ntmps69
      go_wp2_with fail
      refine (HM.out _).mono ?_
      rintro e w1 ⟨rfl, hb1⟩
      have hz1 := hb1.size
      simp at hz1
      obtain ⟨p10, q10⟩ := on_at hb1 (w.heap.size) (by simp <;> omega)
      obtain ⟨p11, q11⟩ := on_at hb1 (w.heap.size + 1) (by simp <;> omega)
      obtain ⟨p12, q12⟩ := on_at hb1 (w.heap.size + 1 + 1) (by simp <;> omega)
      obtain ⟨p13, q13⟩ := on_at hb1 (w.heap.size + 1 + 1 + 1) (by simp <;> omega)
      go_wp2_with fail
      refine (HN.out _).mono ?_
      rintro e w2 ⟨rfl, hb2⟩
      have hz2 := hb2.size
      obtain ⟨p20, q20⟩ := on_at hb2 (w.heap.size) (by omega)
      obtain ⟨p21, q21⟩ := on_at hb2 (w.heap.size + 1) (by omega)
      obtain ⟨p22, q22⟩ := on_at hb2 (w.heap.size + 1 + 1) (by omega)
      obtain ⟨p23, q23⟩ := on_at hb2 (w.heap.size + 1 + 1 + 1) (by omega)
      go_wp2_with fail
      refine (HO.out _).mono ?_
      rintro e w3 ⟨rfl, hb3⟩
      have hz3 := hb3.size
      obtain ⟨p30, q30⟩ := on_at hb3 (w.heap.size) (by omega)
      obtain ⟨p31, q31⟩ := on_at hb3 (w.heap.size + 1) (by omega)
      obtain ⟨p32, q32⟩ := on_at hb3 (w.heap.size + 1 + 1) (by omega)
      obtain ⟨p33, q33⟩ := on_at hb3 (w.heap.size + 1 + 1 + 1) (by omega)
      go_wp2
      refine bodyPost_ret (v := .tuple #[.agg #[.int .u64 0, .int .u64 0], .bool false]) (by simp [results, Tryz.results69, go_sem, p12, p22, p32]) rfl ⟨rfl, ?_⟩
      exact ((((((((Below.refl _ _).alloc (Nat.le_refl _) _).alloc (by simp) _).alloc (by simp <;> omega) _).alloc (by simp <;> omega) _).trans (hb1.mono (by simp <;> omega))).trans (hb2.mono (by omega))).trans (hb3.mono (by omega))).setCell (by simp <;> omega) _ |>.setCell (by simp <;> omega) _
  · rw [h3] at hB hO
    obtain ⟨e1, e2⟩ := meet_yes hB
    rw [hB, e1, e2]
    clear h1 h2 h3 hB e1 e2
    by_cases x1 : a < c <;> by_cases x2 : d < b
    all_goals as_aux_lemma =>
      (first | rw [mx_yes x1] at hO ⊢ | rw [mx_no x1] at hO ⊢)
      (first | rw [mn_yes x2] at hO ⊢ | rw [mn_no x2] at hO ⊢)
      have HO := Lib.hid hO
      clear hO
      go_enter Tryz.func69, Tryz.ntmps69
      go_wp2_with fail
      refine (HM.out _).mono ?_
      rintro e w1 ⟨rfl, hb1⟩
      have hz1 := hb1.size
      simp at hz1
      obtain ⟨p10, q10⟩ := on_at hb1 (w.heap.size) (by simp <;> omega)
      obtain ⟨p11, q11⟩ := on_at hb1 (w.heap.size + 1) (by simp <;> omega)
      obtain ⟨p12, q12⟩ := on_at hb1 (w.heap.size + 1 + 1) (by simp <;> omega)
      obtain ⟨p13, q13⟩ := on_at hb1 (w.heap.size + 1 + 1 + 1) (by simp <;> omega)
      go_wp2_with fail
      refine (HN.out _).mono ?_
      rintro e w2 ⟨rfl, hb2⟩
      have hz2 := hb2.size
      obtain ⟨p20, q20⟩ := on_at hb2 (w.heap.size) (by omega)
      obtain ⟨p21, q21⟩ := on_at hb2 (w.heap.size + 1) (by omega)
      obtain ⟨p22, q22⟩ := on_at hb2 (w.heap.size + 1 + 1) (by omega)
      obtain ⟨p23, q23⟩ := on_at hb2 (w.heap.size + 1 + 1 + 1) (by omega)
      go_wp2_with fail
      refine (HO.out _).mono ?_
      rintro e w3 ⟨rfl, hb3⟩
      have hz3 := hb3.size
      obtain ⟨p30, q30⟩ := on_at hb3 (w.heap.size) (by omega)
      obtain ⟨p31, q31⟩ := on_at hb3 (w.heap.size + 1) (by omega)
      obtain ⟨p32, q32⟩ := on_at hb3 (w.heap.size + 1 + 1) (by omega)
      obtain ⟨p33, q33⟩ := on_at hb3 (w.heap.size + 1 + 1 + 1) (by omega)
      go_wp2
      refine bodyPost_ret (v := .tuple #[.agg #[.int .u64 _, .int .u64 _], .bool true]) (by simp [results, Tryz.results69, go_sem, p12, p22, p32]) rfl ⟨rfl, ?_⟩
      exact ((((((((Below.refl _ _).alloc (Nat.le_refl _) _).alloc (by simp) _).alloc (by simp <;> omega) _).alloc (by simp <;> omega) _).trans (hb1.mono (by simp <;> omega))).trans (hb2.mono (by omega))).trans (hb3.mono (by omega))).setCell (by simp <;> omega) _ |>.setCell (by simp <;> omega) _
end Go.Proofs.YtgmaompjhhomcaaGreat.Se.Pe

