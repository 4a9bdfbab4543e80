/- Comparing entries; asking whether one is in a tree; adding one. -/
import Derived.Test.YtbifgmamjdniaaaB4
namespace Go.Proofs.Ytbifgmamjdniaaa
open Go.RowKit
open Itree (E T dep endT bs ord sz nodes lean rotL rotR bal ins del hasT first AVL Srt eachL over)
/-- An entry as a value. -/
abbrev entV (e : E) : Value := .agg #[.int .u64 e.a, .int .u64 e.b, .int .u64 e.n]
/-- An entry in a box. -/
structure EBox (w : World) (g : Nat) (e : E) : Prop where
  c0 : w.cell? ⟨g, 0, none⟩ = some (.int .u64 e.a)
  c1 : w.cell? ⟨g, 1, none⟩ = some (.int .u64 e.b)
  c2 : w.cell? ⟨g, 2, none⟩ = some (.int .u64 e.n)
  fr : ∀ o, w.frozen? ⟨g, o, none⟩ = false
  lt : g < w.heap.size
theorem EBox.below {w w' : World} {g : Nat} {e : E} (h : EBox w g e) (hb : Below w.heap.size w w') : EBox w' g e :=
  ⟨(hb.cell (p := ⟨g, 0, none⟩) h.lt).trans h.c0, (hb.cell (p := ⟨g, 1, none⟩) h.lt).trans h.c1, (hb.cell (p := ⟨g, 2, none⟩) h.lt).trans h.c2, fun o => (hb.frozen (p := ⟨g, o, none⟩) h.lt).trans (h.fr o), Nat.lt_of_lt_of_le h.lt hb.size⟩
theorem EBox.but {S : List Nat} {w w' : World} {g : Nat} {e : E} (h : EBox w g e) (hb : But S w w') (hn : g ∉ S) : EBox w' g e :=
  ⟨(hb.cell g 0 h.lt hn).trans h.c0, (hb.cell g 1 h.lt hn).trans h.c1, (hb.cell g 2 h.lt hn).trans h.c2, fun o => (hb.frozen g o h.lt hn).trans (h.fr o), Nat.lt_of_lt_of_le h.lt hb.size⟩
theorem EBox.alloc {w : World} {g : Nat} {e : E} (h : EBox w g e) (o : Obj) : EBox (w.alloc o) g e := h.below ((Below.refl _ _).alloc (Nat.le_refl _) o)
theorem ebox_new (w : World) (e : E) (t : TypeId) : EBox (w.alloc (.cells #[.int .u64 e.a, .int .u64 e.b, .int .u64 e.n] t)) w.heap.size e := by
  refine ⟨?_, ?_, ?_, fun o => ?_, by simp⟩ <;> go_simp
theorem ebox_at (w : World) (e : E) (t : TypeId) (g : Nat) (h : w.heap.size = g) : EBox (w.alloc (.cells #[.int .u64 e.a, .int .u64 e.b, .int .u64 e.n] t)) g e := h ▸ ebox_new w e t
def cmpE (x y : E) : Int := orI (cmpP x.a x.b y.a y.b) (cmpI x.n y.n)
theorem cmpE_lt {x y : E} (h : Itree.lt x y) : cmpE x y = -1 := by
  unfold Itree.lt at h
  unfold cmpE cmpP orI cmpI
  grind
theorem cmpE_gt {x y : E} (h : Itree.lt y x) : cmpE x y = 1 := by
  unfold Itree.lt at h
  unfold cmpE cmpP orI cmpI
  grind
theorem cmpE_eq (x : E) : cmpE x x = 0 := by
  unfold cmpE cmpP orI cmpI
  simp
theorem cmpE_ge {x y : E} (h : ¬ Itree.lt x y) : 0 ≤ cmpE x y := by
  rcases Itree.lt_tri x y with h1 | rfl | h1
  · exact absurd h1 h
  · rw [cmpE_eq]; omega
  · rw [cmpE_gt h1]; omega
set_option maxRecDepth 100000 in
set_option maxHeartbeats 1000000 in
theorem compare_any (x y : E) (w : World) :
    Calls Try.prog 47 #[entV x, entV y] w fun e w' => e = .returned (.int .i64 (cmpE x y)) ∧ Below w.heap.size w w' := by
  have h1 := Compare_any x.a x.b y.a y.b
  have h2 := cmpU_any x.n y.n
  unfold cmpE
  obtain ⟨W, hW⟩ : ∃ W, (w.alloc (.cells #[.int .u64 x.a, .int .u64 x.b, .int .u64 x.n] 53)).alloc (.cells #[.int .u64 y.a, .int .u64 y.b, .int .u64 y.n] 53) = W := ⟨_, rfl⟩
  have b0 : EBox W w.heap.size x := by rw [← hW]; exact EBox.alloc (ebox_at _ x _ _ rfl) _
  have b1 : EBox W (w.heap.size + 1) y := by rw [← hW]; exact ebox_at _ y _ _ (by simp)
  generalize cmpP x.a x.b y.a y.b = p at *
  generalize cmpI x.n y.n = q at *
  have H1 := Lib.hid h1
  have H2 := Lib.hid h2
  clear h1 h2
  have H3 := Lib.hid (Or_two p q)
  generalize orI p q = z at *
  have K0 := Lib.hid (fun w' (hb : Below W.heap.size W w') => (⟨hb, (b0.below hb).c0, (b0.below hb).c1, (b0.below hb).c2, (b1.below hb).c0, (b1.below hb).c1, (b1.below hb).c2⟩ : Below W.heap.size W w' ∧ w'.cell? ⟨w.heap.size, 0, none⟩ = some (.int .u64 x.a) ∧ w'.cell? ⟨w.heap.size, 1, none⟩ = some (.int .u64 x.b) ∧ w'.cell? ⟨w.heap.size, 2, none⟩ = some (.int .u64 x.n) ∧ w'.cell? ⟨w.heap.size + 1, 0, none⟩ = some (.int .u64 y.a) ∧ w'.cell? ⟨w.heap.size + 1, 1, none⟩ = some (.int .u64 y.b) ∧ w'.cell? ⟨w.heap.size + 1, 2, none⟩ = some (.int .u64 y.n)))
  have HB := Lib.hid (show Below w.heap.size w W by rw [← hW]; exact ((Below.refl _ _).alloc (Nat.le_refl _) _).alloc (by simp) _)
  clear b0 b1
  go_enter Try.func47, Try.ntmps47
  go_upto_region 1 with fail
  try rw [hW]
  clear hW
  go_region_held3 (fun w' => Below W.heap.size W w' ∧ w'.cell? ⟨w.heap.size, 0, none⟩ = some (.int .u64 x.a) ∧ w'.cell? ⟨w.heap.size, 1, none⟩ = some (.int .u64 x.b) ∧ w'.cell? ⟨w.heap.size, 2, none⟩ = some (.int .u64 x.n) ∧ w'.cell? ⟨w.heap.size + 1, 0, none⟩ = some (.int .u64 y.a) ∧ w'.cell? ⟨w.heap.size + 1, 1, none⟩ = some (.int .u64 y.b) ∧ w'.cell? ⟨w.heap.size + 1, 2, none⟩ = some (.int .u64 y.n)) (first | exact K0.out _ (Below.refl _ _).drew | (first | exact K0.out _ (by assumption) | (go_split_ands; exact K0.out _ (by (first | assumption | exact Below.alloc (by assumption) (by (first | exact (Below.size (by assumption)) | (simp; done) | fail)) _ | fail))) | fail) | fail) (first
    | (go_at_call 26; (go_split_ands; (with_reducible refine (H1.out _).mono ?_); rintro e w1 ⟨rfl, hb1⟩; have ch1 : Below W.heap.size W w1 := Below.trans (by assumption) (hb1.mono (Below.size (by assumption)))))
    | (go_at_call 46; (go_split_ands; (with_reducible refine (H2.out _).mono ?_); rintro e w1 ⟨rfl, rfl⟩))
    | (go_at_call 45; (go_split_ands; (with_reducible refine (H3.out _ _ ?_ ?_).mono ?_); go_simp; go_simp; rintro e w1 ⟨rfl, rfl⟩))
    | fail)
  all_goals (go_split_ands; go_wp2; go_ret; exact ⟨rfl, HB.out.trans (Below.mono (by assumption) HB.out.size)⟩)
end Go.Proofs.Ytbifgmamjdniaaa
