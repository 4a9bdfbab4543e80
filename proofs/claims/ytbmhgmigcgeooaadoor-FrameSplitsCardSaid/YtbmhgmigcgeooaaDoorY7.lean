/- The program's frames and groups beside the document's. -/
import Derived.Test.YtbmhgmigcgeooaaDoorY6
import Derived.Test.YtbmhgmigcgeooaaDoorT1
namespace Go.Proofs.YtbmhgmigcgeooaaDoor
open Go.RowKit
set_option maxRecDepth 100000 in
set_option maxHeartbeats 1000000 in
theorem rsplit_zero (A : Option Addr) (cap : Nat) (w : World) : Calls Tryd.prog 14 #[.slice A 0 cap] w (RSplits w []) := by
  have hN : nextB (([] : List UInt8).drop 0) = false := by decide
  have HQ : Hid (∀ w', Below w.heap.size w w' → RSplits w [] (.returned (.tuple #[.slice none 0 0, .int .i64 0])) w') := Lib.hid fun w' h => RSplits.mk' (v := .slice none 0 0) (L := []) (k := 0) ⟨rfl, Nat.zero_le _, rfl⟩ hN ⟨World.ownsRow_nil _ _ _ _, (fun y hy => by cases hy)⟩ h
  clear hN
  generalize RSplits w [] = Post at *
  have C := Lib.hid (fun A c => next_short A [] c w (by decide))
  have hc : (0 : Int) ≤ (cap : Int) := by omega
  go_enter Tryd.func14, Tryd.ntmps14
  go_wp2
  go_loopw [4, 5] (fun v i wr => v = .slice none 0 0 ∧ i = .int .i64 0 ∧ wr = w) (fun _ _ _ => 0)
  case atStart => exact ⟨rfl, rfl, rfl⟩
  case round =>
    obtain ⟨rfl, rfl, rfl⟩ := hrel
    cases A <;> (
      go_upto_region 4 with (first
        | (go_at_call 27; ((refine (C.out _ _).mono ?_); rintro e w5 ⟨rfl, hb5⟩; unfold noR; have B5 := Lib.hid hb5; clear hb5))
        | fail)
      have HBA := Lib.hid (fun o => B5.out.alloc B5.out.size o)
      go_wp2
      exact HQ.out _ (HBA.out _))
set_option maxRecDepth 100000 in
set_option maxHeartbeats 1000000 in
theorem rgroups_zero (A : Option Addr) (cap : Nat) (w : World) : Calls Tryd.prog 16 #[.slice A 0 cap] w (RGroups w []) := by
  have hN : groupsL (framesL []) [] = [] := by rw [framesL_no (b := []) (by decide)]; rfl
  have HQ : Hid (∀ w', Below w.heap.size w w' → RGroups w [] (.returned (.tuple #[.slice none 0 0, .int .i64 0])) w') := Lib.hid fun w' h => ⟨.slice none 0 0, [], .slice none 0 0, by rw [hN]; rfl, GD.start _ _, hN.symm, h⟩
  clear hN
  generalize RGroups w [] = Post at *
  have hc : (0 : Int) ≤ (cap : Int) := by omega
  go_enter Tryd.func16, Tryd.ntmps16
  go_wp2
  go_loopw [4, 5] (fun v i wr => v = .slice none 0 0 ∧ i = .int .i64 0 ∧ wr = w) (fun _ _ _ => 0)
  case atStart => exact ⟨rfl, rfl, rfl⟩
  case round =>
    obtain ⟨rfl, rfl, rfl⟩ := hrel
    go_upto_region 4 with fail
    obtain ⟨V, hV⟩ : ∃ V, wr.alloc (.cells #[.slice none 0 0, .slice none 0 0] 52) = V := ⟨_, rfl⟩
    have bV : Below wr.heap.size wr V := by rw [← hV]; exact (Below.refl _ _).alloc (Nat.le_refl _) _
    have HBV := Lib.hid bV
    rw [hV]
    clear hV bV
    have C := Lib.hid (fun A c => next_short A [] c V (by decide))
    cases A <;> (
      go_upto_block 2 with (first
        | (go_at_call 27; ((refine (C.out _ _).mono ?_); rintro e w5 ⟨rfl, hb5⟩; unfold noR; have B5 := Lib.hid (HBV.out.trans (hb5.mono HBV.out.size)); clear hb5))
        | fail)
      have HBA := Lib.hid (fun o => B5.out.alloc B5.out.size o)
      go_wp2_with fail
      go_loopw [7, 9] (fun en nn w' => en = .int .i64 0 ∧ nn = .int .i64 0 ∧ Below wr.heap.size wr w') (fun _ _ _ => 0)
      case atStart => exact ⟨rfl, rfl, HBA.out _⟩
      case round =>
        obtain ⟨rfl, rfl, hb⟩ := hrel
        go_wp2
        exact HQ.out _ hb)
theorem rsplit_all (A : Option Addr) (b : List UInt8) (n cap : Nat) (w : World) (hA : At w A b) (hc : b.length ≤ cap) (hm : b.length ≤ 1000000) (hn : b.length = n) :
    Calls Tryd.prog 14 #[.slice A n cap] w (RSplits w b) := by
  subst hn
  cases b with
  | nil => exact rsplit_zero A cap w
  | cons x b =>
    obtain ⟨bb, off, rfl, _, _⟩ := hA (by simp)
    exact rsplit_some bb off _ cap w hA hc hm
theorem rgroups_all (A : Option Addr) (b : List UInt8) (n cap : Nat) (w : World) (hA : At w A b) (hc : b.length ≤ cap) (hm : b.length ≤ 1000000) (hn : b.length = n) :
    Calls Tryd.prog 16 #[.slice A n cap] w (RGroups w b) := by
  subst hn
  cases b with
  | nil => exact rgroups_zero A cap w
  | cons x b =>
    obtain ⟨bb, off, rfl, _, _⟩ := hA (by simp)
    exact rgroups_some bb off _ cap w hA hc hm
theorem frames_size : ∀ (n : Nat) (b : List UInt8), b.length ≤ n → sizeL (framesL b) ≤ b.length := by
  intro n
  induction n with
  | zero => intro b hb; rw [framesL_no (nextB_short (by omega))]; exact Nat.zero_le _
  | succ n ih =>
    intro b hb
    cases hy : nextB b with
    | false => rw [framesL_no hy]; exact Nat.zero_le _
    | true =>
      have h1 := nextB_len hy
      have h2 := ih (b.drop (7 + lenB b)) (by rw [List.length_drop]; omega)
      rw [List.length_drop] at h2
      rw [framesL_yes hy, sizeL_cons, frB_size hy]
      omega
theorem groups_few : ∀ (L : List Fr) (ops : List (List UInt8)), (groupsL L ops).length ≤ L.length := by
  intro L
  induction L with
  | nil => intro ops; exact Nat.le_refl _
  | cons f L ih =>
    intro ops
    rw [groupsL]
    split
    · have := ih (ops ++ [f.l]); rw [List.length_cons]; omega
    · split
      · have := ih []; simp only [List.length_cons]; omega
      · exact Nat.zero_le _
theorem groups_ops : ∀ (L : List Fr) (ops : List (List UInt8)), ops.length ≤ 256 → ∀ g ∈ groupsL L ops, g.ops.length ≤ 256 := by
  intro L
  induction L with
  | nil => intro ops _ g hg; cases hg
  | cons f L ih =>
    intro ops ho g hg
    rw [groupsL] at hg
    split at hg
    · rename_i h
      exact ih _ (by rw [List.length_append, List.length_singleton]; omega) g hg
    · split at hg
      · rw [List.mem_cons] at hg
        rcases hg with rfl | hg
        · exact ho
        · exact ih [] (by decide) g hg
      · cases hg
theorem own_at' {base : Nat} {w : World} {A : Option Addr} {n c : Nat} {l : List UInt8} (h : Own1 base w (.slice A n c) l) : At w A l := by
  obtain ⟨A', c', e, _, _, hA⟩ := h.at
  injection e with e1 _ _
  rw [e1]
  exact hA
theorem frames_at {ws w2 w3 W : World} {b : List UInt8} {v u : Value} {X : List Fx} {base : Nat} {L : List Fi} (hs : Splits ws b v X w2) (hx : RX base w3 u L) (he : frsI L = framesL b) (h2 : Below w2.heap.size w2 W) (h3 : Below w3.heap.size w3 W) :
    ∃ P1 c1 P2 c2, v = .slice P1 L.length c1 ∧ u = .slice P2 L.length c2 ∧ FramesAt W P1 P2 L.length := by
  have hX : frs X = frsI L := by have := hs.read.all; rw [List.append_nil, ← he] at this; exact this.symm
  have hlen : X.length = L.length := by simpa [frs, frsI] using congrArg List.length hX
  obtain ⟨P1, c1, e1⟩ := own_slice hs.row
  obtain ⟨P2, c2, e2⟩ := own_slice hx.row
  rw [hlen] at e1
  refine ⟨P1, c1, P2, c2, e1, e2, fun i hi => ?_⟩
  have hiX : i < X.length := by omega
  have hf : X[i].f = L[i].f := by
    have := congrArg (fun l => l[i]?) hX
    simp only [frs, frsI, List.getElem?_map, List.getElem?_eq_getElem hiX, List.getElem?_eq_getElem hi, Option.map_some] at this
    exact Option.some.inj this
  obtain ⟨g1, d1, f1, q1⟩ := row_form hs.row (by omega)
  obtain ⟨g2, d2, f2, q2⟩ := row_form hx.row (by omega)
  obtain ⟨a1, a2⟩ := cellsX_get X i hiX
  obtain ⟨b1, b2⟩ := cellsI_get L i hi
  have m1 := q1 _ _ a1
  have m2 := q1 _ _ a2
  have m3 := q2 _ _ b1
  have m4 := q2 _ _ b2
  rw [f1] at e1
  rw [f2] at e2
  injection e1 with e1 _ _
  injection e2 with e2 _ _
  refine ⟨g1, g2, bodyA X[i].g X[i].f.l.length, L[i].A, L[i].f.l.length, L[i].f.l.length, L[i].c, L[i].f.k, L[i].f.l, e1.symm, e2.symm, ?_, ?_, (h3.cell (p := ⟨g2, i * 2, none⟩) (cell_ltY m3)).trans m3, (h3.cell (p := ⟨g2, i * 2 + 1, none⟩) (cell_ltY m4)).trans m4, ?_, (own_at' (hx.body L[i] (List.getElem_mem hi))).below h3, rfl⟩
  · rw [← hf]; exact (h2.cell (p := ⟨g1, i * 2, none⟩) (cell_ltY m1)).trans m1
  · rw [← hf]; exact (h2.cell (p := ⟨g1, i * 2 + 1, none⟩) (cell_ltY m2)).trans m2
  · have := (hs.body X[i] (List.getElem_mem hiX)).at_.below h2
    rw [hf] at this ⊢
    exact this
end Go.Proofs.YtbmhgmigcgeooaaDoor
