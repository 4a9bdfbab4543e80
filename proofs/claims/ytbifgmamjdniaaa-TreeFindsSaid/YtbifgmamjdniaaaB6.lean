/- Asking whether an entry is in a tree. -/
import Derived.Test.YtbifgmamjdniaaaB5
import Derived.Deep.LoopGhost
namespace Go.Proofs.Ytbifgmamjdniaaa
open Go.RowKit
open Itree (E T dep endT bs ord sz nodes lean rotL rotR bal ins del hasT first AVL Srt eachL over)
/-- The round at a node: what the comparison reads. -/
theorem node_keep {wr : World} {g k : Nat} {x e : E} {l r : Option Addr} {lv en : Int} (hb : EBox wr g x) (hn : NodeAt wr k e l r lv en) :
    ∀ w' : World, Below wr.heap.size wr w' → (Below wr.heap.size wr w' ∧ w'.cell? ⟨g, 0, none⟩ = some (.int .u64 x.a) ∧ w'.cell? ⟨g, 1, none⟩ = some (.int .u64 x.b) ∧ w'.cell? ⟨g, 2, none⟩ = some (.int .u64 x.n) ∧ w'.cell? ⟨k, 0, none⟩ = some (.int .u64 e.a) ∧ w'.cell? ⟨k, 1, none⟩ = some (.int .u64 e.b) ∧ w'.cell? ⟨k, 2, none⟩ = some (.int .u64 e.n)) := fun _ h =>
  ⟨h, (hb.below h).c0, (hb.below h).c1, (hb.below h).c2, (hn.below h).c0, (hn.below h).c1, (hn.below h).c2⟩
set_option maxRecDepth 100000 in
set_option maxHeartbeats 1000000 in
theorem has_any (x : E) (t : T) (w : World) (h : IsT w t) :
    Calls Try.prog 34 #[.pointer (ptr t), entV x] w fun e w' => e = .returned (.bool (hasT x t)) ∧ Below w.heap.size w w' := by
  have E0 := Lib.hid (ebox_new w x 53)
  have T0 := Lib.hid (h.below ((Below.refl _ w).alloc (Nat.le_refl _) (.cells #[.int .u64 x.a, .int .u64 x.b, .int .u64 x.n] 53)))
  have B0 := Lib.hid ((Below.refl w.heap.size w).alloc (Nat.le_refl _) (.cells #[.int .u64 x.a, .int .u64 x.b, .int .u64 x.n] 53))
  clear h
  obtain ⟨p0, hp⟩ : ∃ p, ptr t = p := ⟨_, rfl⟩
  obtain ⟨q0, hq⟩ : ∃ q, hasT x t = q := ⟨_, rfl⟩
  rw [hp, hq]
  have HP := Lib.hid (And.intro hp hq)
  clear hp hq
  go_enter Try.func34, Try.ntmps34
  go_wp2
  go_loopg [0] (sz t) (fun k p wr => ∃ t' : T, sz t' = k ∧ p = .pointer (ptr t') ∧ IsT wr t' ∧ EBox wr w.heap.size x ∧ hasT x t' = q0 ∧ Below w.heap.size w wr)
  case atStart => exact ⟨t, rfl, by rw [HP.out.1], T0.out, E0.out, HP.out.2, B0.out⟩
  case round =>
    obtain ⟨t', hk, rfl, hi, hx, hq, hb⟩ := hrel
    cases t' with
    | leaf =>
      simp only [ptr]
      subst hq
      clear hi hx
      go_wp2
      go_ret
      exact ⟨rfl, hb⟩
    | node k e l r =>
      obtain ⟨hn, hl, hr⟩ := hi
      have c3 := hn.c3
      have c4 := hn.c4
      simp only [ptr]
      have HC := compare_any x e
      have K := Lib.hid (node_keep hx hn)
      have M := Lib.hid (fun w1 (h1 : Below wr.heap.size wr w1) => And.intro (hn.below h1).c3 (hn.below h1).c4)
      have A := Lib.hid (And.intro hk (And.intro hl (And.intro hr (And.intro hx (And.intro hq hb)))))
      clear hk hl hr hx hq hb hn
      by_cases h1 : Itree.lt x e
      · rw [cmpE_lt h1] at HC
        replace HC := Lib.hid HC
        go_upto_region 2 with fail
        go_region_held3 (fun w' => Below wr.heap.size wr w' ∧ w'.cell? ⟨w.heap.size, 0, none⟩ = some (.int .u64 x.a) ∧ w'.cell? ⟨w.heap.size, 1, none⟩ = some (.int .u64 x.b) ∧ w'.cell? ⟨w.heap.size, 2, none⟩ = some (.int .u64 x.n) ∧ w'.cell? ⟨k, 0, none⟩ = some (.int .u64 e.a) ∧ w'.cell? ⟨k, 1, none⟩ = some (.int .u64 e.b) ∧ w'.cell? ⟨k, 2, none⟩ = some (.int .u64 e.n)) (first | exact K.out _ (Below.refl _ _).drew | (first | exact K.out _ (by assumption) | (go_split_ands; exact K.out _ (by assumption))) | fail) (first
          | (go_at_call 47; (go_split_ands; (with_reducible refine (HC.out _).mono ?_); rintro e1 w1 ⟨rfl, hb1⟩; have ch1 : Below wr.heap.size wr w1 := Below.trans (by assumption) (hb1.mono (Below.size (by assumption)))))
          | fail)
        all_goals (
          go_split_ands
          obtain ⟨z3, z4⟩ := M.out _ ch1
          have HZ := Lib.hid ch1
          clear ch1
          go_wp2
          go_roundg (sz l)
          case measure =>
            obtain ⟨hk, _⟩ := A.out
            rw [Itree.sz_node] at hk
            omega
          case rel =>
            obtain ⟨hk, hl, hr, hx, hq, hb⟩ := A.out
            exact ⟨l, rfl, rfl, hl.below HZ.out, hx.below HZ.out, by rw [← hq]; simp [hasT, h1], hb.trans (HZ.out.mono hb.size)⟩)
      · by_cases h2 : Itree.lt e x
        · rw [cmpE_gt h2] at HC
          replace HC := Lib.hid HC
          go_upto_region 2 with fail
          go_region_held3 (fun w' => Below wr.heap.size wr w' ∧ w'.cell? ⟨w.heap.size, 0, none⟩ = some (.int .u64 x.a) ∧ w'.cell? ⟨w.heap.size, 1, none⟩ = some (.int .u64 x.b) ∧ w'.cell? ⟨w.heap.size, 2, none⟩ = some (.int .u64 x.n) ∧ w'.cell? ⟨k, 0, none⟩ = some (.int .u64 e.a) ∧ w'.cell? ⟨k, 1, none⟩ = some (.int .u64 e.b) ∧ w'.cell? ⟨k, 2, none⟩ = some (.int .u64 e.n)) (first | exact K.out _ (Below.refl _ _).drew | (first | exact K.out _ (by assumption) | (go_split_ands; exact K.out _ (by assumption))) | fail) (first
            | (go_at_call 47; (go_split_ands; (with_reducible refine (HC.out _).mono ?_); rintro e1 w1 ⟨rfl, hb1⟩; have ch1 : Below wr.heap.size wr w1 := Below.trans (by assumption) (hb1.mono (Below.size (by assumption)))))
            | fail)
          all_goals (
            go_split_ands
            obtain ⟨z3, z4⟩ := M.out _ ch1
            have HZ := Lib.hid ch1
            clear ch1
            go_wp2
            go_roundg (sz r)
            case measure =>
              obtain ⟨hk, _⟩ := A.out
              rw [Itree.sz_node] at hk
              omega
            case rel =>
              obtain ⟨hk, hl, hr, hx, hq, hb⟩ := A.out
              exact ⟨r, rfl, rfl, hr.below HZ.out, hx.below HZ.out, by rw [← hq]; simp [hasT, h1, h2], hb.trans (HZ.out.mono hb.size)⟩)
        · have h3 : x = e := by
            rcases Itree.lt_tri x e with h | h | h
            · exact absurd h h1
            · exact h
            · exact absurd h h2
          have HQ : q0 = true := by
            rw [← A.out.2.2.2.2.1]
            simp [hasT, h1, h2]
          subst HQ
          have HC0 : cmpE x e = 0 := by rw [h3]; exact cmpE_eq e
          rw [HC0] at HC
          clear HC0 h3
          replace HC := Lib.hid HC
          go_upto_region 2 with fail
          go_region_held3 (fun w' => Below wr.heap.size wr w' ∧ w'.cell? ⟨w.heap.size, 0, none⟩ = some (.int .u64 x.a) ∧ w'.cell? ⟨w.heap.size, 1, none⟩ = some (.int .u64 x.b) ∧ w'.cell? ⟨w.heap.size, 2, none⟩ = some (.int .u64 x.n) ∧ w'.cell? ⟨k, 0, none⟩ = some (.int .u64 e.a) ∧ w'.cell? ⟨k, 1, none⟩ = some (.int .u64 e.b) ∧ w'.cell? ⟨k, 2, none⟩ = some (.int .u64 e.n)) (first | exact K.out _ (Below.refl _ _).drew | (first | exact K.out _ (by assumption) | (go_split_ands; exact K.out _ (by assumption))) | fail) (first
            | (go_at_call 47; (go_split_ands; (with_reducible refine (HC.out _).mono ?_); rintro e1 w1 ⟨rfl, hb1⟩; have ch1 : Below wr.heap.size wr w1 := Below.trans (by assumption) (hb1.mono (Below.size (by assumption)))))
            | fail)
          all_goals (
            go_split_ands
            obtain ⟨z3, z4⟩ := M.out _ ch1
            have HZ := Lib.hid ch1
            clear ch1
            go_wp2
            go_ret
            exact ⟨rfl, A.out.2.2.2.2.2.trans (HZ.out.mono A.out.2.2.2.2.2.size)⟩)
end Go.Proofs.Ytbifgmamjdniaaa
