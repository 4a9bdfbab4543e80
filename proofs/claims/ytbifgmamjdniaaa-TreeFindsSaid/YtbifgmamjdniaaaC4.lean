/- each: the entries of a node that overlap a period are passed on, in order. -/
import Derived.Test.YtbifgmamjdniaaaC2
import Derived.RangeFuncNested
import Derived.RangeFuncBound
import Derived.RangeFuncLeaves
import Derived.RangeFuncBox
import Derived.Shelf.Abstract
import Derived.OwnWalkIn
import Derived.TacticsInMore
import Derived.Stop.RegionWithIn
namespace Go.Proofs.Ytbifgmamjdniaaa
open Go.RowKit
open Itree (E T dep endT bs ord sz nodes lean rotL rotR bal ins del hasT first AVL Srt eachL over)
theorem NodeAt.belowN {n0 : Nat} {w w' : World} {k : Nat} {e : E} {l r : Option Addr} {lv en : Int} (h : NodeAt w k e l r lv en) (hb : Below n0 w w') (hk : k < n0) : NodeAt w' k e l r lv en :=
  ⟨(hb.cell (p := ⟨k, 0, none⟩) hk).trans h.c0, (hb.cell (p := ⟨k, 1, none⟩) hk).trans h.c1, (hb.cell (p := ⟨k, 2, none⟩) hk).trans h.c2, (hb.cell (p := ⟨k, 3, none⟩) hk).trans h.c3, (hb.cell (p := ⟨k, 4, none⟩) hk).trans h.c4, (hb.cell (p := ⟨k, 5, none⟩) hk).trans h.c5, (hb.cell (p := ⟨k, 6, none⟩) hk).trans h.c6, fun o => (hb.frozen (p := ⟨k, o, none⟩) hk).trans (h.fr o), Nat.lt_of_lt_of_le h.lt hb.size⟩
theorem IsT.belowN {n0 : Nat} {w w' : World} {t : T} (h : IsT w t) (hb : Below n0 w w') (hn : ∀ k ∈ bs t, k < n0) : IsT w' t := by
  induction t with
  | leaf => trivial
  | node k e l r ih1 ih2 =>
    rw [Itree.bs_node] at hn
    exact ⟨h.1.belowN hb (hn k (by simp)), ih1 h.2.1 (fun x hx => hn x (by simp [hx])), ih2 h.2.2 (fun x hx => hn x (by simp [hx]))⟩
/-- A block that holds a period. -/
def PBox (w : World) (g : Nat) (p q : Int) : Prop := w.heap[g]? = some (.cells #[.int .u64 p, .int .u64 q] 32 (0, 0))
theorem PBox.c0 {w : World} {g : Nat} {p q : Int} (h : PBox w g p q) : w.cell? ⟨g, 0, none⟩ = some (.int .u64 p) := by simp [World.cell?, show w.heap[g]? = _ from h]
theorem PBox.c1 {w : World} {g : Nat} {p q : Int} (h : PBox w g p q) : w.cell? ⟨g, 1, none⟩ = some (.int .u64 q) := by simp [World.cell?, show w.heap[g]? = _ from h]
/-- What a round keeps: what lay below, and every period in a block of its own. -/
structure Kp (n0 : Nat) (w w' : World) : Prop where
  below : Below n0 w w'
  per : ∀ (k : Nat) (c : Array Value), w.heap[k]? = some (.cells c 32 (0, 0)) → w'.heap[k]? = some (.cells c 32 (0, 0))
theorem Kp.refl (n0 : Nat) (w : World) : Kp n0 w w := ⟨Below.refl _ _, fun _ _ h => h⟩
theorem Kp.trans {n0 : Nat} {a b c : World} (h : Kp n0 a b) (k : Kp n0 b c) : Kp n0 a c := ⟨h.below.trans k.below, fun i x hx => k.per i x (h.per i x hx)⟩
theorem Kp.grown {n0 : Nat} {a b : World} (h : a.grownBy b none) (hn : n0 ≤ a.heap.size) : Kp n0 a b :=
  ⟨⟨h.os, h.tape, h.output, h.size, fun k hk => h.block k (by omega) (by simp)⟩, fun k c hc => (h.block k (Array.getElem?_eq_some_iff.1 hc).1 (by simp)).trans hc⟩
theorem Kp.drew {n0 : Nat} {a b : World} (h : Kp n0 a b) : Kp n0 a b.drew := ⟨h.below.drew, h.per⟩
theorem Kp.pbox {n0 : Nat} {a b : World} {g : Nat} {p q : Int} (h : Kp n0 a b) (hp : PBox a g p q) : PBox b g p q := h.per g _ hp
theorem grown_drew (w : World) : w.grownBy w.drew none := ⟨rfl, rfl, rfl, Nat.le_refl _, fun _ _ _ => rfl⟩
theorem grown_drewN (w : World) (n : Nat) : w.grownBy (w.drewN n) none := ⟨rfl, rfl, rfl, Nat.le_refl _, fun _ _ _ => rfl⟩
theorem grown_tr {a b c : World} {r : Option Nat} (h : a.grownBy b none) (k : b.grownBy c r) (hr : ∀ j, r = some j → a.heap.size ≤ j) : a.grownBy c none :=
  ⟨k.os.trans h.os, k.tape.trans h.tape, k.output.trans h.output, Nat.le_trans h.size k.size, fun i hi hne => (k.block i (Nat.lt_of_lt_of_le hi h.size) (fun e => by have := hr i e.symm; omega)).trans (h.block i hi hne)⟩
theorem room_wide' (k : Nat) : Fence.wide.depth.isSome = true → 1 ≤ k := fun h => by cases h
theorem RoundIn.any' {m m' : Nat} {P : Program} {l : Nat} {f : FuncId} {tmps : Array Value} {assign body : Code} {w : World} {R : Ending → World → Prop}
    (h : RoundIn Fence.wide m P l f tmps assign body w R) : RoundIn Fence.wide m' P l f tmps assign body w R := ⟨h.1, fun c cs _ => h.2 c cs (fun d hd => by cases hd)⟩
theorem YieldAt.any' {m m' : Nat} {P : Program} {l : Nat} {args : Array Value} {W : World} {R : Ending → World → Prop} (h : YieldAt Fence.wide m P l args W R) : YieldAt Fence.wide m' P l args W R := by
  obtain ⟨fn, tmps, assign, body, hy, hR⟩ := h
  exact ⟨fn, tmps, assign, body, hy, RoundIn.any' hR⟩
/-- What a round of whoever ranges gives. -/
def Rounds (l n0 N : Nat) (J Jx : List E → World → Prop) : Prop :=
  ∀ m pre x W, J pre W → pre.length < N → YieldAt Fence.wide m Try.prog l #[entV x] W fun e W' => (e = .returned (.bool true) ∧ J (pre ++ [x]) W' ∧ Kp n0 W W') ∨ (e = .returned (.bool false) ∧ Jx (pre ++ [x]) W')
def PassedB (n0 : Nat) (J Jx : List E → World → Prop) (pre L : List E) (W : World) (b : Bool) (W' : World) : Prop :=
  (b = true ∧ J (pre ++ L) W' ∧ Kp n0 W W') ∨ (b = false ∧ ∃ s, s <+: L ∧ Jx (pre ++ s) W')
def Passed (n0 : Nat) (J Jx : List E → World → Prop) (pre L : List E) (W : World) (e : Ending) (W' : World) : Prop :=
  ∃ b, e = .returned (.bool b) ∧ PassedB n0 J Jx pre L W b W'
/-- A truth in a slot, and what it tells of the world. -/
def Told (v : Value) (p : Bool → Prop) : Prop := ∃ b, v = .bool (!b) ∧ p b
theorem node_cells {w w' : World} {n0 k g : Nat} {e : E} {l r : Option Addr} {lv en p q : Int} (hn : NodeAt w k e l r lv en) (hk : k < n0) (hp : PBox w g p q) (h : Kp n0 w w') :
    w'.cell? ⟨k, 0, none⟩ = some (.int .u64 e.a) ∧ w'.cell? ⟨k, 1, none⟩ = some (.int .u64 e.b) ∧ w'.cell? ⟨k, 2, none⟩ = some (.int .u64 e.n) ∧ w'.cell? ⟨k, 3, none⟩ = some (.pointer l) ∧ w'.cell? ⟨k, 4, none⟩ = some (.pointer r) ∧ w'.cell? ⟨k, 6, none⟩ = some (.int .u64 en) ∧ w'.cell? ⟨g, 0, none⟩ = some (.int .u64 p) ∧ w'.cell? ⟨g, 1, none⟩ = some (.int .u64 q) :=
  have h1 := hn.belowN h.below hk
  ⟨h1.c0, h1.c1, h1.c2, h1.c3, h1.c4, h1.c6, (h.pbox hp).c0, (h.pbox hp).c1⟩
set_option maxRecDepth 100000 in
set_option maxHeartbeats 1000000 in
theorem each_leaf (n0 : Nat) (J Jx : List E → World → Prop) (hJ : ∀ s W W', J s W → W.grownBy W' none → J s W') (l : Nat) (p q : Int) (pre : List E) (W : World) (hs : n0 ≤ W.heap.size) (hJ0 : J pre W) :
    Calls Try.prog 52 #[.pointer none, .agg #[.int .u64 p, .int .u64 q], .func (.yield l) #[] #[]] W (Passed n0 J Jx pre [] W) := by
  have HE := Lib.hid (fun nq : Nat => (have g1 : W.grownBy ((W.alloc (.cells #[.int .u64 p, .int .u64 q] 32)).drewN nq) none := grown_tr (World.grownBy_alloc W _ none) (grown_drewN _ nq) (by simp)
    ⟨true, rfl, .inl ⟨rfl, by simpa using hJ _ _ _ hJ0 g1, Kp.grown g1 hs⟩⟩ : Passed n0 J Jx pre [] W (.returned (.bool true)) ((W.alloc (.cells #[.int .u64 p, .int .u64 q] 32)).drewN nq)))
  clear hJ0 hJ
  go_enter Try.func52, Try.ntmps52
  go_upto_region 1 with fail
  go_quiet (fail)
  go_wp2
  go_ret
  exact HE.out _
set_option maxRecDepth 100000 in
set_option maxHeartbeats 1000000 in
theorem each_skip (n0 : Nat) (J Jx : List E → World → Prop) (hJ : ∀ s W W', J s W → W.grownBy W' none → J s W') (l : Nat) (p q : Int) (k : Nat) (e : E) (pl pr : Option Addr) (lv en : Int) (pre : List E) (W : World) (hs : n0 ≤ W.heap.size) (hJ0 : J pre W) (hn : NodeAt W k e pl pr lv en) (hk : k < n0) (he : en ≤ p) :
    Calls Try.prog 52 #[.pointer (some ⟨k, 0, none⟩), .agg #[.int .u64 p, .int .u64 q], .func (.yield l) #[] #[]] W (Passed n0 J Jx pre [] W) := by
  have HE := Lib.hid (fun nq : Nat => (have g1 : W.grownBy ((W.alloc (.cells #[.int .u64 p, .int .u64 q] 32)).drewN nq) none := grown_tr (World.grownBy_alloc W _ none) (grown_drewN _ nq) (by simp)
    ⟨true, rfl, .inl ⟨rfl, by simpa using hJ _ _ _ hJ0 g1, Kp.grown g1 hs⟩⟩ : Passed n0 J Jx pre [] W (.returned (.bool true)) ((W.alloc (.cells #[.int .u64 p, .int .u64 q] 32)).drewN nq)))
  have hp1 : PBox (W.alloc (.cells #[.int .u64 p, .int .u64 q] 32)) W.heap.size p q := World.alloc_heap_new W _
  obtain ⟨W1, hW1⟩ : ∃ W1, W.alloc (.cells #[.int .u64 p, .int .u64 q] 32) = W1 := ⟨_, rfl⟩
  have k1 : Kp n0 W W1 := by rw [← hW1]; exact Kp.grown (World.grownBy_alloc W _ none) hs
  rw [hW1] at hp1 HE
  obtain ⟨c0, c1, c2, c3, c4, c6, d0, d1⟩ := node_cells (hn.belowN k1.below hk) hk hp1 (Kp.refl _ _)
  have hd : decide (en ≤ p) = true := by simpa using he
  clear hJ0 hJ hp1 hn
  have k1 := Lib.hid k1
  go_enter Try.func52, Try.ntmps52
  go_upto_region 1 with fail
  try rw [hW1]
  clear hW1
  go_quiet (fail)
  go_wp2
  go_ret
  exact HE.out _
/-- Cells that the walk of a node reads. -/
def Reads (k g : Nat) (e : E) (pl pr : Option Addr) (en p q : Int) (w' : World) : Prop :=
  w'.cell? ⟨k, 0, none⟩ = some (.int .u64 e.a) ∧ w'.cell? ⟨k, 1, none⟩ = some (.int .u64 e.b) ∧ w'.cell? ⟨k, 2, none⟩ = some (.int .u64 e.n) ∧ w'.cell? ⟨k, 3, none⟩ = some (.pointer pl) ∧ w'.cell? ⟨k, 4, none⟩ = some (.pointer pr) ∧ w'.cell? ⟨k, 6, none⟩ = some (.int .u64 en) ∧ w'.cell? ⟨g, 0, none⟩ = some (.int .u64 p) ∧ w'.cell? ⟨g, 1, none⟩ = some (.int .u64 q)
set_option maxRecDepth 100000 in
set_option maxHeartbeats 1000000 in
/-- A node that is not skipped: what comes of its left, its own entry, its right. -/
theorem each_node (n0 N : Nat) (J Jx : List E → World → Prop) (hJ : ∀ s W W', J s W → W.grownBy W' none → J s W') (l : Nat) (hY : Rounds l n0 N J Jx) (p q : Int) (k : Nat) (e : E) (pl pr : Option Addr) (lv en : Int) (pre L R : List E) (nr : Nat) (W : World) (hs : n0 ≤ W.heap.size) (hJ0 : J pre W) (hn : NodeAt W k e pl pr lv en) (hk : k < n0) (he : ¬ en ≤ p)
    (hN : pre.length + L.length + 1 + nr ≤ N)
    (ihl : ∀ W', Kp n0 W W' → J pre W' → Calls Try.prog 52 #[.pointer pl, .agg #[.int .u64 p, .int .u64 q], .func (.yield l) #[] #[]] W' (Passed n0 J Jx pre L W'))
    (ihr : ∀ pre' W', Kp n0 W W' → pre'.length + nr ≤ N → J pre' W' → Calls Try.prog 52 #[.pointer pr, .agg #[.int .u64 p, .int .u64 q], .func (.yield l) #[] #[]] W' (Passed n0 J Jx pre' R W')) :
    Calls Try.prog 52 #[.pointer (some ⟨k, 0, none⟩), .agg #[.int .u64 p, .int .u64 q], .func (.yield l) #[] #[]] W (Passed n0 J Jx pre (L ++ (if q ≤ e.a then [] else (if p < e.b then [e] else []) ++ R)) W) := by
  have hp1 : PBox (W.alloc (.cells #[.int .u64 p, .int .u64 q] 32)) W.heap.size p q := World.alloc_heap_new W _
  obtain ⟨W1, hW1⟩ : ∃ W1, W.alloc (.cells #[.int .u64 p, .int .u64 q] 32) = W1 := ⟨_, rfl⟩
  have g1 : W.grownBy W1 none := by rw [← hW1]; exact World.grownBy_alloc W _ none
  have k1 : Kp n0 W W1 := Kp.grown g1 hs
  rw [hW1] at hp1
  have KC := Lib.hid (fun w' (h : Kp n0 W1 w') => (node_cells (hn.belowN k1.below hk) hk hp1 h : Reads k W.heap.size e pl pr en p q w'))
  have k1 := Lib.hid k1
  have J1 := Lib.hid (fun n => hJ _ _ _ hJ0 (grown_tr g1 (grown_drewN W1 n) (by simp)))
  obtain ⟨M, hM⟩ : ∃ M, L ++ (if q ≤ e.a then [] else (if p < e.b then [e] else []) ++ R) = M := ⟨_, rfl⟩
  rw [hM]
  have HM := Lib.hid hM
  clear hM
  have JD := Lib.hid hJ
  have HY := Lib.hid hY
  have HN := Lib.hid hN
  have IL := Lib.hid ihl
  have IR := Lib.hid ihr
  have hd : decide (en ≤ p) = false := by simpa using he
  clear hJ0 hJ hp1 hn hY g1 hk hs hN ihl ihr he
  obtain ⟨c0, c1, c2, c3, c4, c6, d0, d1⟩ := KC.out W1 (Kp.refl _ _)
  go_enter Try.func52, Try.ntmps52
  go_upto_region 1 with fail
  try rw [hW1]
  clear hW1
  go_quiet (fail)
  go_upto_region 3 with fail
  obtain ⟨V, hV⟩ : ∃ V, W1.drewN nq = V := ⟨_, rfl⟩
  have kv : Kp n0 W1 V.drew := by rw [← hV]; exact Kp.drew ⟨⟨rfl, rfl, rfl, Nat.le_refl _, fun _ _ => rfl⟩, fun _ _ h => h⟩
  have jv : J pre V.drew := by rw [← hV]; exact JD.out _ _ _ (J1.out nq) (grown_drew _)
  rw [hV]
  clear c0 c1 c2 c3 c4 c6 d0 d1 hd hV J1
  obtain ⟨c0, c1, c2, c3, c4, c6, d0, d1⟩ := KC.out _ kv
  have KV := Lib.hid kv
  have JV := Lib.hid jv
  clear kv jv
  go_cut [25] (fun t w' => Told t fun b => PassedB n0 J Jx pre L V.drew b w')
  case first =>
    go_region_with (first
      | (go_at_call 52; ((with_reducible refine Calls.mono (IL.out _ (k1.out.trans KV.out) JV.out) ?_); rintro e1 w1 ⟨b, rfl, hb⟩; have HB := Lib.hid hb; clear hb))
      | fail)
    all_goals (go_wp2; go_meet; exact ⟨_, rfl, HB.out⟩)
  case rest =>
    obtain ⟨b, rfl, hb⟩ := hcut
    clear c0 c1 c2 c3 c4 c6 d0 d1
    rcases hb with ⟨rfl, hJ2, hk2⟩ | ⟨rfl, s, hs, hJx⟩
    · have KW := Lib.hid (KV.out.trans hk2)
      have JW := Lib.hid hJ2
      clear hJ2 hk2 KV JV
      obtain ⟨c0, c1, c2, c3, c4, c6, d0, d1⟩ := KC.out _ KW.out
      go_upto_region 5 with fail
      by_cases hq : q ≤ e.a
      · have HX := Lib.hid (fun m => show Passed n0 J Jx pre M W (.returned (.bool true)) (wc.drewN m) from ⟨true, rfl, .inl ⟨rfl, by rw [← HM.out, if_pos hq, List.append_nil]; exact JD.out _ _ _ JW.out (grown_drewN _ m), (k1.out.trans KW.out).trans ⟨⟨rfl, rfl, rfl, Nat.le_refl _, fun _ _ => rfl⟩, fun _ _ h => h⟩⟩⟩)
        have hd : decide (q ≤ e.a) = true := by simpa using hq
        clear hq
        go_quiet (fail)
        go_wp2
        go_ret
        exact HX.out _
      · have hd : decide (q ≤ e.a) = false := by simpa using hq
        have HQ := Lib.hid hq
        clear hq
        go_quiet (fail)
        go_upto_region 7 with fail
        obtain ⟨X, hX⟩ : ∃ X, wc.drewN nq = X := ⟨_, rfl⟩
        have kx : Kp n0 W1 X := by rw [← hX]; exact KW.out.trans ⟨⟨rfl, rfl, rfl, Nat.le_refl _, fun _ _ => rfl⟩, fun _ _ h => h⟩
        have jx : J (pre ++ L) X := by rw [← hX]; exact JD.out _ _ _ JW.out (grown_drewN _ _)
        rw [hX]
        clear hX c0 c1 c2 c3 c4 c6 d0 d1 hd KW JW
        obtain ⟨c0, c1, c2, c3, c4, c6, d0, d1⟩ := KC.out _ kx
        have KX := Lib.hid kx
        have JX := Lib.hid jx
        clear kx jx
        obtain ⟨O, hO⟩ : ∃ O, (if p < e.b then [e] else []) = O := ⟨_, rfl⟩
        have HO := Lib.hid hO
        clear hO
        go_cut [52] (fun t w' => Told t fun b => PassedB n0 J Jx (pre ++ L) O X b w')
        case first =>
          by_cases hb : p < e.b
          · have hd : decide (p < e.b) = true := by simpa using hb
            have hy0 := HY.out 4 (pre ++ L) e X.drew (JD.out _ _ _ JX.out (grown_drew _)) (by have := HN.out; simp only [List.length_append]; omega)
            have hO : O = [e] := by rw [← HO.out, if_pos hb]
            have hy1 : YieldAt Fence.wide 4 Try.prog l #[entV e] X.drew fun e2 W' => ∃ b, e2 = .returned (.bool b) ∧ PassedB n0 J Jx (pre ++ L) O X b W' :=
              YieldAt.mono hy0 fun e2 W' h => h.elim (fun ⟨h1, h2, h3⟩ => ⟨true, h1, .inl ⟨rfl, by rw [hO]; exact h2, ⟨(Below.refl _ _).drew.trans h3.below, h3.per⟩⟩⟩) (fun ⟨h1, h2⟩ => ⟨false, h1, .inr ⟨rfl, [e], by rw [hO]; exact List.prefix_refl _, h2⟩⟩)
            clear hy0 hO hb
            refine (wpIn_wide (n := 5)).1 ?_
            obtain ⟨fn, tmps, assign, body, hy, hR⟩ := hy1
            clear HY HN IL IR KC JD k1 KX JX HM HQ HO; gi_region_with (first
              | ((try refine ⟨room_wide' _, ?_⟩); refine hR.mono ?_; clear hR; rintro e2 w2 ⟨b, rfl, h2⟩; have H2 := Lib.hid h2; clear h2)
              | fail)
            all_goals (
              go_wp2
              go_meet
              exact ⟨_, rfl, H2.out⟩)
          · have hd : decide (p < e.b) = false := by simpa using hb
            have HB := Lib.hid (fun m => show PassedB n0 J Jx (pre ++ L) O X true (X.drewN m) from .inl ⟨rfl, by rw [← HO.out, if_neg hb, List.append_nil]; exact JD.out _ _ _ JX.out (grown_drewN _ m), ⟨rfl, rfl, rfl, Nat.le_refl _, fun _ _ => rfl⟩, fun _ _ h => h⟩)
            clear hb
            go_quiet (fail)
            go_wp2
            go_meet
            exact ⟨true, rfl, HB.out _⟩
        case rest =>
          obtain ⟨b, rfl, hb⟩ := hcut
          clear c0 c1 c2 c3 c4 c6 d0 d1
          rcases hb with ⟨rfl, hJ2, hk2⟩ | ⟨rfl, s, hs, hJx⟩
          · have KY := Lib.hid (KX.out.trans hk2)
            have IY := Lib.hid (fun (V : World) (h : Kp n0 W1 V) (g : wc.grownBy V none) => IR.out (pre ++ L ++ O) V (k1.out.trans h) (by
              have := HN.out
              have : O.length ≤ 1 := by rw [← HO.out]; split <;> simp
              simp only [List.length_append]; omega) (JD.out _ _ _ hJ2 g))
            have HE := Lib.hid (fun (V V' : World) (b : Bool) (h : Kp n0 W1 V) (hp : PassedB n0 J Jx (pre ++ L ++ O) R V b V') => (show Passed n0 J Jx pre M W (.returned (.bool b)) V' from by
              have hm : M = L ++ O ++ R := by rw [← HM.out, if_neg HQ.out, HO.out, List.append_assoc]
              rcases hp with ⟨rfl, h1, h2⟩ | ⟨rfl, s, h1, h2⟩
              · exact ⟨true, rfl, .inl ⟨rfl, by rw [hm]; simpa [List.append_assoc] using h1, k1.out.trans (h.trans h2)⟩⟩
              · exact ⟨false, rfl, .inr ⟨rfl, L ++ O ++ s, by rw [hm]; exact (List.prefix_append_right_inj _).2 h1, by simpa [List.append_assoc] using h2⟩⟩))
            clear hJ2 hk2 KX JX
            obtain ⟨c0, c1, c2, c3, c4, c6, d0, d1⟩ := KC.out _ KY.out
            go_upto_region 9 with fail
            go_region_with (first
              | (go_at_call 52; ((with_reducible refine Calls.mono (IY.out _ KY.out.drew (grown_drew _)) ?_); rintro e1 w1 ⟨b, rfl, hb⟩; have HB := Lib.hid hb; clear hb))
              | fail)
            all_goals (
              have HF := Lib.hid (HE.out _ _ _ KY.out.drew HB.out)
              clear HB HE
              go_wp2
              go_ret
              exact HF.out)
          · have HX := Lib.hid (show Passed n0 J Jx pre M W (.returned (.bool false)) wc from ⟨false, rfl, .inr ⟨rfl, L ++ s, by rw [← HM.out, if_neg HQ.out, HO.out]; exact (List.prefix_append_right_inj _).2 (hs.trans (List.prefix_append _ _)), by simpa [List.append_assoc] using hJx⟩⟩)
            clear hs hJx
            go_wp2
            go_ret
            exact HX.out
    · have HX := Lib.hid (show Passed n0 J Jx pre M W (.returned (.bool false)) wc from ⟨false, rfl, .inr ⟨rfl, s, by rw [← HM.out]; exact hs.trans (List.prefix_append _ _), hJx⟩⟩)
      clear hs hJx
      go_wp2
      go_ret
      exact HX.out
/-- each, of any tree. -/
theorem each_any (n0 N : Nat) (J Jx : List E → World → Prop) (hJ : ∀ s W W', J s W → W.grownBy W' none → J s W') (l : Nat) (hY : Rounds l n0 N J Jx) (p q : Int) (t : T) :
    ∀ (pre : List E) (W : World), IsT W t → (∀ k ∈ bs t, k < n0) → n0 ≤ W.heap.size → J pre W → pre.length + sz t ≤ N →
      Calls Try.prog 52 #[.pointer (ptr t), .agg #[.int .u64 p, .int .u64 q], .func (.yield l) #[] #[]] W (Passed n0 J Jx pre (eachL p q t) W) := by
  induction t with
  | leaf => exact fun pre W _ _ hs hJ0 _ => each_leaf n0 J Jx hJ l p q pre W hs hJ0
  | node k e tl tr ih1 ih2 =>
    intro pre W ht hlt hs hJ0 hN
    rw [Itree.bs_node] at hlt
    rw [Itree.sz_node] at hN
    have hk := hlt k (by simp)
    have hl : ∀ k ∈ bs tl, k < n0 := fun x hx => hlt x (by simp [hx])
    have hr : ∀ k ∈ bs tr, k < n0 := fun x hx => hlt x (by simp [hx])
    have sub : ∀ t : T, (eachL p q t).length ≤ sz t := fun t => by
      induction t with
      | leaf => simp [eachL]
      | node k e l r i1 i2 =>
        unfold eachL
        rw [Itree.sz_node]
        split
        · simp
        · split
          · simp; omega
          · split <;> simp <;> omega
    have s1 := sub tl
    have s2 := sub tr
    unfold eachL
    split
    · rename_i he
      exact each_skip n0 J Jx hJ l p q k e (ptr tl) (ptr tr) _ _ pre W hs hJ0 ht.1 hk he
    · rename_i he
      exact each_node n0 N J Jx hJ l hY p q k e (ptr tl) (ptr tr) _ _ pre (eachL p q tl) (eachL p q tr) (sz tr) W hs hJ0 ht.1 hk he (by omega)
        (fun W' hk' hj => ih1 pre W' (ht.2.1.belowN hk'.below hl) hl (Nat.le_trans hs hk'.below.size) hj (by omega))
        (fun pre' W' hk' hp hj => ih2 pre' W' (ht.2.2.belowN hk'.below hr) hr (Nat.le_trans hs hk'.below.size) hj (by omega))
end Go.Proofs.Ytbifgmamjdniaaa
