/- A table of 14 by 14 by 14 truths: how it lies, what is marked in it, and what the marks say of composing. -/
import Derived.Test.YtbdlmidkkdmkpaaQ3
import Derived.Test.YtbdlmidkkdmkpaaK1
import Derived.Deep.MidRow
import Derived.Deep.OwnRows
import Derived.Great.Walk
namespace Go.Proofs.Ytbdlmidkkdmkpaa
open Go.RowKit
theorem zeroA : Try.zeroCells70 = Array.replicate 2744 (.bool false) := by kernel_rfl
theorem sizeA : (Try.prog.info? 70).map (·.size) = some 2744 := by kernel_rfl
/-- The table lies in block b; marked is what S names. -/
def Tab (w : World) (b : Nat) (S : List Nat) : Prop := w.rowIs b 70 2744 fun o => .bool (S.contains o)
theorem Tab.new (w : World) (g : Nat) (h : w.heap.size = g) : Tab (w.alloc (.cells Try.zeroCells70 70)) g [] := by
  subst h
  have h := World.rowIs_alloc w (Array.replicate 2744 (.bool false)) 70 (fun o => .bool (([] : List Nat).contains o)) (fun i hi => by
    rw [Array.size_replicate] at hi
    simp [hi])
  rw [Array.size_replicate] at h
  rw [zeroA]
  exact h
theorem Tab.block {w w' : World} {b : Nat} {S : List Nat} (h : Tab w b S) (e : w'.heap[b]? = w.heap[b]?) : Tab w' b S := World.rowIs.of_block h e
theorem Tab.mark {w : World} {b : Nat} {S : List Nat} (h : Tab w b S) (o : Nat) : Tab (w.setCell ⟨b, o, none⟩ (.bool true)) b (S ++ [o]) := by
  refine World.rowIs.congr (World.rowIs.set h o (.bool true)) fun i _ => ?_
  by_cases e : i = o
  · subst e
    simp
  · simp [e]
/-- All but the table b is as it was in w5, of what was there then. -/
structure Inv (w w5 wr : World) (b : Nat) (S : List Nat) : Prop where
  bel : Below w.heap.size w wr
  keep : ∀ g, g < w5.heap.size → g ≠ b → wr.heap[g]? = w5.heap[g]?
  size : w5.heap.size ≤ wr.heap.size
  tab : Tab wr b S
theorem Inv.start {w w5 : World} {b : Nat} {S : List Nat} (h : Below w.heap.size w w5) (ht : Tab w5 b S) : Inv w w5 w5 b S := ⟨h, fun _ _ _ => rfl, Nat.le_refl _, ht⟩
theorem Inv.call {w w5 wr w' : World} {b : Nat} {S : List Nat} (h : Inv w w5 wr b S) (hb : Below wr.heap.size wr w') : Inv w w5 w' b S :=
  ⟨h.bel.trans (hb.mono h.bel.size), fun g hg hn => (hb.block g (Nat.lt_of_lt_of_le hg h.size)).trans (h.keep g hg hn), Nat.le_trans h.size hb.size, h.tab.block (hb.block b (World.rowIs.lt h.tab))⟩
theorem Inv.mark {w w5 wr : World} {b : Nat} {S : List Nat} (h : Inv w w5 wr b S) (hb : w.heap.size ≤ b) (o : Nat) : Inv w w5 (wr.setCell ⟨b, o, none⟩ (.bool true)) b (S ++ [o]) :=
  ⟨h.bel.setCell hb _, fun g hg hn => (Deep.blk_setCell_other wr ⟨b, o, none⟩ _ g hn).trans (h.keep g hg hn), by simpa using h.size, h.tab.mark o⟩
theorem Inv.cell {w w5 wr : World} {b : Nat} {S : List Nat} (h : Inv w w5 wr b S) {g : Nat} (hg : g < w5.heap.size) (hn : g ≠ b) (o : Nat) : wr.cell? ⟨g, o, none⟩ = w5.cell? ⟨g, o, none⟩ := by
  simp [World.cell?, h.keep g hg hn]
def rn (p q : Int × Int) : Nat := (rq p q).toNat
theorem rn_is (p q : Int × Int) : ((rn p q : Nat) : Int) = rq p q ∧ 1 ≤ rn p q ∧ rn p q ≤ 13 := by
  have h := relV_range p.1 p.2 q.1 q.2
  unfold rn
  change 1 ≤ rq p q ∧ rq p q ≤ 13 at h
  omega
def code (p q u : Int × Int) : Nat := rn p q * 196 + rn q u * 14 + rn p u
def rfRow (f k : Nat) : List (Int × Int) := (List.range k).map fun (j : Nat) => ((f : Int), ((f + 1 + j : Nat) : Int))
def rfAll (n : Nat) : List (Int × Int) := (List.range n).flatMap fun (f : Nat) => rfRow f (5 - f)
def RL : List (Int × Int) := rfAll 6
theorem rfRow_succ (f k : Nat) : rfRow f (k + 1) = rfRow f k ++ [((f : Int), ((f + 1 + k : Nat) : Int))] := by simp [rfRow, List.range_succ]
theorem rfAll_succ (n : Nat) : rfAll (n + 1) = rfAll n ++ rfRow n (5 - n) := by simp [rfAll, List.range_succ]
theorem rl_length : RL.length = 15 := by decide
theorem rl_pl (p : Int × Int) : p ∈ RL ↔ p ∈ PL := by
  have h1 : ∀ p ∈ RL, p ∈ PL := by decide
  have h2 : ∀ p ∈ PL, p ∈ RL := by decide
  exact ⟨h1 p, h2 p⟩
theorem rl_both {p q : Int × Int} (hp : p ∈ RL) (hq : q ∈ RL) : relR p.1 p.2 q.1 q.2 = ((rn p q : Nat) : Int) ∧ badE p.1 p.2 q.1 q.2 = 0 := by
  have m1 := pl_may ((rl_pl p).1 hp)
  have m2 := pl_may ((rl_pl q).1 hq)
  rw [(rn_is p q).1]
  exact rel_yes (by simp [bothB, m1, m2])
theorem rf_small (n k : Nat) (h : n < 6) (hk : k ≤ 5 - n) : (rfAll n ++ rfRow n k).length ≤ 1000 := by
  have h1 : ∀ n < 7, (rfAll n).length ≤ 20 := by decide
  have h2 := h1 n (by omega)
  simp only [List.length_append, rfRow, List.length_map, List.length_range]
  omega
def codes3 (p q : Int × Int) (us : List (Int × Int)) : List Nat := us.map (code p q)
def codes2 (p : Int × Int) (qs : List (Int × Int)) : List Nat := qs.flatMap fun q => codes3 p q RL
def codes1 (ps : List (Int × Int)) : List Nat := ps.flatMap fun p => codes2 p RL
theorem mem_codes (o : Nat) : o ∈ codes1 RL ↔ ∃ p q u, p ∈ PL ∧ q ∈ PL ∧ u ∈ PL ∧ code p q u = o := by
  simp only [codes1, codes2, codes3, List.mem_flatMap, List.mem_map, rl_pl]
  constructor
  · rintro ⟨p, hp, q, hq, u, hu, e⟩; exact ⟨p, q, u, hp, hq, hu, e⟩
  · rintro ⟨p, q, u, hp, hq, hu, e⟩; exact ⟨p, hp, q, hq, u, hu, e⟩
/-- What is marked is what can be composed. -/
theorem marked (r s t : Nat) (h1 : 1 ≤ r) (h2 : r ≤ 13) (h3 : 1 ≤ s) (h4 : s ≤ 13) (h5 : 1 ≤ t) (h6 : t ≤ 13) : (codes1 RL).contains (r * 196 + s * 14 + t) = (compL r s).contains (t : Int) := by
  rw [Bool.eq_iff_iff, List.contains_iff_mem, List.contains_iff_mem, mem_codes, comp_iff r s h1 h2 h3 h4]
  constructor
  · rintro ⟨p, q, u, hp, hq, hu, e⟩
    have k1 := rn_is p q
    have k2 := rn_is q u
    have k3 := rn_is p u
    unfold code at e
    exact ⟨p, q, u, hp, hq, hu, by omega, by omega, by omega⟩
  · rintro ⟨p, q, u, hp, hq, hu, e1, e2, e3⟩
    have k1 := rn_is p q
    have k2 := rn_is q u
    have k3 := rn_is p u
    refine ⟨p, q, u, hp, hq, hu, ?_⟩
    unfold code
    omega
theorem codes3_succ (p q : Int × Int) (k : Nat) (h : k < RL.length) : codes3 p q (RL.take (k + 1)) = codes3 p q (RL.take k) ++ [code p q RL[k]] := by
  rw [codes3, codes3, take_one _ _ h, List.map_append]; rfl
theorem codes2_succ (p : Int × Int) (j : Nat) (h : j < RL.length) : codes2 p (RL.take (j + 1)) = codes2 p (RL.take j) ++ codes3 p RL[j] RL := by
  rw [codes2, codes2, take_one _ _ h, List.flatMap_append]; simp
theorem codes1_succ (i : Nat) (h : i < RL.length) : codes1 (RL.take (i + 1)) = codes1 (RL.take i) ++ codes2 RL[i] RL := by
  rw [codes1, codes1, take_one _ _ h, List.flatMap_append]; simp
def cB (i j : Nat) (p : Int × Int) : List Nat := codes1 (RL.take i) ++ codes2 p (RL.take j)
def cA (i j k : Nat) (p q : Int × Int) : List Nat := cB i j p ++ codes3 p q (RL.take k)
theorem cB_zero (i : Nat) (p : Int × Int) : cB i 0 p = codes1 (RL.take i) := by simp [cB, codes2]
theorem cA_zero (i j : Nat) (p q : Int × Int) : cA i j 0 p q = cB i j p := by simp [cA, codes3]
theorem cA_succ {i j k : Nat} {p q u : Int × Int} (h : k < RL.length) (hu : RL[k] = u) : cA i j (k + 1) p q = cA i j k p q ++ [code p q u] := by
  subst hu; rw [cA, cA, codes3_succ p q k h, List.append_assoc]
theorem cA_full {i j : Nat} {p q : Int × Int} (h : j < RL.length) (hq : RL[j] = q) : cA i j 15 p q = cB i (j + 1) p := by
  subst hq; rw [cA, cB, cB, codes2_succ p j h, ← rl_length, List.take_length, List.append_assoc]
theorem cB_full {i : Nat} {p : Int × Int} (h : i < RL.length) (hp : RL[i] = p) : cB i 15 p = codes1 (RL.take (i + 1)) := by
  subst hp; rw [cB, codes1_succ i h, ← rl_length, List.take_length]
end Go.Proofs.Ytbdlmidkkdmkpaa
