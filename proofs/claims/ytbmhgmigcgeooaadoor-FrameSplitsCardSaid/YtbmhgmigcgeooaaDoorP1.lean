/- Bytes in memory, the table that package crc lays; what the walks of layer 4 share. -/
import Derived.Test.YtbmhgmigcgeooaaDoorProg
import Derived.Test.YtbmhgmigcgeooaaDoorM1
import Derived.WalkKit
import Derived.WalkSpells
import Derived.WalkLawsBesides
import Derived.Handy
import Derived.Lib.Hide
import Derived.Lib.ConvBytes
import Derived.Lib.Small
import Derived.Deep.RegionWith
import Derived.Deep.DeepFit
import Derived.Deep.DeepMust
import Derived.Deep.DeepCutAuto
import Derived.Deep.QuietTactic
import Derived.Deep.RegionHeld3
import Derived.Deep.AppendLies
import Derived.BigQuiet
import Derived.OwnWalk
import Derived.LoopTactic
import Derived.Maps.AppendAt
import Derived.Laws.MakeOwn
import Derived.Laws.BitsAllLaws
import Derived.Laws.Bits64
import Derived.Shelf.Bytes.SlEqualAll
namespace Go.Proofs.YtbmhgmigcgeooaaDoor
open Go.RowKit
theorem ret1 {k : IntKind} {a b : Int} (h : a = b) : Ending.returned (.int k a) = .returned (.int k b) := by rw [h]
theorem retv {a b : Value} (h : a = b) : Ending.returned a = .returned b := by rw [h]
theorem byte_ofNat (n : Nat) : (UInt8.ofNat n).toNat = n % 256 := by simp
/-- A byte in a cell; a row of bytes in cells. -/
def bv (b : UInt8) : Value := .int .u8 (b.toNat : Int)
def cellsB (l : List UInt8) : List Value := l.map bv
theorem cellsB_length (l : List UInt8) : (cellsB l).length = l.length := by simp [cellsB]
theorem cellsB_append (a b : List UInt8) : cellsB (a ++ b) = cellsB a ++ cellsB b := by simp [cellsB]
theorem cellsB_one (l : List UInt8) : ∀ u ∈ cellsB l, u.oneCell' = true := by
  intro u hu
  simp only [cellsB, List.mem_map] at hu
  obtain ⟨b, _, rfl⟩ := hu
  rfl
/-- Where the bytes of a slice lie. -/
def At (w : World) (A : Option Addr) (l : List UInt8) : Prop := 0 < l.length → ∃ b off, A = some ⟨b, off, none⟩ ∧ b < w.heap.size ∧ ∀ i, i < l.length → w.cell? ⟨b, off + i, none⟩ = some (bv (l.getD i 0))
theorem At.below {w w' : World} {A : Option Addr} {l : List UInt8} (h : At w A l) (hb : Below w.heap.size w w') : At w' A l := fun h0 => by
  obtain ⟨b, off, e, hl, hc⟩ := h h0
  have hs := hb.size
  exact ⟨b, off, e, by omega, fun i hi => (hb.cell (p := ⟨b, off + i, none⟩) hl).trans (hc i hi)⟩
theorem At.grown {w w' : World} {A : Option Addr} {l : List UInt8} {ad : Addr} (h : At w A l) (hg : w.grownBy w' none) (e : A = some ad) : At w' (some ad) l := by
  subst e
  exact h.below ((Below.refl _ _).grown hg (Nat.le_refl _) (by simp))
theorem add_plain (b off j : Nat) : (⟨b, off, none⟩ : Addr).add j = ⟨b, off + j, none⟩ := by unfold Addr.add; split <;> simp_all
theorem At.cells {w : World} {ad : Addr} {l : List UInt8} (h : At w (some ad) l) : ∀ j u, (cellsB l)[j]? = some u → w.cell? (ad.add j) = some u := by
  intro j u hu
  have hj : j < l.length := by
    rcases Nat.lt_or_ge j l.length with h1 | h1
    · exact h1
    · rw [List.getElem?_eq_none (by simpa [cellsB] using h1)] at hu; cases hu
  obtain ⟨b, off, e, _, hc⟩ := h (by omega)
  injection e with e
  subst e
  rw [add_plain, hc j hj, ← hu]
  simp [cellsB, List.getD, hj]
theorem at_nil (w : World) (A : Option Addr) : At w A [] := fun h => absurd h (Nat.lt_irrefl 0)
theorem At.none_nil {w : World} {l : List UInt8} (h : At w none l) : l = [] := by
  rcases Nat.eq_zero_or_pos l.length with e | e
  · exact List.eq_nil_of_length_eq_zero e
  · obtain ⟨b, off, h, _⟩ := h e; cases h
theorem at_new (w : World) (cs : Array Value) (l : List UInt8) (h : cs.toList = cellsB l) : At (w.alloc (.cells cs 5)) (some ⟨w.heap.size, 0, none⟩) l := by
  intro _
  refine ⟨w.heap.size, 0, rfl, by simp, fun i hi => ?_⟩
  rw [cell_of_row _ _ _ _ _ _ (heap_alloc_new w _)]
  rw [← Array.getElem?_toList, h]
  simp [cellsB, List.getD, hi]
theorem at_size {w : World} {s t : Nat} {l : List UInt8} (h : s = t) (hA : At w (some ⟨s, 0, none⟩) l) : At w (some ⟨t, 0, none⟩) l := by subst h; exact hA
theorem take_at {w : World} {A : Option Addr} {l : List UInt8} (k : Nat) (h : At w A l) : At w A (l.take k) := by
  intro h0
  rw [List.length_take] at h0
  obtain ⟨b, off, e, hl, hc⟩ := h (by omega)
  refine ⟨b, off, e, hl, fun i hi => ?_⟩
  rw [List.length_take] at hi
  rw [hc i (by omega)]
  congr 2
  rw [List.getD, List.getD, List.getElem?_take, if_pos (by omega)]
theorem drop_at {w : World} {b off : Nat} {l : List UInt8} (k : Nat) (h : At w (some ⟨b, off, none⟩) l) : At w (some ⟨b, off + k, none⟩) (l.drop k) := by
  intro h0
  rw [List.length_drop] at h0
  obtain ⟨b', off', e, hl, hc⟩ := h (by omega)
  injection e with e
  injection e with e1 e2
  subst e1 e2
  refine ⟨b, off + k, rfl, hl, fun i hi => ?_⟩
  rw [List.length_drop] at hi
  rw [Nat.add_assoc, hc (k + i) (by omega)]
  congr 2
  rw [List.getD, List.getD, List.getElem?_drop]
theorem own_at {w : World} {base n cap : Nat} {P : Option Addr} {acc : List UInt8} (h : w.ownsRow base 5 1 (.slice P n cap) n (cellsB acc)) : At w P acc := by
  intro h0
  have hl : acc.length = n := by have := h.1; rw [cellsB_length] at this; omega
  obtain ⟨g, cap', hv, hb, hlt⟩ := h.form (by omega)
  injection hv with hP
  subst hP
  refine ⟨g, 0, rfl, hlt, fun i hi => ?_⟩
  have hc := h.cells (g := g) rfl i (bv (acc.getD i 0)) (by simp [cellsB, List.getD, hi])
  rw [add_plain] at hc
  exact hc
theorem conv_text (w : World) (A : Option Addr) (l : List UInt8) (c : Nat) (hA : At w A l) : (convert 22 9 (.slice A l.length c)).run Tryd.prog w = .ok (.string ⟨l.toArray⟩) w := by
  cases A with
  | none =>
    obtain rfl := hA.none_nil
    exact run_convert_bytes_nil w _ _ Tryd.underlying22 Tryd.underlying5 _ _ _ Tryd.underlying9
  | some a =>
    refine run_convert_bytes_back w _ _ _ a c l Tryd.underlying22 Tryd.underlying5 Tryd.underlying9 (fun j hj => ?_)
    exact hA.cells j _ (by simp [cellsB, bv, hj])
theorem conv_text' (w : World) (A : Option Addr) (l : List UInt8) (n c : Nat) (hA : At w A l) (hn : l.length = n) : (convert 22 9 (.slice A n c)).run Tryd.prog w = .ok (.string ⟨l.toArray⟩) w := by
  subst hn
  exact conv_text w A l c hA
theorem info8 : (Tryd.prog.info? 5).map (fun i => (i.zero, i.size, i.bytes)) = some (some (.int .u8 0), 1, 1) := by kernel_rfl
theorem one_cell (k : IntKind) (x : Int) : ∀ u ∈ [Value.int k x], u.oneCell' = true := by simp [Value.oneCell']
theorem below_drewN' {B : Nat} {a w : World} (h : Below B a w) (n : Nat) : Below B a (w.drewN n) := ⟨h.os, h.tape, h.output, h.size, h.block⟩
theorem quiet_l {P : Program} {f : FuncId} {args : Array Value} {w : World} {n : Nat} {v : Value}
    (h : Calls P f args (w.drewN n) fun e w' => e = .returned v ∧ w.drewN n = w') : Calls P f args (w.drewN n) fun e w' => e = .returned v ∧ ∃ m, w' = w.drewN m :=
  h.mono fun _ _ h => ⟨h.1, n, h.2.symm⟩
theorem quiet_l2 {P : Program} {f : FuncId} {args : Array Value} {w : World} {a n : Nat} {v : Value}
    (h : Calls P f args (w.drewN (a + n)) fun e w' => e = .returned v ∧ w.drewN (a + n) = w') : Calls P f args (w.drewN (a + n)) fun e w' => e = .returned v ∧ ∃ m, w' = (w.drewN a).drewN m :=
  h.mono fun _ _ h => ⟨h.1, n, by rw [← h.2, World.drewN_drewN]⟩
/-- The table of four steps, as package crc lays it. -/
structure Env (w : World) : Prop where
  lt : 1 < w.heap.size
  cell : ∀ k, k < 16 → w.cell? ⟨1, k, none⟩ = some (.int .u32 (tab.getD k 0 : Nat))
theorem Env.below {w w' : World} (h : Env w) (hb : Below w.heap.size w w') : Env w' :=
  ⟨Nat.lt_of_lt_of_le h.lt hb.size, fun k hk => (hb.cell (p := ⟨1, k, none⟩) h.lt).trans (h.cell k hk)⟩
theorem Env.alloc {w : World} (h : Env w) (o : Obj) : Env (w.alloc o) := h.below ((Below.refl _ _).alloc (Nat.le_refl _) _)
theorem Env.drewN {w : World} (h : Env w) (n : Nat) : Env (w.drewN n) := h.below (below_drewN' (Below.refl _ _) n)
end Go.Proofs.YtbmhgmigcgeooaaDoor
