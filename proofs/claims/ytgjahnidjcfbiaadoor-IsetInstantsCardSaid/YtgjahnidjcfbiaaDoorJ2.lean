/- Sorting a slice of periods that the call owns. -/
import Derived.Test.YtgjahnidjcfbiaaDoorLY
import Derived.Test.YtgjahnidjcfbiaaDoorJ1
import Derived.Shelf.SlSortCmp.NoneTotal
import Derived.Shelf.SlGeneric
import Derived.Ground.SlsfProg
namespace Go.Proofs.YtgjahnidjcfbiaaDoor
open Go.RowKit Go.Sort Go.Shelf Go.Lib
/-- A period's two cells. -/
def encP (x : Int × Int) : List Value := [.int .u64 x.1, .int .u64 x.2]
abbrev cfP (x y : Int × Int) : Int := cmpP x.1 x.2 y.1 y.2
theorem cmpLaysP (blk off size : Nat) (w : World) : CmpLays Tryd.prog 52 #[] encP 2 cfP blk off size w := fun m os dk _ x y =>
  Compare_grew x.1 x.2 y.1 y.2 (sortWorldK encP 2 w blk off m dk os)
theorem cmpP_lt (a b c d : Int) : cmpP a b c d < 0 ↔ a < c ∨ (a = c ∧ b < d) := by
  unfold cmpP orI cmpI
  repeat' split
  all_goals omega
theorem ltP (x y : Int × Int) : ltOf cfP x y = decide (x.1 < y.1 ∨ (x.1 = y.1 ∧ x.2 < y.2)) := by
  unfold ltOf
  rw [decide_eq_decide]
  exact cmpP_lt _ _ _ _
theorem swoP : SWO (ltOf cfP) where
  irrefl x := by rw [ltP]; simp
  trans x y z h1 h2 := by rw [ltP] at *; simp at *; omega
  ntrans x y z h1 h2 := by rw [ltP] at *; simp at *; omega
theorem leP_eq : (fun x y : Int × Int => !(ltOf cfP) y x) = Iset.leP := by
  funext x y
  rw [ltP, Iset.leP, Bool.eq_iff_iff]
  simp
  omega
theorem flatP (L : List (Int × Int)) : flatK encP 2 L.toArray = (cellsP L).toArray := by
  refine ext_get! (by simp [cellsP_length]) fun t ht => ?_
  have ht' : t < L.length * 2 := by simpa using ht
  rw [get_flatK _ _ _ _ (by simpa using ht')]
  have hd : t / 2 < L.length := by omega
  have e := cellsP_get L (t / 2) hd
  have e1 : L.toArray[t / 2]! = L[t / 2] := by simp [hd]
  rw [e1]
  have hm : t % 2 = 0 ∨ t % 2 = 1 := by omega
  rcases hm with hm | hm
  · have ht2 : t / 2 * 2 = t := by omega
    rw [hm]
    rw [ht2] at e
    have e3 : (cellsP L).toArray[t]! = .int .u64 (L[t / 2].1) := by
      have hl : t < (cellsP L).length := by rw [cellsP_length]; exact ht'
      have := e.1
      rw [List.getElem?_eq_getElem hl] at this
      simp [hl, Option.some.inj this]
    rw [e3]
    rfl
  · have ht2 : t / 2 * 2 + 1 = t := by omega
    rw [hm]
    rw [ht2] at e
    have e3 : (cellsP L).toArray[t]! = .int .u64 (L[t / 2].2) := by
      have hl : t < (cellsP L).length := by rw [cellsP_length]; exact ht'
      have := e.2
      rw [List.getElem?_eq_getElem hl] at this
      simp [hl, Option.some.inj this]
    rw [e3]
    rfl
theorem holds_of_blockP {w : World} {g : Nat} {cur : Array Value} {e : TypeId} {F : List Value} (hb : w.heap[g]? = some (.cells cur e (0, 0))) (ht : cur.toList.take F.length = F) : Holds id w g 0 F.toArray := by
  intro j hj
  have hj' : j < F.length := by simpa using hj
  refine ⟨?_, by simp [World.frozen?, hb]⟩
  have h1 : (cur.toList.take F.length)[j]? = F[j]? := by rw [ht]
  rw [List.getElem?_take_of_lt hj'] at h1
  simp only [World.cell?, hb, Nat.zero_add]
  simp only [Option.isSome_none, Bool.false_eq_true, if_false]
  rw [← Array.getElem?_toList, h1]
  simp [hj']
theorem heap_sortedP {w : World} {g n : Nat} {os : Array Obj} {cur : Array Value} {e : TypeId} {fr : Nat × Nat} (d : Array Value) (hb : w.heap[g]? = some (.cells cur e fr)) :
    (grow (putRow id (Sort.ahead w n) g 0 d) os).heap[g]? = some (.cells (putCells id 0 d cur) e fr) := by
  have hg : g < w.heap.size := (Array.getElem?_eq_some_iff.1 hb).1
  rw [heap_grow_old _ _ (by simpa using hg)]
  simp [putRow, mapBlock, Sort.ahead, Array.getElem?_modify, hb, onCells]
theorem grownBy_sortedP {w : World} {g n : Nat} {os : Array Obj} (d : Array Value) : w.grownBy (grow (putRow id (Sort.ahead w n) g 0 d) os) (some g) := by
  refine ⟨rfl, rfl, rfl, by simp, fun k hk hne => ?_⟩
  rw [heap_grow_old _ _ (by simpa using hk)]
  have : g ≠ k := fun e => hne (by rw [e])
  simp [putRow, mapBlock, Sort.ahead, Array.getElem?_modify, this]
theorem take_putCellsP (cur : Array Value) (ts : List Value) (h : ts.length ≤ cur.size) : (putCells id 0 ts.toArray cur).toList.take ts.length = ts := by
  apply List.ext_getElem?
  intro j
  by_cases hj : j < ts.length
  · rw [List.getElem?_take_of_lt hj, Array.getElem?_toList]
    simp [putCells, hj, show j < cur.size by omega]
  · rw [List.getElem?_take_eq_none (by omega), List.getElem?_eq_none (by omega)]
theorem Sort_own (base : Nat) (v : Value) (L : List (Int × Int)) (w : World) (h : OwnP base w v L) (hbase : base ≤ w.heap.size) (hl : L.length ≤ 1000000000000) :
    Calls Tryd.prog 51 #[v, .func (.func 52) #[] #[]] w fun e w' => e = .returned (.tuple #[]) ∧ OwnP base w' v (L.mergeSort Iset.leP) ∧ Below base w w' := by
  have hlen : (L.mergeSort Iset.leP).length = L.length := List.length_mergeSort _
  rcases h.2 with ⟨rfl, h0⟩ | ⟨g, cap, cur, rfl, hg, hc, h1, h2, h3, h4⟩
  · obtain rfl := List.eq_nil_of_length_eq_zero h0
    refine (AnyF.slices_SortFunc_none Tryd.sortP none 0 _ w).mono fun _ _ h => ⟨h.1, ?_, h.2 ▸ Below.refl _ _⟩
    rw [h.2]
    simpa using OwnP.nil base w
  · have hF : cur.toList.take (cellsP L).length = cellsP L := by rw [cellsP_length]; exact h4
    have eg : ∀ args w, (callFunc 52 args).run Tryd.prog w = .ok (.enter 52 args) w := enters_of Tryd.func52 (by kernel_rfl) rfl
    have hsz : L.toArray.size < 4611686018427387904 := by rw [List.size_toArray]; omega
    have hH : HoldsK encP 2 w g 0 L.toArray := by
      unfold HoldsK
      rw [flatP]
      exact holds_of_blockP hc hF
    refine (AnyQ.slices_SortFunc_total Tryd.sortP 2 Tryd.isAgg39 Tryd.sizeOf39 encP (fun _ => rfl) (fun x v hv => by simp [encP] at hv; rcases hv with rfl | rfl <;> rfl) cfP swoP 52 #[] g 0 cap L.toArray w eg (cmpLaysP g 0 _ w) hH (Array.getElem?_eq_some_iff.1 hc).1 hsz (fun x y a b => by
      rw [ltP] at a b
      simp at a b
      exact Prod.ext (by omega) (by omega))).mono ?_
    rintro e w' ⟨rfl, n, os, rfl⟩
    rw [leP_eq]
    unfold sortWorldK putRowK
    rw [show (L.toArray).toList = L from rfl, flatP]
    have hcl : (cellsP (L.mergeSort Iset.leP)).length = (cellsP L).length := by rw [cellsP_length, cellsP_length, hlen]
    have hcs : (cellsP L).length ≤ cur.size := by rw [cellsP_length, h3]; omega
    refine ⟨rfl, ⟨by rw [cellsP_length], .inr ⟨g, cap, _, by rw [hlen], hg, heap_sortedP _ hc, by omega, h2, by simp [putCells, h3], ?_⟩⟩, (Below.refl _ _).grown (grownBy_sortedP _) hbase fun k hk => ?_⟩
    · rw [← cellsP_length]
      exact take_putCellsP cur _ (by omega)
    · injection hk with hk
      omega
end Go.Proofs.YtgjahnidjcfbiaaDoor
