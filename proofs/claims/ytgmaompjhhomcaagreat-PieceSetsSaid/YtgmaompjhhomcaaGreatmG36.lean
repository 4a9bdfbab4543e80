/- The library's SortFunc at this program: its contract, in plain words. -/
/- Sorting a slice of periods that the call owns. -/
import Derived.Shelf.SlSortCmp.NoneTotal
import Derived.Shelf.SlGeneric
import Derived.Ground.SlsfProg
import Derived.Test.YtgmaompjhhomcaaGreatProg
import Derived.Test.YtgmaompjhhomcaaGreatmJ1
namespace Go.Proofs.YtgmaompjhhomcaaGreat.Se
open Go.Shelf
def Tryz.sortP_ren : Go.Shelf.Ren := ⟨fun | 6 => 133 | 15 => 148 | 14 => 171 | 28 => 185 | 29 => 186 | 20 => 198 | 21 => 199 | 22 => 200 | 23 => 201 | 24 => 202 | 25 => 203 | 26 => 204 | 27 => 205 | 46 => 221 | 47 => 210 | 48 => 211 | 49 => 222 | 50 => 223 | 57 => 229 | n => n, fun | 22 => 29 | 24 => 25 | 25 => 157 | 3 => 3 | 39 => 175 | 0 => 0 | 53 => 197 | 55 => 23 | 4 => 4 | 46 => 190 | 45 => 189 | 50 => 155 | 5 => 5 | 9 => 9 | 66 => 212 | 70 => 216 | 76 => 222 | 77 => 223 | n => n, fun | n => n⟩
theorem Tryz.sortP : Go.Proofs.SlLaysF0.n6 Tryz.prog Tryz.sortP_ren := {
  mixed := by kernel_rfl
  f6 := ⟨Tryz.f133.name, by decide, Tryz.func133.trans (congrArg some (by kernel_rfl))⟩
  f14 := ⟨Tryz.f171.name, by decide, Tryz.func171.trans (congrArg some (by kernel_rfl))⟩
  f15 := Tryz.func148.trans (congrArg some (by kernel_rfl))
  f20 := ⟨Tryz.f198.name, by decide, Tryz.func198.trans (congrArg some (by kernel_rfl))⟩
  f21 := ⟨Tryz.f199.name, by decide, Tryz.func199.trans (congrArg some (by kernel_rfl))⟩
  f22 := ⟨Tryz.f200.name, by decide, Tryz.func200.trans (congrArg some (by kernel_rfl))⟩
  f23 := ⟨Tryz.f201.name, by decide, Tryz.func201.trans (congrArg some (by kernel_rfl))⟩
  f24 := ⟨Tryz.f202.name, by decide, Tryz.func202.trans (congrArg some (by kernel_rfl))⟩
  f25 := ⟨Tryz.f203.name, by decide, Tryz.func203.trans (congrArg some (by kernel_rfl))⟩
  f26 := ⟨Tryz.f204.name, by decide, Tryz.func204.trans (congrArg some (by kernel_rfl))⟩
  f27 := ⟨Tryz.f205.name, by decide, Tryz.func205.trans (congrArg some (by kernel_rfl))⟩
  f28 := Tryz.func185.trans (congrArg some (by kernel_rfl))
  f29 := Tryz.func186.trans (congrArg some (by kernel_rfl))
  f46 := ⟨Tryz.f221.name, by decide, Tryz.func221.trans (congrArg some (by kernel_rfl))⟩
  f47 := Tryz.func210.trans (congrArg some (by kernel_rfl))
  f48 := Tryz.func211.trans (congrArg some (by kernel_rfl))
  f49 := ⟨Tryz.f222.name, by decide, Tryz.func222.trans (congrArg some (by kernel_rfl))⟩
  f50 := ⟨Tryz.f223.name, by decide, Tryz.func223.trans (congrArg some (by kernel_rfl))⟩
  f57 := ⟨Tryz.f229.name, by decide, Tryz.func229.trans (congrArg some (by kernel_rfl))⟩
  t0 := Tryz.underlying0
  a0 := Tryz.isAgg0
  z0 := Tryz.sizeOf0
  v0 := Tryz.zeroValue0
  t3 := Tryz.underlying3
  a3 := Tryz.isAgg3
  z3 := Tryz.sizeOf3
  v3 := Tryz.zeroValue3
  t4 := Tryz.underlying4
  a4 := Tryz.isAgg4
  z4 := Tryz.sizeOf4
  v4 := Tryz.zeroValue4
  t5 := Tryz.underlying5
  a5 := Tryz.isAgg5
  z5 := Tryz.sizeOf5
  v5 := Tryz.zeroValue5
  t9 := Tryz.underlying9
  a9 := Tryz.isAgg9
  z9 := Tryz.sizeOf9
  v9 := Tryz.zeroValue9
  t22 := Tryz.underlying29
  a22 := Tryz.isAgg29
  z22 := Tryz.sizeOf29
  v22 := Tryz.zeroValue29
  t25 := Tryz.underlying157
  a25 := Tryz.isAgg157
  z25 := Tryz.sizeOf157
  v25 := Tryz.zeroValue157
  t39 := Tryz.underlying175
  a39 := Tryz.isAgg175
  z39 := Tryz.sizeOf175
  v39 := Tryz.zeroValue175
  t45 := Tryz.underlying189
  a45 := Tryz.isAgg189
  z45 := Tryz.sizeOf189
  v45 := Tryz.zeroValue189
  t46 := Tryz.underlying190
  a46 := Tryz.isAgg190
  z46 := Tryz.sizeOf190
  v46 := Tryz.zeroValue190
  t50 := Tryz.underlying155
  a50 := Tryz.isAgg155
  z50 := Tryz.sizeOf155
  v50 := Tryz.zeroValue155
  t53 := Tryz.underlying197
  a53 := Tryz.isAgg197
  z53 := Tryz.sizeOf197
  v53 := Tryz.zeroValue197
  t55 := Tryz.underlying23
  a55 := Tryz.isAgg23
  z55 := Tryz.sizeOf23
  v55 := Tryz.zeroValue23
  t66 := Tryz.underlying212
  a66 := Tryz.isAgg212
  z66 := Tryz.sizeOf212
  v66 := Tryz.zeroValue212
  t70 := Tryz.underlying216
  a70 := Tryz.isAgg216
  z70 := Tryz.sizeOf216
  v70 := Tryz.zeroValue216
  t76 := Tryz.underlying222
  a76 := Tryz.isAgg222
  z76 := Tryz.sizeOf222
  v76 := Tryz.zeroValue222
  t77 := Tryz.underlying223
  a77 := Tryz.isAgg223
  z77 := Tryz.sizeOf223
  v77 := Tryz.zeroValue223 }
end Go.Proofs.YtgmaompjhhomcaaGreat.Se

namespace Go.Proofs.YtgmaompjhhomcaaGreat.Se
open Go.RowKit Go.Sort Go.Shelf Go.Lib
/-- A period's two cells. -/
def encP (x : Int × Int) : List Value := [.int .u64 x.1, .int .u64 x.2]
abbrev cfP (x y : Int × Int) : Int := cmpP x.1 x.2 y.1 y.2
theorem cmpLaysP (blk off size : Nat) (w : World) : CmpLays Tryz.prog 118 #[] encP 2 cfP blk off size w := fun m os dk _ x y =>
  Compare_grew x.1 x.2 y.1 y.2 (sortWorldK encP 2 w blk off m dk os)
theorem cmpP_lt (a b c d : Int) : cmpP a b c d < 0 ↔ a < c ∨ (a = c ∧ b < d) := by
  unfold cmpP orI cmpI
  repeat' split
  all_goals omega
theorem ltP (x y : Int × Int) : ltOf cfP x y = decide (x.1 < y.1 ∨ (x.1 = y.1 ∧ x.2 < y.2)) := by
  unfold ltOf
  rw [decide_eq_decide]
  exact cmpP_lt _ _ _ _
theorem swoP : SWO (ltOf cfP) where
  irrefl x := by rw [ltP]; simp
  trans x y z h1 h2 := by rw [ltP] at *; simp at *; omega
  ntrans x y z h1 h2 := by rw [ltP] at *; simp at *; omega
theorem leP_eq : (fun x y : Int × Int => !(ltOf cfP) y x) = Iset.leP := by
  funext x y
  rw [ltP, Iset.leP, Bool.eq_iff_iff]
  simp
  omega
theorem flatP (L : List (Int × Int)) : flatK encP 2 L.toArray = (cellsP L).toArray := by
  refine ext_get! (by simp [cellsP_length]) fun t ht => ?_
  have ht' : t < L.length * 2 := by simpa using ht
  rw [get_flatK _ _ _ _ (by simpa using ht')]
  have hd : t / 2 < L.length := by omega
  have e := cellsP_get L (t / 2) hd
  have e1 : L.toArray[t / 2]! = L[t / 2] := by simp [hd]
  rw [e1]
  have hm : t % 2 = 0 ∨ t % 2 = 1 := by omega
  rcases hm with hm | hm
  · have ht2 : t / 2 * 2 = t := by omega
    rw [hm]
    rw [ht2] at e
    have e3 : (cellsP L).toArray[t]! = .int .u64 (L[t / 2].1) := by
      have hl : t < (cellsP L).length := by rw [cellsP_length]; exact ht'
      have := e.1
      rw [List.getElem?_eq_getElem hl] at this
      simp [hl, Option.some.inj this]
    rw [e3]
    rfl
  · have ht2 : t / 2 * 2 + 1 = t := by omega
    rw [hm]
    rw [ht2] at e
    have e3 : (cellsP L).toArray[t]! = .int .u64 (L[t / 2].2) := by
      have hl : t < (cellsP L).length := by rw [cellsP_length]; exact ht'
      have := e.2
      rw [List.getElem?_eq_getElem hl] at this
      simp [hl, Option.some.inj this]
    rw [e3]
    rfl
theorem holds_of_blockP {w : World} {g : Nat} {cur : Array Value} {e : TypeId} {F : List Value} (hb : w.heap[g]? = some (.cells cur e (0, 0))) (ht : cur.toList.take F.length = F) : Holds id w g 0 F.toArray := by
  intro j hj
  have hj' : j < F.length := by simpa using hj
  refine ⟨?_, by simp [World.frozen?, hb]⟩
  have h1 : (cur.toList.take F.length)[j]? = F[j]? := by rw [ht]
  rw [List.getElem?_take_of_lt hj'] at h1
  simp only [World.cell?, hb, Nat.zero_add]
  simp only [Option.isSome_none, Bool.false_eq_true, if_false]
  rw [← Array.getElem?_toList, h1]
  simp [hj']
theorem heap_sortedP {w : World} {g n : Nat} {os : Array Obj} {cur : Array Value} {e : TypeId} {fr : Nat × Nat} (d : Array Value) (hb : w.heap[g]? = some (.cells cur e fr)) :
    (grow (putRow id (Sort.ahead w n) g 0 d) os).heap[g]? = some (.cells (putCells id 0 d cur) e fr) := by
  have hg : g < w.heap.size := (Array.getElem?_eq_some_iff.1 hb).1
  rw [heap_grow_old _ _ (by simpa using hg)]
  simp [putRow, mapBlock, Sort.ahead, Array.getElem?_modify, hb, onCells]
theorem grownBy_sortedP {w : World} {g n : Nat} {os : Array Obj} (d : Array Value) : w.grownBy (grow (putRow id (Sort.ahead w n) g 0 d) os) (some g) := by
  refine ⟨rfl, rfl, rfl, by simp, fun k hk hne => ?_⟩
  rw [heap_grow_old _ _ (by simpa using hk)]
  have : g ≠ k := fun e => hne (by rw [e])
  simp [putRow, mapBlock, Sort.ahead, Array.getElem?_modify, this]
theorem take_putCellsP (cur : Array Value) (ts : List Value) (h : ts.length ≤ cur.size) : (putCells id 0 ts.toArray cur).toList.take ts.length = ts := by
  apply List.ext_getElem?
  intro j
  by_cases hj : j < ts.length
  · rw [List.getElem?_take_of_lt hj, Array.getElem?_toList]
    simp [putCells, hj, show j < cur.size by omega]
  · rw [List.getElem?_take_eq_none (by omega), List.getElem?_eq_none (by omega)]
theorem Sort_own (base : Nat) (v : Value) (L : List (Int × Int)) (w : World) (h : OwnP base w v L) (hbase : base ≤ w.heap.size) (hl : L.length ≤ 1000000000000) :
    Calls Tryz.prog 133 #[v, .func (.func 118) #[] #[]] w fun e w' => e = .returned (.tuple #[]) ∧ OwnP base w' v (L.mergeSort Iset.leP) ∧ Below base w w' := by
  have hlen : (L.mergeSort Iset.leP).length = L.length := List.length_mergeSort _
  rcases h.2 with ⟨rfl, h0⟩ | ⟨g, cap, cur, rfl, hg, hc, h1, h2, h3, h4⟩
  · obtain rfl := List.eq_nil_of_length_eq_zero h0
    refine (AnyF.slices_SortFunc_none Tryz.sortP none 0 _ w).mono fun _ _ h => ⟨h.1, ?_, h.2 ▸ Below.refl _ _⟩
    rw [h.2]
    simpa using OwnP.nil base w
  · have hF : cur.toList.take (cellsP L).length = cellsP L := by rw [cellsP_length]; exact h4
    have eg : ∀ args w, (callFunc 118 args).run Tryz.prog w = .ok (.enter 118 args) w := enters_of Tryz.func118 (by kernel_rfl) rfl
    have hsz : L.toArray.size < 4611686018427387904 := by rw [List.size_toArray]; omega
    have hH : HoldsK encP 2 w g 0 L.toArray := by
      unfold HoldsK
      rw [flatP]
      exact holds_of_blockP hc hF
    refine (AnyQ.slices_SortFunc_total Tryz.sortP 2 Tryz.isAgg25 Tryz.sizeOf25 encP (fun _ => rfl) (fun x v hv => by simp [encP] at hv; rcases hv with rfl | rfl <;> rfl) cfP swoP 118 #[] g 0 cap L.toArray w eg (cmpLaysP g 0 _ w) hH (Array.getElem?_eq_some_iff.1 hc).1 hsz (fun x y a b => by
      rw [ltP] at a b
      simp at a b
      exact Prod.ext (by omega) (by omega))).mono ?_
    rintro e w' ⟨rfl, n, os, rfl⟩
    rw [leP_eq]
    unfold sortWorldK putRowK
    rw [show (L.toArray).toList = L from rfl, flatP]
    have hcl : (cellsP (L.mergeSort Iset.leP)).length = (cellsP L).length := by rw [cellsP_length, cellsP_length, hlen]
    have hcs : (cellsP L).length ≤ cur.size := by rw [cellsP_length, h3]; omega
    refine ⟨rfl, ⟨by rw [cellsP_length], .inr ⟨g, cap, _, by rw [hlen], hg, heap_sortedP _ hc, by omega, h2, by simp [putCells, h3], ?_⟩⟩, (Below.refl _ _).grown (grownBy_sortedP _) hbase fun k hk => ?_⟩
    · rw [← cellsP_length]
      exact take_putCellsP cur _ (by omega)
    · injection hk with hk
      omega
end Go.Proofs.YtgmaompjhhomcaaGreat.Se

