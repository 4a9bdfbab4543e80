/- The library's SortFunc at this program: its contract, in plain words. -/
/- Sorting a slice of periods that the call owns. -/
/- The periods that may be, in order; the normal form of a list. -/
/- The normal form of a list. -/
/- Slices of words; where a set begins and ceases. -/
import Derived.Shelf.SlSortCmp.NoneTotal
import Derived.Shelf.SlGeneric
import Derived.Ground.SlsfProg
import Derived.Test.YtmolpogehgeebaaGreatProg
import Derived.Test.YtmolpogehgeebaaGreatbJ1
import Derived.Laws.OwnMore
namespace Go.Proofs.YtmolpogehgeebaaGreat.Se
open Go.Shelf
def Tryz.sortP_ren : Go.Shelf.Ren := ⟨fun | 6 => 233 | 15 => 166 | 14 => 264 | 28 => 219 | 29 => 220 | 20 => 280 | 21 => 281 | 22 => 282 | 23 => 283 | 24 => 284 | 25 => 285 | 26 => 286 | 27 => 287 | 46 => 294 | 47 => 255 | 48 => 256 | 49 => 295 | 50 => 296 | 57 => 301 | n => n, fun | 22 => 23 | 24 => 33 | 25 => 278 | 3 => 3 | 39 => 229 | 0 => 0 | 53 => 272 | 55 => 22 | 4 => 4 | 46 => 265 | 45 => 264 | 50 => 234 | 5 => 5 | 9 => 9 | 66 => 293 | 70 => 296 | 76 => 309 | 77 => 310 | n => n, fun | n => n⟩
theorem Tryz.sortP : Go.Proofs.SlLaysF0.n6 Tryz.prog Tryz.sortP_ren := {
  mixed := by kernel_rfl
  f6 := ⟨Tryz.f233.name, by decide, Tryz.func233.trans (congrArg some (by kernel_rfl))⟩
  f14 := ⟨Tryz.f264.name, by decide, Tryz.func264.trans (congrArg some (by kernel_rfl))⟩
  f15 := Tryz.func166.trans (congrArg some (by kernel_rfl))
  f20 := ⟨Tryz.f280.name, by decide, Tryz.func280.trans (congrArg some (by kernel_rfl))⟩
  f21 := ⟨Tryz.f281.name, by decide, Tryz.func281.trans (congrArg some (by kernel_rfl))⟩
  f22 := ⟨Tryz.f282.name, by decide, Tryz.func282.trans (congrArg some (by kernel_rfl))⟩
  f23 := ⟨Tryz.f283.name, by decide, Tryz.func283.trans (congrArg some (by kernel_rfl))⟩
  f24 := ⟨Tryz.f284.name, by decide, Tryz.func284.trans (congrArg some (by kernel_rfl))⟩
  f25 := ⟨Tryz.f285.name, by decide, Tryz.func285.trans (congrArg some (by kernel_rfl))⟩
  f26 := ⟨Tryz.f286.name, by decide, Tryz.func286.trans (congrArg some (by kernel_rfl))⟩
  f27 := ⟨Tryz.f287.name, by decide, Tryz.func287.trans (congrArg some (by kernel_rfl))⟩
  f28 := Tryz.func219.trans (congrArg some (by kernel_rfl))
  f29 := Tryz.func220.trans (congrArg some (by kernel_rfl))
  f46 := ⟨Tryz.f294.name, by decide, Tryz.func294.trans (congrArg some (by kernel_rfl))⟩
  f47 := Tryz.func255.trans (congrArg some (by kernel_rfl))
  f48 := Tryz.func256.trans (congrArg some (by kernel_rfl))
  f49 := ⟨Tryz.f295.name, by decide, Tryz.func295.trans (congrArg some (by kernel_rfl))⟩
  f50 := ⟨Tryz.f296.name, by decide, Tryz.func296.trans (congrArg some (by kernel_rfl))⟩
  f57 := ⟨Tryz.f301.name, by decide, Tryz.func301.trans (congrArg some (by kernel_rfl))⟩
  t0 := Tryz.underlying0
  a0 := Tryz.isAgg0
  z0 := Tryz.sizeOf0
  v0 := Tryz.zeroValue0
  t3 := Tryz.underlying3
  a3 := Tryz.isAgg3
  z3 := Tryz.sizeOf3
  v3 := Tryz.zeroValue3
  t4 := Tryz.underlying4
  a4 := Tryz.isAgg4
  z4 := Tryz.sizeOf4
  v4 := Tryz.zeroValue4
  t5 := Tryz.underlying5
  a5 := Tryz.isAgg5
  z5 := Tryz.sizeOf5
  v5 := Tryz.zeroValue5
  t9 := Tryz.underlying9
  a9 := Tryz.isAgg9
  z9 := Tryz.sizeOf9
  v9 := Tryz.zeroValue9
  t22 := Tryz.underlying23
  a22 := Tryz.isAgg23
  z22 := Tryz.sizeOf23
  v22 := Tryz.zeroValue23
  t25 := Tryz.underlying278
  a25 := Tryz.isAgg278
  z25 := Tryz.sizeOf278
  v25 := Tryz.zeroValue278
  t39 := Tryz.underlying229
  a39 := Tryz.isAgg229
  z39 := Tryz.sizeOf229
  v39 := Tryz.zeroValue229
  t45 := Tryz.underlying264
  a45 := Tryz.isAgg264
  z45 := Tryz.sizeOf264
  v45 := Tryz.zeroValue264
  t46 := Tryz.underlying265
  a46 := Tryz.isAgg265
  z46 := Tryz.sizeOf265
  v46 := Tryz.zeroValue265
  t50 := Tryz.underlying234
  a50 := Tryz.isAgg234
  z50 := Tryz.sizeOf234
  v50 := Tryz.zeroValue234
  t53 := Tryz.underlying272
  a53 := Tryz.isAgg272
  z53 := Tryz.sizeOf272
  v53 := Tryz.zeroValue272
  t55 := Tryz.underlying22
  a55 := Tryz.isAgg22
  z55 := Tryz.sizeOf22
  v55 := Tryz.zeroValue22
  t66 := Tryz.underlying293
  a66 := Tryz.isAgg293
  z66 := Tryz.sizeOf293
  v66 := Tryz.zeroValue293
  t70 := Tryz.underlying296
  a70 := Tryz.isAgg296
  z70 := Tryz.sizeOf296
  v70 := Tryz.zeroValue296
  t76 := Tryz.underlying309
  a76 := Tryz.isAgg309
  z76 := Tryz.sizeOf309
  v76 := Tryz.zeroValue309
  t77 := Tryz.underlying310
  a77 := Tryz.isAgg310
  z77 := Tryz.sizeOf310
  v77 := Tryz.zeroValue310 }
end Go.Proofs.YtmolpogehgeebaaGreat.Se


namespace Go.Proofs.YtmolpogehgeebaaGreat.Se
open Go.RowKit Go.Sort Go.Shelf Go.Lib
/-- A period's two cells. -/
def encP (x : Int × Int) : List Value := [.int .u64 x.1, .int .u64 x.2]
abbrev cfP (x y : Int × Int) : Int := cmpP x.1 x.2 y.1 y.2
theorem cmpLaysP (blk off size : Nat) (w : World) : CmpLays Tryz.prog 234 #[] encP 2 cfP blk off size w := fun m os dk _ x y =>
  Compare_grew x.1 x.2 y.1 y.2 (sortWorldK encP 2 w blk off m dk os)
theorem cmpP_lt (a b c d : Int) : cmpP a b c d < 0 ↔ a < c ∨ (a = c ∧ b < d) := by
  unfold cmpP orI cmpI
  repeat' split
  all_goals omega
theorem ltP (x y : Int × Int) : ltOf cfP x y = decide (x.1 < y.1 ∨ (x.1 = y.1 ∧ x.2 < y.2)) := by
  unfold ltOf
  rw [decide_eq_decide]
  exact cmpP_lt _ _ _ _
theorem swoP : SWO (ltOf cfP) where
  irrefl x := by rw [ltP]; simp
  trans x y z h1 h2 := by rw [ltP] at *; simp at *; omega
  ntrans x y z h1 h2 := by rw [ltP] at *; simp at *; omega
theorem leP_eq : (fun x y : Int × Int => !(ltOf cfP) y x) = Iset.leP := by
  funext x y
  rw [ltP, Iset.leP, Bool.eq_iff_iff]
  simp
  omega
theorem flatP (L : List (Int × Int)) : flatK encP 2 L.toArray = (cellsP L).toArray := by
  refine ext_get! (by simp [cellsP_length]) fun t ht => ?_
  have ht' : t < L.length * 2 := by simpa using ht
  rw [get_flatK _ _ _ _ (by simpa using ht')]
  have hd : t / 2 < L.length := by omega
  have e := cellsP_get L (t / 2) hd
  have e1 : L.toArray[t / 2]! = L[t / 2] := by simp [hd]
  rw [e1]
  have hm : t % 2 = 0 ∨ t % 2 = 1 := by omega
  rcases hm with hm | hm
  · have ht2 : t / 2 * 2 = t := by omega
    rw [hm]
    rw [ht2] at e
    have e3 : (cellsP L).toArray[t]! = .int .u64 (L[t / 2].1) := by
      have hl : t < (cellsP L).length := by rw [cellsP_length]; exact ht'
      have := e.1
      rw [List.getElem?_eq_getElem hl] at this
      simp [hl, Option.some.inj this]
    rw [e3]
    rfl
  · have ht2 : t / 2 * 2 + 1 = t := by omega
    rw [hm]
    rw [ht2] at e
    have e3 : (cellsP L).toArray[t]! = .int .u64 (L[t / 2].2) := by
      have hl : t < (cellsP L).length := by rw [cellsP_length]; exact ht'
      have := e.2
      rw [List.getElem?_eq_getElem hl] at this
      simp [hl, Option.some.inj this]
    rw [e3]
    rfl
theorem holds_of_blockP {w : World} {g : Nat} {cur : Array Value} {e : TypeId} {F : List Value} (hb : w.heap[g]? = some (.cells cur e (0, 0))) (ht : cur.toList.take F.length = F) : Holds id w g 0 F.toArray := by
  intro j hj
  have hj' : j < F.length := by simpa using hj
  refine ⟨?_, by simp [World.frozen?, hb]⟩
  have h1 : (cur.toList.take F.length)[j]? = F[j]? := by rw [ht]
  rw [List.getElem?_take_of_lt hj'] at h1
  simp only [World.cell?, hb, Nat.zero_add]
  simp only [Option.isSome_none, Bool.false_eq_true, if_false]
  rw [← Array.getElem?_toList, h1]
  simp [hj']
theorem heap_sortedP {w : World} {g n : Nat} {os : Array Obj} {cur : Array Value} {e : TypeId} {fr : Nat × Nat} (d : Array Value) (hb : w.heap[g]? = some (.cells cur e fr)) :
    (grow (putRow id (Sort.ahead w n) g 0 d) os).heap[g]? = some (.cells (putCells id 0 d cur) e fr) := by
  have hg : g < w.heap.size := (Array.getElem?_eq_some_iff.1 hb).1
  rw [heap_grow_old _ _ (by simpa using hg)]
  simp [putRow, mapBlock, Sort.ahead, Array.getElem?_modify, hb, onCells]
theorem grownBy_sortedP {w : World} {g n : Nat} {os : Array Obj} (d : Array Value) : w.grownBy (grow (putRow id (Sort.ahead w n) g 0 d) os) (some g) := by
  refine ⟨rfl, rfl, rfl, by simp, fun k hk hne => ?_⟩
  rw [heap_grow_old _ _ (by simpa using hk)]
  have : g ≠ k := fun e => hne (by rw [e])
  simp [putRow, mapBlock, Sort.ahead, Array.getElem?_modify, this]
theorem take_putCellsP (cur : Array Value) (ts : List Value) (h : ts.length ≤ cur.size) : (putCells id 0 ts.toArray cur).toList.take ts.length = ts := by
  apply List.ext_getElem?
  intro j
  by_cases hj : j < ts.length
  · rw [List.getElem?_take_of_lt hj, Array.getElem?_toList]
    simp [putCells, hj, show j < cur.size by omega]
  · rw [List.getElem?_take_eq_none (by omega), List.getElem?_eq_none (by omega)]
theorem Sort_own (base : Nat) (v : Value) (L : List (Int × Int)) (w : World) (h : OwnP base w v L) (hbase : base ≤ w.heap.size) (hl : L.length ≤ 1000000000000) :
    Calls Tryz.prog 233 #[v, .func (.func 234) #[] #[]] w fun e w' => e = .returned (.tuple #[]) ∧ OwnP base w' v (L.mergeSort Iset.leP) ∧ Below base w w' := by
  have hlen : (L.mergeSort Iset.leP).length = L.length := List.length_mergeSort _
  rcases h.2 with ⟨rfl, h0⟩ | ⟨g, cap, cur, rfl, hg, hc, h1, h2, h3, h4⟩
  · obtain rfl := List.eq_nil_of_length_eq_zero h0
    refine (AnyF.slices_SortFunc_none Tryz.sortP none 0 _ w).mono fun _ _ h => ⟨h.1, ?_, h.2 ▸ Below.refl _ _⟩
    rw [h.2]
    simpa using OwnP.nil base w
  · have hF : cur.toList.take (cellsP L).length = cellsP L := by rw [cellsP_length]; exact h4
    have eg : ∀ args w, (callFunc 234 args).run Tryz.prog w = .ok (.enter 234 args) w := enters_of Tryz.func234 (by kernel_rfl) rfl
    have hsz : L.toArray.size < 4611686018427387904 := by rw [List.size_toArray]; omega
    have hH : HoldsK encP 2 w g 0 L.toArray := by
      unfold HoldsK
      rw [flatP]
      exact holds_of_blockP hc hF
    refine (AnyQ.slices_SortFunc_total Tryz.sortP 2 Tryz.isAgg33 Tryz.sizeOf33 encP (fun _ => rfl) (fun x v hv => by simp [encP] at hv; rcases hv with rfl | rfl <;> rfl) cfP swoP 234 #[] g 0 cap L.toArray w eg (cmpLaysP g 0 _ w) hH (Array.getElem?_eq_some_iff.1 hc).1 hsz (fun x y a b => by
      rw [ltP] at a b
      simp at a b
      exact Prod.ext (by omega) (by omega))).mono ?_
    rintro e w' ⟨rfl, n, os, rfl⟩
    rw [leP_eq]
    unfold sortWorldK putRowK
    rw [show (L.toArray).toList = L from rfl, flatP]
    have hcl : (cellsP (L.mergeSort Iset.leP)).length = (cellsP L).length := by rw [cellsP_length, cellsP_length, hlen]
    have hcs : (cellsP L).length ≤ cur.size := by rw [cellsP_length, h3]; omega
    refine ⟨rfl, ⟨by rw [cellsP_length], .inr ⟨g, cap, _, by rw [hlen], hg, heap_sortedP _ hc, by omega, h2, by simp [putCells, h3], ?_⟩⟩, (Below.refl _ _).grown (grownBy_sortedP _) hbase fun k hk => ?_⟩
    · rw [← cellsP_length]
      exact take_putCellsP cur _ (by omega)
    · injection hk with hk
      omega
end Go.Proofs.YtmolpogehgeebaaGreat.Se


namespace Go.Proofs.YtmolpogehgeebaaGreat.Se
open Go.RowKit
open Iset (mayP sortV nf step)
theorem take_may (L : List (Int × Int)) (k : Nat) (h : k < L.length) : (L.take (k + 1)).filter mayP = if mayB (L[k].1) (L[k].2) = true then (L.take k).filter mayP ++ [(L[k].1, L[k].2)] else (L.take k).filter mayP := by
  rw [List.take_succ_eq_append_getElem h, List.filter_append]
  have e : mayB (L[k].1) (L[k].2) = mayP L[k] := rfl
  rw [e]
  by_cases hm : mayP L[k] = true <;> simp [hm]
set_option maxRecDepth 100000 in
set_option maxHeartbeats 2000000 in
theorem sorted_any (v : Value) (L : List (Int × Int)) (w : World) (hv : IsP w v L) (hl : L.length ≤ 1000000000000) :
    Calls Tryz.prog 184 #[v] w fun e w' => ∃ v', e = .returned v' ∧ OwnP w.heap.size w' v' (sortV L) ∧ Below w.heap.size w w' := by
  obtain ⟨A, c, rfl, hA⟩ := hv
  have HA := Lib.hid hA
  have HM := Lib.hid May_any
  have HS := Lib.hid (Sort_own w.heap.size)
  have HT := Lib.hid (take_may L)
  clear hA
  go_enter Tryz.func184, Tryz.ntmps184
  go_wp2
  go_loopw [3, 8] (fun v i wr => ∃ k : Nat, k ≤ L.length ∧ i = .int .i64 k ∧ OwnP w.heap.size wr v ((L.take k).filter mayP) ∧ Below w.heap.size w wr) (fun _ i _ => L.length - (intOf i).toNat)
  case atStart => exact ⟨0, by omega, rfl, OwnP.nil _ _, Below.refl _ _⟩
  case round =>
    obtain ⟨k, hk, rfl, ho, hb⟩ := hrel
    have hlen : ((L.take k).filter mayP).length ≤ L.length := by have h1 := List.length_filter_le mayP (L.take k); rw [List.length_take] at h1; omega
    have HO := Lib.hid ho
    have HB := Lib.hid hb
    clear ho hb
    by_cases hlt : k < L.length
    · obtain ⟨b, off, rfl, hbl, hc⟩ := (PAt.below HA.out HB.out) (by omega)
      obtain ⟨c0, c1⟩ := hc k hlt
      clear hc
      have HK := Lib.hid (HT.out k hlt)
      generalize L[k].1 = p at *
      generalize L[k].2 = q at *
      have hs := HB.out.size
      have X0 := Lib.hid (box_at wr p q 33 wr.heap.size rfl)
      cases hm : mayB p q
      · have HM1 := Lib.hid (hm ▸ HM.out p q)
        rw [hm] at HK
        have HK2 := Lib.hid (show List.filter mayP (L.take (k + 1)) = List.filter mayP (L.take k) by rw [HK.out]; rfl)
        clear HK hm
        obtain ⟨x0, x1, x2, x3⟩ := X0.out
        go_wp2_with (go_at_call 95; ((with_reducible refine (HM1.out _).mono ?_); rintro e w1 ⟨rfl, hb1⟩))
        exact ⟨⟨k + 1, by omega, by go_num, by rw [HK2.out]; exact (HO.out.alloc _).below hb1, (HB.out.alloc hs _).trans (hb1.mono (by simp; omega))⟩, by simp [intOf]; omega⟩
      · have HM1 := Lib.hid (hm ▸ HM.out p q)
        rw [hm] at HK
        have HK2 := Lib.hid (show List.filter mayP (L.take (k + 1)) = List.filter mayP (L.take k) ++ [(p, q)] by rw [HK.out]; rfl)
        clear HK hm
        obtain ⟨x0, x1, x2, x3⟩ := X0.out
        go_wp2_with fail
        refine (HM1.out _).mono ?_
        rintro e w1 ⟨rfl, hb1⟩
        have X1 := Lib.hid (X0.out.below hb1)
        have HO1 := Lib.hid ((HO.out.alloc (.cells #[.int .u64 p, .int .u64 q] 33)).below hb1)
        have HB1 := Lib.hid ((HB.out.alloc hs (.cells #[.int .u64 p, .int .u64 q] 33)).trans (hb1.mono (by simp; omega)))
        clear hb1 x0 x1 x2 x3
        have hs1 := HB1.out.size
        obtain ⟨x0, x1, x2, x3⟩ := X1.out
        go_wp2_with (at_builtin; refine wpList_appP rfl (.tmp 14) (.tmp 16) rfl w.heap.size _ (List.filter mayP (L.take k)) rfl (HO1.out.alloc _) w1.heap.size p q rfl (by go_simp) (by go_simp) (by omega) (by simp; omega) ?_; intro v2 w2 ho2 hb2 _; have HO2 := Lib.hid ho2; have HB2 := Lib.hid ((HB1.out.alloc hs1 (.cells #[.int .u64 p, .int .u64 q] 33)).trans hb2); clear ho2 hb2)
        exact ⟨⟨k + 1, by omega, by go_num, by rw [HK2.out]; exact HO2.out, HB2.out⟩, by simp [intOf]; omega⟩
    · obtain rfl : k = L.length := by omega
      rw [List.take_length] at HO hlen
      have hs := HB.out.size
      go_wp2_with fail
      refine (HS.out _ _ _ HO.out hs (by omega)).mono ?_
      rintro e w1 ⟨rfl, ho1, hb1⟩
      go_wp2
      go_ret
      exact ⟨_, rfl, ho1, HB.out.trans hb1⟩
/-- What the call owns: its block. -/
theorem OwnP.form {base : Nat} {w : World} {v : Value} {L : List (Int × Int)} (h : OwnP base w v L) (hn : 0 < L.length) : ∃ g c, v = .slice (some ⟨g, 0, none⟩) L.length c ∧ base ≤ g ∧ g < w.heap.size ∧ (∀ o, w.frozen? ⟨g, o, none⟩ = false) ∧ ∀ i (h : i < L.length), w.cell? ⟨g, i * 2, none⟩ = some (.int .u64 (L[i].1)) ∧ w.cell? ⟨g, i * 2 + 1, none⟩ = some (.int .u64 (L[i].2)) := by
  have h' := h
  rcases h.2 with ⟨rfl, h0⟩ | ⟨g, cap, cur, rfl, hg, hb, h1, h2, h3, h4⟩
  · omega
  · obtain ⟨A, c, e, k⟩ := h'.at
    obtain ⟨b, off, rfl, hl, hc⟩ := k hn
    injection e with e1 e2 e3
    injection e1 with e1
    injection e1 with e4 e5 e6
    subst e4 e5
    refine ⟨g, cap, rfl, hg, hl, fun o => by simp [World.frozen?, hb], fun i hi => ?_⟩
    have := hc i hi
    rw [Nat.zero_add] at this
    exact this
theorem cellsP_set (s : List (Int × Int)) (q : Int × Int) (z : Int) : (cellsP (s ++ [q])).set (s.length * 2 + 1) (.int .u64 z) = cellsP (s ++ [(q.1, z)]) := by
  rw [cellsP_append, cellsP_append, List.set_append_right _ _ (by rw [cellsP_length]; omega), cellsP_length, show s.length * 2 + 1 - s.length * 2 = 1 by omega]
  rfl
/-- The To of the last one, stored. -/
theorem OwnP.stored {base g c : Nat} {w : World} {s : List (Int × Int)} {q : Int × Int} (h : OwnP base w (.slice (some ⟨g, 0, none⟩) (s.length + 1) c) (s ++ [q])) (z : Int) :
    OwnP base (w.setCell ⟨g, s.length * 2 + 1, none⟩ (.int .u64 z)) (.slice (some ⟨g, 0, none⟩) (s.length + 1) c) (s ++ [(q.1, z)]) := by
  unfold OwnP at *
  rw [List.length_append] at *
  have := World.ownsRow.stored h (s.length * 2 + 1) (.int .u64 z)
  rw [cellsP_set] at this
  exact this.1
end Go.Proofs.YtmolpogehgeebaaGreat.Se


namespace Go.Proofs.YtmolpogehgeebaaGreat.Se
open Go.RowKit
open Iset (mayP sortV nf)
theorem OwnP.mono {base base' : Nat} {w : World} {v : Value} {L : List (Int × Int)} (h : OwnP base w v L) (hb : base' ≤ base) : OwnP base' w v L := by
  refine ⟨h.1, ?_⟩
  rcases h.2 with h0 | ⟨g, cap, cur, e, hg, hc, h1, h2, h3, h4⟩
  · exact .inl h0
  · exact .inr ⟨g, cap, cur, e, by omega, hc, h1, h2, h3, h4⟩
theorem bel_drewN {B : Nat} {a w : World} (n : Nat) (h : Below B a w) : Below B a (w.drewN n) := ⟨h.os, h.tape, h.output, h.size, h.block⟩
theorem fold_take (V : List (Int × Int)) (k : Nat) (h : k < V.length) : (V.take (k + 1)).foldl Iset.step [] = Iset.step ((V.take k).foldl Iset.step []) (V[k].1, V[k].2) := by
  rw [List.take_succ_eq_append_getElem h, List.foldl_append]
  rfl
theorem step_length (s : List (Int × Int)) (p : Int × Int) : (Iset.step s p).length ≤ s.length + 1 := by
  rcases Iset.nil_or_snoc s with rfl | ⟨s, q, rfl⟩
  · simp [Iset.step_nil]
  · rw [Iset.step_snoc]
    split
    · simp
    · split <;> simp
theorem fold_length (V : List (Int × Int)) : ∀ (s : List (Int × Int)), (V.foldl Iset.step s).length ≤ s.length + V.length := by
  induction V with
  | nil => intro s; simp
  | cons p V ih =>
    intro s
    have h1 := ih (Iset.step s p)
    have h2 := step_length s p
    simp only [List.foldl_cons, List.length_cons]
    omega
set_option maxRecDepth 100000 in
set_option maxHeartbeats 4000000 in
theorem Of_any (v : Value) (L : List (Int × Int)) (w : World) (hv : IsP w v L) (hl : L.length ≤ 1000000000000) :
    Calls Tryz.prog 121 #[v] w fun e w' => ∃ v', e = .returned v' ∧ OwnP w.heap.size w' v' (nf L) ∧ Below w.heap.size w w' := by
  have hvl := Iset.sortV_length L
  have HS := Lib.hid (sorted_any v L w hv hl)
  have HN := Lib.hid (show nf L = (sortV L).foldl Iset.step [] from rfl)
  generalize sortV L = V at *
  have HT := Lib.hid (fold_take V)
  have HL := Lib.hid (fold_length)
  clear hv
  go_enter Tryz.func121, Tryz.ntmps121
  go_wp2_with fail
  go_step3
  go_wp2_with fail
  go_step3
  go_wp2_with fail
  refine (HS.out).mono ?_
  rintro e w1 ⟨v1, rfl, ho1, hb1⟩
  obtain ⟨A, c, rfl, hA⟩ := ho1.at
  have HA := Lib.hid hA
  have HB1 := Lib.hid hb1
  clear ho1 hA hb1
  go_wp2
  go_loopw [3, 10] (fun u i wr => ∃ k : Nat, k ≤ V.length ∧ i = .int .i64 k ∧ OwnP w1.heap.size wr u ((V.take k).foldl Iset.step []) ∧ Below w1.heap.size w1 wr) (fun _ i _ => V.length - (intOf i).toNat)
  case atStart => exact ⟨0, by omega, rfl, OwnP.nil _ _, Below.refl _ _⟩
  case round =>
    obtain ⟨k, hk, rfl, ho, hb⟩ := hrel
    by_cases hlt : k < V.length
    · have hlen := HL.out (V.take k) []
      rw [List.length_nil, List.length_take] at hlen
      have HK := Lib.hid (HT.out k hlt)
      generalize (V.take k).foldl Iset.step [] = s at *
      obtain ⟨b, off, rfl, hbl, hc⟩ := (PAt.below HA.out hb) (by omega)
      obtain ⟨c0, c1⟩ := hc k hlt
      clear hc
      generalize V[k].1 = p at *
      generalize V[k].2 = q at *
      have hs := hb.size
      have HO := Lib.hid ho
      have HB := Lib.hid hb
      clear ho hb
      go_upto_region 5 with fail
      obtain ⟨W, hW⟩ : ∃ W, wr.alloc (.cells #[.int .u64 p, .int .u64 q] 33) = W := ⟨_, rfl⟩
      have X0 := Lib.hid (show Box W wr.heap.size p q by rw [← hW]; exact box_at wr p q _ _ rfl)
      have HO1 := Lib.hid (show OwnP w1.heap.size W u3 s by rw [← hW]; exact HO.out.alloc _)
      have HB2 := Lib.hid (show Below w1.heap.size w1 W by rw [← hW]; exact HB.out.alloc hs _)
      rw [hW]
      clear hW HO HB
      have hsW := HB2.out.size
      obtain ⟨x0, x1, x2, x3⟩ := X0.out
      rcases Iset.nil_or_snoc s with rfl | ⟨s, z, rfl⟩
      · rw [Iset.step_nil] at HK
        obtain ⟨A2, c2, rfl, _⟩ := HO1.out.at
        rw [List.length_nil] at HO1 ⊢
        go_upto_region 7 with fail
        go_quiet (fail)
        have X1 := Lib.hid (X0.out.below (bel_drewN nq (Below.refl _ _)))
        have HO2 := Lib.hid (HO1.out.below (bel_drewN nq (Below.refl _ _)))
        have HB3 := Lib.hid (bel_drewN nq HB2.out)
        clear x0 x1 x2 x3
        generalize W.drewN nq = W at *
        obtain ⟨x0, x1, x2, x3⟩ := X1.out
        have hsW := HB3.out.size
        go_wp2_with (at_builtin; refine wpList_appP rfl (.tmp 36) (.tmp 38) rfl w1.heap.size _ [] rfl (HO2.out.alloc _) W.heap.size p q rfl (by go_simp) (by go_simp) (by simp) (by simp; omega) ?_; intro v2 w2 ho2 hb2 _; have HO3 := Lib.hid ho2; have HB4 := Lib.hid ((HB3.out.alloc hsW (.cells #[.int .u64 p, .int .u64 q] 33)).trans hb2); clear ho2 hb2)
        exact ⟨⟨k + 1, by omega, by go_num, by rw [HK.out]; exact HO3.out, HB4.out⟩, by simp [intOf]; omega⟩
      · rw [Iset.step_snoc] at HK
        have hn : (s ++ [z]).length = s.length + 1 := by simp
        have hsl : s.length + 1 ≤ 1000000000000 := by rw [← hn]; omega
        obtain ⟨g, c2, rfl, hg1, hg2, hfr, hcl⟩ := HO1.out.form (by omega)
        have hz := hcl s.length (by omega)
        have ez : (s ++ [z])[s.length]'(by omega) = z := by simp
        rw [ez] at hz
        obtain ⟨z1, z2⟩ := hz
        rw [hn] at HO1 ⊢
        clear hcl ez hn hlen
        have hneg : ¬ (s.length : Int) < 0 := by omega
        go_upto_region 7 with fail
        by_cases t1 : z.2 < p
        · rw [if_pos t1] at HK
          have HK2 := Lib.hid HK.out
          clear HK
          go_quiet (fail)
          have X1 := Lib.hid (X0.out.below (bel_drewN nq (Below.refl _ _)))
          have HO2 := Lib.hid (HO1.out.below (bel_drewN nq (Below.refl _ _)))
          have HB3 := Lib.hid (bel_drewN nq HB2.out)
          clear x0 x1 x2 x3 z1 z2 hfr
          generalize W.drewN nq = W at *
          obtain ⟨x0, x1, x2, x3⟩ := X1.out
          have hsW := HB3.out.size
          go_wp2_with (at_builtin; refine wpList_appP rfl (.tmp 36) (.tmp 38) rfl w1.heap.size _ (s ++ [z]) rfl (HO2.out.alloc _) W.heap.size p q rfl (by go_simp) (by go_simp) (by simp; omega) (by simp; omega) ?_; intro v2 w2 ho2 hb2 _; have HO3 := Lib.hid ho2; have HB4 := Lib.hid ((HB3.out.alloc hsW (.cells #[.int .u64 p, .int .u64 q] 33)).trans hb2); clear ho2 hb2)
          exact ⟨⟨k + 1, by omega, by go_num, by rw [HK2.out]; exact HO3.out, HB4.out⟩, by simp [intOf]; omega⟩
        · rw [if_neg t1] at HK
          have t1' : decide (z.2 < p) = false := by simpa using t1
          go_quiet (fail)
          have X1 := Lib.hid (X0.out.below (bel_drewN nq (Below.refl _ _)))
          have HO2 := Lib.hid (HO1.out.below (bel_drewN nq (Below.refl _ _)))
          have HB3 := Lib.hid (bel_drewN nq HB2.out)
          have y1 : (W.drewN nq).cell? ⟨g, s.length * 2, none⟩ = some (.int .u64 z.1) := z1
          have y2 : (W.drewN nq).cell? ⟨g, s.length * 2 + 1, none⟩ = some (.int .u64 z.2) := z2
          have y3 : ∀ o, (W.drewN nq).frozen? ⟨g, o, none⟩ = false := hfr
          clear x0 x1 x2 x3 z1 z2 hfr
          generalize W.drewN nq = W at *
          obtain ⟨x0, x1, x2, x3⟩ := X1.out
          have hsW := HB3.out.size
          go_upto_region 9 with fail
          by_cases t2 : q ≤ z.2
          · rw [if_pos t2] at HK
            have HK2 := Lib.hid HK.out
            clear HK
            go_quiet (fail)
            go_wp2
            exact ⟨⟨k + 1, by omega, by go_num, by rw [HK2.out]; exact HO2.out.below (bel_drewN _ (Below.refl _ _)), bel_drewN _ HB3.out⟩, by simp [intOf]; omega⟩
          · rw [if_neg t2] at HK
            have HK2 := Lib.hid HK.out
            clear HK
            have t2' : decide (q ≤ z.2) = false := by simpa using t2
            go_quiet (fail)
            have X2 := Lib.hid (X1.out.below (bel_drewN nq (Below.refl _ _)))
            have HO3 := Lib.hid (HO2.out.below (bel_drewN nq (Below.refl _ _)))
            have HB4 := Lib.hid (bel_drewN nq HB3.out)
            have n1 : (W.drewN nq).cell? ⟨g, s.length * 2, none⟩ = some (.int .u64 z.1) := y1
            have n2 : (W.drewN nq).cell? ⟨g, s.length * 2 + 1, none⟩ = some (.int .u64 z.2) := y2
            have n3 : ∀ o, (W.drewN nq).frozen? ⟨g, o, none⟩ = false := y3
            clear x0 x1 x2 x3 y1 y2 y3
            generalize W.drewN nq = W at *
            obtain ⟨x0, x1, x2, x3⟩ := X2.out
            go_wp2
            exact ⟨⟨k + 1, by omega, by go_num, by rw [HK2.out]; exact OwnP.stored HO3.out q, HB4.out.setCell hg1 _⟩, by simp [intOf]; omega⟩
    · obtain rfl : k = V.length := by omega
      rw [List.take_length, ← HN.out] at ho
      have HO := Lib.hid ho
      have HB := Lib.hid hb
      clear ho hb
      go_wp2
      try rw [Exit.noGoto_ret]
      go_ret
      exact ⟨_, rfl, HO.out.mono HB1.out.size, HB1.out.trans (HB.out.mono HB1.out.size)⟩
end Go.Proofs.YtmolpogehgeebaaGreat.Se


namespace Go.Proofs.YtmolpogehgeebaaGreat.Se
open Go.RowKit
open Iset (nf turns ends)
/-- A slice of words that the call owns. -/
def OwnU (base : Nat) (w : World) (v : Value) (L : List Int) : Prop := w.ownsRow base 22 1 v L.length (L.map (Value.int .u64))
theorem OwnU.nil (base : Nat) (w : World) : OwnU base w (.slice none 0 0) [] := ⟨rfl, .inl ⟨rfl, rfl⟩⟩
theorem OwnU.alloc {base : Nat} {w : World} {v : Value} {L : List Int} (h : OwnU base w v L) (o : Obj) : OwnU base (w.alloc o) v L := World.ownsRow.alloc h o
theorem OwnU.below {base : Nat} {w w' : World} {v : Value} {L : List Int} (h : OwnU base w v L) (hb : Below w.heap.size w w') : OwnU base w' v L := by
  refine ⟨h.1, ?_⟩
  rcases h.2 with h0 | ⟨g, cap, cur, e, hg, hc, h1, h2, h3, h4⟩
  · exact .inl h0
  · exact .inr ⟨g, cap, cur, e, hg, (hb.block g (Array.getElem?_eq_some_iff.1 hc).1).trans hc, h1, h2, h3, h4⟩
theorem OwnU.mono {base base' : Nat} {w : World} {v : Value} {L : List Int} (h : OwnU base w v L) (hb : base' ≤ base) : OwnU base' w v L := by
  refine ⟨h.1, ?_⟩
  rcases h.2 with h0 | ⟨g, cap, cur, e, hg, hc, h1, h2, h3, h4⟩
  · exact .inl h0
  · exact .inr ⟨g, cap, cur, e, by omega, hc, h1, h2, h3, h4⟩
/-- A slice of words. -/
def IsU (w : World) (v : Value) (L : List Int) : Prop := ∃ A c, v = .slice A L.length c ∧ L.length ≤ c ∧ c ≤ maxLen ∧ (0 < L.length → ∃ b off, A = some ⟨b, off, none⟩ ∧ b < w.heap.size ∧ ∀ i (h : i < L.length), w.cell? ⟨b, off + i, none⟩ = some (.int .u64 L[i]))
theorem IsU.below {w w' : World} {v : Value} {L : List Int} (h : IsU w v L) (hb : Below w.heap.size w w') : IsU w' v L := by
  obtain ⟨A, c, e, hc, hm, k⟩ := h
  refine ⟨A, c, e, hc, hm, fun h0 => ?_⟩
  obtain ⟨b, off, e, hl, hcl⟩ := k h0
  have hs := hb.size
  exact ⟨b, off, e, by omega, fun i hi => (hb.cell (p := ⟨b, off + i, none⟩) hl).trans (hcl i hi)⟩
theorem OwnU.at {base : Nat} {w : World} {v : Value} {L : List Int} (h : OwnU base w v L) : IsU w v L := by
  rcases h.2 with ⟨rfl, h0⟩ | ⟨g, cap, cur, rfl, hg, hb, h1, h2, h3, h4⟩
  · exact ⟨none, 0, by rw [h0], by omega, Nat.zero_le _, fun e => absurd e (by omega)⟩
  · refine ⟨_, _, rfl, h1, h2, fun _ => ⟨g, 0, rfl, (Array.getElem?_eq_some_iff.1 hb).1, fun i hi => ?_⟩⟩
    have key : w.cell? ⟨g, i, none⟩ = (L.map (Value.int .u64))[i]? := by
      rw [← h4, List.getElem?_take_of_lt (by omega), Array.getElem?_toList]
      simp [World.cell?, hb]
    rw [Nat.zero_add, key]
    simp [hi]
/-- append of words onto what the call owns. -/
theorem wpList_appU {ops : Array Oper} {rest : List Oper} {o : Oper} {a : Act} {w : World} {Q : Exit → Act → World → Prop} (hgd : o.guard = none) (s x : Operand)
    (ho : o.op = .call { callee := .builtin .append, args := #[s, x], argTypes := #[57, 57] })
    (base : Nat) (v : Value) (L M : List Int) (hs : a.eval s = v) (hown : OwnU base w v L) (n : Nat) (hn : n = M.length) (g off c : Nat) (hx : a.eval x = .slice (some ⟨g, off, none⟩) n c) (hnc : n ≤ c)
    (hcl : ∀ i (h : i < M.length), w.cell? ⟨g, off + i, none⟩ = some (.int .u64 M[i])) (hlen : L.length + M.length ≤ 4000000000000) (hbase : base ≤ w.heap.size)
    (h : ∀ v' w', OwnU base w' v' (L ++ M) → Below base w w' → wpList Tryz.prog ops Q rest (a.put o.dst v') w') :
    wpList Tryz.prog ops Q (o :: rest) a w := by
  obtain ⟨i0, hi, hz0, hz1, hz2⟩ := info_parts infoU
  subst hn
  refine wpList_append_own_at _ hgd s x 57 ho base 22 i0 _ 1 8 Tryz.underlying57 hi hz0 hz1 hz2 rfl (by omega) v _ _ hs hown ⟨g, off, none⟩ M.length c (M.map (Value.int .u64)) hx (by simp) ?_ ?_ (by unfold maxLen; omega) (by omega) hbase ?_
  · intro j u hj
    rw [add_plain]
    rw [List.getElem?_map, Option.map_eq_some_iff] at hj
    obtain ⟨z, hz, rfl⟩ := hj
    obtain ⟨hl, rfl⟩ := List.getElem?_eq_some_iff.1 hz
    exact hcl j hl
  · intro u hu
    rw [List.mem_map] at hu
    obtain ⟨z, _, rfl⟩ := hu
    rfl
  · intro v' w' h1 h2 h3 _
    refine h v' w' ?_ ((Below.refl _ _).grown h2 hbase fun k hk => (World.ownsRow.lt hown k hk).1)
    unfold OwnU
    rw [List.map_append, List.length_append]
    exact h1
theorem ends_take (V : List (Int × Int)) (k : Nat) (h : k < V.length) : ends (V.take (k + 1)) = ends (V.take k) ++ [V[k].1, V[k].2] := by
  rw [List.take_succ_eq_append_getElem h, Iset.ends_snoc]
set_option maxRecDepth 100000 in
set_option maxHeartbeats 4000000 in
theorem ends_any (v : Value) (L : List (Int × Int)) (w : World) (hv : IsP w v L) (hl : L.length ≤ 1000000000000) :
    Calls Tryz.prog 183 #[v] w fun e w' => ∃ v', e = .returned v' ∧ OwnU w.heap.size w' v' (turns (nf L)) ∧ Below w.heap.size w w' := by
  have hvl := Iset.nf_length L
  have HS := Lib.hid (Of_any v L w hv hl)
  have HN := Lib.hid (show turns (nf L) = ends (nf L) ++ [1099511627777] from rfl)
  generalize nf L = V at *
  generalize turns V = T at *
  have HT := Lib.hid (ends_take V)
  have HL := Lib.hid (fun k => Iset.ends_length (V.take k))
  clear hv
  go_enter Tryz.func183, Tryz.ntmps183
  go_wp2_with fail
  refine (HS.out).mono ?_
  rintro e w1 ⟨v1, rfl, ho1, hb1⟩
  obtain ⟨A, c, rfl, hA⟩ := ho1.at
  have HA := Lib.hid hA
  have HB1 := Lib.hid hb1
  clear ho1 hA hb1
  go_wp2
  go_loopw [3, 9] (fun s i wr => ∃ k : Nat, k ≤ V.length ∧ i = .int .i64 k ∧ OwnU w1.heap.size wr s (ends (V.take k)) ∧ Below w1.heap.size w1 wr) (fun _ i _ => V.length - (intOf i).toNat)
  case atStart => exact ⟨0, by omega, rfl, OwnU.nil _ _, Below.refl _ _⟩
  case round =>
    obtain ⟨k, hk, rfl, ho, hb⟩ := hrel
    have hlen := HL.out k
    rw [List.length_take] at hlen
    by_cases hlt : k < V.length
    · have HK := Lib.hid (HT.out k hlt)
      generalize ends (V.take k) = s at *
      obtain ⟨b, off, rfl, hbl, hc⟩ := (PAt.below HA.out hb) (by omega)
      obtain ⟨c0, c1⟩ := hc k hlt
      clear hc
      generalize V[k].1 = p at *
      generalize V[k].2 = q at *
      have hs := hb.size
      have HO := Lib.hid ho
      have HB := Lib.hid hb
      clear ho hb
      have X0 := Lib.hid (box_at wr p q 33 wr.heap.size rfl)
      obtain ⟨x0, x1, x2, x3⟩ := X0.out
      go_wp2_with (at_builtin; refine wpList_appU rfl (.tmp 13) (.tmp 18) rfl w1.heap.size _ s [p, q] rfl ((HO.out.alloc _).alloc _) 2 rfl (wr.heap.size + 1) 0 2 ?_ (by omega) ?_ (by simp; omega) (by simp; omega) ?_)
      · go_simp
      · intro i hi
        match i, hi with
        | 0, _ => go_simp
        | 1, _ => go_simp
      intro v2 w2 ho2 hb2
      have HO2 := Lib.hid ho2
      have HB2 := Lib.hid (((HB.out.alloc hs (.cells #[.int .u64 p, .int .u64 q] 33)).alloc (by simp; omega) (.cells #[.int .u64 p, .int .u64 q] 22)).trans hb2)
      clear ho2 hb2
      go_wp2
      exact ⟨⟨k + 1, by omega, by go_num, by rw [HK.out]; exact HO2.out, HB2.out⟩, by simp [intOf]; omega⟩
    · obtain rfl : k = V.length := by omega
      rw [List.take_length] at ho hlen
      have HO := Lib.hid ho
      have HB := Lib.hid hb
      have hs := hb.size
      clear ho hb
      go_wp2_with (at_builtin; refine wpList_appU rfl (.tmp 21) (.tmp 22) rfl w1.heap.size _ (ends V) [1099511627777] rfl (HO.out.alloc _) 1 rfl wr.heap.size 0 1 ?_ (by omega) ?_ (by simp; omega) (by simp; omega) ?_)
      · go_simp
      · intro i hi
        match i, hi with
        | 0, _ => go_simp
      intro v2 w2 ho2 hb2
      have HO2 := Lib.hid ho2
      have HB2 := Lib.hid ((HB.out.alloc hs (.cells #[.int .u64 1099511627777] 22)).trans hb2)
      clear ho2 hb2
      go_wp2
      go_ret
      exact ⟨_, rfl, by rw [HN.out]; exact HO2.out.mono HB1.out.size, HB1.out.trans (HB2.out.mono HB1.out.size)⟩
end Go.Proofs.YtmolpogehgeebaaGreat.Se


