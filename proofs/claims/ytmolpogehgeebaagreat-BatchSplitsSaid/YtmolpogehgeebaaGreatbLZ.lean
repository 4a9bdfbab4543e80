/- The library's Compact of words, Clone of periods and pieces, IndexFunc of properties at this program, laid in plain words. -/
/- Where anything changes in a line: Ends. -/
import Derived.Shelf.SlGeneric
import Derived.Shelf.SlicesE.Compact
import Derived.Shelf.SlicesE.Clone
import Derived.Shelf.SlicesQ.IndexFunc
import Derived.Ground.SlgnProg
import Derived.Ground.SlgfProg
import Derived.Test.YtmolpogehgeebaaGreatProg
import Derived.Test.YtmolpogehgeebaaGreatbS1
import Derived.Test.YtmolpogehgeebaaGreatbH8
namespace Go.Proofs.YtmolpogehgeebaaGreat
open Go.Shelf
def compU_ren : Go.Shelf.Ren := ⟨fun | 43 => 104 | n => n, fun | 22 => 57 | 23 => 22 | 3 => 3 | 4 => 4 | 0 => 0 | n => n, fun | n => n⟩
theorem compU : Go.Proofs.SlLaysE.n43 Tryz.prog compU_ren := {
  mixed := by kernel_rfl
  f43 := ⟨Tryz.f104.name, by decide, Tryz.func104.trans (congrArg some (by kernel_rfl))⟩
  t0 := Tryz.underlying0
  a0 := Tryz.isAgg0
  z0 := Tryz.sizeOf0
  v0 := Tryz.zeroValue0
  t3 := Tryz.underlying3
  a3 := Tryz.isAgg3
  z3 := Tryz.sizeOf3
  v3 := Tryz.zeroValue3
  t4 := Tryz.underlying4
  a4 := Tryz.isAgg4
  z4 := Tryz.sizeOf4
  v4 := Tryz.zeroValue4
  t22 := Tryz.underlying57
  a22 := Tryz.isAgg57
  z22 := Tryz.sizeOf57
  v22 := Tryz.zeroValue57
  a23 := Tryz.isAgg22
  z23 := Tryz.sizeOf22 }
end Go.Proofs.YtmolpogehgeebaaGreat


namespace Go.Proofs.YtmolpogehgeebaaGreat
open Go.RowKit Go.Shelf Go.Lib Go.Sort
theorem holds_u {w : World} {g : Nat} {cur : Array Value} {e : TypeId} {L : List Int} (hb : w.heap[g]? = some (.cells cur e (0, 0))) (ht : cur.toList.take L.length = L.map (Value.int .u64)) : Holds (Value.int .u64) w g 0 L.toArray := by
  intro j hj
  have hj' : j < L.length := by simpa using hj
  refine ⟨?_, by simp [World.frozen?, hb]⟩
  have h1 : (cur.toList.take L.length)[j]? = (L.map (Value.int .u64))[j]? := by rw [ht]
  rw [List.getElem?_take_of_lt hj'] at h1
  simp only [World.cell?, hb, Nat.zero_add]
  simp only [Option.isSome_none, Bool.false_eq_true, if_false]
  rw [← Array.getElem?_toList, h1]
  simp [hj']
theorem heap_u {w : World} {g n : Nat} {cur : Array Value} {e : TypeId} {fr : Nat × Nat} (d : Array Int) (hb : w.heap[g]? = some (.cells cur e fr)) :
    (putRow (Value.int .u64) (Sort.ahead w n) g 0 d).heap[g]? = some (.cells (putCells (Value.int .u64) 0 d cur) e fr) := by
  simp [putRow, mapBlock, Sort.ahead, Array.getElem?_modify, hb, onCells]
theorem grownBy_u {w : World} {g n : Nat} (d : Array Int) : w.grownBy (putRow (Value.int .u64) (Sort.ahead w n) g 0 d) (some g) := by
  refine ⟨rfl, rfl, rfl, by simp, fun k hk hne => ?_⟩
  have : g ≠ k := fun e => hne (by rw [e])
  simp [putRow, mapBlock, Sort.ahead, Array.getElem?_modify, this]
theorem take_u (cur : Array Value) (ts rs : List Int) (h : (ts ++ rs).length ≤ cur.size) : (putCells (Value.int .u64) 0 (ts ++ rs).toArray cur).toList.take ts.length = ts.map (Value.int .u64) := by
  apply List.ext_getElem?
  intro j
  have hl : ts.length ≤ (ts ++ rs).length := by simp
  by_cases hj : j < ts.length
  · rw [List.getElem?_take_of_lt hj, Array.getElem?_toList]
    have e : (ts ++ rs)[j]? = some ts[j] := by rw [List.getElem?_append_left hj, List.getElem?_eq_getElem hj]
    simp [putCells, hj, show j < cur.size by omega, show j < ts.length + rs.length by omega]
  · rw [List.getElem?_take_eq_none (by omega), List.getElem?_eq_none (by simp; omega)]
theorem compactUpTo_length (d : Array Int) : ∀ m, (compactUpTo d m).length ≤ m
  | 0 => by simp [compactUpTo]
  | m + 1 => by
    have := compactUpTo_length d m
    rw [compactUpTo_succ, List.length_append]
    split <;> simp <;> omega
section
set_option maxRecDepth 100000
set_option maxHeartbeats 8000000
theorem Compact_own (base : Nat) (v : Value) (L : List Int) (w : World) (h : Se.OwnU base w v L) (hbase : base ≤ w.heap.size) (hl : L.length ≤ 1000000000000) :
    Calls Tryz.prog 104 #[v] w fun e w' => ∃ u, e = .returned u ∧ Se.OwnU base w' u (compact L) ∧ Below base w w' := by
  rcases h.2 with ⟨rfl, h0⟩ | ⟨g, cap, cur, rfl, hg, hc, h1, h2, h3, h4⟩
  · obtain rfl := List.eq_nil_of_length_eq_zero h0
    clear h
    go_enter Tryz.func104, Tryz.ntmps104
    go_wp2
    go_ret
    exact ⟨_, rfl, Se.OwnU.nil _ _, Below.refl _ _⟩
  · rw [Nat.mul_one] at h3 h4
    have hH := holds_u hc h4
    have hcl := compactUpTo_length L.toArray L.length
    refine (AnyE.slices_Compact (P := Tryz.prog) compU (Value.int .u64) (fun _ => rfl) (EqlAt.intD _ _ .u64) (NeqAt.intD _ _ .u64) 0 (fun w => Tryz.zeroValue22 w) g 0 cap L.toArray w hH (by rw [List.size_toArray]; omega) (by rw [List.size_toArray]; exact h1)).mono ?_
    rintro e w' ⟨rfl, q, rfl⟩
    have hsz : L.toArray.size = L.length := by simp
    rw [hsz]
    refine ⟨_, rfl, ⟨by simp [compact], .inr ⟨g, cap, _, rfl, hg, heap_u _ hc, by unfold compact; omega, h2, by simp [putCells, h3], ?_⟩⟩, (Below.refl _ _).grown (grownBy_u _) hbase fun k hk => ?_⟩
    · rw [Nat.mul_one]
      refine take_u cur _ _ ?_
      rw [List.length_append, List.length_replicate]
      show (compactUpTo L.toArray L.length).length + (L.toArray.size - (compactUpTo L.toArray L.toArray.size).length) ≤ _
      rw [hsz]
      omega
    · injection hk with hk
      omega
end
/-! What Compact leaves of numbers in order. -/
theorem compactUpTo_spec (L : List Int) (hs : L.Pairwise (· ≤ ·)) : ∀ m, m ≤ L.length → (∀ t, t ∈ compactUpTo L.toArray m ↔ t ∈ L.take m) ∧ (compactUpTo L.toArray m).Pairwise (· < ·)
  | 0, _ => by simp [compactUpTo]
  | m + 1, hm => by
    have hm' : m < L.length := by omega
    obtain ⟨h1, h2⟩ := compactUpTo_spec L hs m (by omega)
    have e : ∀ j (h : j < L.length), L.toArray[j]! = L[j] := fun j h => by simp [h]
    rw [compactUpTo_succ, List.take_succ_eq_append_getElem hm']
    cases hk : keeps L.toArray m
    · simp only [Bool.false_eq_true, if_false, List.append_nil]
      have hk' : ¬ (m = 0 ∨ L.toArray[m]! ≠ L.toArray[m - 1]!) := by
        unfold keeps at hk; simpa using hk
      have hm0 : m ≠ 0 := fun h => hk' (.inl h)
      have hee : L[m] = L[m - 1] := by
        have := Classical.not_not.1 fun h => hk' (.inr h)
        rwa [e m hm', e (m - 1) (by omega)] at this
      refine ⟨fun t => ?_, h2⟩
      rw [h1, List.mem_append, List.mem_singleton]
      refine ⟨.inl, fun h => h.elim id fun h => ?_⟩
      rw [h, hee]
      exact List.mem_take_iff_getElem.2 ⟨m - 1, by omega, rfl⟩
    · simp only [if_true]
      rw [e m hm']
      have hlt : ∀ t ∈ L.take m, t < L[m] := fun t ht => by
        obtain ⟨j, hj, rfl⟩ := List.mem_take_iff_getElem.1 ht
        have hjm : j < m := by omega
        have hk' : m = 0 ∨ L.toArray[m]! ≠ L.toArray[m - 1]! := by unfold keeps at hk; simpa using hk
        rcases hk' with h | h
        · omega
        · rw [e m hm', e (m - 1) (by omega)] at h
          have a1 : L[m - 1] ≤ L[m] := (List.pairwise_iff_getElem.1 hs) (m - 1) m (by omega) hm' (by omega)
          rcases Nat.lt_or_ge j (m - 1) with c | c
          · have a2 : L[j] ≤ L[m - 1] := (List.pairwise_iff_getElem.1 hs) j (m - 1) (by omega) (by omega) c
            omega
          · have : j = m - 1 := by omega
            subst this
            omega
      refine ⟨fun t => by rw [List.mem_append, List.mem_append, h1], List.pairwise_append.2 ⟨h2, by simp, fun t ht u hu => ?_⟩⟩
      rw [List.mem_singleton] at hu
      subst hu
      exact hlt t ((h1 t).1 ht)
theorem compact_spec (L : List Int) (hs : L.Pairwise (· ≤ ·)) : (∀ t, t ∈ compact L ↔ t ∈ L) ∧ (compact L).Pairwise (· < ·) ∧ (compact L).length ≤ L.length := by
  have h := compactUpTo_spec L hs L.length (Nat.le_refl _)
  rw [List.take_length] at h
  exact ⟨h.1, h.2, compactUpTo_length _ _⟩
/-- The instants at which a piece begins or ends, rising. -/
structure EndsOf (l : List Pie) (E : List Int) : Prop where
  row : E.Pairwise (· < ·)
  mem : ∀ t, t ∈ E ↔ ∃ x ∈ l, t = x.a ∨ t = x.b
  len : E.length ≤ 2 * l.length
def endsL (l : List Pie) : List Int := l.flatMap fun x => [x.a, x.b]
theorem endsL_length (l : List Pie) : (endsL l).length = 2 * l.length := by
  induction l with
  | nil => rfl
  | cons x l ih =>
    have : endsL (x :: l) = x.a :: x.b :: endsL l := rfl
    rw [this]; simp only [List.length_cons, ih]; omega
theorem endsL_take (l : List Pie) (k : Nat) (h : k < l.length) : endsL (l.take (k + 1)) = endsL (l.take k) ++ [l[k].a, l[k].b] := by
  unfold endsL
  rw [List.take_succ_eq_append_getElem h, List.flatMap_append]
  simp
theorem endsL_mem (l : List Pie) (t : Int) : t ∈ endsL l ↔ ∃ x ∈ l, t = x.a ∨ t = x.b := by
  unfold endsL
  rw [List.mem_flatMap]
  simp
theorem endsL_row : ∀ {l : List Pie}, Pl.Line okV l → (endsL l).Pairwise (· ≤ ·)
  | [], _ => by simp [endsL]
  | x :: l, h => by
    have hx := (h.good x (by simp)).1
    have e : endsL (x :: l) = x.a :: x.b :: endsL l := rfl
    rw [e]
    have ha : ∀ t ∈ endsL l, x.b ≤ t := fun t ht => by
      obtain ⟨y, hy, hh⟩ := (endsL_mem l t).1 ht
      have h1 := h.ahead y hy
      have h2 := (h.tail.good y hy).1
      omega
    refine List.pairwise_cons.2 ⟨fun t ht => ?_, List.pairwise_cons.2 ⟨ha, endsL_row h.tail⟩⟩
    rcases List.mem_cons.1 ht with rfl | ht
    · omega
    · have := ha t ht; omega
theorem endsOf_compact {l : List Pie} (h : Pl.Line okV l) : EndsOf l (compact (endsL l)) := by
  obtain ⟨h1, h2, h3⟩ := compact_spec _ (endsL_row h)
  exact ⟨h2, fun t => by rw [h1, endsL_mem], by rw [endsL_length] at h3; exact h3⟩
section
set_option maxRecDepth 100000
set_option maxHeartbeats 8000000
/-- What Ends answers. -/
def EndsAns (l : List Pie) (w : World) (e : Ending) (w' : World) : Prop := ∃ u E, e = .returned u ∧ Se.OwnU w.heap.size w' u E ∧ EndsOf l E ∧ Below w.heap.size w w'
theorem Ends_any (v : Value) (l : List Pie) (w : World) (h : SL w v l) (hl : Pl.Line okV l) (hn : l.length ≤ 100000000000) :
    Calls Tryz.prog 102 #[v] w (EndsAns l w) := by
  have CI := Lib.hid (fun W (hb : Below w.heap.size w W) => (Is_any v l W (h.below hb) (line_w hl)).mono fun _ _ h => h.yes hl)
  obtain ⟨A, c, rfl, hA, hm⟩ := h
  have HA := Lib.hid hA
  have HE := Lib.hid (endsOf_compact hl)
  have EL := Lib.hid endsL_length
  clear hA hl
  have hsf := store_float
  go_enter Tryz.func102, Tryz.ntmps102
  go_wp2_with (go_at_call 162; (with_reducible refine (CI.out _ (Below.refl _ _)).mono ?_); rintro e w1 ⟨rfl, hb⟩; have B1 := Lib.hid hb; clear hb)
  go_loopw [3, 11] (fun u i wr => ∃ k : Nat, k ≤ l.length ∧ i = .int .i64 k ∧ Se.OwnU w.heap.size wr u (endsL (l.take k)) ∧ Below w.heap.size w wr) (fun _ i _ => l.length - (intOf i).toNat)
  case atStart => exact ⟨0, Nat.zero_le _, rfl, Se.OwnU.nil _ _, B1.out⟩
  case round =>
    obtain ⟨k, hk, rfl, ho, hb⟩ := hrel
    have HO := Lib.hid ho
    have HB := Lib.hid hb
    clear ho hb
    by_cases hlt : k < l.length
    · obtain ⟨g, off, rfl, lg, cg⟩ := (HA.out.below HB.out) (by omega)
      have r := cg k hlt
      have YY := Lib.hid (endsL_take l k hlt)
      have i0 : (k : Int) < (l.length : Int) := by omega
      have i1 : (0 : Int) ≤ (k : Int) := by omega
      clear cg
      obtain ⟨x, hx⟩ : ∃ x, l[k] = x := ⟨_, rfl⟩
      rw [hx] at r YY
      clear hx
      obtain ⟨a, b, ⟨kk, vb, n, f, s⟩⟩ := x
      simp only at YY
      go_upto_region 7 with (refine wpList_load_mid rfl 148 (.tmp 13) rfl g (off + k * 7) rfl _ _ r Tryz.underlying148 rfl rowL ?_)
      have X0 := Lib.hid (Bx.new wr (Pie.cells ⟨a, b, ⟨kk, vb, n, f, s⟩⟩) 148)
      have HB0 := Lib.hid (HB.out.trans (((Below.refl wr.heap.size wr).alloc (Nat.le_refl _) (.cells (Pie.cells ⟨a, b, ⟨kk, vb, n, f, s⟩⟩) 148)).mono HB.out.size))
      have HO0 := Lib.hid (HO.out.alloc (.cells (Pie.cells ⟨a, b, ⟨kk, vb, n, f, s⟩⟩) 148))
      obtain ⟨W, hW⟩ : ∃ W, wr.alloc (.cells (Pie.cells ⟨a, b, ⟨kk, vb, n, f, s⟩⟩) 148) = W := ⟨_, rfl⟩
      rw [hW] at X0 HB0 HO0 ⊢
      clear hW
      have x0 := X0.out.c
      have LN : Hid ((endsL (l.take k)).length ≤ 1000000000000) := Lib.hid (by rw [EL.out]; simp; omega)
      have HO3 := Lib.hid (HO0.out.alloc (.cells #[.int .u64 a, .int .u64 b] 22))
      have NB := Lib.hid (Bx.new W #[.int .u64 a, .int .u64 b] 22)
      have hsz := HB0.out.size
      go_wp2_with (at_builtin; refine wpList_appV rfl (.tmp 15) (.tmp 22) rfl w.heap.size _ _ [a, b] rfl HO3.out 2 rfl ⟨W.heap.size, 0, none⟩ 2 rfl (by omega) (fun i hi => ?_) (by have := LN.out; simp; omega) (by simp; omega) ?_)
      · match i, hi with
        | 0, _ => first | rfl | exact NB.out.c 0
        | 1, _ => first | rfl | (rw [add_off]; exact NB.out.c 1)
      · intro v6 w6 ho6 _ hb6
        have O6 := Lib.hid ho6
        have B6 := Lib.hid hb6
        clear ho6 hb6
        go_wp2_with fail
        exact ⟨⟨k + 1, by omega, by go_num, by rw [YY.out]; exact O6.out, (HB0.out.alloc HB0.out.size _).trans B6.out⟩, by simp [intOf]; omega⟩
    · obtain rfl : k = l.length := by omega
      rw [List.take_length] at HO
      have CO := Lib.hid (Compact_own w.heap.size u3 (endsL l) wr HO.out HB.out.size (by rw [EL.out]; omega))
      go_wp2_with (go_at_call 104; (with_reducible refine (CO.out).mono ?_); rintro e w3 ⟨u3', rfl, ho, hb⟩; have O3 := Lib.hid ho; have B3 := Lib.hid hb; clear ho hb)
      go_ret
      exact ⟨_, _, rfl, O3.out, HE.out, HB.out.trans B3.out⟩
end
end Go.Proofs.YtmolpogehgeebaaGreat


