/- PieceMeans in plain words: what is put in from behind, where nothing later is. -/
/- Slices that PieceMeans makes: words, and periods, behind which other slices stand as they were. -/
/- Where anything changes in a line: Ends. -/
import Derived.Test.YtgmaompjhhomcaaGreatmH8
import Derived.Test.YtgmaompjhhomcaaGreatmG47
import Derived.Test.YtgmaompjhhomcaaGreatmM1
import Derived.Laws.AppendOwnNone
import Derived.Deep.RegionLaw
import Derived.Test.YtgmaompjhhomcaaGreatmG0
namespace Go.Proofs.YtgmaompjhhomcaaGreat
open Go.RowKit
def cov (L : List Pie) (t : Int) : Prop := ∃ p ∈ L, p.a ≤ t ∧ t < p.b
theorem cov_cons (x : Pie) (L : List Pie) (t : Int) : cov (x :: L) t ↔ (x.a ≤ t ∧ t < x.b) ∨ cov L t := by
  unfold cov; simp
open Classical in
theorem fold_last (t : Int) : ∀ (L : List Pie) (acc : VP), L.foldl (fun acc p => if p.a ≤ t ∧ t < p.b then p.v else acc) acc = if cov L t then lastV L t else acc
  | [], acc => by simp [cov]
  | x :: L, acc => by
    have h1 : lastV (x :: L) t = if cov L t then lastV L t else (if x.a ≤ t ∧ t < x.b then x.v else VP.none) := by
      unfold lastV
      rw [List.foldl_cons, fold_last t L]
      rfl
    rw [List.foldl_cons, fold_last t L, h1]
    by_cases c : cov L t
    · rw [if_pos c, if_pos ((cov_cons x L t).2 (.inr c)), if_pos c]
    · rw [if_neg c]
      by_cases d : x.a ≤ t ∧ t < x.b
      · rw [if_pos d, if_pos ((cov_cons x L t).2 (.inl d)), if_neg c, if_pos d]
      · rw [if_neg d, if_neg (fun h => by rcases (cov_cons x L t).1 h with h | h; exact d h; exact c h)]
theorem lastV_cons_yes {x : Pie} {L : List Pie} {t : Int} (c : cov L t) : lastV (x :: L) t = lastV L t := by
  show (x :: L).foldl _ _ = _
  rw [List.foldl_cons, fold_last t L, if_pos c]
open Classical in
theorem lastV_cons_no {x : Pie} {L : List Pie} {t : Int} (c : ¬ cov L t) : lastV (x :: L) t = if x.a ≤ t ∧ t < x.b then x.v else VP.none := by
  show (x :: L).foldl _ _ = _
  rw [List.foldl_cons, fold_last t L, if_neg c]
theorem lastV_none {L : List Pie} {t : Int} (c : ¬ cov L t) : lastV L t = VP.none := by
  show L.foldl _ _ = _
  rw [fold_last t L, if_neg c]
/-- What has come of the puts L from behind: the line Y, and what is covered. -/
structure Back (L Y : List Pie) (C : List (Int × Int)) : Prop where
  line : Pl.Line okV Y
  means : ∀ t, Pl.means VP.none Y t = lastV L t
  has : ∀ t, Se.Iset.has C t = true ↔ cov L t
  lenC : C.length = L.length
  lenY : Y.length ≤ 200 * L.length
  wide : Se.Iset.Wide C
theorem Back.nil : Back [] [] [] := ⟨Pl.Line.nil _, fun _ => rfl, fun t => by simp [Se.Iset.has, cov], rfl, by simp, fun p hp => by simp at hp⟩
/-- One put from behind, as far as its free parts F are put in: Z means the put's value there. -/
structure Mid (x : Pie) (Y Z : List Pie) (F : List (Int × Int)) (m : Nat) : Prop where
  line : Pl.Line okV Z
  means : ∀ t, (Se.Iset.has (F.take m) t = true → Pl.means VP.none Z t = x.v) ∧ (¬ Se.Iset.has (F.take m) t = true → Pl.means VP.none Z t = Pl.means VP.none Y t)
  len : Z.length ≤ Y.length + 2 * m
theorem Mid.start {x : Pie} {Y : List Pie} {F : List (Int × Int)} (h : Pl.Line okV Y) : Mid x Y Y F 0 := ⟨h, fun t => ⟨fun h => by simp [Se.Iset.has] at h, fun _ => rfl⟩, by omega⟩
theorem Mid.next {x : Pie} {Y Z S : List Pie} {F : List (Int × Int)} {m : Nat} (h : Mid x Y Z F m) (hm : m < F.length) (hf : F[m].1 < F[m].2 ∧ F[m].2 ≤ 1099511627776) (hs : Pl.SetR okV VP.none Z F[m].1 F[m].2 x.v S) : Mid x Y S F (m + 1) := by
  have e : ∀ t, Se.Iset.has (F.take (m + 1)) t = true ↔ Se.Iset.has (F.take m) t = true ∨ (F[m].1 ≤ t ∧ t < F[m].2) := fun t => by
    rw [List.take_succ_eq_append_getElem hm, Se.Iset.has_append, Bool.or_eq_true, Se.Iset.has_cons, Se.Iset.has_nil, Bool.or_false, Se.Iset.hasP_iff]
    exact ⟨fun h => h.imp id fun h => h.2, fun h => h.imp id fun h => ⟨hf, h⟩⟩
  refine ⟨hs.line, fun t => ?_, by have := hs.len; have := h.len; omega⟩
  rw [e t]
  by_cases c : F[m].1 ≤ t ∧ t < F[m].2
  · exact ⟨fun _ => (hs.means t).1 c, fun g => absurd (.inr c) g⟩
  · refine ⟨fun g => ?_, fun g => ?_⟩
    · rw [(hs.means t).2 c]
      exact (h.means t).1 (g.resolve_right c)
    · rw [(hs.means t).2 c]
      exact (h.means t).2 fun k => g (.inl k)
theorem Mid.done {x : Pie} {L Y Z : List Pie} {C F : List (Int × Int)} (h : Mid x Y Z F F.length) (b : Back L Y C) (hx : goodP x) (hn : 0 ≤ x.a ∧ 0 ≤ x.b) (hL : L.length ≤ 30) (hr : Se.Iset.Res Se.kLess [(x.a, x.b)] C F) : Back (x :: L) Z (C ++ [(x.a, x.b)]) := by
  have hx1 : ∀ t, Se.Iset.has [(x.a, x.b)] t = true ↔ x.a ≤ t ∧ t < x.b := fun t => by
    rw [Se.Iset.has_cons, Se.Iset.has_nil, Bool.or_false, Se.Iset.hasP_iff]
    exact ⟨fun h => h.2, fun h => ⟨hx.1, h⟩⟩
  have hF : ∀ t, Se.Iset.has F t = true ↔ (x.a ≤ t ∧ t < x.b) ∧ ¬ cov L t := fun t => by
    rw [hr.has t, Bool.and_eq_true, hx1, Bool.not_eq_true', ← Bool.not_eq_true, b.has]
  refine ⟨h.line, fun t => ?_, fun t => ?_, by simp [b.lenC], ?_, fun p hp => ?_⟩
  · have hm := h.means t
    rw [List.take_length, hF] at hm
    by_cases c : cov L t
    · rw [lastV_cons_yes c, hm.2 fun g => g.2 c, b.means]
    · rw [lastV_cons_no c]
      by_cases d : x.a ≤ t ∧ t < x.b
      · rw [if_pos d, hm.1 ⟨d, c⟩]
      · rw [if_neg d, hm.2 fun g => d g.1, b.means, lastV_none c]
  · rw [Se.Iset.has_append, Bool.or_eq_true, hx1, b.has, cov_cons]
    exact Or.comm
  · have h1 := h.len
    have h2 := b.lenY
    have h3 := hr.len
    have h4 := b.lenC
    simp only [List.length_cons, List.length_nil] at h3 ⊢
    omega
  · rcases List.mem_append.1 hp with hp | hp
    · exact b.wide p hp
    · rw [List.mem_singleton.1 hp]; exact hn
theorem Back.last {D R Y : List Pie} {C : List (Int × Int)} (h : PutsR D R) (b : Back D Y C) : R = Y := Pl.Line.ext none_ok h.line b.line fun t => by rw [h.means, b.means]
end Go.Proofs.YtgmaompjhhomcaaGreat

namespace Go.Proofs.YtgmaompjhhomcaaGreat
open Go.RowKit
/-- A slice of words that came in. -/
def InU (w : World) (v : Value) (U : List Int) : Prop := (v = .slice none 0 0 ∧ U = []) ∨ ∃ (adr : Addr) (c : Nat), v = .slice (some adr) U.length c ∧ U.length ≤ c ∧ c ≤ maxLen ∧ (0 < U.length → adr.block < w.heap.size) ∧ ∀ i (h : i < U.length), w.cell? (adr.add i) = some (.int .u64 U[i])
theorem InU.below {w w' : World} {v : Value} {U : List Int} (h : InU w v U) (hb : Below w.heap.size w w') : InU w' v U := by
  rcases h with h | ⟨adr, c, e, h1, h2, h3, h4⟩
  · exact .inl h
  · exact .inr ⟨adr, c, e, h1, h2, fun h0 => Nat.lt_of_lt_of_le (h3 h0) hb.size, fun i hi => (hb.cell (p := adr.add i) (by unfold Addr.add; split <;> exact h3 (by omega))).trans (h4 i hi)⟩
theorem ownU_new (w : World) (base : Nat) (L : List Int) (n : Nat) (hn : L.length = n) (hb : base ≤ w.heap.size) (hm : n ≤ maxLen) : Se.OwnU base (w.alloc (.cells (L.map (Value.int .u64)).toArray 23)) (.slice (some ⟨w.heap.size, 0, none⟩) n n) L := by
  subst hn
  exact ⟨by simp, .inr ⟨w.heap.size, L.length, (L.map (Value.int .u64)).toArray, rfl, hb, heap_alloc_new w _, Nat.le_refl _, hm, by simp, by rw [Nat.mul_one]; exact List.take_of_length_le (by simp)⟩⟩
/-- append of words that lie anywhere. -/
theorem wpList_appV {ops : Array Oper} {rest : List Oper} {o : Oper} {a : Act} {w : World} {Q : Exit → Act → World → Prop} (hgd : o.guard = none) (s x : Operand)
    (ho : o.op = .call { callee := .builtin .append, args := #[s, x], argTypes := #[44, 44] })
    (base : Nat) (v : Value) (L M : List Int) (hs : a.eval s = v) (hown : Se.OwnU base w v L) (n : Nat) (hn : n = M.length) (adr : Addr) (c : Nat) (hx : a.eval x = .slice (some adr) n c) (hnc : n ≤ c)
    (hcl : ∀ i (h : i < M.length), w.cell? (adr.add i) = some (.int .u64 M[i])) (hlen : L.length + M.length ≤ 4000000000000) (hbase : base ≤ w.heap.size)
    (h : ∀ v' w', Se.OwnU base w' v' (L ++ M) → w.grownBy w' v.ownBlock → Below base w w' → wpList Tryz.prog ops Q rest (a.put o.dst v') w') :
    wpList Tryz.prog ops Q (o :: rest) a w := by
  obtain ⟨i0, hi, hz0, hz1, hz2⟩ := info_parts Se.infoU
  subst hn
  refine wpList_append_own_at _ hgd s x 44 ho base 23 i0 _ 1 8 Tryz.underlying44 hi hz0 hz1 hz2 rfl (by omega) v _ _ hs hown adr M.length c (M.map (Value.int .u64)) hx (by simp) ?_ ?_ (by unfold maxLen; omega) (by omega) hbase ?_
  · intro j u hj
    rw [List.getElem?_map, Option.map_eq_some_iff] at hj
    obtain ⟨z, hz, rfl⟩ := hj
    obtain ⟨hl, rfl⟩ := List.getElem?_eq_some_iff.1 hz
    exact hcl j hl
  · intro u hu
    rw [List.mem_map] at hu
    obtain ⟨z, _, rfl⟩ := hu
    rfl
  · intro v' w' h1 h2 h3 _
    refine h v' w' ?_ h2 ((Below.refl _ _).grown h2 hbase fun k hk => (World.ownsRow.lt hown k hk).1)
    unfold Se.OwnU
    rw [List.map_append, List.length_append]
    exact h1
theorem wpList_appP2 {ops : Array Oper} {rest : List Oper} {o : Oper} {a : Act} {w : World} {Q : Exit → Act → World → Prop} (hgd : o.guard = none) (s x : Operand)
    (ho : o.op = .call { callee := .builtin .append, args := #[s, x], argTypes := #[29, 29] })
    (base : Nat) (v : Value) (L : List (Int × Int)) (hs : a.eval s = v) (hown : Se.OwnP base w v L) (g : Nat) (p q : Int) (hx : a.eval x = .slice (some ⟨g, 0, none⟩) 1 1)
    (hp : w.cell? ⟨g, 0, none⟩ = some (.int .u64 p)) (hq : w.cell? ⟨g, 1, none⟩ = some (.int .u64 q)) (hlen : L.length ≤ 1000000000000) (hbase : base ≤ w.heap.size)
    (h : ∀ v' w', Se.OwnP base w' v' (L ++ [(p, q)]) → w.grownBy w' v.ownBlock → Below base w w' → wpList Tryz.prog ops Q rest (a.put o.dst v') w') :
    wpList Tryz.prog ops Q (o :: rest) a w := by
  obtain ⟨i0, hi, hz0, hz1, hz2⟩ := info_parts Se.infoP
  refine wpList_append_own_at _ hgd s x 29 ho base 25 i0 _ 2 16 Tryz.underlying29 hi hz0 hz1 hz2 rfl (by omega) v _ _ hs hown ⟨g, 0, none⟩ 1 1 [.int .u64 p, .int .u64 q] hx rfl ?_ ?_ (by unfold maxLen; omega) (by omega) hbase ?_
  · intro j u hj
    match j, hj with
    | 0, hj => simp at hj; subst hj; rw [add_off]; exact hp
    | 1, hj => simp at hj; subst hj; rw [add_off]; exact hq
    | j + 2, hj => simp at hj
  · intro u hu
    simp at hu
    rcases hu with rfl | rfl <;> rfl
  · intro v' w' h1 h2 h3 _
    refine h v' w' ?_ h2 ((Below.refl _ _).grown h2 hbase fun k hk => (World.ownsRow.lt hown k hk).1)
    unfold Se.OwnP
    rw [Se.cellsP_append, List.length_append]
    exact h1
theorem apart_LP {base base' : Nat} {w : World} {v u : Value} {l : List Pie} {m : List (Int × Int)} (h : OwnL base w v l) (g : Se.OwnP base' w u m) : v.ownBlock = none ∨ v.ownBlock ≠ u.ownBlock := by
  rcases h.2 with ⟨rfl, _⟩ | ⟨q, cap, cur, rfl, _, hq, _⟩
  · exact .inl rfl
  · refine .inr fun e => ?_
    rcases g.2 with ⟨rfl, _⟩ | ⟨q', cap', cur', rfl, _, hq', _⟩
    · simp [Value.ownBlock] at e
    · simp [Value.ownBlock] at e
      subst e
      rw [hq] at hq'
      simp at hq'
section
variable {ops : Array Oper} {o : Oper} {a : Act} {K : Act → World → Prop} {Q : Exit → Act → World → Prop} {E : Prop} {w : World}
/-- append of three words, in a region that draws its order. -/
theorem step_appV (hw : Region.wanted o (yielded ops a.tmps) = true) (s x : Operand) (ho : o.op = .call { callee := .builtin .append, args := #[s, x], argTypes := #[44, 44] })
    (base : Nat) (v : Value) (L : List Int) (hs : a.eval s = v) (h : Se.OwnU base w v L) (g : Nat) (p q r : Int) (hx : a.eval x = .slice (some ⟨g, 0, none⟩) 3 3)
    (c0 : w.cell? ⟨g, 0, none⟩ = some (.int .u64 p)) (c1 : w.cell? ⟨g, 1, none⟩ = some (.int .u64 q)) (c2 : w.cell? ⟨g, 2, none⟩ = some (.int .u64 r))
    (hm : L.length + 3 ≤ 1000000000000) (hb : base ≤ w.heap.size)
    (hK : ∀ v' w', Se.OwnU base w' v' (L ++ [p, q, r]) → Below base w w' → K (a.put o.dst v') w') :
    if Region.wanted o (yielded ops a.tmps) = true then Oper.wp Tryz.prog o a w K Q else E := by
  rw [if_pos hw]
  obtain ⟨i0, hi, hz0, hz1, hz2⟩ := info_parts Se.infoU
  obtain ⟨v', w', h1, h2, h3, _, _⟩ := run_append_own_at (P := Tryz.prog) w base 44 o.type 23 i0 _ 1 8 Tryz.underlying44 hi hz0 hz1 hz2 rfl (by omega) v _ _ h ⟨g, 0, none⟩ 3 3 [.int .u64 p, .int .u64 q, .int .u64 r] rfl (fun j u hj => by
      rw [add_off]
      match j, hj with
      | 0, hj => simp at hj; subst hj; exact c0
      | 1, hj => simp at hj; subst hj; exact c1
      | 2, hj => simp at hj; subst hj; exact c2
      | j + 3, hj => simp at hj) (fun u hu => by
      simp at hu
      rcases hu with rfl | rfl | rfl <;> rfl) (by unfold maxLen; omega) (by omega) hb
  unfold Oper.wp execOp
  simp only [ho, resolve, invoke, builtin, Sem.run_bind, Sem.run_pure, Result.andThen_ok, List.map_toArray, List.map_cons, List.map_nil, hs, hx, h1]
  refine hK v' w' ?_ ((Below.refl _ _).grown h3 hb fun k hk => (World.ownsRow.lt h k hk).1)
  unfold Se.OwnU
  rw [List.map_append, List.length_append]
  exact h2
end
end Go.Proofs.YtgmaompjhhomcaaGreat

namespace Go.Proofs.YtgmaompjhhomcaaGreat
open Go.RowKit Go.Shelf Go.Lib Go.Sort
theorem holds_u {w : World} {g : Nat} {cur : Array Value} {e : TypeId} {L : List Int} (hb : w.heap[g]? = some (.cells cur e (0, 0))) (ht : cur.toList.take L.length = L.map (Value.int .u64)) : Holds (Value.int .u64) w g 0 L.toArray := by
  intro j hj
  have hj' : j < L.length := by simpa using hj
  refine ⟨?_, by simp [World.frozen?, hb]⟩
  have h1 : (cur.toList.take L.length)[j]? = (L.map (Value.int .u64))[j]? := by rw [ht]
  rw [List.getElem?_take_of_lt hj'] at h1
  simp only [World.cell?, hb, Nat.zero_add]
  simp only [Option.isSome_none, Bool.false_eq_true, if_false]
  rw [← Array.getElem?_toList, h1]
  simp [hj']
theorem heap_u {w : World} {g n : Nat} {cur : Array Value} {e : TypeId} {fr : Nat × Nat} (d : Array Int) (hb : w.heap[g]? = some (.cells cur e fr)) :
    (putRow (Value.int .u64) (Sort.ahead w n) g 0 d).heap[g]? = some (.cells (putCells (Value.int .u64) 0 d cur) e fr) := by
  simp [putRow, mapBlock, Sort.ahead, Array.getElem?_modify, hb, onCells]
theorem grownBy_u {w : World} {g n : Nat} (d : Array Int) : w.grownBy (putRow (Value.int .u64) (Sort.ahead w n) g 0 d) (some g) := by
  refine ⟨rfl, rfl, rfl, by simp, fun k hk hne => ?_⟩
  have : g ≠ k := fun e => hne (by rw [e])
  simp [putRow, mapBlock, Sort.ahead, Array.getElem?_modify, this]
theorem take_u (cur : Array Value) (ts rs : List Int) (h : (ts ++ rs).length ≤ cur.size) : (putCells (Value.int .u64) 0 (ts ++ rs).toArray cur).toList.take ts.length = ts.map (Value.int .u64) := by
  apply List.ext_getElem?
  intro j
  have hl : ts.length ≤ (ts ++ rs).length := by simp
  by_cases hj : j < ts.length
  · rw [List.getElem?_take_of_lt hj, Array.getElem?_toList]
    have e : (ts ++ rs)[j]? = some ts[j] := by rw [List.getElem?_append_left hj, List.getElem?_eq_getElem hj]
    simp [putCells, hj, show j < cur.size by omega, show j < ts.length + rs.length by omega]
  · rw [List.getElem?_take_eq_none (by omega), List.getElem?_eq_none (by simp; omega)]
theorem compactUpTo_length (d : Array Int) : ∀ m, (compactUpTo d m).length ≤ m
  | 0 => by simp [compactUpTo]
  | m + 1 => by
    have := compactUpTo_length d m
    rw [compactUpTo_succ, List.length_append]
    split <;> simp <;> omega
section
set_option maxRecDepth 100000
set_option maxHeartbeats 8000000
theorem Compact_own (base : Nat) (v : Value) (L : List Int) (w : World) (h : Se.OwnU base w v L) (hbase : base ≤ w.heap.size) (hl : L.length ≤ 1000000000000) :
    Calls Tryz.prog 71 #[v] w fun e w' => ∃ u, e = .returned u ∧ Se.OwnU base w' u (compact L) ∧ Below base w w' := by
  rcases h.2 with ⟨rfl, h0⟩ | ⟨g, cap, cur, rfl, hg, hc, h1, h2, h3, h4⟩
  · obtain rfl := List.eq_nil_of_length_eq_zero h0
    clear h
    go_enter Tryz.func71, Tryz.ntmps71
    go_wp2
    go_ret
    exact ⟨_, rfl, Se.OwnU.nil _ _, Below.refl _ _⟩
  · rw [Nat.mul_one] at h3 h4
    have hH := holds_u hc h4
    have hcl := compactUpTo_length L.toArray L.length
    refine (AnyE.slices_Compact (P := Tryz.prog) compU (Value.int .u64) (fun _ => rfl) (EqlAt.intD _ _ .u64) (NeqAt.intD _ _ .u64) 0 (fun w => Tryz.zeroValue23 w) g 0 cap L.toArray w hH (by rw [List.size_toArray]; omega) (by rw [List.size_toArray]; exact h1)).mono ?_
    rintro e w' ⟨rfl, q, rfl⟩
    have hsz : L.toArray.size = L.length := by simp
    rw [hsz]
    refine ⟨_, rfl, ⟨by simp [compact], .inr ⟨g, cap, _, rfl, hg, heap_u _ hc, by unfold compact; omega, h2, by simp [putCells, h3], ?_⟩⟩, (Below.refl _ _).grown (grownBy_u _) hbase fun k hk => ?_⟩
    · rw [Nat.mul_one]
      refine take_u cur _ _ ?_
      rw [List.length_append, List.length_replicate]
      show (compactUpTo L.toArray L.length).length + (L.toArray.size - (compactUpTo L.toArray L.toArray.size).length) ≤ _
      rw [hsz]
      omega
    · injection hk with hk
      omega
end
/-! What Compact leaves of numbers in order. -/
theorem compactUpTo_spec (L : List Int) (hs : L.Pairwise (· ≤ ·)) : ∀ m, m ≤ L.length → (∀ t, t ∈ compactUpTo L.toArray m ↔ t ∈ L.take m) ∧ (compactUpTo L.toArray m).Pairwise (· < ·)
  | 0, _ => by simp [compactUpTo]
  | m + 1, hm => by
    have hm' : m < L.length := by omega
    obtain ⟨h1, h2⟩ := compactUpTo_spec L hs m (by omega)
    have e : ∀ j (h : j < L.length), L.toArray[j]! = L[j] := fun j h => by simp [h]
    rw [compactUpTo_succ, List.take_succ_eq_append_getElem hm']
    cases hk : keeps L.toArray m
    · simp only [Bool.false_eq_true, if_false, List.append_nil]
      have hk' : ¬ (m = 0 ∨ L.toArray[m]! ≠ L.toArray[m - 1]!) := by
        unfold keeps at hk; simpa using hk
      have hm0 : m ≠ 0 := fun h => hk' (.inl h)
      have hee : L[m] = L[m - 1] := by
        have := Classical.not_not.1 fun h => hk' (.inr h)
        rwa [e m hm', e (m - 1) (by omega)] at this
      refine ⟨fun t => ?_, h2⟩
      rw [h1, List.mem_append, List.mem_singleton]
      refine ⟨.inl, fun h => h.elim id fun h => ?_⟩
      rw [h, hee]
      exact List.mem_take_iff_getElem.2 ⟨m - 1, by omega, rfl⟩
    · simp only [if_true]
      rw [e m hm']
      have hlt : ∀ t ∈ L.take m, t < L[m] := fun t ht => by
        obtain ⟨j, hj, rfl⟩ := List.mem_take_iff_getElem.1 ht
        have hjm : j < m := by omega
        have hk' : m = 0 ∨ L.toArray[m]! ≠ L.toArray[m - 1]! := by unfold keeps at hk; simpa using hk
        rcases hk' with h | h
        · omega
        · rw [e m hm', e (m - 1) (by omega)] at h
          have a1 : L[m - 1] ≤ L[m] := (List.pairwise_iff_getElem.1 hs) (m - 1) m (by omega) hm' (by omega)
          rcases Nat.lt_or_ge j (m - 1) with c | c
          · have a2 : L[j] ≤ L[m - 1] := (List.pairwise_iff_getElem.1 hs) j (m - 1) (by omega) (by omega) c
            omega
          · have : j = m - 1 := by omega
            subst this
            omega
      refine ⟨fun t => by rw [List.mem_append, List.mem_append, h1], List.pairwise_append.2 ⟨h2, by simp, fun t ht u hu => ?_⟩⟩
      rw [List.mem_singleton] at hu
      subst hu
      exact hlt t ((h1 t).1 ht)
theorem compact_spec (L : List Int) (hs : L.Pairwise (· ≤ ·)) : (∀ t, t ∈ compact L ↔ t ∈ L) ∧ (compact L).Pairwise (· < ·) ∧ (compact L).length ≤ L.length := by
  have h := compactUpTo_spec L hs L.length (Nat.le_refl _)
  rw [List.take_length] at h
  exact ⟨h.1, h.2, compactUpTo_length _ _⟩
/-- The instants at which a piece begins or ends, rising. -/
structure EndsOf (l : List Pie) (E : List Int) : Prop where
  row : E.Pairwise (· < ·)
  mem : ∀ t, t ∈ E ↔ ∃ x ∈ l, t = x.a ∨ t = x.b
  len : E.length ≤ 2 * l.length
def endsL (l : List Pie) : List Int := l.flatMap fun x => [x.a, x.b]
theorem endsL_length (l : List Pie) : (endsL l).length = 2 * l.length := by
  induction l with
  | nil => rfl
  | cons x l ih =>
    have : endsL (x :: l) = x.a :: x.b :: endsL l := rfl
    rw [this]; simp only [List.length_cons, ih]; omega
theorem endsL_take (l : List Pie) (k : Nat) (h : k < l.length) : endsL (l.take (k + 1)) = endsL (l.take k) ++ [l[k].a, l[k].b] := by
  unfold endsL
  rw [List.take_succ_eq_append_getElem h, List.flatMap_append]
  simp
theorem endsL_mem (l : List Pie) (t : Int) : t ∈ endsL l ↔ ∃ x ∈ l, t = x.a ∨ t = x.b := by
  unfold endsL
  rw [List.mem_flatMap]
  simp
theorem endsL_row : ∀ {l : List Pie}, Pl.Line okV l → (endsL l).Pairwise (· ≤ ·)
  | [], _ => by simp [endsL]
  | x :: l, h => by
    have hx := (h.good x (by simp)).1
    have e : endsL (x :: l) = x.a :: x.b :: endsL l := rfl
    rw [e]
    have ha : ∀ t ∈ endsL l, x.b ≤ t := fun t ht => by
      obtain ⟨y, hy, hh⟩ := (endsL_mem l t).1 ht
      have h1 := h.ahead y hy
      have h2 := (h.tail.good y hy).1
      omega
    refine List.pairwise_cons.2 ⟨fun t ht => ?_, List.pairwise_cons.2 ⟨ha, endsL_row h.tail⟩⟩
    rcases List.mem_cons.1 ht with rfl | ht
    · omega
    · have := ha t ht; omega
theorem endsOf_compact {l : List Pie} (h : Pl.Line okV l) : EndsOf l (compact (endsL l)) := by
  obtain ⟨h1, h2, h3⟩ := compact_spec _ (endsL_row h)
  exact ⟨h2, fun t => by rw [h1, endsL_mem], by rw [endsL_length] at h3; exact h3⟩
section
set_option maxRecDepth 100000
set_option maxHeartbeats 8000000
theorem Ends_no (v : Value) (l : List Pie) (w : World) (h : SL w v l) (hw : ∀ x ∈ l, x.v.wide) (hl : ¬ Pl.Line okV l) :
    Calls Tryz.prog 17 #[v] w fun e w' => e = .returned (.slice none 0 0) ∧ Below w.heap.size w w' := by
  have CI := Lib.hid (fun W (hb : Below w.heap.size w W) => (Is_any v l W (h.below hb) hw).mono fun _ _ h => h.no hl)
  obtain ⟨A, c, rfl, hA, hm⟩ := h
  clear hA hw hl
  go_enter Tryz.func17, Tryz.ntmps17
  go_wp2_with (go_at_call 21; (with_reducible refine (CI.out _ (Below.refl _ _)).mono ?_); rintro e w1 ⟨rfl, hb⟩)
  go_ret
  exact ⟨rfl, hb⟩
/-- What Ends answers. -/
def EndsAns (l : List Pie) (w : World) (e : Ending) (w' : World) : Prop := ∃ u E, e = .returned u ∧ Se.OwnU w.heap.size w' u E ∧ EndsOf l E ∧ Below w.heap.size w w'
theorem Ends_any (v : Value) (l : List Pie) (w : World) (h : SL w v l) (hl : Pl.Line okV l) (hn : l.length ≤ 100000000000) :
    Calls Tryz.prog 17 #[v] w (EndsAns l w) := by
  have CI := Lib.hid (fun W (hb : Below w.heap.size w W) => (Is_any v l W (h.below hb) (line_w hl)).mono fun _ _ h => h.yes hl)
  obtain ⟨A, c, rfl, hA, hm⟩ := h
  have HA := Lib.hid hA
  have HE := Lib.hid (endsOf_compact hl)
  have EL := Lib.hid endsL_length
  clear hA hl
  have hsf := store_float
  go_enter Tryz.func17, Tryz.ntmps17
  go_wp2_with (go_at_call 21; (with_reducible refine (CI.out _ (Below.refl _ _)).mono ?_); rintro e w1 ⟨rfl, hb⟩; have B1 := Lib.hid hb; clear hb)
  go_loopw [3, 11] (fun u i wr => ∃ k : Nat, k ≤ l.length ∧ i = .int .i64 k ∧ Se.OwnU w.heap.size wr u (endsL (l.take k)) ∧ Below w.heap.size w wr) (fun _ i _ => l.length - (intOf i).toNat)
  case atStart => exact ⟨0, Nat.zero_le _, rfl, Se.OwnU.nil _ _, B1.out⟩
  case round =>
    obtain ⟨k, hk, rfl, ho, hb⟩ := hrel
    have HO := Lib.hid ho
    have HB := Lib.hid hb
    clear ho hb
    by_cases hlt : k < l.length
    · obtain ⟨g, off, rfl, lg, cg⟩ := (HA.out.below HB.out) (by omega)
      have r := cg k hlt
      have YY := Lib.hid (endsL_take l k hlt)
      have i0 : (k : Int) < (l.length : Int) := by omega
      have i1 : (0 : Int) ≤ (k : Int) := by omega
      clear cg
      obtain ⟨x, hx⟩ : ∃ x, l[k] = x := ⟨_, rfl⟩
      rw [hx] at r YY
      clear hx
      obtain ⟨a, b, ⟨kk, vb, n, f, s⟩⟩ := x
      simp only at YY
      go_upto_region 7 with (refine wpList_load_mid rfl 43 (.tmp 13) rfl g (off + k * 7) rfl _ _ r Tryz.underlying43 rfl rowL ?_)
      have X0 := Lib.hid (Bx.new wr (Pie.cells ⟨a, b, ⟨kk, vb, n, f, s⟩⟩) 43)
      have HB0 := Lib.hid (HB.out.trans (((Below.refl wr.heap.size wr).alloc (Nat.le_refl _) (.cells (Pie.cells ⟨a, b, ⟨kk, vb, n, f, s⟩⟩) 43)).mono HB.out.size))
      have HO0 := Lib.hid (HO.out.alloc (.cells (Pie.cells ⟨a, b, ⟨kk, vb, n, f, s⟩⟩) 43))
      obtain ⟨W, hW⟩ : ∃ W, wr.alloc (.cells (Pie.cells ⟨a, b, ⟨kk, vb, n, f, s⟩⟩) 43) = W := ⟨_, rfl⟩
      rw [hW] at X0 HB0 HO0 ⊢
      clear hW
      have x0 := X0.out.c
      have LN : Hid ((endsL (l.take k)).length ≤ 1000000000000) := Lib.hid (by rw [EL.out]; simp; omega)
      have HO3 := Lib.hid (HO0.out.alloc (.cells #[.int .u64 a, .int .u64 b] 23))
      have NB := Lib.hid (Bx.new W #[.int .u64 a, .int .u64 b] 23)
      have hsz := HB0.out.size
      go_wp2_with (at_builtin; refine wpList_appV rfl (.tmp 15) (.tmp 22) rfl w.heap.size _ _ [a, b] rfl HO3.out 2 rfl ⟨W.heap.size, 0, none⟩ 2 rfl (by omega) (fun i hi => ?_) (by have := LN.out; simp; omega) (by simp; omega) ?_)
      · match i, hi with
        | 0, _ => first | rfl | exact NB.out.c 0
        | 1, _ => first | rfl | (rw [add_off]; exact NB.out.c 1)
      · intro v6 w6 ho6 _ hb6
        have O6 := Lib.hid ho6
        have B6 := Lib.hid hb6
        clear ho6 hb6
        go_wp2_with fail
        exact ⟨⟨k + 1, by omega, by go_num, by rw [YY.out]; exact O6.out, (HB0.out.alloc HB0.out.size _).trans B6.out⟩, by simp [intOf]; omega⟩
    · obtain rfl : k = l.length := by omega
      rw [List.take_length] at HO
      have CO := Lib.hid (Compact_own w.heap.size u3 (endsL l) wr HO.out HB.out.size (by rw [EL.out]; omega))
      go_wp2_with (go_at_call 71; (with_reducible refine (CO.out).mono ?_); rintro e w3 ⟨u3', rfl, ho, hb⟩; have O3 := Lib.hid ho; have B3 := Lib.hid hb; clear ho hb)
      go_ret
      exact ⟨_, _, rfl, O3.out, HE.out, HB.out.trans B3.out⟩
end
end Go.Proofs.YtgmaompjhhomcaaGreat

