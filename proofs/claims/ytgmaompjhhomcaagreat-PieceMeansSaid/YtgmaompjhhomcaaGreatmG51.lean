/- PieceMeans in plain words: what is put in from behind, where nothing later is. -/
/- Slices that PieceMeans makes: words, and periods, behind which other slices stand as they were. -/
/- A slice of words that came in. -/
import Derived.Test.YtgmaompjhhomcaaGreatmH8
import Derived.Test.YtgmaompjhhomcaaGreatmG47
import Derived.Test.YtgmaompjhhomcaaGreatmM1
import Derived.Laws.AppendOwnNone
import Derived.Deep.RegionLaw
import Derived.Test.YtgmaompjhhomcaaGreatmE1
namespace Go.Proofs.YtgmaompjhhomcaaGreat
open Go.RowKit
def cov (L : List Pie) (t : Int) : Prop := ∃ p ∈ L, p.a ≤ t ∧ t < p.b
theorem cov_cons (x : Pie) (L : List Pie) (t : Int) : cov (x :: L) t ↔ (x.a ≤ t ∧ t < x.b) ∨ cov L t := by
  unfold cov; simp
open Classical in
theorem fold_last (t : Int) : ∀ (L : List Pie) (acc : VP), L.foldl (fun acc p => if p.a ≤ t ∧ t < p.b then p.v else acc) acc = if cov L t then lastV L t else acc
  | [], acc => by simp [cov]
  | x :: L, acc => by
    have h1 : lastV (x :: L) t = if cov L t then lastV L t else (if x.a ≤ t ∧ t < x.b then x.v else VP.none) := by
      unfold lastV
      rw [List.foldl_cons, fold_last t L]
      rfl
    rw [List.foldl_cons, fold_last t L, h1]
    by_cases c : cov L t
    · rw [if_pos c, if_pos ((cov_cons x L t).2 (.inr c)), if_pos c]
    · rw [if_neg c]
      by_cases d : x.a ≤ t ∧ t < x.b
      · rw [if_pos d, if_pos ((cov_cons x L t).2 (.inl d)), if_neg c, if_pos d]
      · rw [if_neg d, if_neg (fun h => by rcases (cov_cons x L t).1 h with h | h; exact d h; exact c h)]
theorem lastV_cons_yes {x : Pie} {L : List Pie} {t : Int} (c : cov L t) : lastV (x :: L) t = lastV L t := by
  show (x :: L).foldl _ _ = _
  rw [List.foldl_cons, fold_last t L, if_pos c]
open Classical in
theorem lastV_cons_no {x : Pie} {L : List Pie} {t : Int} (c : ¬ cov L t) : lastV (x :: L) t = if x.a ≤ t ∧ t < x.b then x.v else VP.none := by
  show (x :: L).foldl _ _ = _
  rw [List.foldl_cons, fold_last t L, if_neg c]
theorem lastV_none {L : List Pie} {t : Int} (c : ¬ cov L t) : lastV L t = VP.none := by
  show L.foldl _ _ = _
  rw [fold_last t L, if_neg c]
/-- What has come of the puts L from behind: the line Y, and what is covered. -/
structure Back (L Y : List Pie) (C : List (Int × Int)) : Prop where
  line : Pl.Line okV Y
  means : ∀ t, Pl.means VP.none Y t = lastV L t
  has : ∀ t, Se.Iset.has C t = true ↔ cov L t
  lenC : C.length = L.length
  lenY : Y.length ≤ 200 * L.length
  wide : Se.Iset.Wide C
theorem Back.nil : Back [] [] [] := ⟨Pl.Line.nil _, fun _ => rfl, fun t => by simp [Se.Iset.has, cov], rfl, by simp, fun p hp => by simp at hp⟩
/-- One put from behind, as far as its free parts F are put in: Z means the put's value there. -/
structure Mid (x : Pie) (Y Z : List Pie) (F : List (Int × Int)) (m : Nat) : Prop where
  line : Pl.Line okV Z
  means : ∀ t, (Se.Iset.has (F.take m) t = true → Pl.means VP.none Z t = x.v) ∧ (¬ Se.Iset.has (F.take m) t = true → Pl.means VP.none Z t = Pl.means VP.none Y t)
  len : Z.length ≤ Y.length + 2 * m
theorem Mid.start {x : Pie} {Y : List Pie} {F : List (Int × Int)} (h : Pl.Line okV Y) : Mid x Y Y F 0 := ⟨h, fun t => ⟨fun h => by simp [Se.Iset.has] at h, fun _ => rfl⟩, by omega⟩
theorem Mid.next {x : Pie} {Y Z S : List Pie} {F : List (Int × Int)} {m : Nat} (h : Mid x Y Z F m) (hm : m < F.length) (hf : F[m].1 < F[m].2 ∧ F[m].2 ≤ 1099511627776) (hs : Pl.SetR okV VP.none Z F[m].1 F[m].2 x.v S) : Mid x Y S F (m + 1) := by
  have e : ∀ t, Se.Iset.has (F.take (m + 1)) t = true ↔ Se.Iset.has (F.take m) t = true ∨ (F[m].1 ≤ t ∧ t < F[m].2) := fun t => by
    rw [List.take_succ_eq_append_getElem hm, Se.Iset.has_append, Bool.or_eq_true, Se.Iset.has_cons, Se.Iset.has_nil, Bool.or_false, Se.Iset.hasP_iff]
    exact ⟨fun h => h.imp id fun h => h.2, fun h => h.imp id fun h => ⟨hf, h⟩⟩
  refine ⟨hs.line, fun t => ?_, by have := hs.len; have := h.len; omega⟩
  rw [e t]
  by_cases c : F[m].1 ≤ t ∧ t < F[m].2
  · exact ⟨fun _ => (hs.means t).1 c, fun g => absurd (.inr c) g⟩
  · refine ⟨fun g => ?_, fun g => ?_⟩
    · rw [(hs.means t).2 c]
      exact (h.means t).1 (g.resolve_right c)
    · rw [(hs.means t).2 c]
      exact (h.means t).2 fun k => g (.inl k)
theorem Mid.done {x : Pie} {L Y Z : List Pie} {C F : List (Int × Int)} (h : Mid x Y Z F F.length) (b : Back L Y C) (hx : goodP x) (hn : 0 ≤ x.a ∧ 0 ≤ x.b) (hL : L.length ≤ 30) (hr : Se.Iset.Res Se.kLess [(x.a, x.b)] C F) : Back (x :: L) Z (C ++ [(x.a, x.b)]) := by
  have hx1 : ∀ t, Se.Iset.has [(x.a, x.b)] t = true ↔ x.a ≤ t ∧ t < x.b := fun t => by
    rw [Se.Iset.has_cons, Se.Iset.has_nil, Bool.or_false, Se.Iset.hasP_iff]
    exact ⟨fun h => h.2, fun h => ⟨hx.1, h⟩⟩
  have hF : ∀ t, Se.Iset.has F t = true ↔ (x.a ≤ t ∧ t < x.b) ∧ ¬ cov L t := fun t => by
    rw [hr.has t, Bool.and_eq_true, hx1, Bool.not_eq_true', ← Bool.not_eq_true, b.has]
  refine ⟨h.line, fun t => ?_, fun t => ?_, by simp [b.lenC], ?_, fun p hp => ?_⟩
  · have hm := h.means t
    rw [List.take_length, hF] at hm
    by_cases c : cov L t
    · rw [lastV_cons_yes c, hm.2 fun g => g.2 c, b.means]
    · rw [lastV_cons_no c]
      by_cases d : x.a ≤ t ∧ t < x.b
      · rw [if_pos d, hm.1 ⟨d, c⟩]
      · rw [if_neg d, hm.2 fun g => d g.1, b.means, lastV_none c]
  · rw [Se.Iset.has_append, Bool.or_eq_true, hx1, b.has, cov_cons]
    exact Or.comm
  · have h1 := h.len
    have h2 := b.lenY
    have h3 := hr.len
    have h4 := b.lenC
    simp only [List.length_cons, List.length_nil] at h3 ⊢
    omega
  · rcases List.mem_append.1 hp with hp | hp
    · exact b.wide p hp
    · rw [List.mem_singleton.1 hp]; exact hn
theorem Back.last {D R Y : List Pie} {C : List (Int × Int)} (h : PutsR D R) (b : Back D Y C) : R = Y := Pl.Line.ext none_ok h.line b.line fun t => by rw [h.means, b.means]
end Go.Proofs.YtgmaompjhhomcaaGreat

namespace Go.Proofs.YtgmaompjhhomcaaGreat
open Go.RowKit
/-- A slice of words that came in. -/
def InU (w : World) (v : Value) (U : List Int) : Prop := (v = .slice none 0 0 ∧ U = []) ∨ ∃ (adr : Addr) (c : Nat), v = .slice (some adr) U.length c ∧ U.length ≤ c ∧ c ≤ maxLen ∧ (0 < U.length → adr.block < w.heap.size) ∧ ∀ i (h : i < U.length), w.cell? (adr.add i) = some (.int .u64 U[i])
theorem InU.below {w w' : World} {v : Value} {U : List Int} (h : InU w v U) (hb : Below w.heap.size w w') : InU w' v U := by
  rcases h with h | ⟨adr, c, e, h1, h2, h3, h4⟩
  · exact .inl h
  · exact .inr ⟨adr, c, e, h1, h2, fun h0 => Nat.lt_of_lt_of_le (h3 h0) hb.size, fun i hi => (hb.cell (p := adr.add i) (by unfold Addr.add; split <;> exact h3 (by omega))).trans (h4 i hi)⟩
theorem ownU_new (w : World) (base : Nat) (L : List Int) (n : Nat) (hn : L.length = n) (hb : base ≤ w.heap.size) (hm : n ≤ maxLen) : Se.OwnU base (w.alloc (.cells (L.map (Value.int .u64)).toArray 23)) (.slice (some ⟨w.heap.size, 0, none⟩) n n) L := by
  subst hn
  exact ⟨by simp, .inr ⟨w.heap.size, L.length, (L.map (Value.int .u64)).toArray, rfl, hb, heap_alloc_new w _, Nat.le_refl _, hm, by simp, by rw [Nat.mul_one]; exact List.take_of_length_le (by simp)⟩⟩
/-- append of words that lie anywhere. -/
theorem wpList_appV {ops : Array Oper} {rest : List Oper} {o : Oper} {a : Act} {w : World} {Q : Exit → Act → World → Prop} (hgd : o.guard = none) (s x : Operand)
    (ho : o.op = .call { callee := .builtin .append, args := #[s, x], argTypes := #[44, 44] })
    (base : Nat) (v : Value) (L M : List Int) (hs : a.eval s = v) (hown : Se.OwnU base w v L) (n : Nat) (hn : n = M.length) (adr : Addr) (c : Nat) (hx : a.eval x = .slice (some adr) n c) (hnc : n ≤ c)
    (hcl : ∀ i (h : i < M.length), w.cell? (adr.add i) = some (.int .u64 M[i])) (hlen : L.length + M.length ≤ 4000000000000) (hbase : base ≤ w.heap.size)
    (h : ∀ v' w', Se.OwnU base w' v' (L ++ M) → w.grownBy w' v.ownBlock → Below base w w' → wpList Tryz.prog ops Q rest (a.put o.dst v') w') :
    wpList Tryz.prog ops Q (o :: rest) a w := by
  obtain ⟨i0, hi, hz0, hz1, hz2⟩ := info_parts Se.infoU
  subst hn
  refine wpList_append_own_at _ hgd s x 44 ho base 23 i0 _ 1 8 Tryz.underlying44 hi hz0 hz1 hz2 rfl (by omega) v _ _ hs hown adr M.length c (M.map (Value.int .u64)) hx (by simp) ?_ ?_ (by unfold maxLen; omega) (by omega) hbase ?_
  · intro j u hj
    rw [List.getElem?_map, Option.map_eq_some_iff] at hj
    obtain ⟨z, hz, rfl⟩ := hj
    obtain ⟨hl, rfl⟩ := List.getElem?_eq_some_iff.1 hz
    exact hcl j hl
  · intro u hu
    rw [List.mem_map] at hu
    obtain ⟨z, _, rfl⟩ := hu
    rfl
  · intro v' w' h1 h2 h3 _
    refine h v' w' ?_ h2 ((Below.refl _ _).grown h2 hbase fun k hk => (World.ownsRow.lt hown k hk).1)
    unfold Se.OwnU
    rw [List.map_append, List.length_append]
    exact h1
theorem wpList_appP2 {ops : Array Oper} {rest : List Oper} {o : Oper} {a : Act} {w : World} {Q : Exit → Act → World → Prop} (hgd : o.guard = none) (s x : Operand)
    (ho : o.op = .call { callee := .builtin .append, args := #[s, x], argTypes := #[29, 29] })
    (base : Nat) (v : Value) (L : List (Int × Int)) (hs : a.eval s = v) (hown : Se.OwnP base w v L) (g : Nat) (p q : Int) (hx : a.eval x = .slice (some ⟨g, 0, none⟩) 1 1)
    (hp : w.cell? ⟨g, 0, none⟩ = some (.int .u64 p)) (hq : w.cell? ⟨g, 1, none⟩ = some (.int .u64 q)) (hlen : L.length ≤ 1000000000000) (hbase : base ≤ w.heap.size)
    (h : ∀ v' w', Se.OwnP base w' v' (L ++ [(p, q)]) → w.grownBy w' v.ownBlock → Below base w w' → wpList Tryz.prog ops Q rest (a.put o.dst v') w') :
    wpList Tryz.prog ops Q (o :: rest) a w := by
  obtain ⟨i0, hi, hz0, hz1, hz2⟩ := info_parts Se.infoP
  refine wpList_append_own_at _ hgd s x 29 ho base 25 i0 _ 2 16 Tryz.underlying29 hi hz0 hz1 hz2 rfl (by omega) v _ _ hs hown ⟨g, 0, none⟩ 1 1 [.int .u64 p, .int .u64 q] hx rfl ?_ ?_ (by unfold maxLen; omega) (by omega) hbase ?_
  · intro j u hj
    match j, hj with
    | 0, hj => simp at hj; subst hj; rw [add_off]; exact hp
    | 1, hj => simp at hj; subst hj; rw [add_off]; exact hq
    | j + 2, hj => simp at hj
  · intro u hu
    simp at hu
    rcases hu with rfl | rfl <;> rfl
  · intro v' w' h1 h2 h3 _
    refine h v' w' ?_ h2 ((Below.refl _ _).grown h2 hbase fun k hk => (World.ownsRow.lt hown k hk).1)
    unfold Se.OwnP
    rw [Se.cellsP_append, List.length_append]
    exact h1
theorem apart_LP {base base' : Nat} {w : World} {v u : Value} {l : List Pie} {m : List (Int × Int)} (h : OwnL base w v l) (g : Se.OwnP base' w u m) : v.ownBlock = none ∨ v.ownBlock ≠ u.ownBlock := by
  rcases h.2 with ⟨rfl, _⟩ | ⟨q, cap, cur, rfl, _, hq, _⟩
  · exact .inl rfl
  · refine .inr fun e => ?_
    rcases g.2 with ⟨rfl, _⟩ | ⟨q', cap', cur', rfl, _, hq', _⟩
    · simp [Value.ownBlock] at e
    · simp [Value.ownBlock] at e
      subst e
      rw [hq] at hq'
      simp at hq'
section
variable {ops : Array Oper} {o : Oper} {a : Act} {K : Act → World → Prop} {Q : Exit → Act → World → Prop} {E : Prop} {w : World}
/-- append of three words, in a region that draws its order. -/
theorem step_appV (hw : Region.wanted o (yielded ops a.tmps) = true) (s x : Operand) (ho : o.op = .call { callee := .builtin .append, args := #[s, x], argTypes := #[44, 44] })
    (base : Nat) (v : Value) (L : List Int) (hs : a.eval s = v) (h : Se.OwnU base w v L) (g : Nat) (p q r : Int) (hx : a.eval x = .slice (some ⟨g, 0, none⟩) 3 3)
    (c0 : w.cell? ⟨g, 0, none⟩ = some (.int .u64 p)) (c1 : w.cell? ⟨g, 1, none⟩ = some (.int .u64 q)) (c2 : w.cell? ⟨g, 2, none⟩ = some (.int .u64 r))
    (hm : L.length + 3 ≤ 1000000000000) (hb : base ≤ w.heap.size)
    (hK : ∀ v' w', Se.OwnU base w' v' (L ++ [p, q, r]) → Below base w w' → K (a.put o.dst v') w') :
    if Region.wanted o (yielded ops a.tmps) = true then Oper.wp Tryz.prog o a w K Q else E := by
  rw [if_pos hw]
  obtain ⟨i0, hi, hz0, hz1, hz2⟩ := info_parts Se.infoU
  obtain ⟨v', w', h1, h2, h3, _, _⟩ := run_append_own_at (P := Tryz.prog) w base 44 o.type 23 i0 _ 1 8 Tryz.underlying44 hi hz0 hz1 hz2 rfl (by omega) v _ _ h ⟨g, 0, none⟩ 3 3 [.int .u64 p, .int .u64 q, .int .u64 r] rfl (fun j u hj => by
      rw [add_off]
      match j, hj with
      | 0, hj => simp at hj; subst hj; exact c0
      | 1, hj => simp at hj; subst hj; exact c1
      | 2, hj => simp at hj; subst hj; exact c2
      | j + 3, hj => simp at hj) (fun u hu => by
      simp at hu
      rcases hu with rfl | rfl | rfl <;> rfl) (by unfold maxLen; omega) (by omega) hb
  unfold Oper.wp execOp
  simp only [ho, resolve, invoke, builtin, Sem.run_bind, Sem.run_pure, Result.andThen_ok, List.map_toArray, List.map_cons, List.map_nil, hs, hx, h1]
  refine hK v' w' ?_ ((Below.refl _ _).grown h3 hb fun k hk => (World.ownsRow.lt h k hk).1)
  unfold Se.OwnU
  rw [List.map_append, List.length_append]
  exact h2
end
end Go.Proofs.YtgmaompjhhomcaaGreat

namespace Go.Proofs.YtgmaompjhhomcaaGreat
open Go.ChangeShapes Go.WideShapes Go.ChangeAt Go.RowKit
set_option maxRecDepth 100000 in
theorem open_inU {H : Type} {enc : TypeId × Value → H} {W : World} {base b0 : Nat} {sp : Nat → Bool} {held : Bool} {r : Reach} {v : Value} {d : DataW H} {p : List MemPlace} (hv : Value.okWide Tryz.prog W r b0 44 v) (h : DataW.Trod enc Tryz.prog W base sp held 44 v d p) : ∃ U : List Int, InU W v U ∧ U.length ≤ maxLen := by
  obtain ⟨x0, x1, x2, rfl⟩ := okWide_slice Tryz.underlying44 hv
  obtain ⟨fuel, hf⟩ := h
  rcases DataW.trod_slice Tryz.underlying44 hf with ⟨e, _⟩ | ⟨a, len, cap, elems, rest, n, g1, e, g2, g3, g4, g5, hlen, hg, _, _⟩
  · simp [Value.cells] at e
    obtain ⟨rfl, rfl, rfl⟩ := e
    exact ⟨[], .inl ⟨rfl, rfl⟩, by simp⟩
  · simp [Value.cells] at e
    obtain ⟨rfl, rfl, rfl⟩ := e
    have hC : Tryz.prog.cellsOf 23 = 1 := by kernel_rfl
    rw [hC] at hg
    have each : ∀ i, ∃ z : Int, i < x1 → W.cell? (a.add i) = some (.int .u64 z) := fun i => by
      by_cases hi : i < x1
      · have h1 := hg i hi
        rw [List.getElem?_eq_getElem (by omega), Option.bind_eq_some_iff] at h1
        obtain ⟨cs, hcs, ht⟩ := h1
        obtain ⟨_, hl, hcell⟩ := World.cells?_some hcs
        match cs, hl, hcell, ht with
        | [c0], _, hcell, ht =>
          obtain ⟨z, e, _, w⟩ := DataW.trod_int Tryz.underlying23 ht
          simp at e
          subst e
          refine ⟨z, fun _ => ?_⟩
          have := hcell 0 (by omega)
          rw [Nat.mul_one] at this
          simpa [Addr.add] using this
      · exact ⟨0, fun h => absurd h hi⟩
    obtain ⟨f, each⟩ : ∃ f : Nat → Int, ∀ i, i < x1 → W.cell? (a.add i) = some (.int .u64 (f i)) := ⟨fun i => Classical.choose (each i), fun i => Classical.choose_spec (each i)⟩
    have hlen2 : ((List.range x1).map f).length = x1 := by simp
    refine ⟨(List.range x1).map f, .inr ⟨a, x2, by rw [hlen2], by rw [hlen2]; omega, by omega, fun h0 => ?_, fun i hi => ?_⟩, by rw [hlen2]; omega⟩
    · have f0 := each 0 (by omega)
      have e0 : a.add 0 = a := by unfold Addr.add; split <;> simp_all
      rw [e0] at f0
      exact World.block_lt_of_cell? W _ f0
    · rw [hlen2] at hi
      rw [List.getElem_map, List.getElem_range]
      exact each i hi
end Go.Proofs.YtgmaompjhhomcaaGreat

