/- PieceTwice's walk: what is set twice is set once; where two periods have no instant together the order does not matter; a period set in two parts is set. -/
/- Arguments opened: puts, and slices of them; what the seat's program owns. -/
/- Rows of periods appended whole; slices of periods that came in (iset's, in namespace Se). -/
import Derived.Test.YtmolpogehgeebaaGreatbH3
import Derived.Test.YtmolpogehgeebaaGreatbJ7
import Derived.Laws.AppendOwnNone
namespace Go.Proofs.YtmolpogehgeebaaGreat
open Go.RowKit
namespace Pl
variable {V : Type} {ok : V → Prop} {z v u : V} {l R S T : List (PC V)} {c d e f m : Int}
end Pl
section
set_option maxRecDepth 100000
set_option maxHeartbeats 8000000
/-- No instant together. -/
theorem meet_none {p q R : List (Int × Int)} (h : Se.Iset.Res Se.kAnd p q R) (h0 : R.length = 0) (t : Int) : ¬ (Se.Iset.has p t = true ∧ Se.Iset.has q t = true) := fun g => by
  have := h.has t
  rw [List.eq_nil_of_length_eq_zero h0, g.1, g.2] at this
  cases this
theorem meet_no {a b c d : Int} {R : List (Int × Int)} (h : Se.Iset.Res Se.kAnd [(a, b)] [(c, d)] R) (h0 : R.length = 0) (hb : b ≤ 1099511627776) (hd : d ≤ 1099511627776) (t : Int) : ¬ ((a ≤ t ∧ t < b) ∧ c ≤ t ∧ t < d) := fun g =>
  meet_none h h0 t ⟨(Se.Iset.has_iff _ _).2 ⟨(a, b), List.mem_singleton.2 rfl, (Se.Iset.hasP_iff _ _).2 ⟨⟨by show a < b; omega, hb⟩, g.1⟩⟩, (Se.Iset.has_iff _ _).2 ⟨(c, d), List.mem_singleton.2 rfl, (Se.Iset.hasP_iff _ _).2 ⟨⟨by show c < d; omega, hd⟩, g.2⟩⟩⟩
end
end Go.Proofs.YtmolpogehgeebaaGreat


namespace Go.Proofs.YtmolpogehgeebaaGreat
open Go.ChangeShapes Go.WideShapes Go.ChangeAt Go.RowKit
theorem piece_own : ownKnob Tryz.prog.godebug = none := by kernel_rfl
theorem u64_nat {x : Int} (h : (Lit.int .u64 x).wf = true) : ∃ n : Nat, x = (n : Int) ∧ n < 18446744073709551616 := by
  have : 0 ≤ x ∧ x ≤ 18446744073709551615 := by simpa [Lit.wf, IntKind.min, IntKind.max, IntKind.signed, IntKind.bits] using h
  exact ⟨x.toNat, by omega, by omega⟩
section
set_option maxRecDepth 100000
variable {H : Type} {enc : TypeId × Value → H} {W : World} {base b0 : Nat} {sp : Nat → Bool} {held : Bool} {r : Reach} {v : Value} {d : DataW H} {p : List MemPlace}
/-- The five cells of a value. -/
theorem trod_value {n : Nat} {x : DataW H × List MemPlace} {c0 c1 c2 c3 c4 : Value} (hf : DataW.trod enc Tryz.prog W base sp held n 31 [c0, c1, c2, c3, c4] = some x) :
    ∃ v : VP, [c0, c1, c2, c3, c4] = [.int .i64 v.k, .bool v.b, .int .i64 v.n, .float .f64 v.f, .string v.s] ∧ v.wide := by
  obtain ⟨xs, n, _, _, _, hlen, hg⟩ := DataW.trod_struct Tryz.underlying31 hf
  have k_bool : Tryz.prog.cellsOf 4 = 1 := by kernel_rfl
  have k_float64 : Tryz.prog.cellsOf 29 = 1 := by kernel_rfl
  have k_int : Tryz.prog.cellsOf 3 = 1 := by kernel_rfl
  have k_int64 : Tryz.prog.cellsOf 2 = 1 := by kernel_rfl
  have k_string : Tryz.prog.cellsOf 9 = 1 := by kernel_rfl
  match xs, hlen, hg with
  | [y0, y1, y2, y3, y4], _, hg =>
    have g0 : DataW.trod enc Tryz.prog W base sp held n 3 (([c0, c1, c2, c3, c4].drop 0).take (Tryz.prog.cellsOf 3)) = some y0 := hg 0 _ rfl
    rw [k_int] at g0
    have g1 : DataW.trod enc Tryz.prog W base sp held n 4 (([c0, c1, c2, c3, c4].drop 1).take (Tryz.prog.cellsOf 4)) = some y1 := hg 1 _ rfl
    rw [k_bool] at g1
    have g2 : DataW.trod enc Tryz.prog W base sp held n 2 (([c0, c1, c2, c3, c4].drop 2).take (Tryz.prog.cellsOf 2)) = some y2 := hg 2 _ rfl
    rw [k_int64] at g2
    have g3 : DataW.trod enc Tryz.prog W base sp held n 29 (([c0, c1, c2, c3, c4].drop 3).take (Tryz.prog.cellsOf 29)) = some y3 := hg 3 _ rfl
    rw [k_float64] at g3
    have g4 : DataW.trod enc Tryz.prog W base sp held n 9 (([c0, c1, c2, c3, c4].drop 4).take (Tryz.prog.cellsOf 9)) = some y4 := hg 4 _ rfl
    rw [k_string] at g4
    obtain ⟨z0, e0, _, w0⟩ := DataW.trod_int Tryz.underlying3 g0
    obtain ⟨z1, e1, _⟩ := DataW.trod_bool Tryz.underlying4 g1
    obtain ⟨z2, e2, _, w2⟩ := DataW.trod_int Tryz.underlying2 g2
    obtain ⟨z3, e3, w3⟩ := trod_float_any Tryz.underlying29 g3
    obtain ⟨z4, e4, _, w4⟩ := DataW.trod_string Tryz.underlying9 g4
    simp at e0 e1 e2 e3 e4
    subst e0 e1 e2 e3 e4
    exact ⟨⟨z0, z1, z2, z3, z4⟩, rfl, i64_fits w0, i64_fits w2, w3, w4⟩
theorem trod_period {n : Nat} {x : DataW H × List MemPlace} {c0 c1 : Value} (hf : DataW.trod enc Tryz.prog W base sp held n 33 [c0, c1] = some x) :
    ∃ a b : Nat, [c0, c1] = [.int .u64 (a : Int), .int .u64 (b : Int)] ∧ a < 18446744073709551616 ∧ b < 18446744073709551616 := by
  obtain ⟨xs, n, _, _, _, hlen, hg⟩ := DataW.trod_struct Tryz.underlying33 hf
  have k_uint64 : Tryz.prog.cellsOf 22 = 1 := by kernel_rfl
  match xs, hlen, hg with
  | [y0, y1], _, hg =>
    have g0 : DataW.trod enc Tryz.prog W base sp held n 22 (([c0, c1].drop 0).take (Tryz.prog.cellsOf 22)) = some y0 := hg 0 _ rfl
    rw [k_uint64] at g0
    have g1 : DataW.trod enc Tryz.prog W base sp held n 22 (([c0, c1].drop 1).take (Tryz.prog.cellsOf 22)) = some y1 := hg 1 _ rfl
    rw [k_uint64] at g1
    obtain ⟨z0, e0, _, w0⟩ := DataW.trod_int Tryz.underlying22 g0
    obtain ⟨z1, e1, _, w1⟩ := DataW.trod_int Tryz.underlying22 g1
    simp at e0 e1
    obtain ⟨n0, rfl, l0⟩ := u64_nat w0
    obtain ⟨n1, rfl, l1⟩ := u64_nat w1
    subst e0 e1
    exact ⟨n0, n1, rfl, l0, l1⟩
end
end Go.Proofs.YtmolpogehgeebaaGreat


namespace Go.Proofs.YtmolpogehgeebaaGreat.Se
open Go.RowKit Go.Shelf Go.Lib
open Iset (nf has NF Res Wide)
theorem cellsP_one (L : List (Int × Int)) : ∀ u ∈ cellsP L, u.oneCell' = true := by
  intro u hu
  simp only [cellsP, List.mem_flatMap, List.mem_cons, List.not_mem_nil, or_false] at hu
  obtain ⟨p, _, rfl | rfl⟩ := hu <;> rfl
theorem PAt.cells {w : World} {b off : Nat} {L : List (Int × Int)} (h : ∀ i (h : i < L.length), w.cell? ⟨b, off + i * 2, none⟩ = some (.int .u64 (L[i].1)) ∧ w.cell? ⟨b, off + i * 2 + 1, none⟩ = some (.int .u64 (L[i].2))) : ∀ j u, (cellsP L)[j]? = some u → w.cell? ((⟨b, off, none⟩ : Addr).add j) = some u := by
  intro j u hj
  rw [add_plain]
  have hl : j < (cellsP L).length := by
    by_cases e : j < (cellsP L).length
    · exact e
    · rw [List.getElem?_eq_none (by omega)] at hj
      cases hj
  rw [cellsP_length] at hl
  have hd : j / 2 < L.length := by omega
  have hc := cellsP_get L (j / 2) hd
  have hw := h (j / 2) hd
  have hm : j % 2 = 0 ∨ j % 2 = 1 := by omega
  rcases hm with hm | hm
  · have e : j / 2 * 2 = j := by omega
    rw [e] at hc hw
    rw [hw.1, ← hc.1, hj]
  · have e : j / 2 * 2 + 1 = j := by omega
    rw [e] at hc
    rw [show off + j / 2 * 2 + 1 = off + j by omega] at hw
    rw [hw.2, ← hc.2, hj]
/-- append of periods onto what the call owns. -/
theorem run_appPs (base : Nat) (w : World) (v : Value) (l : List (Int × Int)) (A : Option Addr) (c : Nat) (news : List (Int × Int)) (ty : TypeId) (h : OwnP base w v l) (hA : PAt w A news) (hz : A = none → c = 0)
    (hm : l.length + news.length ≤ 1000000000000) (hb : base ≤ w.heap.size) :
    ∃ v' w', (Builtin.append_ #[23, 23] ty #[v, .slice A news.length c]).run Tryz.prog w = .ok v' w' ∧ OwnP base w' v' (l ++ news) ∧ w.grownBy w' v.ownBlock := by
  obtain ⟨i0, hi, hz0, hz1, hz2⟩ := info_parts infoP
  have own : ∀ (ad : Addr), (∀ j u, (cellsP news)[j]? = some u → w.cell? (ad.add j) = some u) → ∃ v' w', (Builtin.append_ #[23, 23] ty #[v, .slice (some ad) news.length c]).run Tryz.prog w = .ok v' w' ∧ OwnP base w' v' (l ++ news) ∧ w.grownBy w' v.ownBlock := fun ad hcl => by
    obtain ⟨v', w', h1, h2, h3, _, _⟩ := run_append_own_at (P := Tryz.prog) w base 23 ty 33 i0 _ 2 16 Tryz.underlying23 hi hz0 hz1 hz2 rfl (by omega) v _ _ h ad news.length c (cellsP news) (by rw [cellsP_length]) hcl (cellsP_one news)
      (by unfold maxLen; omega) (by omega) hb
    exact ⟨v', w', h1, by rw [OwnP, cellsP_append, List.length_append]; exact h2, h3⟩
  rcases Nat.eq_zero_or_pos news.length with h0 | h0
  · obtain rfl := List.eq_nil_of_length_eq_zero h0
    cases A with
    | none =>
      obtain rfl := hz rfl
      exact ⟨v, w, run_append_owned_none (P := Tryz.prog) w base 23 ty 33 i0 2 Tryz.underlying23 hi v _ _ h, by simpa using h, World.grownBy.refl _ _⟩
    | some ad => exact own ad (fun j u hj => by simp [cellsP] at hj)
  · obtain ⟨b, off, rfl, _, hc⟩ := hA h0
    exact own _ (PAt.cells hc)
theorem wpList_appPs (w : World) {ops : Array Oper} {rest : List Oper} {o : Oper} {a : Act} {Q : Exit → Act → World → Prop} (hg : o.guard = none) (s x : Operand) (ho : o.op = .call { callee := .builtin .append, args := #[s, x], argTypes := #[23, 23] })
    (base : Nat) (v : Value) (l : List (Int × Int)) (hs : a.eval s = v) (h : OwnP base w v l) (A : Option Addr) (n c : Nat) (news : List (Int × Int)) (hx : a.eval x = .slice A n c) (hA : PAt w A news) (hz : A = none → c = 0) (hn : news.length = n)
    (hm : l.length + news.length ≤ 1000000000000) (hb : base ≤ w.heap.size)
    (hK : ∀ v' w', OwnP base w' v' (l ++ news) → Below base w w' → wpList Tryz.prog ops Q rest (a.put o.dst v') w') : wpList Tryz.prog ops Q (o :: rest) a w := by
  subst hn
  refine wpList_plain hg fun K hK' => ?_
  obtain ⟨v', w', h1, h2, h3⟩ := run_appPs base w v l A c news o.type h hA hz hm hb
  unfold Oper.wp execOp
  simp only [ho, resolve, invoke, builtin, Sem.run_bind, Sem.run_pure, Result.andThen_ok, List.map_toArray, List.map_cons, List.map_nil, hs, hx, h1]
  exact hK' _ _ (hK v' w' h2 ((Below.refl _ _).grown h3 hb fun k hk => (World.ownsRow.lt h k hk).1))
end Go.Proofs.YtmolpogehgeebaaGreat.Se
namespace Go.Proofs.YtmolpogehgeebaaGreat.Se
open Go.ChangeShapes Go.WideShapes Go.ChangeAt Go.RowKit
theorem word_fits {x : Int} (h : (Lit.int .u64 x).wf = true) : 0 ≤ x ∧ x < 18446744073709551616 := by
  obtain ⟨n, rfl, h2⟩ := u64_nat h
  omega
section
variable {H : Type} {enc : TypeId × Value → H} {W : World} {base : Nat} {held : Bool} {v : Value} {d : DataW H} {p : List MemPlace}
set_option maxRecDepth 100000 in
theorem open_pers2 {sp : Nat → Bool} {r : Reach} {b0 : Nat} (hv : Value.okWide Tryz.prog W r b0 23 v) (h : DataW.Trod enc Tryz.prog W base sp held 23 v d p) :
    ∃ A c, ∃ l : List (Int × Int), v = .slice A l.length c ∧ PAt W A l ∧ (A = none → c = 0) ∧ l.length ≤ c ∧ Iset.Wide l ∧ (l.length = 0 ∨ ∃ elems spare, d = .slice elems spare ∧ elems.length = l.length) := by
  obtain ⟨x0, x1, x2, rfl⟩ := okWide_slice Tryz.underlying23 hv
  obtain ⟨fuel, hf⟩ := h
  rcases DataW.trod_slice Tryz.underlying23 hf with ⟨e, _⟩ | ⟨a, len, cap, elems, rest, n, _, e, hx, _, hlc, _, hlen, hg, _, _⟩
  · simp [Value.cells] at e
    obtain ⟨rfl, rfl, rfl⟩ := e
    exact ⟨none, 0, [], rfl, fun h0 => absurd h0 (by simp), fun _ => rfl, Nat.le_refl _, fun p hp => by simp at hp, .inl rfl⟩
  · simp [Value.cells] at e
    obtain ⟨rfl, rfl, rfl⟩ := e
    have hC : Tryz.prog.cellsOf 33 = 2 := by kernel_rfl
    rw [hC] at hg
    have k1 : Tryz.prog.cellsOf 22 = 1 := by kernel_rfl
    have each : ∀ i, ∃ q : Int × Int, i < x1 → W.cell? (a.add (i * 2)) = some (.int .u64 q.1) ∧ W.cell? ((a.add (i * 2)).add 1) = some (.int .u64 q.2) ∧ 0 ≤ q.1 ∧ 0 ≤ q.2 := fun i => by
      by_cases hi : i < x1
      · have h1 := hg i hi
        rw [List.getElem?_eq_getElem (by omega), Option.bind_eq_some_iff] at h1
        obtain ⟨cs, hcs, ht⟩ := h1
        obtain ⟨_, hl, hcell⟩ := World.cells?_some hcs
        match cs, hl, hcell, ht with
        | [c0, c1], _, hcell, ht =>
          obtain ⟨xs, n', _, _, _, hlen', hg'⟩ := DataW.trod_struct Tryz.underlying33 ht
          match xs, hlen', hg' with
          | [y0, y1], _, hg' =>
            have g0 : DataW.trod enc Tryz.prog W base sp held n' 22 (([c0, c1].drop 0).take (Tryz.prog.cellsOf 22)) = some y0 := hg' 0 _ rfl
            have g1 : DataW.trod enc Tryz.prog W base sp held n' 22 (([c0, c1].drop 1).take (Tryz.prog.cellsOf 22)) = some y1 := hg' 1 _ rfl
            rw [k1] at g0 g1
            obtain ⟨z0, e0, _, w0⟩ := DataW.trod_int Tryz.underlying22 g0
            obtain ⟨z1, e1, _, w1⟩ := DataW.trod_int Tryz.underlying22 g1
            simp at e0 e1
            subst e0 e1
            have d0 := hcell 0 (by omega)
            have d1 := hcell 1 (by omega)
            exact ⟨(z0, z1), fun _ => ⟨by simpa [Addr.add] using d0, by simpa using d1, (word_fits w0).1, (word_fits w1).1⟩⟩
      · exact ⟨(0, 0), fun h => absurd h hi⟩
    obtain ⟨f, each⟩ : ∃ f : Nat → Int × Int, ∀ i, i < x1 → W.cell? (a.add (i * 2)) = some (.int .u64 (f i).1) ∧ W.cell? ((a.add (i * 2)).add 1) = some (.int .u64 (f i).2) ∧ 0 ≤ (f i).1 ∧ 0 ≤ (f i).2 := ⟨fun i => Classical.choose (each i), fun i => Classical.choose_spec (each i)⟩
    have hlen2 : ((List.range x1).map f).length = x1 := by simp
    refine ⟨some a, x2, (List.range x1).map f, by rw [hlen2], fun h0 => ?_, (fun h => by cases h), by rw [hlen2]; exact hlc, fun q hq => ?_, .inr ⟨_, _, (Prod.mk.inj hx).1, by rw [hlen2, List.length_map, hlen]⟩⟩
    · rw [hlen2] at h0
      obtain ⟨f0, _⟩ := each 0 h0
      obtain ⟨b, off, spot⟩ := a
      have hspot : spot = none := by simpa [Addr.add] using World.cell?_spot f0
      subst hspot
      have hlt : b < W.heap.size := by
        rw [add_plain] at f0
        exact World.block_lt_of_cell? W _ f0
      refine ⟨b, off, rfl, hlt, fun i hi => ?_⟩
      rw [hlen2] at hi
      obtain ⟨f0, f1, _⟩ := each i hi
      rw [add_plain] at f0
      rw [add_plain, add_plain] at f1
      rw [List.getElem_map, List.getElem_range]
      exact ⟨f0, f1⟩
    · rw [List.mem_map] at hq
      obtain ⟨i, hi, rfl⟩ := hq
      obtain ⟨_, _, f2, f3⟩ := each i (List.mem_range.1 hi)
      exact ⟨f2, f3⟩
end
end Go.Proofs.YtmolpogehgeebaaGreat.Se


