/- From the row's condition on the listed variables to what the walks ask of the world; arguments opened: slices of periods. -/
import Derived.Test.YtgjahnidjcfbiaaGreatDoorJ11
import Derived.Test.YtgjahnidjcfbiaaGreatDoorCards
import Derived.Test.YtgjahnidjcfbiaaGreatDoorTie
import Derived.ProofKit
import Derived.OpenShut
import Derived.LaidMore
import Derived.LaidSub
import Derived.Lay
import Derived.SevenTiedAt
import Derived.Stop.Joined
import Derived.Deep.Slices
import Derived.Lib.SmallJoins
import Derived.Lib.LaidTab
import Derived.Laws.Cover2
import Derived.Carry
import Derived.ChangeSlices
namespace Go.Proofs.YtgjahnidjcfbiaaGreatDoor
open Go.ChangeShapes Go.WideShapes Go.ChangeAt Go.RowKit
theorem seat_own : ownKnob Tryz.prog.godebug = none := by kernel_rfl
theorem seat_out : laidOutB Tryz.prog = true := by kernel_rfl
theorem laid_var {P : Program} {W : World} {l : List (String × DataW Unit)} {n : String} {d : DataW Unit} (h : laidMetH P l W) (hf : (l.filter fun x => x.1 == n) = [(n, d)]) (hh : d.handleName?.isNone = true) :
    ∃ g t cs fuel p, P.globalNamed n = some g ∧ (P.globals[g]?).map (·.type) = some t ∧ W.var? P n = some cs ∧ DataW.trod (fun _ => ()) P W 0 (fun _ => true) false fuel t cs.toList = some (d, p) := by
  have h1 := laidMetH.filter (fun x => x.1 == n) h
  rw [hf, MakeChecks.laidMetH_plain _ _ _ (by simp [hh])] at h1
  obtain ⟨ps, ⟨g, t, cs, fuel, p, q, hg, ht, hv, hd, _, _⟩, _, _⟩ := h1
  exact ⟨g, t, cs, fuel, p, hg, ht, hv, hd⟩
theorem trod_if {H : Type} {enc : TypeId × Value → H} {P : Program} {w : World} {base : Nat} {sp : Nat → Bool} {held : Bool} {fuel : Nat} {t : TypeId} {ms : Array (String × TypeId)} {cs : List Value} {x : DataW H × List MemPlace} (ht : P.underlying t = some (.interface ms)) (h : DataW.trod enc P w base sp held fuel t cs = some x) :
    ∃ v, cs = [v] ∧ (v = .nilIface ∨ ∃ u y, v = .iface u y) := by
  cases fuel with
  | zero => simp [DataW.trod] at h
  | succ n =>
    unfold DataW.trod at h
    rw [ht] at h
    split at h <;> first | (exact ⟨_, rfl, .inl rfl⟩) | (exact ⟨_, rfl, .inr ⟨_, _, rfl⟩⟩) | simp_all
/-- The list that every row of this seat bears. -/
def listed : List (String × DataW Unit) := Rows.isetCallsRow.laid
theorem n_u10 : Tryz.prog.globalNamed "internal/strconv.uint64pow10" = some 0 := by kernel_rfl
theorem t_u10 : (Tryz.prog.globals[0]?).map (·.type) = some 99 := by kernel_rfl
theorem n_syn : Tryz.prog.globalNamed "strconv.ErrSyntax" = some 2 := by kernel_rfl
theorem t_syn : (Tryz.prog.globals[2]?).map (·.type) = some 80 := by kernel_rfl
theorem n_rng : Tryz.prog.globalNamed "strconv.ErrRange" = some 3 := by kernel_rfl
theorem t_rng : (Tryz.prog.globals[3]?).map (·.type) = some 80 := by kernel_rfl
theorem f_u10 : (listed.filter fun x => x.1 == "internal/strconv.uint64pow10") = [("internal/strconv.uint64pow10", Rows.laid_internal_strconv_uint64pow10)] := by kernel_rfl
theorem f_syn : (listed.filter fun x => x.1 == "strconv.ErrSyntax") = [("strconv.ErrSyntax", Rows.laid_strconv_ErrSyntax)] := by kernel_rfl
theorem f_rng : (listed.filter fun x => x.1 == "strconv.ErrRange") = [("strconv.ErrRange", Rows.laid_strconv_ErrRange)] := by kernel_rfl
theorem u_err : ∃ ms, Tryz.prog.underlying 80 = some (.interface ms) := ⟨_, Tryz.underlying80⟩
theorem d_u10 : (Rows.laid_internal_strconv_uint64pow10 : DataW Unit) = Lib.tabData .u64 Lib.pow10Tab := by kernel_rfl
theorem env_of {W : World} (h : laidMetH Tryz.prog listed W) : Env W := by
  refine ⟨fun w' hb => ?_, ?_, ?_⟩
  · obtain ⟨g, t, cs, fuel, p, hg, ht, hv, hd⟩ := laid_var h f_u10 (by kernel_rfl)
    obtain rfl := Option.some.inj (n_u10.symm.trans hg)
    obtain rfl := Option.some.inj (t_u10.symm.trans ht)
    rw [d_u10] at hd
    have e := Lib.cells_of_tab Tryz.underlying99 Tryz.underlying23 (by kernel_rfl) (by kernel_rfl) hd
    have e2 : cs = (Lib.pow10Tab.map fun z => Value.int .u64 z).toArray := by rw [← e]
    exact Joins.var_stays n_u10 (e2 ▸ hv) hb (Nat.le_refl _)
  · obtain ⟨g, t, cs, fuel, p, hg, ht, hv, hd⟩ := laid_var h f_syn (by kernel_rfl)
    obtain rfl := Option.some.inj (n_syn.symm.trans hg)
    obtain rfl := Option.some.inj (t_syn.symm.trans ht)
    obtain ⟨ms, hu⟩ := u_err
    obtain ⟨v, e, hv2⟩ := trod_if hu hd
    refine ⟨v, ?_, hv2⟩
    rw [World.var?_cell hg hv 0, ← Array.getElem?_toList, e]
    rfl
  · obtain ⟨g, t, cs, fuel, p, hg, ht, hv, hd⟩ := laid_var h f_rng (by kernel_rfl)
    obtain rfl := Option.some.inj (n_rng.symm.trans hg)
    obtain rfl := Option.some.inj (t_rng.symm.trans ht)
    obtain ⟨ms, hu⟩ := u_err
    obtain ⟨v, e, hv2⟩ := trod_if hu hd
    refine ⟨v, ?_, hv2⟩
    rw [World.var?_cell hg hv 0, ← Array.getElem?_toList, e]
    rfl
theorem word_fits {x : Int} (h : (Lit.int .u64 x).wf = true) : 0 ≤ x ∧ x ≤ 18446744073709551615 := by
  simpa [Lit.wf, IntKind.min, IntKind.max, IntKind.signed, IntKind.bits] using h
section
variable {H : Type} {enc : TypeId × Value → H} {W : World} {base : Nat} {held : Bool} {v : Value} {d : DataW H} {p : List MemPlace}
set_option maxRecDepth 100000 in
theorem open_pers {sp : Nat → Bool} {r : Reach} {b0 : Nat} (hv : Value.okWide Tryz.prog W r b0 22 v) (h : DataW.Trod enc Tryz.prog W base sp held 22 v d p) :
    ∃ A c, ∃ l : List (Int × Int), v = .slice A l.length c ∧ PAt W A l ∧ l.length ≤ c ∧ Iset.Wide l ∧ (l.length = 0 ∨ ∃ elems spare, d = .slice elems spare ∧ elems.length = l.length) := by
  obtain ⟨x0, x1, x2, rfl⟩ := okWide_slice Tryz.underlying22 hv
  obtain ⟨fuel, hf⟩ := h
  rcases DataW.trod_slice Tryz.underlying22 hf with ⟨e, _⟩ | ⟨a, len, cap, elems, rest, n, _, e, hx, _, hlc, _, hlen, hg, _, _⟩
  · simp [Value.cells] at e
    obtain ⟨rfl, rfl, rfl⟩ := e
    exact ⟨none, 0, [], rfl, fun h0 => absurd h0 (by simp), Nat.le_refl _, fun p hp => by simp at hp, .inl rfl⟩
  · simp [Value.cells] at e
    obtain ⟨rfl, rfl, rfl⟩ := e
    have hC : Tryz.prog.cellsOf 29 = 2 := by kernel_rfl
    rw [hC] at hg
    have k1 : Tryz.prog.cellsOf 23 = 1 := by kernel_rfl
    have each : ∀ i, ∃ q : Int × Int, i < x1 → W.cell? (a.add (i * 2)) = some (.int .u64 q.1) ∧ W.cell? ((a.add (i * 2)).add 1) = some (.int .u64 q.2) ∧ 0 ≤ q.1 ∧ 0 ≤ q.2 := fun i => by
      by_cases hi : i < x1
      · have h1 := hg i hi
        rw [List.getElem?_eq_getElem (by omega), Option.bind_eq_some_iff] at h1
        obtain ⟨cs, hcs, ht⟩ := h1
        obtain ⟨_, hl, hcell⟩ := World.cells?_some hcs
        match cs, hl, hcell, ht with
        | [c0, c1], _, hcell, ht =>
          obtain ⟨xs, n', _, _, _, hlen', hg'⟩ := DataW.trod_struct Tryz.underlying29 ht
          match xs, hlen', hg' with
          | [y0, y1], _, hg' =>
            have g0 : DataW.trod enc Tryz.prog W base sp held n' 23 (([c0, c1].drop 0).take (Tryz.prog.cellsOf 23)) = some y0 := hg' 0 _ rfl
            have g1 : DataW.trod enc Tryz.prog W base sp held n' 23 (([c0, c1].drop 1).take (Tryz.prog.cellsOf 23)) = some y1 := hg' 1 _ rfl
            rw [k1] at g0 g1
            obtain ⟨z0, e0, _, w0⟩ := DataW.trod_int Tryz.underlying23 g0
            obtain ⟨z1, e1, _, w1⟩ := DataW.trod_int Tryz.underlying23 g1
            simp at e0 e1
            subst e0 e1
            have d0 := hcell 0 (by omega)
            have d1 := hcell 1 (by omega)
            exact ⟨(z0, z1), fun _ => ⟨by simpa [Addr.add] using d0, by simpa using d1, (word_fits w0).1, (word_fits w1).1⟩⟩
      · exact ⟨(0, 0), fun h => absurd h hi⟩
    obtain ⟨f, each⟩ : ∃ f : Nat → Int × Int, ∀ i, i < x1 → W.cell? (a.add (i * 2)) = some (.int .u64 (f i).1) ∧ W.cell? ((a.add (i * 2)).add 1) = some (.int .u64 (f i).2) ∧ 0 ≤ (f i).1 ∧ 0 ≤ (f i).2 := ⟨fun i => Classical.choose (each i), fun i => Classical.choose_spec (each i)⟩
    have hlen2 : ((List.range x1).map f).length = x1 := by simp
    refine ⟨some a, x2, (List.range x1).map f, by rw [hlen2], fun h0 => ?_, by rw [hlen2]; exact hlc, fun q hq => ?_, .inr ⟨_, _, (Prod.mk.inj hx).1, by rw [hlen2, List.length_map, hlen]⟩⟩
    · rw [hlen2] at h0
      obtain ⟨f0, _⟩ := each 0 h0
      obtain ⟨b, off, spot⟩ := a
      have hspot : spot = none := by simpa [Addr.add] using World.cell?_spot f0
      subst hspot
      have hlt : b < W.heap.size := by
        rw [add_plain] at f0
        exact World.block_lt_of_cell? W _ f0
      refine ⟨b, off, rfl, hlt, fun i hi => ?_⟩
      rw [hlen2] at hi
      obtain ⟨f0, f1, _⟩ := each i hi
      rw [add_plain] at f0
      rw [add_plain, add_plain] at f1
      rw [List.getElem_map, List.getElem_range]
      exact ⟨f0, f1⟩
    · rw [List.mem_map] at hq
      obtain ⟨i, hi, rfl⟩ := hq
      obtain ⟨_, _, f2, f3⟩ := each i (List.mem_range.1 hi)
      exact ⟨f2, f3⟩
end
theorem bytesPer : Tryz.prog.bytesOf 29 = 16 := by kernel_rfl
end Go.Proofs.YtgjahnidjcfbiaaGreatDoor
