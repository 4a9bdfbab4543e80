/- From the row's condition on the listed variables to what the closed runs ask of the world. -/
import Derived.Test.YtbpakmiopmgmbaaGreatDoorCards
import Derived.Test.YtbpakmiopmgmbaaGreatDoorTie
import Derived.Test.YtbpakmiopmgmbaaGreatDoorA2
import Derived.ProofKit
import Derived.OpenShut
import Derived.LaidMore
import Derived.LaidSub
import Derived.Lay
import Derived.SevenTiedAt
import Derived.Stop.Joined
import Derived.Deep.Slices
namespace Go.Proofs.YtbpakmiopmgmbaaGreatDoor
open Go.ChangeShapes Go.WideShapes Go.ChangeAt Go.RowKit

theorem laid_var {P : Program} {W : World} {l : List (String × DataW Unit)} {n : String} {d : DataW Unit} (h : laidMetH P l W) (hf : (l.filter fun x => x.1 == n) = [(n, d)]) (hh : d.handleName?.isNone = true) :
    ∃ g t cs fuel p, P.globalNamed n = some g ∧ (P.globals[g]?).map (·.type) = some t ∧ W.var? P n = some cs ∧ DataW.trod (fun _ => ()) P W 0 (fun _ => true) false fuel t cs.toList = some (d, p) := by
  have h1 := laidMetH.filter (fun x => x.1 == n) h
  rw [hf, MakeChecks.laidMetH_plain _ _ _ (by simp [hh])] at h1
  obtain ⟨ps, ⟨g, t, cs, fuel, p, q, hg, ht, hv, hd, _, _⟩, _, _⟩ := h1
  exact ⟨g, t, cs, fuel, p, hg, ht, hv, hd⟩

section
variable {P : Program} {W : World} {base : Nat} {sp : Nat → Bool} {held : Bool} {fuel : Nat}
theorem at_head {cs : List Value} {i : Nat} {v : Value} (h : (cs.drop i).take 1 = [v]) : cs[i]? = some v := by
  have := congrArg (·[0]?) h
  simpa using this
/-- One cell of an array of integers. -/
theorem array_int {t e : TypeId} {k : IntKind} {n i : Nat} {z : Int} {cs : List Value} {D : List (DataW Unit)} {p : List MemPlace} (ht : P.underlying t = some (.array n e)) (he : P.underlying e = some (.int k)) (hc : P.cellsOf e = 1) (hi : i < n)
    (h : DataW.trod (fun _ => ()) P W base sp held fuel t cs = some (.agg D, p)) (hD : D[i]? = some (.lit (.int k z))) : cs[i]? = some (.int k z) := by
  obtain ⟨xs, m, _, ex, _, hl, hel⟩ := DataW.trod_array ht h
  have hE := hel i hi
  rw [hc, Nat.mul_one, List.getElem?_eq_getElem (by omega)] at hE
  obtain ⟨y, e1, e2, _⟩ := DataW.trod_int he hE
  have e3 : D = xs.map (·.1) := DataW.agg.inj (Prod.mk.inj ex).1
  rw [e3, List.getElem?_map, List.getElem?_eq_getElem (by omega), e2] at hD
  simp only [Option.map_some, Option.some.injEq, DataW.lit.injEq, Lit.int.injEq, true_and] at hD
  rw [← hD]
  exact at_head e1
/-- Two cells of an array of pairs of integers. -/
theorem array_pair {t e : TypeId} {f0 f1 : Field} {k : IntKind} {n i : Nat} {z y : Int} {cs : List Value} {D : List (DataW Unit)} {p : List MemPlace} (ht : P.underlying t = some (.array n e)) (he : P.underlying e = some (.struct #[f0, f1])) (hc : P.cellsOf e = 2) (hi : i < n)
    (h0 : P.underlying f0.type = some (.int k)) (h1 : P.underlying f1.type = some (.int k)) (c0 : P.cellsOf f0.type = 1) (c1 : P.cellsOf f1.type = 1) (o0 : f0.offset = 0) (o1 : f1.offset = 1)
    (h : DataW.trod (fun _ => ()) P W base sp held fuel t cs = some (.agg D, p)) (hD : D[i]? = some (.agg [.lit (.int k z), .lit (.int k y)])) : cs[2 * i]? = some (.int k z) ∧ cs[2 * i + 1]? = some (.int k y) := by
  obtain ⟨xs, m, _, ex, _, hl, hel⟩ := DataW.trod_array ht h
  have hE := hel i hi
  rw [hc, List.getElem?_eq_getElem (by omega)] at hE
  obtain ⟨y0, y1, q, e2, _, e0, e1⟩ := trod_struct2 he hE
  rw [c0, o0] at e0
  rw [c1, o1] at e1
  obtain ⟨z0, a1, rfl, _⟩ := DataW.trod_int h0 e0
  obtain ⟨z1, b1, rfl, _⟩ := DataW.trod_int h1 e1
  have e3 : D = xs.map (·.1) := DataW.agg.inj (Prod.mk.inj ex).1
  rw [e3, List.getElem?_map, List.getElem?_eq_getElem (by omega), e2] at hD
  simp only [Option.map_some, Option.some.injEq, DataW.agg.injEq, List.cons.injEq, DataW.lit.injEq, Lit.int.injEq, true_and, and_true] at hD
  obtain ⟨rfl, rfl⟩ := hD
  have g0 := at_head a1
  have g1 := at_head b1
  rw [List.getElem?_take_of_lt (by omega), List.getElem?_drop] at g0 g1
  exact ⟨by rw [Nat.mul_comm]; simpa using g0, by rw [Nat.mul_comm]; simpa using g1⟩
end
theorem n_opt : Tryz.prog.globalNamed "internal/strconv.optimize" = some 3 := by kernel_rfl
theorem n_info : Tryz.prog.globalNamed "internal/strconv.float64info" = some 13 := by kernel_rfl
theorem n_u10 : Tryz.prog.globalNamed "internal/strconv.uint64pow10" = some 2 := by kernel_rfl
theorem n_p10 : Tryz.prog.globalNamed "internal/strconv.pow10Tab" = some 6 := by kernel_rfl
theorem n_f10 : Tryz.prog.globalNamed "internal/strconv.float64pow10" = some 16 := by kernel_rfl
theorem n_bru : Tryz.prog.globalNamed "math/bits.deBruijn64tab" = some 5 := by kernel_rfl
theorem t_opt : (Tryz.prog.globals[3]?).map (·.type) = some 4 := by kernel_rfl
theorem t_info : (Tryz.prog.globals[13]?).map (·.type) = some 202 := by kernel_rfl
theorem t_u10 : (Tryz.prog.globals[2]?).map (·.type) = some 111 := by kernel_rfl
theorem t_p10 : (Tryz.prog.globals[6]?).map (·.type) = some 166 := by kernel_rfl
theorem t_f10 : (Tryz.prog.globals[16]?).map (·.type) = some 217 := by kernel_rfl
theorem t_bru : (Tryz.prog.globals[5]?).map (·.type) = some 163 := by kernel_rfl

/-- The list that every row of this seat bears. -/
def listed : List (String × DataW Unit) := Rows.valueChainRow.laid
theorem f_opt : (listed.filter fun x => x.1 == "internal/strconv.optimize") = [("internal/strconv.optimize", Rows.laid_internal_strconv_optimize)] := by kernel_rfl
theorem f_info : (listed.filter fun x => x.1 == "internal/strconv.float64info") = [("internal/strconv.float64info", Rows.laid_internal_strconv_float64info)] := by kernel_rfl
theorem f_u10 : (listed.filter fun x => x.1 == "internal/strconv.uint64pow10") = [("internal/strconv.uint64pow10", Rows.laid_internal_strconv_uint64pow10)] := by kernel_rfl
theorem f_p10 : (listed.filter fun x => x.1 == "internal/strconv.pow10Tab") = [("internal/strconv.pow10Tab", Rows.laid_internal_strconv_pow10Tab)] := by kernel_rfl
theorem f_f10 : (listed.filter fun x => x.1 == "internal/strconv.float64pow10") = [("internal/strconv.float64pow10", Rows.laid_internal_strconv_float64pow10)] := by kernel_rfl
theorem f_bru : (listed.filter fun x => x.1 == "math/bits.deBruijn64tab") = [("math/bits.deBruijn64tab", Rows.laid_math_bits_deBruijn64tab)] := by kernel_rfl

theorem block_lt {W : World} {b i : Nat} {v : Value} (h : W.cell? ⟨b, i, none⟩ = some v) : b < W.heap.size := by
  unfold World.cell? at h
  by_cases hb : b < W.heap.size
  · exact hb
  · have e : W.heap[b]? = none := by simp; omega
    simp [e] at h
theorem trod_float {P : Program} {W : World} {sp : Nat → Bool} {n : Nat} {t : TypeId} {v : Value} {b : Nat} {p : List MemPlace} (ht : P.underlying t = some (.float .f64)) (h : DataW.trod (fun _ => ()) P W 0 sp false n t [v] = some (.lit (.float .f64 b), p)) : v = .float .f64 b := by
  cases n with
  | zero => simp [DataW.trod] at h
  | succ n =>
    simp only [DataW.trod, ht] at h
    cases v <;> simp at h
    obtain ⟨⟨rfl, _⟩, rfl, _⟩ := h
    rfl
theorem env_opt {W : World} (h : laidMetH Tryz.prog listed W) : W.cell? ⟨3, 0, none⟩ = some (.bool true) := by
  obtain ⟨g, t, cs, fuel, p, hg, ht, hv, hd⟩ := laid_var h f_opt (by kernel_rfl)
  obtain rfl := Option.some.inj (n_opt.symm.trans hg)
  obtain rfl := Option.some.inj (t_opt.symm.trans ht)
  obtain ⟨b, hb, e⟩ := DataW.trod_bool Tryz.underlying4 hd
  have hb' : b = true := by
    have := (Prod.mk.inj e).1
    simp [Rows.laid_internal_strconv_optimize] at this
    first | exact this | exact this.symm
  subst hb'
  rw [World.var?_cell hg hv 0]
  have : cs.toList[0]? = some (.bool true) := by rw [hb]; rfl
  simpa using this
theorem env_u10 {W : World} (h : laidMetH Tryz.prog listed W) : W.cell? ⟨2, 15, none⟩ = some (.int .u64 1000000000000000) := by
  obtain ⟨g, t, cs, fuel, p, hg, ht, hv, hd⟩ := laid_var h f_u10 (by kernel_rfl)
  obtain rfl := Option.some.inj (n_u10.symm.trans hg)
  obtain rfl := Option.some.inj (t_u10.symm.trans ht)
  have := array_int Tryz.underlying111 Tryz.underlying50 (by kernel_rfl) (i := 15) (z := 1000000000000000) (by decide) hd (by kernel_rfl)
  rw [World.var?_cell hg hv 15]
  simpa using this
theorem env_p10 {W : World} (h : laidMetH Tryz.prog listed W) : W.cell? ⟨6, 728, none⟩ = some (.int .u64 10240000000000000000) ∧ W.cell? ⟨6, 729, none⟩ = some (.int .u64 0) := by
  obtain ⟨g, t, cs, fuel, p, hg, ht, hv, hd⟩ := laid_var h f_p10 (by kernel_rfl)
  obtain rfl := Option.some.inj (n_p10.symm.trans hg)
  obtain rfl := Option.some.inj (t_p10.symm.trans ht)
  have := array_pair (k := .u64) (i := 364) (z := 10240000000000000000) (y := 0) Tryz.underlying166 Tryz.underlying165 (by kernel_rfl) (by decide) (by kernel_rfl) (by kernel_rfl) (by kernel_rfl) (by kernel_rfl) (by kernel_rfl) (by kernel_rfl) hd (by kernel_rfl)
  rw [World.var?_cell hg hv 728, World.var?_cell hg hv 729]
  simpa using this
theorem env_info {W : World} (h : laidMetH Tryz.prog listed W) : W.cell? ⟨13, 0, none⟩ = some (.int .u64 52) := by
  obtain ⟨g, t, cs, fuel, p, hg, ht, hv, hd⟩ := laid_var h f_info (by kernel_rfl)
  obtain rfl := Option.some.inj (n_info.symm.trans hg)
  obtain rfl := Option.some.inj (t_info.symm.trans ht)
  obtain ⟨xs, n, _, ex, _, hl, hel⟩ := DataW.trod_struct Tryz.underlying202 hd
  have hE : DataW.trod (fun _ => ()) Tryz.prog W 0 (fun _ => true) false n 67 ((cs.toList.drop 0).take (Tryz.prog.cellsOf 67)) = xs[0]? := hel 0 _ rfl
  match xs, hl, ex, hE with
  | x0 :: _, _, ex, hE =>
    have c0 : Tryz.prog.cellsOf 67 = 1 := by kernel_rfl
    simp only [List.getElem?_cons_zero] at hE
    rw [c0] at hE
    obtain ⟨z, e1, e2, _⟩ := DataW.trod_int Tryz.underlying67 hE
    subst e2
    have e3 := (Prod.mk.inj ex).1
    simp only [Rows.laid_internal_strconv_float64info, List.map_cons, DataW.agg.injEq, List.cons.injEq, DataW.lit.injEq, Lit.int.injEq, true_and] at e3
    have hz := e3.1
    subst hz
    rw [World.var?_cell hg hv 0]
    have := at_head e1
    simpa using this
theorem env_f10 {W : World} (h : laidMetH Tryz.prog listed W) : ∃ a : Addr, a.block < W.heap.size ∧ W.cell? ⟨16, 0, none⟩ = some (.slice (some a) 23 23) ∧ W.cell? ⟨a.block, a.off + 5, none⟩ = some (.float .f64 4681608360884174848) := by
  obtain ⟨g, t, cs, fuel, p, hg, ht, hv, hd⟩ := laid_var h f_f10 (by kernel_rfl)
  obtain rfl := Option.some.inj (n_f10.symm.trans hg)
  obtain rfl := Option.some.inj (t_f10.symm.trans ht)
  rcases Deep.open_slice1 Tryz.underlying217 (by kernel_rfl) hd with ⟨_, hx⟩ | ⟨a, len, cap, m, n, V, D, Pl, hcs, hb, hl, hm, hmm, hx, hel⟩
  · have := (Prod.mk.inj hx).1
    simp [Rows.laid_internal_strconv_float64pow10] at this
  · have e1 := (Prod.mk.inj hx).1
    unfold Rows.laid_internal_strconv_float64pow10 at e1
    obtain ⟨e2, e3⟩ := DataW.slice.inj e1
    have l1 : 23 = len := by simpa using congrArg List.length e2
    have l2 : 0 = m - len := by simpa using congrArg List.length e3
    rw [if_pos rfl] at hmm
    have hc : cap = 23 := by omega
    subst l1 hc hmm
    obtain ⟨h1, h2⟩ := hel 5 (by omega)
    have hD : D 5 = .lit (.float .f64 4681608360884174848) := by
      have := congrArg (·[5]?) e2
      simp at this
      exact this.symm
    rw [hD] at h2
    have hV : V 5 = .float .f64 4681608360884174848 := trod_float Tryz.underlying22 h2
    rw [hV] at h1
    have hadd : a.add 5 = ⟨a.block, a.off + 5, none⟩ := by unfold Addr.add; rw [if_neg (by decide)]
    rw [hadd] at h1
    refine ⟨a, ?_, ?_, h1⟩
    · exact block_lt h1
    · rw [World.var?_cell hg hv 0]
      have : cs.toList[0]? = some (.slice (some a) 23 23) := by rw [hcs]; rfl
      simpa using this
theorem env_sz {W : World} (h : laidMetH Tryz.prog listed W) : 17 ≤ W.heap.size := by
  obtain ⟨g, t, cs, fuel, p, hg, ht, hv, hd⟩ := laid_var h f_bru (by kernel_rfl)
  obtain rfl := Option.some.inj (n_bru.symm.trans hg)
  obtain rfl := Option.some.inj (t_bru.symm.trans ht)
  have := array_int Tryz.underlying163 Tryz.underlying5 (by kernel_rfl) (i := 0) (z := 0) (by decide) hd (by kernel_rfl)
  have hc : W.cell? ⟨5, 0, none⟩ = some (.int .u8 0) := by
    rw [World.var?_cell hg hv 0]
    simpa using this
  have h1 := block_lt hc
  obtain ⟨_, _, hc2, _⟩ := env_f10 h
  have h2 := block_lt hc2
  omega
/-- What the closed runs ask of the world, out of the row's condition. -/
theorem env_of {W : World} (h : laidMetH Tryz.prog listed W) : Env W :=
  ⟨env_sz h, env_opt h, env_info h, env_u10 h, (env_p10 h).1, (env_p10 h).2, env_f10 h⟩
end Go.Proofs.YtbpakmiopmgmbaaGreatDoor
