/- Rows of periods appended whole; slices of periods that came in (iset's, in namespace Se). -/
/- A period that came in. -/
/- The instants at which a line says what is chosen: instants, Span. -/
/- Where a line says a value. -/
/- The library's Compact of words, Clone of periods and pieces, IndexFunc of properties at this program, laid in plain words. -/
import Derived.Test.YtgmaompjhhomcaaGreatmG40
import Derived.Test.YtgmaompjhhomcaaGreatmE1
import Derived.Laws.AppendOwnNone
import Derived.Test.YtgmaompjhhomcaaGreatmH5
import Derived.Shelf.SlGeneric
import Derived.Shelf.SlicesE.Compact
import Derived.Shelf.SlicesE.Clone
import Derived.Shelf.SlicesQ.IndexFunc
import Derived.Ground.SlgnProg
import Derived.Ground.SlgfProg
import Derived.Test.YtgmaompjhhomcaaGreatProg
namespace Go.Proofs.YtgmaompjhhomcaaGreat.Se
open Go.RowKit Go.Shelf Go.Lib
open Iset (nf has NF Res Wide)
theorem cellsP_one (L : List (Int × Int)) : ∀ u ∈ cellsP L, u.oneCell' = true := by
  intro u hu
  simp only [cellsP, List.mem_flatMap, List.mem_cons, List.not_mem_nil, or_false] at hu
  obtain ⟨p, _, rfl | rfl⟩ := hu <;> rfl
theorem PAt.cells {w : World} {b off : Nat} {L : List (Int × Int)} (h : ∀ i (h : i < L.length), w.cell? ⟨b, off + i * 2, none⟩ = some (.int .u64 (L[i].1)) ∧ w.cell? ⟨b, off + i * 2 + 1, none⟩ = some (.int .u64 (L[i].2))) : ∀ j u, (cellsP L)[j]? = some u → w.cell? ((⟨b, off, none⟩ : Addr).add j) = some u := by
  intro j u hj
  rw [add_plain]
  have hl : j < (cellsP L).length := by
    by_cases e : j < (cellsP L).length
    · exact e
    · rw [List.getElem?_eq_none (by omega)] at hj
      cases hj
  rw [cellsP_length] at hl
  have hd : j / 2 < L.length := by omega
  have hc := cellsP_get L (j / 2) hd
  have hw := h (j / 2) hd
  have hm : j % 2 = 0 ∨ j % 2 = 1 := by omega
  rcases hm with hm | hm
  · have e : j / 2 * 2 = j := by omega
    rw [e] at hc hw
    rw [hw.1, ← hc.1, hj]
  · have e : j / 2 * 2 + 1 = j := by omega
    rw [e] at hc
    rw [show off + j / 2 * 2 + 1 = off + j by omega] at hw
    rw [hw.2, ← hc.2, hj]
/-- append of periods onto what the call owns. -/
theorem run_appPs (base : Nat) (w : World) (v : Value) (l : List (Int × Int)) (A : Option Addr) (c : Nat) (news : List (Int × Int)) (ty : TypeId) (h : OwnP base w v l) (hA : PAt w A news) (hz : A = none → c = 0)
    (hm : l.length + news.length ≤ 1000000000000) (hb : base ≤ w.heap.size) :
    ∃ v' w', (Builtin.append_ #[29, 29] ty #[v, .slice A news.length c]).run Tryz.prog w = .ok v' w' ∧ OwnP base w' v' (l ++ news) ∧ w.grownBy w' v.ownBlock := by
  obtain ⟨i0, hi, hz0, hz1, hz2⟩ := info_parts infoP
  have own : ∀ (ad : Addr), (∀ j u, (cellsP news)[j]? = some u → w.cell? (ad.add j) = some u) → ∃ v' w', (Builtin.append_ #[29, 29] ty #[v, .slice (some ad) news.length c]).run Tryz.prog w = .ok v' w' ∧ OwnP base w' v' (l ++ news) ∧ w.grownBy w' v.ownBlock := fun ad hcl => by
    obtain ⟨v', w', h1, h2, h3, _, _⟩ := run_append_own_at (P := Tryz.prog) w base 29 ty 25 i0 _ 2 16 Tryz.underlying29 hi hz0 hz1 hz2 rfl (by omega) v _ _ h ad news.length c (cellsP news) (by rw [cellsP_length]) hcl (cellsP_one news)
      (by unfold maxLen; omega) (by omega) hb
    exact ⟨v', w', h1, by rw [OwnP, cellsP_append, List.length_append]; exact h2, h3⟩
  rcases Nat.eq_zero_or_pos news.length with h0 | h0
  · obtain rfl := List.eq_nil_of_length_eq_zero h0
    cases A with
    | none =>
      obtain rfl := hz rfl
      exact ⟨v, w, run_append_owned_none (P := Tryz.prog) w base 29 ty 25 i0 2 Tryz.underlying29 hi v _ _ h, by simpa using h, World.grownBy.refl _ _⟩
    | some ad => exact own ad (fun j u hj => by simp [cellsP] at hj)
  · obtain ⟨b, off, rfl, _, hc⟩ := hA h0
    exact own _ (PAt.cells hc)
theorem wpList_appPs (w : World) {ops : Array Oper} {rest : List Oper} {o : Oper} {a : Act} {Q : Exit → Act → World → Prop} (hg : o.guard = none) (s x : Operand) (ho : o.op = .call { callee := .builtin .append, args := #[s, x], argTypes := #[29, 29] })
    (base : Nat) (v : Value) (l : List (Int × Int)) (hs : a.eval s = v) (h : OwnP base w v l) (A : Option Addr) (n c : Nat) (news : List (Int × Int)) (hx : a.eval x = .slice A n c) (hA : PAt w A news) (hz : A = none → c = 0) (hn : news.length = n)
    (hm : l.length + news.length ≤ 1000000000000) (hb : base ≤ w.heap.size)
    (hK : ∀ v' w', OwnP base w' v' (l ++ news) → Below base w w' → wpList Tryz.prog ops Q rest (a.put o.dst v') w') : wpList Tryz.prog ops Q (o :: rest) a w := by
  subst hn
  refine wpList_plain hg fun K hK' => ?_
  obtain ⟨v', w', h1, h2, h3⟩ := run_appPs base w v l A c news o.type h hA hz hm hb
  unfold Oper.wp execOp
  simp only [ho, resolve, invoke, builtin, Sem.run_bind, Sem.run_pure, Result.andThen_ok, List.map_toArray, List.map_cons, List.map_nil, hs, hx, h1]
  exact hK' _ _ (hK v' w' h2 ((Below.refl _ _).grown h3 hb fun k hk => (World.ownsRow.lt h k hk).1))
end Go.Proofs.YtgmaompjhhomcaaGreat.Se
namespace Go.Proofs.YtgmaompjhhomcaaGreat.Se
open Go.ChangeShapes Go.WideShapes Go.ChangeAt Go.RowKit
theorem word_fits {x : Int} (h : (Lit.int .u64 x).wf = true) : 0 ≤ x ∧ x < 18446744073709551616 := by
  obtain ⟨n, rfl, h2⟩ := u64_nat h
  omega
section
variable {H : Type} {enc : TypeId × Value → H} {W : World} {base : Nat} {held : Bool} {v : Value} {d : DataW H} {p : List MemPlace}
set_option maxRecDepth 100000 in
theorem open_pers2 {sp : Nat → Bool} {r : Reach} {b0 : Nat} (hv : Value.okWide Tryz.prog W r b0 29 v) (h : DataW.Trod enc Tryz.prog W base sp held 29 v d p) :
    ∃ A c, ∃ l : List (Int × Int), v = .slice A l.length c ∧ PAt W A l ∧ (A = none → c = 0) ∧ l.length ≤ c ∧ Iset.Wide l ∧ (l.length = 0 ∨ ∃ elems spare, d = .slice elems spare ∧ elems.length = l.length) := by
  obtain ⟨x0, x1, x2, rfl⟩ := okWide_slice Tryz.underlying29 hv
  obtain ⟨fuel, hf⟩ := h
  rcases DataW.trod_slice Tryz.underlying29 hf with ⟨e, _⟩ | ⟨a, len, cap, elems, rest, n, _, e, hx, _, hlc, _, hlen, hg, _, _⟩
  · simp [Value.cells] at e
    obtain ⟨rfl, rfl, rfl⟩ := e
    exact ⟨none, 0, [], rfl, fun h0 => absurd h0 (by simp), fun _ => rfl, Nat.le_refl _, fun p hp => by simp at hp, .inl rfl⟩
  · simp [Value.cells] at e
    obtain ⟨rfl, rfl, rfl⟩ := e
    have hC : Tryz.prog.cellsOf 25 = 2 := by kernel_rfl
    rw [hC] at hg
    have k1 : Tryz.prog.cellsOf 23 = 1 := by kernel_rfl
    have each : ∀ i, ∃ q : Int × Int, i < x1 → W.cell? (a.add (i * 2)) = some (.int .u64 q.1) ∧ W.cell? ((a.add (i * 2)).add 1) = some (.int .u64 q.2) ∧ 0 ≤ q.1 ∧ 0 ≤ q.2 := fun i => by
      by_cases hi : i < x1
      · have h1 := hg i hi
        rw [List.getElem?_eq_getElem (by omega), Option.bind_eq_some_iff] at h1
        obtain ⟨cs, hcs, ht⟩ := h1
        obtain ⟨_, hl, hcell⟩ := World.cells?_some hcs
        match cs, hl, hcell, ht with
        | [c0, c1], _, hcell, ht =>
          obtain ⟨xs, n', _, _, _, hlen', hg'⟩ := DataW.trod_struct Tryz.underlying25 ht
          match xs, hlen', hg' with
          | [y0, y1], _, hg' =>
            have g0 : DataW.trod enc Tryz.prog W base sp held n' 23 (([c0, c1].drop 0).take (Tryz.prog.cellsOf 23)) = some y0 := hg' 0 _ rfl
            have g1 : DataW.trod enc Tryz.prog W base sp held n' 23 (([c0, c1].drop 1).take (Tryz.prog.cellsOf 23)) = some y1 := hg' 1 _ rfl
            rw [k1] at g0 g1
            obtain ⟨z0, e0, _, w0⟩ := DataW.trod_int Tryz.underlying23 g0
            obtain ⟨z1, e1, _, w1⟩ := DataW.trod_int Tryz.underlying23 g1
            simp at e0 e1
            subst e0 e1
            have d0 := hcell 0 (by omega)
            have d1 := hcell 1 (by omega)
            exact ⟨(z0, z1), fun _ => ⟨by simpa [Addr.add] using d0, by simpa using d1, (word_fits w0).1, (word_fits w1).1⟩⟩
      · exact ⟨(0, 0), fun h => absurd h hi⟩
    obtain ⟨f, each⟩ : ∃ f : Nat → Int × Int, ∀ i, i < x1 → W.cell? (a.add (i * 2)) = some (.int .u64 (f i).1) ∧ W.cell? ((a.add (i * 2)).add 1) = some (.int .u64 (f i).2) ∧ 0 ≤ (f i).1 ∧ 0 ≤ (f i).2 := ⟨fun i => Classical.choose (each i), fun i => Classical.choose_spec (each i)⟩
    have hlen2 : ((List.range x1).map f).length = x1 := by simp
    refine ⟨some a, x2, (List.range x1).map f, by rw [hlen2], fun h0 => ?_, (fun h => by cases h), by rw [hlen2]; exact hlc, fun q hq => ?_, .inr ⟨_, _, (Prod.mk.inj hx).1, by rw [hlen2, List.length_map, hlen]⟩⟩
    · rw [hlen2] at h0
      obtain ⟨f0, _⟩ := each 0 h0
      obtain ⟨b, off, spot⟩ := a
      have hspot : spot = none := by simpa [Addr.add] using World.cell?_spot f0
      subst hspot
      have hlt : b < W.heap.size := by
        rw [add_plain] at f0
        exact World.block_lt_of_cell? W _ f0
      refine ⟨b, off, rfl, hlt, fun i hi => ?_⟩
      rw [hlen2] at hi
      obtain ⟨f0, f1, _⟩ := each i hi
      rw [add_plain] at f0
      rw [add_plain, add_plain] at f1
      rw [List.getElem_map, List.getElem_range]
      exact ⟨f0, f1⟩
    · rw [List.mem_map] at hq
      obtain ⟨i, hi, rfl⟩ := hq
      obtain ⟨_, _, f2, f3⟩ := each i (List.mem_range.1 hi)
      exact ⟨f2, f3⟩
end
end Go.Proofs.YtgmaompjhhomcaaGreat.Se

namespace Go.Proofs.YtgmaompjhhomcaaGreat
open Go.ChangeShapes Go.WideShapes Go.ChangeAt Go.RowKit
set_option maxRecDepth 100000 in
theorem open_per1 {H : Type} {enc : TypeId × Value → H} {W : World} {base b0 : Nat} {sp : Nat → Bool} {held : Bool} {r : Reach} {v : Value} {d : DataW H} {p : List MemPlace} (hv : Value.okWide Tryz.prog W r b0 25 v) (h : DataW.Trod enc Tryz.prog W base sp held 25 v d p) : ∃ c d : Int, v = .agg #[.int .u64 c, .int .u64 d] ∧ 0 ≤ c ∧ 0 ≤ d := by
  obtain ⟨cs, rfl, hsz⟩ := okWide_struct Tryz.underlying25 hv
  have hC : Tryz.prog.cellsOf 25 = 2 := by kernel_rfl
  obtain ⟨l⟩ := cs
  match l, hsz.trans hC with
  | [c0, c1], _ =>
    obtain ⟨fuel, hf⟩ := h
    obtain ⟨a, b, e, _, _⟩ := trod_period (c0 := c0) (c1 := c1) hf
    exact ⟨a, b, by rw [e], by omega, by omega⟩
end Go.Proofs.YtgmaompjhhomcaaGreat

namespace Go.Proofs.YtgmaompjhhomcaaGreat
open Go.RowKit
/-- The periods of pieces. -/
def pers (l : List Pie) : List (Int × Int) := l.map fun x => (x.a, x.b)
/-- The periods of those whose values are chosen. -/
def chosen (sel : VP → Bool) (l : List Pie) : List (Int × Int) := pers (l.filter fun x => sel x.v)
theorem chosen_length (sel : VP → Bool) (l : List Pie) : (chosen sel l).length ≤ l.length := by
  unfold chosen pers
  rw [List.length_map]
  exact List.length_filter_le _ _
theorem chosen_take_yes {sel : VP → Bool} {l : List Pie} {k : Nat} (h : k < l.length) (hs : sel l[k].v = true) : chosen sel (l.take (k + 1)) = chosen sel (l.take k) ++ [(l[k].a, l[k].b)] := by
  unfold chosen pers
  rw [List.take_succ_eq_append_getElem h, List.filter_append, List.map_append]
  simp [hs]
theorem chosen_take_no {sel : VP → Bool} {l : List Pie} {k : Nat} (h : k < l.length) (hs : sel l[k].v = false) : chosen sel (l.take (k + 1)) = chosen sel (l.take k) := by
  unfold chosen pers
  rw [List.take_succ_eq_append_getElem h, List.filter_append, List.map_append]
  simp [hs]
theorem chosen_has {sel : VP → Bool} {l : List Pie} (hl : Pl.Line okV l) (t : Int) : Se.Iset.has (Se.Iset.nf (chosen sel l)) t = true ↔ ∃ x ∈ l, (x.a ≤ t ∧ t < x.b) ∧ sel x.v = true := by
  rw [Se.Iset.nf_has, Se.Iset.has_iff]
  unfold chosen pers
  constructor
  · rintro ⟨p, hp, ht⟩
    obtain ⟨x, hx, rfl⟩ := List.mem_map.1 hp
    rw [List.mem_filter] at hx
    exact ⟨x, hx.1, ((Se.Iset.hasP_iff _ _).1 ht).2, hx.2⟩
  · rintro ⟨x, hx, ht, hs⟩
    have := hl.good x hx
    exact ⟨(x.a, x.b), List.mem_map.2 ⟨x, List.mem_filter.2 ⟨hx, hs⟩, rfl⟩, (Se.Iset.hasP_iff _ _).2 ⟨⟨this.1, this.2.1⟩, ht⟩⟩
/-- Where a line means what is chosen. -/
theorem chosen_means {sel : VP → Bool} {l : List Pie} (hl : Pl.Line okV l) (hn : sel VP.none = false) (t : Int) : Se.Iset.has (Se.Iset.nf (chosen sel l)) t = sel (Pl.means VP.none l t) := by
  rw [Bool.eq_iff_iff, chosen_has hl]
  constructor
  · rintro ⟨x, hx, ht, hs⟩
    rw [Pl.means_at VP.none hl.par hx ht.1 ht.2]; exact hs
  · intro h
    rcases Pl.means_case VP.none l t with ⟨x, hx, h1, h2, e⟩ | ⟨_, e⟩
    · exact ⟨x, hx, ⟨h1, h2⟩, by rw [← e]; exact h⟩
    · rw [e, hn] at h; cases h
/-- A call that answers this new set. -/
def SetIs (S : List (Int × Int)) (w : World) (e : Ending) (w' : World) : Prop := ∃ u, e = .returned u ∧ Se.OwnP w.heap.size w' u S ∧ Below w.heap.size w w'
section
set_option maxRecDepth 100000
set_option maxHeartbeats 8000000
theorem instants_no (fv v : Value) (l : List Pie) (w : World) (h : SL w v l) (hw : ∀ x ∈ l, x.v.wide) (hl : ¬ Pl.Line okV l) :
    Calls Tryz.prog 79 #[v, fv] w (SetIs [] w) := by
  have CI := Lib.hid (fun W (hb : Below w.heap.size w W) => (Is_any v l W (h.below hb) hw).mono fun _ _ h => h.no hl)
  obtain ⟨A, c, rfl, hA, hm⟩ := h
  clear hA hw hl
  go_enter Tryz.func79, Tryz.ntmps79
  go_wp2_with (go_at_call 21; (with_reducible refine (CI.out _ (Below.refl _ _)).mono ?_); rintro e w1 ⟨rfl, hb⟩)
  go_ret
  exact ⟨_, rfl, Se.OwnP.nil _ _, hb⟩
theorem instants_any (F : FuncId) (cb : Array Value) (eg : ∀ args w, (callFunc F args).run Tryz.prog w = .ok (.enter F args) w) (sel : VP → Bool) (v : Value) (l : List Pie) (w : World) (h : SL w v l) (hl : Pl.Line okV l) (hn : l.length ≤ 1000000000000)
    (hc : ∀ k (hk : k < l.length) W, Below w.heap.size w W → Calls Tryz.prog F (#[l[k].v.val] ++ cb) W fun e w' => e = .returned (.bool (sel l[k].v)) ∧ Below W.heap.size W w') :
    Calls Tryz.prog 79 #[v, .func (.func F) #[] cb] w (SetIs (Se.Iset.nf (chosen sel l)) w) := by
  have CI := Lib.hid (fun W (hb : Below w.heap.size w W) => (Is_any v l W (h.below hb) (line_w hl)).mono fun _ _ h => h.yes hl)
  obtain ⟨A, c, rfl, hA, hm⟩ := h
  have HA := Lib.hid hA
  have HC := Lib.hid hc
  have CL := Lib.hid (chosen_length sel)
  clear hA hc hl
  have hsf := store_float
  go_enter Tryz.func79, Tryz.ntmps79
  go_wp2_with (go_at_call 21; (with_reducible refine (CI.out _ (Below.refl _ _)).mono ?_); rintro e w1 ⟨rfl, hb⟩; have B1 := Lib.hid hb; clear hb)
  go_loopw [5, 13] (fun u i wr => ∃ k : Nat, k ≤ l.length ∧ i = .int .i64 k ∧ Se.OwnP w.heap.size wr u (chosen sel (l.take k)) ∧ Below w.heap.size w wr) (fun _ i _ => l.length - (intOf i).toNat)
  case atStart => exact ⟨0, Nat.zero_le _, rfl, Se.OwnP.nil _ _, B1.out⟩
  case round =>
    obtain ⟨k, hk, rfl, ho, hb⟩ := hrel
    have HO := Lib.hid ho
    have HB := Lib.hid hb
    clear ho hb
    by_cases hlt : k < l.length
    · obtain ⟨g, off, rfl, lg, cg⟩ := (HA.out.below HB.out) (by omega)
      have r := cg k hlt
      have CK := Lib.hid (HC.out k hlt)
      have YY := Lib.hid (chosen_take_yes (sel := sel) hlt)
      have NN := Lib.hid (chosen_take_no (sel := sel) hlt)
      have i0 : (k : Int) < (l.length : Int) := by omega
      have i1 : (0 : Int) ≤ (k : Int) := by omega
      clear cg
      obtain ⟨x, hx⟩ : ∃ x, l[k] = x := ⟨_, rfl⟩
      rw [hx] at r CK YY NN
      clear hx
      obtain ⟨a, b, ⟨kk, vb, n, f, s⟩⟩ := x
      simp only at CK YY NN
      go_upto_region 7 with (refine wpList_load_mid rfl 43 (.tmp 15) rfl g (off + k * 7) rfl _ _ r Tryz.underlying43 rfl rowL ?_)
      have X0 := Lib.hid (Bx.new wr (Pie.cells ⟨a, b, ⟨kk, vb, n, f, s⟩⟩) 43)
      have HB0 := Lib.hid (HB.out.trans (((Below.refl wr.heap.size wr).alloc (Nat.le_refl _) (.cells (Pie.cells ⟨a, b, ⟨kk, vb, n, f, s⟩⟩) 43)).mono HB.out.size))
      have HO0 := Lib.hid (HO.out.alloc (.cells (Pie.cells ⟨a, b, ⟨kk, vb, n, f, s⟩⟩) 43))
      obtain ⟨W, hW⟩ : ∃ W, wr.alloc (.cells (Pie.cells ⟨a, b, ⟨kk, vb, n, f, s⟩⟩) 43) = W := ⟨_, rfl⟩
      rw [hW] at X0 HB0 HO0 ⊢
      clear hW
      have x0 := X0.out.c
      obtain ⟨q, hq⟩ : ∃ q, sel ⟨kk, vb, n, f, s⟩ = q := ⟨_, rfl⟩
      rw [hq] at CK YY NN
      clear hq
      go_wp2_with fail
      refine (CK.out _ HB0.out).mono ?_
      rintro e w2 ⟨rfl, hb⟩
      have HB2 := Lib.hid (HB0.out.trans (hb.mono HB0.out.size))
      have HO2 := Lib.hid (HO0.out.below hb)
      have X2 := Lib.hid (X0.out.below hb)
      clear hb x0
      cases q
      · have E := Lib.hid (NN.out rfl)
        go_wp2_with fail
        exact ⟨⟨k + 1, by omega, by go_num, by rw [E.out]; exact HO2.out, HB2.out⟩, by simp [intOf]; omega⟩
      · have E := Lib.hid (YY.out rfl)
        have x0 := X2.out.c
        have LN : Hid ((chosen sel (l.take k)).length ≤ 1000000000000) := Lib.hid (by have := CL.out (l.take k); simp at this; omega)
        have HO3 := Lib.hid (HO2.out.alloc (.cells #[.int .u64 a, .int .u64 b] 25))
        have NB := Lib.hid (Bx.new w2 #[.int .u64 a, .int .u64 b] 25)
        have hsz := HB2.out.size
        go_wp2_with (at_builtin; refine Se.wpList_appP rfl (.tmp 21) (.tmp 24) rfl w.heap.size _ _ rfl HO3.out w2.heap.size a b rfl (NB.out.c 0) (NB.out.c 1) LN.out (by simp; omega) ?_; intro v6 w6 ho6 hb6 _; have O6 := Lib.hid ho6; have B6 := Lib.hid hb6; clear ho6 hb6)
        exact ⟨⟨k + 1, by omega, by go_num, by rw [E.out]; exact O6.out, (HB2.out.alloc HB2.out.size _).trans B6.out⟩, by simp [intOf]; omega⟩
    · obtain rfl : k = l.length := by omega
      rw [List.take_length] at HO
      have CO := Lib.hid (Se.Of_any u5 (chosen sel l) wr HO.out.at (by have := CL.out l; omega))
      go_wp2_with (go_at_call 36; (with_reducible refine (CO.out).mono ?_); rintro e w3 ⟨u3, rfl, ho, hb⟩; have O3 := Lib.hid ho; have B3 := Lib.hid hb; clear ho hb)
      go_ret
      exact ⟨_, rfl, O3.out.mono HB.out.size, HB.out.trans (B3.out.mono HB.out.size)⟩
theorem Span1_any (x : VP) (w : World) : Calls Tryz.prog 80 (#[x.val] ++ #[]) w fun e w' => e = .returned (.bool true) ∧ Below w.heap.size w w' := by
  have hsf := store_float
  obtain ⟨k, b, n, f, s⟩ := x
  show Calls _ _ #[_] _ _
  go_enter Tryz.func80, Tryz.ntmps80
  go_wp2
  go_ret
  exact ⟨rfl, (Below.refl _ _).alloc (Nat.le_refl _) _⟩
/-- The instants of all pieces of a line. -/
noncomputable def spanL (l : List Pie) : List (Int × Int) := Se.Iset.nf (chosen (fun _ => true) l)
theorem Span_any (v : Value) (l : List Pie) (w : World) (h : SL w v l) (hl : Pl.Line okV l) (hn : l.length ≤ 1000000000000) :
    Calls Tryz.prog 27 #[v] w (SetIs (spanL l) w) := by
  have C := Lib.hid (instants_any 80 #[] (enters_of Tryz.func80 (by kernel_rfl) rfl) (fun _ => true) v l w h hl hn fun k hk W _ => Span1_any _ W)
  obtain ⟨A, c, rfl, _⟩ := h
  clear hl
  go_enter Tryz.func27, Tryz.ntmps27
  go_wp2_with (go_at_call 79; (with_reducible refine (C.out).mono ?_); rintro e w3 ⟨u3, rfl, ho, hb⟩; have O3 := Lib.hid ho; have B3 := Lib.hid hb; clear ho hb)
  go_ret
  exact ⟨_, rfl, O3.out, B3.out⟩
theorem Span_no (v : Value) (l : List Pie) (w : World) (h : SL w v l) (hw : ∀ x ∈ l, x.v.wide) (hl : ¬ Pl.Line okV l) :
    Calls Tryz.prog 27 #[v] w (SetIs [] w) := by
  have C := Lib.hid (instants_no (.func (.func 80) #[] #[]) v l w h hw hl)
  obtain ⟨A, c, rfl, _⟩ := h
  clear hw hl
  go_enter Tryz.func27, Tryz.ntmps27
  go_wp2_with (go_at_call 79; (with_reducible refine (C.out).mono ?_); rintro e w3 ⟨u3, rfl, ho, hb⟩; have O3 := Lib.hid ho; have B3 := Lib.hid hb; clear ho hb)
  go_ret
  exact ⟨_, rfl, O3.out, B3.out⟩
end
end Go.Proofs.YtgmaompjhhomcaaGreat

namespace Go.Proofs.YtgmaompjhhomcaaGreat
open Go.RowKit
/-- Whether this is the value that is looked for. -/
noncomputable def isV (v x : VP) : Bool := @decide (v.may ∧ x = v) (Classical.propDecidable _)
theorem isV_iff (v x : VP) : isV v x = true ↔ v.may ∧ x = v := by unfold isV; exact @decide_eq_true_iff _ (Classical.propDecidable _)
theorem isV_none {v : VP} (h : v.k ≠ 0) : isV v VP.none = false := by
  rw [← Bool.not_eq_true, isV_iff]
  rintro ⟨_, e⟩
  exact h (by rw [← e]; rfl)
section
set_option maxRecDepth 100000
set_option maxHeartbeats 8000000
theorem Where1_any (v x : VP) (q : Nat) (w : World) (hq : Bx w q v.cells) (hv : v.wide) (hx : x.wide) (mx : x.may) :
    Calls Tryz.prog 82 (#[x.val] ++ #[.pointer (some ⟨q, 0, none⟩)]) w fun e w' => e = .returned (.bool (isV v x)) ∧ Below w.heap.size w w' := by
  show Calls _ _ #[_, _] _ _
  have CM := Lib.hid (fun W => valMay_any v hv W)
  have hsf := store_float
  by_cases mv : v.may
  · have CM := Lib.hid (fun W => (CM.out W).mono fun _ _ h => h.yes mv)
    have CS := Lib.hid (fun W => valSame_any x v hx hv mx mv W)
    have HE : Hid (∀ c : Bool, (c = true ↔ x = v) → c = isV v x) := Lib.hid fun c hc => by
      rw [Bool.eq_iff_iff, isV_iff, hc]
      exact ⟨fun e => ⟨mv, e⟩, fun e => e.2⟩
    have Q0 := Lib.hid (hq.below ((Below.refl _ _).alloc (Nat.le_refl _) (.cells x.cells 28)))
    have X0 := Lib.hid (Bx.new w x.cells 28)
    have B0 := Lib.hid ((Below.refl w.heap.size w).alloc (Nat.le_refl _) (.cells x.cells 28))
    clear hq hv hx mx mv
    obtain ⟨k, b, n, f, s⟩ := v
    obtain ⟨k', b', n', f', s'⟩ := x
    have x0 := X0.out.c
    have q0 := Q0.out.c
    go_enter Tryz.func82, Tryz.ntmps82
    go_wp2_with (first
      | (go_at_call 83; (with_reducible refine (CM.out _).mono ?_); rintro e w1 ⟨rfl, hb⟩; have B1 := Lib.hid (B0.out.trans (hb.mono B0.out.size)); have X1 := Lib.hid (X0.out.below hb); have Q1 := Lib.hid (Q0.out.below hb); clear hb x0 q0; have x0 := X1.out.c; have q0 := Q1.out.c)
      | (go_at_call 35; (with_reducible refine (CS.out _).mono ?_); rintro e w2 ⟨c, rfl, hc, hb⟩; have HC := Lib.hid hc; have B2 := Lib.hid (B1.out.trans (hb.mono B1.out.size)); clear hb hc)
      | fail)
    go_ret
    have e := HE.out c HC.out
    subst e
    exact ⟨rfl, B2.out⟩
  · have CM := Lib.hid (fun W => (CM.out W).mono fun _ _ h => h.no mv)
    have HE : Hid (isV v x = false) := Lib.hid (by rw [← Bool.not_eq_true, isV_iff]; exact fun h => mv h.1)
    have Q0 := Lib.hid (hq.below ((Below.refl _ _).alloc (Nat.le_refl _) (.cells x.cells 28)))
    have B0 := Lib.hid ((Below.refl w.heap.size w).alloc (Nat.le_refl _) (.cells x.cells 28))
    clear hq hv hx mx mv
    rw [HE.out]
    clear HE
    obtain ⟨k, b, n, f, s⟩ := v
    obtain ⟨k', b', n', f', s'⟩ := x
    have q0 := Q0.out.c
    go_enter Tryz.func82, Tryz.ntmps82
    go_wp2_with (first
      | (go_at_call 83; (with_reducible refine (CM.out _).mono ?_); rintro e w1 ⟨rfl, hb⟩; have B1 := Lib.hid (B0.out.trans (hb.mono B0.out.size)); clear hb q0)
      | fail)
    go_ret
    exact ⟨rfl, B1.out⟩
theorem Where_any (sv : Value) (l : List Pie) (v : VP) (w : World) (h : SL w sv l) (hl : Pl.Line okV l) (hn : l.length ≤ 1000000000000) (hv : v.wide) :
    Calls Tryz.prog 29 #[sv, v.val] w (SetIs (Se.Iset.nf (chosen (isV v) l)) w) := by
  have B0 := Lib.hid ((Below.refl w.heap.size w).alloc (Nat.le_refl _) (.cells v.cells 28))
  have C := Lib.hid (instants_any 82 #[.pointer (some ⟨w.heap.size, 0, none⟩)] (enters_of Tryz.func82 (by kernel_rfl) rfl) (isV v) sv l (w.alloc (.cells v.cells 28)) (h.below B0.out) hl hn fun k hk W hb => Where1_any v l[k].v _ W ((Bx.new w v.cells 28).below hb) hv (hl.good _ (List.getElem_mem hk)).2.2.1 (hl.good _ (List.getElem_mem hk)).2.2.2.1)
  obtain ⟨A, c, rfl, _⟩ := h
  clear hl hv
  obtain ⟨S, hS⟩ : ∃ S, Se.Iset.nf (chosen (isV v) l) = S := ⟨_, rfl⟩
  rw [hS] at C ⊢
  clear hS
  obtain ⟨k, b, n, f, s⟩ := v
  have hsf := store_float
  go_enter Tryz.func29, Tryz.ntmps29
  go_wp2_with (go_at_call 79; (with_reducible refine (C.out).mono ?_); rintro e w3 ⟨u3, rfl, ho, hb⟩; have O3 := Lib.hid ho; have B3 := Lib.hid hb; clear ho hb)
  go_ret
  exact ⟨_, rfl, O3.out.mono B0.out.size, B0.out.trans (B3.out.mono B0.out.size)⟩
end
end Go.Proofs.YtgmaompjhhomcaaGreat

namespace Go.Proofs.YtgmaompjhhomcaaGreat
open Go.Shelf
def compU_ren : Go.Shelf.Ren := ⟨fun | 43 => 71 | n => n, fun | 22 => 44 | 23 => 23 | 3 => 3 | 4 => 4 | 0 => 0 | n => n, fun | n => n⟩
theorem compU : Go.Proofs.SlLaysE.n43 Tryz.prog compU_ren := {
  mixed := by kernel_rfl
  f43 := ⟨Tryz.f71.name, by decide, Tryz.func71.trans (congrArg some (by kernel_rfl))⟩
  t0 := Tryz.underlying0
  a0 := Tryz.isAgg0
  z0 := Tryz.sizeOf0
  v0 := Tryz.zeroValue0
  t3 := Tryz.underlying3
  a3 := Tryz.isAgg3
  z3 := Tryz.sizeOf3
  v3 := Tryz.zeroValue3
  t4 := Tryz.underlying4
  a4 := Tryz.isAgg4
  z4 := Tryz.sizeOf4
  v4 := Tryz.zeroValue4
  t22 := Tryz.underlying44
  a22 := Tryz.isAgg44
  z22 := Tryz.sizeOf44
  v22 := Tryz.zeroValue44
  a23 := Tryz.isAgg23
  z23 := Tryz.sizeOf23 }
def cloneP_ren : Go.Shelf.Ren := ⟨fun | 41 => 145 | n => n, fun | 22 => 29 | 23 => 25 | 4 => 4 | n => n, fun | n => n⟩
theorem cloneP : Go.Proofs.SlLaysE0.n41 Tryz.prog cloneP_ren := {
  mixed := by kernel_rfl
  f41 := ⟨Tryz.f145.name, by decide, Tryz.func145.trans (congrArg some (by kernel_rfl))⟩
  t4 := Tryz.underlying4
  a4 := Tryz.isAgg4
  z4 := Tryz.sizeOf4
  v4 := Tryz.zeroValue4
  t22 := Tryz.underlying29
  a22 := Tryz.isAgg29
  z22 := Tryz.sizeOf29
  v22 := Tryz.zeroValue29 }
def cloneL_ren : Go.Shelf.Ren := ⟨fun | 41 => 152 | n => n, fun | 22 => 30 | 23 => 43 | 4 => 4 | n => n, fun | n => n⟩
theorem cloneL : Go.Proofs.SlLaysE0.n41 Tryz.prog cloneL_ren := {
  mixed := by kernel_rfl
  f41 := ⟨Tryz.f152.name, by decide, Tryz.func152.trans (congrArg some (by kernel_rfl))⟩
  t4 := Tryz.underlying4
  a4 := Tryz.isAgg4
  z4 := Tryz.sizeOf4
  v4 := Tryz.zeroValue4
  t22 := Tryz.underlying30
  a22 := Tryz.isAgg30
  z22 := Tryz.sizeOf30
  v22 := Tryz.zeroValue30 }
def idxE_ren : Go.Shelf.Ren := ⟨fun | 6 => 146 | n => n, fun | 22 => 75 | 23 => 97 | 25 => 143 | 3 => 3 | 0 => 0 | 4 => 4 | n => n, fun | n => n⟩
theorem idxE : Go.Proofs.SlLaysH0.n6 Tryz.prog idxE_ren := {
  mixed := by kernel_rfl
  f6 := ⟨Tryz.f146.name, by decide, Tryz.func146.trans (congrArg some (by kernel_rfl))⟩
  t0 := Tryz.underlying0
  a0 := Tryz.isAgg0
  z0 := Tryz.sizeOf0
  v0 := Tryz.zeroValue0
  t3 := Tryz.underlying3
  a3 := Tryz.isAgg3
  z3 := Tryz.sizeOf3
  v3 := Tryz.zeroValue3
  t4 := Tryz.underlying4
  a4 := Tryz.isAgg4
  z4 := Tryz.sizeOf4
  v4 := Tryz.zeroValue4
  t22 := Tryz.underlying75
  a22 := Tryz.isAgg75
  z22 := Tryz.sizeOf75
  v22 := Tryz.zeroValue75
  t25 := Tryz.underlying143
  a25 := Tryz.isAgg143
  z25 := Tryz.sizeOf143
  v25 := Tryz.zeroValue143 }
end Go.Proofs.YtgmaompjhhomcaaGreat

