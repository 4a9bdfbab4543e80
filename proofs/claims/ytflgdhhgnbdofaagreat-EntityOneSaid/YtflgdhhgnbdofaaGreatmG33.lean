/- The instants at which a line says what is chosen: instants, Span. -/
/- Entities in memory; ids, labels, what an edge joins. -/
/- Where a key is among properties: the library's search, find. -/
/- A region that draws its order: operations whose guard leaves them out, skipped all at once. -/
import Derived.Test.YtflgdhhgnbdofaaGreatmG26
import Derived.Test.YtflgdhhgnbdofaaGreatmG32
import Derived.Test.YtflgdhhgnbdofaaGreatmCO7
import Derived.Test.YtflgdhhgnbdofaaGreatmG30
import Derived.Test.YtflgdhhgnbdofaaGreatmG11
import Derived.Deep.RegionHeld3
namespace Go.Proofs.YtflgdhhgnbdofaaGreat
open Go.RowKit
/-- The periods of pieces. -/
def pers (l : List Pie) : List (Int × Int) := l.map fun x => (x.a, x.b)
/-- The periods of those whose values are chosen. -/
def chosen (sel : VP → Bool) (l : List Pie) : List (Int × Int) := pers (l.filter fun x => sel x.v)
theorem chosen_length (sel : VP → Bool) (l : List Pie) : (chosen sel l).length ≤ l.length := by
  unfold chosen pers
  rw [List.length_map]
  exact List.length_filter_le _ _
theorem chosen_take_yes {sel : VP → Bool} {l : List Pie} {k : Nat} (h : k < l.length) (hs : sel l[k].v = true) : chosen sel (l.take (k + 1)) = chosen sel (l.take k) ++ [(l[k].a, l[k].b)] := by
  unfold chosen pers
  rw [List.take_succ_eq_append_getElem h, List.filter_append, List.map_append]
  simp [hs]
theorem chosen_take_no {sel : VP → Bool} {l : List Pie} {k : Nat} (h : k < l.length) (hs : sel l[k].v = false) : chosen sel (l.take (k + 1)) = chosen sel (l.take k) := by
  unfold chosen pers
  rw [List.take_succ_eq_append_getElem h, List.filter_append, List.map_append]
  simp [hs]
theorem chosen_has {sel : VP → Bool} {l : List Pie} (hl : Pl.Line okV l) (t : Int) : Se.Iset.has (Se.Iset.nf (chosen sel l)) t = true ↔ ∃ x ∈ l, (x.a ≤ t ∧ t < x.b) ∧ sel x.v = true := by
  rw [Se.Iset.nf_has, Se.Iset.has_iff]
  unfold chosen pers
  constructor
  · rintro ⟨p, hp, ht⟩
    obtain ⟨x, hx, rfl⟩ := List.mem_map.1 hp
    rw [List.mem_filter] at hx
    exact ⟨x, hx.1, ((Se.Iset.hasP_iff _ _).1 ht).2, hx.2⟩
  · rintro ⟨x, hx, ht, hs⟩
    have := hl.good x hx
    exact ⟨(x.a, x.b), List.mem_map.2 ⟨x, List.mem_filter.2 ⟨hx, hs⟩, rfl⟩, (Se.Iset.hasP_iff _ _).2 ⟨⟨this.1, this.2.1⟩, ht⟩⟩
/-- Where a line means what is chosen. -/
theorem chosen_means {sel : VP → Bool} {l : List Pie} (hl : Pl.Line okV l) (hn : sel VP.none = false) (t : Int) : Se.Iset.has (Se.Iset.nf (chosen sel l)) t = sel (Pl.means VP.none l t) := by
  rw [Bool.eq_iff_iff, chosen_has hl]
  constructor
  · rintro ⟨x, hx, ht, hs⟩
    rw [Pl.means_at VP.none hl.par hx ht.1 ht.2]; exact hs
  · intro h
    rcases Pl.means_case VP.none l t with ⟨x, hx, h1, h2, e⟩ | ⟨_, e⟩
    · exact ⟨x, hx, ⟨h1, h2⟩, by rw [← e]; exact h⟩
    · rw [e, hn] at h; cases h
/-- A call that answers this new set. -/
def SetIs (S : List (Int × Int)) (w : World) (e : Ending) (w' : World) : Prop := ∃ u, e = .returned u ∧ Se.OwnP w.heap.size w' u S ∧ Below w.heap.size w w'
section
set_option maxRecDepth 100000
set_option maxHeartbeats 8000000
theorem instants_no (fv v : Value) (l : List Pie) (w : World) (h : SL w v l) (hw : ∀ x ∈ l, x.v.wide) (hl : ¬ Pl.Line okV l) :
    Calls Tryz.prog 128 #[v, fv] w (SetIs [] w) := by
  have CI := Lib.hid (fun W (hb : Below w.heap.size w W) => (Is_any v l W (h.below hb) hw).mono fun _ _ h => h.no hl)
  obtain ⟨A, c, rfl, hA, hm⟩ := h
  clear hA hw hl
  go_enter Tryz.func128, Tryz.ntmps128
  go_wp2_with (go_at_call 57; (with_reducible refine (CI.out _ (Below.refl _ _)).mono ?_); rintro e w1 ⟨rfl, hb⟩)
  go_ret
  exact ⟨_, rfl, Se.OwnP.nil _ _, hb⟩
theorem instants_any (F : FuncId) (cb : Array Value) (eg : ∀ args w, (callFunc F args).run Tryz.prog w = .ok (.enter F args) w) (sel : VP → Bool) (v : Value) (l : List Pie) (w : World) (h : SL w v l) (hl : Pl.Line okV l) (hn : l.length ≤ 1000000000000)
    (hc : ∀ k (hk : k < l.length) W, Below w.heap.size w W → Calls Tryz.prog F (#[l[k].v.val] ++ cb) W fun e w' => e = .returned (.bool (sel l[k].v)) ∧ Below W.heap.size W w') :
    Calls Tryz.prog 128 #[v, .func (.func F) #[] cb] w (SetIs (Se.Iset.nf (chosen sel l)) w) := by
  have CI := Lib.hid (fun W (hb : Below w.heap.size w W) => (Is_any v l W (h.below hb) (line_w hl)).mono fun _ _ h => h.yes hl)
  obtain ⟨A, c, rfl, hA, hm⟩ := h
  have HA := Lib.hid hA
  have HC := Lib.hid hc
  have CL := Lib.hid (chosen_length sel)
  clear hA hc hl
  have hsf := store_float
  go_enter Tryz.func128, Tryz.ntmps128
  go_wp2_with (go_at_call 57; (with_reducible refine (CI.out _ (Below.refl _ _)).mono ?_); rintro e w1 ⟨rfl, hb⟩; have B1 := Lib.hid hb; clear hb)
  go_loopw [5, 13] (fun u i wr => ∃ k : Nat, k ≤ l.length ∧ i = .int .i64 k ∧ Se.OwnP w.heap.size wr u (chosen sel (l.take k)) ∧ Below w.heap.size w wr) (fun _ i _ => l.length - (intOf i).toNat)
  case atStart => exact ⟨0, Nat.zero_le _, rfl, Se.OwnP.nil _ _, B1.out⟩
  case round =>
    obtain ⟨k, hk, rfl, ho, hb⟩ := hrel
    have HO := Lib.hid ho
    have HB := Lib.hid hb
    clear ho hb
    by_cases hlt : k < l.length
    · obtain ⟨g, off, rfl, lg, cg⟩ := (HA.out.below HB.out) (by omega)
      have r := cg k hlt
      have CK := Lib.hid (HC.out k hlt)
      have YY := Lib.hid (chosen_take_yes (sel := sel) hlt)
      have NN := Lib.hid (chosen_take_no (sel := sel) hlt)
      have i0 : (k : Int) < (l.length : Int) := by omega
      have i1 : (0 : Int) ≤ (k : Int) := by omega
      clear cg
      obtain ⟨x, hx⟩ : ∃ x, l[k] = x := ⟨_, rfl⟩
      rw [hx] at r CK YY NN
      clear hx
      obtain ⟨a, b, ⟨kk, vb, n, f, s⟩⟩ := x
      simp only at CK YY NN
      go_upto_region 7 with (refine wpList_load_mid rfl 71 (.tmp 15) rfl g (off + k * 7) rfl _ _ r Tryz.underlying71 rfl rowL ?_)
      have X0 := Lib.hid (Bx.new wr (Pie.cells ⟨a, b, ⟨kk, vb, n, f, s⟩⟩) 71)
      have HB0 := Lib.hid (HB.out.trans (((Below.refl wr.heap.size wr).alloc (Nat.le_refl _) (.cells (Pie.cells ⟨a, b, ⟨kk, vb, n, f, s⟩⟩) 71)).mono HB.out.size))
      have HO0 := Lib.hid (HO.out.alloc (.cells (Pie.cells ⟨a, b, ⟨kk, vb, n, f, s⟩⟩) 71))
      obtain ⟨W, hW⟩ : ∃ W, wr.alloc (.cells (Pie.cells ⟨a, b, ⟨kk, vb, n, f, s⟩⟩) 71) = W := ⟨_, rfl⟩
      rw [hW] at X0 HB0 HO0 ⊢
      clear hW
      have x0 := X0.out.c
      obtain ⟨q, hq⟩ : ∃ q, sel ⟨kk, vb, n, f, s⟩ = q := ⟨_, rfl⟩
      rw [hq] at CK YY NN
      clear hq
      go_wp2_with fail
      refine (CK.out _ HB0.out).mono ?_
      rintro e w2 ⟨rfl, hb⟩
      have HB2 := Lib.hid (HB0.out.trans (hb.mono HB0.out.size))
      have HO2 := Lib.hid (HO0.out.below hb)
      have X2 := Lib.hid (X0.out.below hb)
      clear hb x0
      cases q
      · have E := Lib.hid (NN.out rfl)
        go_wp2_with fail
        exact ⟨⟨k + 1, by omega, by go_num, by rw [E.out]; exact HO2.out, HB2.out⟩, by simp [intOf]; omega⟩
      · have E := Lib.hid (YY.out rfl)
        have x0 := X2.out.c
        have LN : Hid ((chosen sel (l.take k)).length ≤ 1000000000000) := Lib.hid (by have := CL.out (l.take k); simp at this; omega)
        have HO3 := Lib.hid (HO2.out.alloc (.cells #[.int .u64 a, .int .u64 b] 33))
        have NB := Lib.hid (Bx.new w2 #[.int .u64 a, .int .u64 b] 33)
        have hsz := HB2.out.size
        go_wp2_with (at_builtin; refine Se.wpList_appP rfl (.tmp 21) (.tmp 24) rfl w.heap.size _ _ rfl HO3.out w2.heap.size a b rfl (NB.out.c 0) (NB.out.c 1) LN.out (by simp; omega) ?_; intro v6 w6 ho6 hb6 _; have O6 := Lib.hid ho6; have B6 := Lib.hid hb6; clear ho6 hb6)
        exact ⟨⟨k + 1, by omega, by go_num, by rw [E.out]; exact O6.out, (HB2.out.alloc HB2.out.size _).trans B6.out⟩, by simp [intOf]; omega⟩
    · obtain rfl : k = l.length := by omega
      rw [List.take_length] at HO
      have CO := Lib.hid (Se.Of_any u5 (chosen sel l) wr HO.out.at (by have := CL.out l; omega))
      go_wp2_with (go_at_call 106; (with_reducible refine (CO.out).mono ?_); rintro e w3 ⟨u3, rfl, ho, hb⟩; have O3 := Lib.hid ho; have B3 := Lib.hid hb; clear ho hb)
      go_ret
      exact ⟨_, rfl, O3.out.mono HB.out.size, HB.out.trans (B3.out.mono HB.out.size)⟩
theorem Span1_any (x : VP) (w : World) : Calls Tryz.prog 129 (#[x.val] ++ #[]) w fun e w' => e = .returned (.bool true) ∧ Below w.heap.size w w' := by
  have hsf := store_float
  obtain ⟨k, b, n, f, s⟩ := x
  show Calls _ _ #[_] _ _
  go_enter Tryz.func129, Tryz.ntmps129
  go_wp2
  go_ret
  exact ⟨rfl, (Below.refl _ _).alloc (Nat.le_refl _) _⟩
/-- The instants of all pieces of a line. -/
noncomputable def spanL (l : List Pie) : List (Int × Int) := Se.Iset.nf (chosen (fun _ => true) l)
theorem Span_any (v : Value) (l : List Pie) (w : World) (h : SL w v l) (hl : Pl.Line okV l) (hn : l.length ≤ 1000000000000) :
    Calls Tryz.prog 63 #[v] w (SetIs (spanL l) w) := by
  have C := Lib.hid (instants_any 129 #[] (enters_of Tryz.func129 (by kernel_rfl) rfl) (fun _ => true) v l w h hl hn fun k hk W _ => Span1_any _ W)
  obtain ⟨A, c, rfl, _⟩ := h
  clear hl
  go_enter Tryz.func63, Tryz.ntmps63
  go_wp2_with (go_at_call 128; (with_reducible refine (C.out).mono ?_); rintro e w3 ⟨u3, rfl, ho, hb⟩; have O3 := Lib.hid ho; have B3 := Lib.hid hb; clear ho hb)
  go_ret
  exact ⟨_, rfl, O3.out, B3.out⟩
theorem Span_no (v : Value) (l : List Pie) (w : World) (h : SL w v l) (hw : ∀ x ∈ l, x.v.wide) (hl : ¬ Pl.Line okV l) :
    Calls Tryz.prog 63 #[v] w (SetIs [] w) := by
  have C := Lib.hid (instants_no (.func (.func 129) #[] #[]) v l w h hw hl)
  obtain ⟨A, c, rfl, _⟩ := h
  clear hw hl
  go_enter Tryz.func63, Tryz.ntmps63
  go_wp2_with (go_at_call 128; (with_reducible refine (C.out).mono ?_); rintro e w3 ⟨u3, rfl, ho, hb⟩; have O3 := Lib.hid ho; have B3 := Lib.hid hb; clear ho hb)
  go_ret
  exact ⟨_, rfl, O3.out, B3.out⟩
end
end Go.Proofs.YtflgdhhgnbdofaaGreat

namespace Go.Proofs.YtflgdhhgnbdofaaGreat
open Go.RowKit
/-- Where the properties of a slice lie: each with its key, and a slice of its line. -/
def PrAt (w : World) (A : Option Addr) (ps : List Prp) : Prop := 0 < ps.length → ∃ b off, A = some ⟨b, off, none⟩ ∧ b < w.heap.size ∧ ∀ i (h : i < ps.length), w.cell? ⟨b, off + i * 2, none⟩ = some (.string ps[i].k) ∧ ∃ u, w.cell? ⟨b, off + i * 2 + 1, none⟩ = some u ∧ SL w u ps[i].l
theorem PrAt.below {w w' : World} {A : Option Addr} {ps : List Prp} (h : PrAt w A ps) (hb : Below w.heap.size w w') : PrAt w' A ps := fun h0 => by
  obtain ⟨b, off, e, hl, hc⟩ := h h0
  refine ⟨b, off, e, Nat.lt_of_lt_of_le hl hb.size, fun i hi => ?_⟩
  obtain ⟨h1, u, h2, h3⟩ := hc i hi
  exact ⟨(hb.cell (p := ⟨b, off + i * 2, none⟩) hl).trans h1, u, (hb.cell (p := ⟨b, off + i * 2 + 1, none⟩) hl).trans h2, h3.below hb⟩
theorem PrAt.nil (w : World) (A : Option Addr) : PrAt w A [] := fun h => absurd h (Nat.lt_irrefl 0)
/-- A slice that holds these properties. -/
def SP (w : World) (v : Value) (ps : List Prp) : Prop := ∃ A c, v = .slice A ps.length c ∧ PrAt w A ps ∧ ps.length ≤ 9223372036854775807
theorem SP.below {w w' : World} {v : Value} {ps : List Prp} (h : SP w v ps) (hb : Below w.heap.size w w') : SP w' v ps := by
  obtain ⟨A, c, e, hA, hm⟩ := h
  exact ⟨A, c, e, hA.below hb, hm⟩
theorem SP.nil (w : World) : SP w (.slice none 0 0) [] := ⟨none, 0, rfl, PrAt.nil _ _, by simp⟩
/-- The cells of an entity. -/
abbrev Ent.cells (x : Ent) (sv sp : Value) : Array Value := #[.bool x.edge, .int .u64 x.id, .string x.lab, .int .u64 x.fr, .int .u64 x.til, sv, sp]
/-- An entity in memory. -/
def EAt (w : World) (v : Value) (x : Ent) : Prop := ∃ sv sp, v = .agg (x.cells sv sp) ∧ Se.IsP w sv x.val ∧ SP w sp x.ps
theorem EAt.below {w w' : World} {v : Value} {x : Ent} (h : EAt w v x) (hb : Below w.heap.size w w') : EAt w' v x := by
  obtain ⟨sv, sp, e, h1, h2⟩ := h
  exact ⟨sv, sp, e, h1.below hb, h2.below hb⟩
/-- Its numbers lie in their ranges, and its lists are not too long to be gone through. -/
structure Ent.wide (x : Ent) : Prop where
  val : Se.Iset.Wide x.val
  lenV : x.val.length ≤ 100000
  lenP : ∀ p ∈ x.ps, p.l.length ≤ 100000
  v : ∀ p ∈ x.ps, ∀ y ∈ p.l, y.v.wide
  a : ∀ p ∈ x.ps, ∀ y ∈ p.l, 0 ≤ y.a ∧ 0 ≤ y.b
def conP (edge : Bool) (fr til : Int) : Prop := (edge = true → (1 ≤ fr ∧ fr ≤ 1099511627776) ∧ 1 ≤ til ∧ til ≤ 1099511627776) ∧ (edge = false → fr = 0 ∧ til = 0)
section
set_option maxRecDepth 100000
set_option maxHeartbeats 4000000
theorem eIsId_any (n : Int) (w : World) : Calls Tryz.prog 81 #[.int .u64 n] w (Says (1 ≤ n ∧ n ≤ 1099511627776) w) := by
  by_cases h1 : 1 ≤ n
  · have HE : Hid (decide (n ≤ 1099511627776) = true ↔ (1 ≤ n ∧ n ≤ 1099511627776)) := Lib.hid (by simp [h1])
    go_enter Tryz.func81, Tryz.ntmps81
    go_wp2
    go_ret
    exact ⟨_, rfl, HE.out, Below.refl _ _⟩
  · have td : decide (1 ≤ n) = false := by simpa using h1
    have HE : Hid ((false = true) ↔ (1 ≤ n ∧ n ≤ 1099511627776)) := Lib.hid (by simp [h1])
    clear h1
    go_enter Tryz.func81, Tryz.ntmps81
    go_wp2
    go_ret
    exact ⟨false, rfl, HE.out, Below.refl _ _⟩
theorem str_some {s : ByteArray} (h : s ≠ ByteArray.empty) : s.toList.isEmpty = false := by
  rw [List.isEmpty_eq_false_iff, ByteArray.toList_eq]
  intro e
  exact h (ByteArray.ext (Array.toList_inj.1 (by rw [e]; rfl)))
theorem eIsLabel_any (s : ByteArray) (w : World) : Calls Tryz.prog 82 #[.string s] w (Says (s = ByteArray.empty ∨ Co.wordB s = true) w) := by
  have CW := Lib.hid (fun W => Co.Word_any s W)
  by_cases h : s = ByteArray.empty
  · subst h
    go_enter Tryz.func82, Tryz.ntmps82
    go_wp2
    go_ret
    exact ⟨true, rfl, by simp, Below.refl _ _⟩
  · have t0 := str_some h
    have HE : Hid (Co.wordB s = true ↔ (s = ByteArray.empty ∨ Co.wordB s = true)) := Lib.hid ⟨.inr, fun g => g.resolve_left h⟩
    clear h
    go_enter Tryz.func82, Tryz.ntmps82
    go_wp2_with (go_at_call 136; (with_reducible refine (CW.out _).mono ?_); rintro e w' ⟨rfl, rfl⟩)
    go_ret
    exact ⟨_, rfl, HE.out, Below.refl _ _⟩
theorem mayConnect_any (x : Ent) (sv sp : Value) (w : World) (hsv : ∃ A n c, sv = .slice A n c) (hsp : ∃ A n c, sp = .slice A n c) : Calls Tryz.prog 83 #[.agg (x.cells sv sp)] w (Says (conP x.edge x.fr x.til) w) := by
  have CI := Lib.hid (fun n W => eIsId_any n W)
  obtain ⟨Av, nv, cv, rfl⟩ := hsv
  obtain ⟨Ap, np, cp, rfl⟩ := hsp
  obtain ⟨edge, id, lab, fr, til, val, ps⟩ := x
  have B0 := Lib.hid ((Below.refl w.heap.size w).alloc (Nat.le_refl _) (.cells #[.bool edge, .int .u64 id, .string lab, .int .u64 fr, .int .u64 til, .slice Av nv cv, .slice Ap np cp] 38))
  have X0 := Lib.hid (Bx.new w #[.bool edge, .int .u64 id, .string lab, .int .u64 fr, .int .u64 til, .slice Av nv cv, .slice Ap np cp] 38)
  have x0 := X0.out.c
  simp only
  cases edge
  · by_cases hf : fr = 0
    · have HE : Hid ((til == 0) = true ↔ conP false fr til) := Lib.hid (by unfold conP; simp [hf])
      subst hf
      go_enter Tryz.func83, Tryz.ntmps83
      go_wp2
      go_ret
      exact ⟨_, rfl, HE.out, B0.out⟩
    · have HE : Hid ((false = true) ↔ conP false fr til) := Lib.hid (by unfold conP; simp [hf])
      have t0 : (fr == 0) = false := by simpa using hf
      clear hf
      go_enter Tryz.func83, Tryz.ntmps83
      go_wp2
      go_ret
      exact ⟨false, rfl, HE.out, B0.out⟩
  · have HE : Hid (((1 ≤ fr ∧ fr ≤ 1099511627776) ∧ 1 ≤ til ∧ til ≤ 1099511627776) ↔ conP true fr til) := Lib.hid (by unfold conP; simp)
    have CF := Lib.hid (CI.out fr)
    have CT := Lib.hid (CI.out til)
    clear CI
    go_enter Tryz.func83, Tryz.ntmps83
    go_wp2_with (first
      | (go_at_call 81; (with_reducible refine (CF.out _).mono ?_); rintro e w1 ⟨c1, rfl, hc1, hb⟩; have HC1 := Lib.hid hc1; have B1 := Lib.hid (B0.out.trans (hb.mono B0.out.size)); have X1 := Lib.hid (X0.out.below hb); clear hb hc1 x0; have x0 := X1.out.c; cases c1)
      | (go_at_call 81; (with_reducible refine (CT.out _).mono ?_); rintro e w2 ⟨c2, rfl, hc2, hb⟩; have HC2 := Lib.hid hc2; have B2 := Lib.hid (B1.out.trans (hb.mono B1.out.size)); clear hb hc2)
      | fail)
    · go_ret
      exact ⟨false, rfl, by rw [← HE.out, ← HC1.out]; simp, B1.out⟩
    · go_ret
      exact ⟨c2, rfl, by rw [← HE.out, ← HC1.out, HC2.out]; simp, B2.out⟩
end
end Go.Proofs.YtflgdhhgnbdofaaGreat

namespace Go.Proofs.YtflgdhhgnbdofaaGreat
open Go.RowKit
/-- What a search finds: the first place at which p holds. -/
def FirstOf (n : Nat) (p : Nat → Bool) (i : Nat) : Prop := i ≤ n ∧ (∀ j, j < i → p j = false) ∧ ∀ j, i ≤ j → j < n → p j = true
def SearchAns (n : Nat) (p : Nat → Bool) (w : World) (e : Ending) (w' : World) : Prop := ∃ i : Nat, e = .returned (.int .i64 i) ∧ FirstOf n p i ∧ Below w.heap.size w w'
section
set_option maxRecDepth 100000
set_option maxHeartbeats 4000000
theorem sortSearch_any (F : FuncId) (cb : Array Value) (eg : ∀ args w, (callFunc F args).run Tryz.prog w = .ok (.enter F args) w) (n : Nat) (p : Nat → Bool) (w : World) (hn : n ≤ 1000000000000)
    (hm : ∀ i j, i ≤ j → j < n → p i = true → p j = true)
    (hc : ∀ i W, i < n → Below w.heap.size w W → Calls Tryz.prog F (#[.int .i64 (i : Int)] ++ cb) W fun e w' => e = .returned (.bool (p i)) ∧ Below W.heap.size W w') :
    Calls Tryz.prog 195 #[.int .i64 (n : Int), .func (.func F) #[] cb] w (SearchAns n p w) := by
  have HM := Lib.hid hm
  have HC := Lib.hid hc
  clear hm hc
  go_enter Tryz.func195, Tryz.ntmps195
  go_wp2
  go_loopw [5, 6] (fun u v wr => ∃ a b : Nat, a ≤ b ∧ b ≤ n ∧ u = .int .i64 a ∧ v = .int .i64 b ∧ (∀ j, j < a → p j = false) ∧ (∀ j, b ≤ j → j < n → p j = true) ∧ Below w.heap.size w wr) (fun u v _ => (intOf v).toNat - (intOf u).toNat)
  case atStart => exact ⟨0, n, by omega, by omega, rfl, rfl, by omega, by omega, Below.refl _ _⟩
  case round =>
    obtain ⟨a, b, hab, hbn, rfl, rfl, h1, h2, hb⟩ := hrel
    have H1 := Lib.hid h1
    have H2 := Lib.hid h2
    have HB := Lib.hid hb
    clear h1 h2 hb
    by_cases hlt : a < b
    · go_upto_region 4 with fail
      obtain ⟨i, hi⟩ : ∃ i : Nat, ((a : Int) + (b : Int)) / 2 = (i : Int) := ⟨(a + b) / 2, by omega⟩
      have hia : a ≤ i := by omega
      have hib : i < b := by omega
      have hin : i < n := by omega
      rw [hi]
      clear hi
      have CI := Lib.hid (HC.out i wr hin HB.out)
      obtain ⟨q, hq⟩ : ∃ q, p i = q := ⟨_, rfl⟩
      have HQ := Lib.hid hq
      rw [hq] at CI
      clear hq
      go_wp2_with fail
      refine (CI.out).mono ?_
      rintro e w1 ⟨rfl, hb⟩
      have HB1 := Lib.hid (HB.out.trans (hb.mono HB.out.size))
      clear hb
      cases q
      · have L1 : Hid (∀ j, j < i + 1 → p j = false) := Lib.hid fun j hj => by
          cases hpj : p j
          · rfl
          · have := HM.out j i (by omega) hin hpj
            rw [HQ.out] at this
            cases this
        go_wp2_with fail
        exact ⟨⟨i + 1, b, by omega, by omega, by go_num, rfl, L1.out, H2.out, HB1.out⟩, by simp [intOf]; omega⟩
      · have L2 : Hid (∀ j, i ≤ j → j < n → p j = true) := Lib.hid fun j hj hjn => HM.out i j hj hjn HQ.out
        go_wp2_with fail
        exact ⟨⟨a, i, by omega, by omega, rfl, rfl, H1.out, L2.out, HB1.out⟩, by simp [intOf]; omega⟩
    · obtain rfl : a = b := by omega
      go_wp2_with fail
      go_ret
      exact ⟨a, rfl, ⟨hbn, H1.out, H2.out⟩, HB.out⟩
/-- Whether the key at a place is no less than k. -/
def geK (ps : List Prp) (k : ByteArray) (i : Nat) : Bool := match ps[i]? with
  | none => true
  | some p => !Op.bytesLess p.k.toList k.toList
theorem geK_at {ps : List Prp} {k : ByteArray} {i : Nat} (h : i < ps.length) : geK ps k i = !Op.bytesLess ps[i].k.toList k.toList := by unfold geK; rw [List.getElem?_eq_getElem h]
theorem geK_mono {ps : List Prp} {k : ByteArray} (hr : ps.Pairwise fun p q => ltS p.k q.k) (i j : Nat) (hij : i ≤ j) (hj : j < ps.length) (h : geK ps k i = true) : geK ps k j = true := by
  rcases Nat.lt_or_ge i j with c | c
  · rw [geK_at (by omega)] at h
    rw [geK_at hj]
    have h1 := (List.pairwise_iff_getElem.1 hr) i j (by omega) hj c
    cases hb : Op.bytesLess ps[j].k.toList k.toList
    · rfl
    · have := ltS_trans h1 (show ltS ps[j].k k from hb)
      unfold ltS at this
      rw [this] at h
      cases h
  · have : i = j := by omega
    subst this; exact h
theorem place_of {ps : List Prp} {k : ByteArray} {i : Nat} (h : FirstOf ps.length (geK ps k) i) : Place ps k i :=
  ⟨h.1, fun j hj hji => by
    have := h.2.1 j hji
    rw [geK_at hj] at this
    unfold ltS
    simpa using this, fun j hj hij => by
    have := h.2.2 j hij hj
    rw [geK_at hj] at this
    unfold ltS
    simpa using this⟩
theorem find1_any (A : Option Addr) (c : Nat) (ps : List Prp) (k : ByteArray) (i q0 q1 : Nat) (w : World) (hA : PrAt w A ps) (hi : i < ps.length) (h0 : Bx w q0 #[.slice A ps.length c]) (h1 : Bx w q1 #[.string k]) :
    Calls Tryz.prog 196 (#[.int .i64 (i : Int)] ++ #[.pointer (some ⟨q0, 0, none⟩), .pointer (some ⟨q1, 0, none⟩)]) w fun e w' => e = .returned (.bool (geK ps k i)) ∧ Below w.heap.size w w' := by
  show Calls _ _ #[_, _, _] _ _
  rw [geK_at hi]
  obtain ⟨g, off, rfl, lg, cg⟩ := hA (by omega)
  have ck := (cg i hi).1
  have i0 : (i : Int) < (ps.length : Int) := by omega
  have i1 : (0 : Int) ≤ (i : Int) := by omega
  obtain ⟨s, hs⟩ : ∃ s, ps[i].k = s := ⟨_, rfl⟩
  rw [hs] at ck ⊢
  clear hs cg hA
  have K0 : Hid (w.cell? ⟨g, off + i * 2, none⟩ = some (.string s) ∧ w.cell? ⟨q0, 0, none⟩ = some (.slice (some ⟨g, off, none⟩) ps.length c) ∧ w.cell? ⟨q1, 0, none⟩ = some (.string k)) := Lib.hid ⟨ck, h0.c 0, h1.c 0⟩
  obtain ⟨k1, k2, k3⟩ := K0.out
  clear h0 h1 ck K0
  go_enter Tryz.func196, Tryz.ntmps196
  go_upto_region 1 with fail
  go_quiet (fail)
  go_wp2_with fail
  go_ret
  exact ⟨rfl, bel_drewN nq (Below.refl _ _)⟩
/-- What find answers: the place, and whether the key is there. -/
def FindAns (ps : List Prp) (k : ByteArray) (w : World) (e : Ending) (w' : World) : Prop := ∃ (i : Nat) (r : Bool), e = .returned (.tuple #[.int .i64 i, .bool r]) ∧ Place ps k i ∧ (r = true ↔ ∃ h : i < ps.length, ps[i].k = k) ∧ Below w.heap.size w w'
theorem toList_beq (a b : ByteArray) : (a.toList == b.toList) = true ↔ a = b := by
  rw [beq_iff_eq]
  exact ⟨toList_inj, fun h => by rw [h]⟩
theorem find_any (v : Value) (ps : List Prp) (k : ByteArray) (w : World) (h : SP w v ps) (hr : ps.Pairwise fun p q => ltS p.k q.k) (hn : ps.length ≤ 1000000000000) :
    Calls Tryz.prog 153 #[v, .string k] w (FindAns ps k w) := by
  obtain ⟨A, c, rfl, hA, hm⟩ := h
  have HA := Lib.hid hA
  have B0 := Lib.hid (((Below.refl w.heap.size w).alloc (Nat.le_refl _) (.cells #[.slice A ps.length c] 36)).alloc (by simp) (.cells #[.string k] 9))
  have Q0 := Lib.hid ((Bx.new w #[.slice A ps.length c] 36).below ((Below.refl _ _).alloc (Nat.le_refl _) (.cells #[.string k] 9)))
  have Q1 := Lib.hid (Bx.new (w.alloc (.cells #[.slice A ps.length c] 36)) #[.string k] 9)
  rw [show (w.alloc (.cells #[.slice A ps.length c] 36)).heap.size = w.heap.size + 1 by simp] at Q1
  have CS := Lib.hid (fun W q0 q1 (hb : Below w.heap.size w W) (h0 : Bx W q0 #[.slice A ps.length c]) (h1 : Bx W q1 #[.string k]) => sortSearch_any 196 #[.pointer (some ⟨q0, 0, none⟩), .pointer (some ⟨q1, 0, none⟩)] (enters_of Tryz.func196 (by kernel_rfl) rfl) ps.length (geK ps k) W hn (geK_mono hr)
    fun i W' hi hb' => find1_any A c ps k i q0 q1 W' (HA.out.below (hb.trans (hb'.mono hb.size))) hi (h0.below hb') (h1.below hb'))
  have HP := Lib.hid (fun i (h : FirstOf ps.length (geK ps k) i) => place_of h)
  clear hA hr
  go_enter Tryz.func153, Tryz.ntmps153
  go_upto_region 1 with fail
  obtain ⟨W0, hW0⟩ : ∃ W, (w.alloc (.cells #[.slice A ps.length c] 36)).alloc (.cells #[.string k] 9) = W := ⟨_, rfl⟩
  rw [hW0] at B0 Q0 Q1
  try rw [hW0]
  clear hW0
  obtain ⟨q0, hq0⟩ : ∃ q, w.heap.size = q := ⟨_, rfl⟩
  obtain ⟨q1, hq1⟩ : ∃ q, w.heap.size + 1 = q := ⟨_, rfl⟩
  rw [hq0] at Q0
  rw [hq1] at Q1
  try rw [hq1]
  try rw [hq0]
  clear hq0 hq1
  have x0 := Q0.out.c
  go_upto_region 2 with (go_at_call 195; (with_reducible refine (CS.out _ _ _ B0.out Q0.out Q1.out).mono ?_); rintro e w1 ⟨i, rfl, hf, hb⟩; have HF := Lib.hid (HP.out i hf); have HB1 := Lib.hid (B0.out.trans (hb.mono B0.out.size)); have R0 := Lib.hid (Q0.out.below hb); have R1 := Lib.hid (Q1.out.below hb); clear hb hf x0)
  have k0 : w1.cell? ⟨q0, 0, none⟩ = some (.slice A ps.length c) := R0.out.c 0
  have k1 : w1.cell? ⟨q1, 0, none⟩ = some (.string k) := R1.out.c 0
  have HL := Lib.hid HF.out.le
  by_cases hlt : i < ps.length
  · obtain ⟨g, off, rfl, lg, cg⟩ := (HA.out.below HB1.out) (by omega)
    have ck := (cg i hlt).1
    have i0 : (i : Int) < (ps.length : Int) := by omega
    have i1 : (0 : Int) ≤ (i : Int) := by omega
    obtain ⟨s, hs⟩ : ∃ s, ps[i].k = s := ⟨_, rfl⟩
    have HS := Lib.hid hs
    rw [hs] at ck
    clear hs cg lg
    have HE : Hid ((s.toList == k.toList) = true ↔ ∃ h : i < ps.length, ps[i].k = k) := Lib.hid (by
      rw [toList_beq, ← HS.out]
      exact ⟨fun h => ⟨hlt, h⟩, fun ⟨_, h⟩ => h⟩)
    go_quiet (fail)
    go_wp2_with fail
    go_ret2
    exact ⟨i, _, rfl, HF.out, HE.out, bel_drewN nq HB1.out⟩
  · have hd : decide ((i : Int) < (ps.length : Int)) = false := by simp; omega
    have HE : Hid ((false = true) ↔ ∃ h : i < ps.length, ps[i].k = k) := Lib.hid ⟨fun h => (by cases h), fun ⟨h, _⟩ => absurd h hlt⟩
    go_quiet (fail)
    go_wp2_with fail
    go_ret2
    exact ⟨i, false, rfl, HF.out, HE.out, bel_drewN nq HB1.out⟩
end
end Go.Proofs.YtflgdhhgnbdofaaGreat

namespace Go.Proofs.YtflgdhhgnbdofaaGreat
open Go.RowKit
section
variable {P : Program} {ops : Array Oper} {Q : Exit → Act → World → Prop} {md : Region.Mode} {S : World → Prop}
/-- The state behind the operations that were left out: each of their temporaries is undefined. -/
def skipped (ops : Array Oper) (a : Act) (us : List Nat) : Act := us.foldl (fun a i => a.put ((ops[i]?).bind (·.dst)) undef) a
def skipListed (listed : Array Bool) (us : List Nat) : Array Bool := us.foldl (fun l i => l.setIfInBounds i true) listed
/-- May these be skipped, one behind the other? -/
def maySkip (md : Region.Mode) (ops : Array Oper) : Array Bool → Array Value → List Nat → Bool
  | _, _, [] => true
  | listed, tmps, i :: us =>
    match ops[i]? with
    | none => false
    | some o => Region.free md ops listed i && (Region.ready md ops listed).contains i && !(Region.wanted o (yielded ops tmps)) && maySkip md ops (listed.setIfInBounds i true) (match o.dst with | some d => tmps.setIfInBounds d undef | none => tmps) us
theorem wpAnyH_skip (hs : Region.noSelect ops = true) (hQ : ∀ c (a : Act) (d : Option Tmp) w, Q (.panic c) (a.put d undef) w → Q (.panic c) a w) :
    ∀ (us : List Nat) (fuel : Nat) (listed : Array Bool) (a : Act) (w : World), maySkip md ops listed a.tmps us = true → S w →
      wpAnyH P md ops Q S fuel (skipListed listed us) (skipped ops a us) w → wpAnyH P md ops Q S (fuel + us.length) listed a w
  | [], _, _, _, _, _, _, h => h
  | i :: us, fuel, listed, a, w, hm, hS, h => by
    unfold maySkip at hm
    cases ho : ops[i]? with
    | none => rw [ho] at hm; cases hm
    | some o =>
      rw [ho] at hm
      simp only [Bool.and_eq_true, Bool.not_eq_true'] at hm
      obtain ⟨⟨⟨h1, h2⟩, h3⟩, h4⟩ := hm
      have e : (a.put o.dst undef).tmps = (match o.dst with | some d => a.tmps.setIfInBounds d undef | none => a.tmps) := by
        unfold Act.put; cases o.dst <;> rfl
      have ih := wpAnyH_skip hs hQ us fuel (listed.setIfInBounds i true) (a.put o.dst undef) w (by rw [e]; exact h4) hS (by
        have : skipped ops a (i :: us) = skipped ops (a.put o.dst undef) us := by
          unfold skipped
          rw [List.foldl_cons, ho]
          rfl
        rw [← this]
        exact h)
      have hl : fuel + (i :: us).length = (fuel + us.length) + 1 := by simp; omega
      rw [hl]
      exact wpAnyH_take ho hs h1 h2 (fun c a w hq => hQ c a o.dst w hq) (.inr ⟨h3, rfl⟩) hS ih
end
theorem take_in {P : Program} {md : Region.Mode} {ops : Array Oper} {Q : Exit → Act → World → Prop} {S : World → Prop} {i : Nat} {oi : Oper} {v : Value} {fuel : Nat} {listed : Array Bool} {a : Act} {w : World} (d : Option Nat) (hi : ops[i]? = some oi) (hd : oi.dst = d)
    (hs : Region.noSelect ops = true) (hf : Region.free md ops listed i = true) (hr : (Region.ready md ops listed).contains i = true)
    (hQ : ∀ c a w, Q (.panic c) (a.put d v) w → Q (.panic c) a w) (hy : YieldsIf P ops S oi v a) (hS : S w)
    (h : wpAnyH P md ops Q S fuel (listed.setIfInBounds i true) (a.put d v) w) : wpAnyH P md ops Q S (fuel + 1) listed a w := by
  subst hd
  exact wpAnyH_take hi hs hf hr hQ hy hS h
theorem wpAnyH_skip' {P : Program} {ops : Array Oper} {Q : Exit → Act → World → Prop} {md : Region.Mode} {S : World → Prop} (hs : Region.noSelect ops = true) (hQ : ∀ c (a : Act) (d : Option Tmp) w, Q (.panic c) (a.put d undef) w → Q (.panic c) a w)
    (us : List Nat) (fuel k : Nat) (hk : us.length = k) (listed l' : Array Bool) (a : Act) (w : World) (hm : maySkip md ops listed a.tmps us = true) (he : skipped ops a us = a) (hl : skipListed listed us = l') (hS : S w)
    (h : wpAnyH P md ops Q S fuel l' a w) : wpAnyH P md ops Q S (fuel + k) listed a w := by
  subst hk hl
  exact wpAnyH_skip hs hQ us fuel listed a w hm hS (by rw [he]; exact h)
theorem wpAnyH_skipd {P : Program} {ops : Array Oper} {Q : Exit → Act → World → Prop} {md : Region.Mode} {S : World → Prop} (hs : Region.noSelect ops = true) (hQ : ∀ c (a : Act) (d : Option Tmp) w, Q (.panic c) (a.put d undef) w → Q (.panic c) a w)
    (us ds : List Nat) (fuel k : Nat) (hk : us.length = k) (listed l' : Array Bool) (a : Act) (w : World) (hm : maySkip md ops listed a.tmps us = true) (he : skipped ops a us = ds.foldl (fun a d => a.put (some d) undef) a) (hl : skipListed listed us = l') (hS : S w)
    (h : wpAnyH P md ops Q S fuel l' (ds.foldl (fun a d => a.put (some d) undef) a) w) : wpAnyH P md ops Q S (fuel + k) listed a w := by
  subst hk hl
  exact wpAnyH_skip hs hQ us fuel listed a w hm hS (by rw [he]; exact h)
end Go.Proofs.YtflgdhhgnbdofaaGreat

