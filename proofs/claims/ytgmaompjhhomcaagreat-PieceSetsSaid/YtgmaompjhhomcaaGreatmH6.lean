/- Puts, and the line that they build. -/
import Derived.Test.YtgmaompjhhomcaaGreatmH5
namespace Go.Proofs.YtgmaompjhhomcaaGreat
open Go.RowKit
def goodP (x : Pie) : Prop := (x.a < x.b ∧ x.b ≤ 1099511627776) ∧ setP x.v
open Classical in
/-- What puts say of an instant: the last one that reaches it. -/
noncomputable def lastV (D : List Pie) (t : Int) : VP := D.foldl (fun acc p => if p.a ≤ t ∧ t < p.b then p.v else acc) VP.none
theorem lastV_snoc (D : List Pie) (p : Pie) (t : Int) : (p.a ≤ t ∧ t < p.b → lastV (D ++ [p]) t = p.v) ∧ (¬ (p.a ≤ t ∧ t < p.b) → lastV (D ++ [p]) t = lastV D t) := by
  unfold lastV
  rw [List.foldl_append]
  constructor
  · intro h; simp [h]
  · intro h
    simp only [List.foldl_cons, List.foldl_nil]
    rw [if_neg h]
/-- The line that puts build. -/
structure PutsR (D R : List Pie) : Prop where
  line : Pl.Line okV R
  means : ∀ t, Pl.means VP.none R t = lastV D t
  len : R.length ≤ 2 * D.length
theorem PutsR.nil : PutsR [] [] := ⟨Pl.Line.nil _, fun _ => rfl, by simp⟩
theorem PutsR.snoc {D R S : List Pie} {p : Pie} (h : PutsR D R) (hs : Pl.SetR okV VP.none R p.a p.b p.v S) : PutsR (D ++ [p]) S := by
  refine ⟨hs.line, fun t => ?_, by have := hs.len; have := h.len; simp; omega⟩
  by_cases c : p.a ≤ t ∧ t < p.b
  · rw [(hs.means t).1 c, (lastV_snoc D p t).1 c]
  · rw [(hs.means t).2 c, (lastV_snoc D p t).2 c, h.means]
/-- A slice of puts that the call owns. -/
def OwnT (base : Nat) (w : World) (v : Value) (l : List Pie) : Prop := w.ownsRow base 64 7 v l.length (cellsL l)
theorem OwnT.nil (base : Nat) (w : World) : OwnT base w (.slice none 0 0) [] := World.ownsRow_nil w base _ 7
theorem OwnT.alloc {base : Nat} {w : World} {v : Value} {l : List Pie} (h : OwnT base w v l) (o : Obj) : OwnT base (w.alloc o) v l := World.ownsRow.alloc h o
theorem OwnT.below {base : Nat} {w w' : World} {v : Value} {l : List Pie} (h : OwnT base w v l) (hb : Below w.heap.size w w') : OwnT base w' v l := by
  refine ⟨h.1, ?_⟩
  rcases h.2 with h0 | ⟨g, cap, cur, h1, h2, h3, h4⟩
  · exact .inl h0
  · exact .inr ⟨g, cap, cur, h1, h2, (hb.block g (lt_heap h3)).trans h3, h4⟩
theorem OwnT.at {base : Nat} {w : World} {v : Value} {l : List Pie} (h : OwnT base w v l) : SL w v l := by
  rcases h.2 with ⟨rfl, h0⟩ | ⟨g, cap, cur, rfl, hb, hg, hn, hm, hs, ht⟩
  · obtain rfl : l = [] := List.eq_nil_of_length_eq_zero h0
    exact SL.nil _
  · refine ⟨_, cap, rfl, fun h0 => ⟨g, 0, rfl, lt_heap hg, fun i hi j v hv => ?_⟩, by unfold maxLen at hm; omega⟩
    have hj : j < 7 := by
      have := (List.getElem?_eq_some_iff.1 hv).1
      rwa [pie_len] at this
    have c0 := cellsL_get l i hi j hj
    rw [← ht, List.getElem?_take_of_lt (by omega), Array.getElem?_toList] at c0
    rw [Nat.zero_add, cell_of_row w g (i * 7 + j) cur _ _ hg, c0, hv]
theorem apart_LT {base base' : Nat} {w : World} {v u : Value} {l m : List Pie} (h : OwnL base w v l) (g : OwnT base' w u m) : v.ownBlock = none ∨ v.ownBlock ≠ u.ownBlock := by
  rcases h.2 with ⟨rfl, _⟩ | ⟨q, cap, cur, rfl, _, hq, _⟩
  · exact .inl rfl
  · refine .inr fun e => ?_
    rcases g.2 with ⟨rfl, _⟩ | ⟨q', cap', cur', rfl, _, hq', _⟩
    · simp [Value.ownBlock] at e
    · simp [Value.ownBlock] at e
      subst e
      rw [hq] at hq'
      simp at hq'
theorem infoT : (Tryz.prog.info? 64).map (fun i => (i.zero, i.size, i.bytes)) = some (some (.agg #[.int .u64 0, .int .u64 0, .int .i64 0, .bool false, .int .i64 0, .float .f64 0, .string ⟨#[]⟩]), 7, 64) := by kernel_rfl
theorem rowT : (Tryz.prog.info? 64).map (·.size) = some 7 := by kernel_rfl
theorem wpList_appT {ops : Array Oper} {rest : List Oper} {o : Oper} {a : Act} {w : World} {Q : Exit → Act → World → Prop} (hgd : o.guard = none) (s x : Operand)
    (ho : o.op = .call { callee := .builtin .append, args := #[s, x], argTypes := #[61, 61] })
    (base : Nat) (v : Value) (L : List Pie) (hs : a.eval s = v) (hown : OwnT base w v L) (g : Nat) (p : Pie) (hx : a.eval x = .slice (some ⟨g, 0, none⟩) 1 1)
    (hp : ∀ j u, (Pie.cells p).toList[j]? = some u → w.cell? ⟨g, j, none⟩ = some u) (hlen : L.length ≤ 1000000000000) (hbase : base ≤ w.heap.size)
    (h : ∀ v' w', OwnT base w' v' (L ++ [p]) → w.grownBy w' v.ownBlock → Below base w w' → wpList Tryz.prog ops Q rest (a.put o.dst v') w') :
    wpList Tryz.prog ops Q (o :: rest) a w := by
  obtain ⟨i0, hi, hz0, hz1, hz2⟩ := info_parts infoT
  refine wpList_append_own_at _ hgd s x 61 ho base 64 i0 _ 7 64 Tryz.underlying61 hi hz0 hz1 hz2 rfl (by omega) v _ _ hs hown ⟨g, 0, none⟩ 1 1 (Pie.cells p).toList hx rfl ?_ ?_ (by unfold maxLen; omega) (by omega) hbase ?_
  · intro j u hj
    rw [add_off, Nat.zero_add]
    exact hp j u hj
  · intro u hu
    simp at hu
    rcases hu with rfl | rfl | rfl | rfl | rfl | rfl | rfl <;> rfl
  · intro v' w' h1 h2 h3 _
    refine h v' w' ?_ h2 ((Below.refl _ _).grown h2 hbase fun k hk => (World.ownsRow.lt hown k hk).1)
    unfold OwnT
    rw [cellsL_append, cellsL_one, List.length_append]
    exact h1
section
set_option maxRecDepth 100000
set_option maxHeartbeats 8000000
theorem plain_any (v : VP) (hw : v.wide) (w : World) : Calls Tryz.prog 127 #[v.val] w (Says (setP v) w) := by
  have CM := Lib.hid (fun W => valMay_any v hw W)
  have HP : Hid (∀ c : Bool, (c = true ↔ v.may) → ((c && (v.k != 5) && (v.k != 6)) = true ↔ setP v)) := Lib.hid fun c h => by
    unfold setP
    rw [← h]; simp [and_assoc]
  have hsf := store_float
  obtain ⟨k, b, n, f, s⟩ := v
  simp only at HP
  clear hw
  go_enter Tryz.func127, Tryz.ntmps127
  go_upto_region 1 with fail
  go_wp2_with (go_at_call 83; (with_reducible refine (CM.out _).mono ?_); rintro e w1 ⟨c, rfl, hc, hb⟩; obtain ⟨hc1, hf1⟩ := bcell hb; have HS := Lib.hid (HP.out c hc); have B1 := Lib.hid hb; clear hc; cases c)
  all_goals
    go_ret
    refine ⟨_, rfl, ?_, al1 B1.out⟩
    have hh := HS.out; first | (simpa using hh) | (simp_all; done)
theorem good_any (x : Pie) (hw : x.v.wide) (w : World) : Calls Tryz.prog 86 #[Pie.val x] w (Says (goodP x) w) := by
  have CP := Lib.hid (fun W => plain_any x.v hw W)
  have HB := Lib.hid ((Below.refl w.heap.size w).alloc (Nat.le_refl _) (.cells (Pie.cells x) 64))
  have hsf := store_float
  by_cases h1 : x.a < x.b
  · by_cases h2 : x.b ≤ 1099511627776
    · have HE : Hid (∀ c : Bool, (c = true ↔ setP x.v) → (c = true ↔ goodP x)) := Lib.hid fun c h => h.trans ⟨fun e => ⟨⟨h1, h2⟩, e⟩, fun e => e.2⟩
      obtain ⟨a, b, ⟨k, vb, n, f, s⟩⟩ := x
      simp only at h1 h2 CP HE
      go_enter Tryz.func86, Tryz.ntmps86
      go_wp2_with (go_at_call 127; (with_reducible refine (CP.out _).mono ?_); rintro e w1 ⟨c, rfl, hc, hb⟩; have HC := Lib.hid (HE.out c hc); have B1 := Lib.hid (HB.out.trans (hb.mono HB.out.size)); clear hc hb)
      go_ret
      exact ⟨c, rfl, HC.out, B1.out⟩
    · have HN : Hid (¬ goodP x) := Lib.hid fun h => h2 h.1.2
      obtain ⟨a, b, ⟨k, vb, n, f, s⟩⟩ := x
      simp only at h1 h2 CP HN
      have h2' : (1099511627776 : Int) < b := by omega
      have t0 : decide (b ≤ 1099511627776) = false := by simp; omega
      go_enter Tryz.func86, Tryz.ntmps86
      go_wp2
      go_ret
      exact ⟨false, rfl, by simp [HN.out], HB.out⟩
  · have HN : Hid (¬ goodP x) := Lib.hid fun h => h1 h.1.1
    obtain ⟨a, b, ⟨k, vb, n, f, s⟩⟩ := x
    simp only at h1 CP HN
    have t0 : decide (a < b) = false := by simp; omega
    go_enter Tryz.func86, Tryz.ntmps86
    go_wp2
    go_ret
    exact ⟨false, rfl, by simp [HN.out], HB.out⟩
/-- What Set answers to a put that may not be. -/
def NotOk (w : World) (e : Ending) (w' : World) : Prop := ∃ n : Int, n ≠ 0 ∧ e = .returned (.tuple #[.slice none 0 0, .int .i64 n]) ∧ Below w.heap.size w w'
theorem Set_not (sv : Value) (l : List Pie) (x : Pie) (w : World) (h : SL w sv l) (hL : Pl.Line okV l) (hx : ¬ goodP x) (hw : x.v.wide) :
    Calls Tryz.prog 11 #[sv, .agg #[.int .u64 x.a, .int .u64 x.b], x.v.val] w (NotOk w) := by
  by_cases hp : x.a < x.b ∧ x.b ≤ 1099511627776
  · exact (Set_arg sv l x.a x.b x.v w h (line_w hL) hL hp (fun g => hx ⟨hp, g⟩) hw).mono fun _ _ h => ⟨1, by decide, h.1, h.2⟩
  · exact (Set_empty sv l x.a x.b x.v w h (line_w hL) hL hp).mono fun _ _ h => ⟨32, by decide, h.1, h.2⟩
end
end Go.Proofs.YtgmaompjhhomcaaGreat

