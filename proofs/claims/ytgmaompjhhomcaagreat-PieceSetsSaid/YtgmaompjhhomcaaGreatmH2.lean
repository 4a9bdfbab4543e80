/- The law's own small calls: pieces as the document has them; whether two lists of pieces are the same; numbers. -/
import Derived.Test.YtgmaompjhhomcaaGreatmH1
import Derived.Test.YtgmaompjhhomcaaGreatmB13
namespace Go.Proofs.YtgmaompjhhomcaaGreat
open Go.RowKit
/-- A slice of the document's pieces that the call owns. -/
def OwnD (base : Nat) (w : World) (v : Value) (l : List Pie) : Prop := w.ownsRow base 48 7 v l.length (cellsL l)
theorem OwnD.nil (base : Nat) (w : World) : OwnD base w (.slice none 0 0) [] := World.ownsRow_nil w base _ 7
theorem OwnD.alloc {base : Nat} {w : World} {v : Value} {l : List Pie} (h : OwnD base w v l) (o : Obj) : OwnD base (w.alloc o) v l := World.ownsRow.alloc h o
theorem OwnD.below {base : Nat} {w w' : World} {v : Value} {l : List Pie} (h : OwnD base w v l) (hb : Below w.heap.size w w') : OwnD base w' v l := by
  refine ⟨h.1, ?_⟩
  rcases h.2 with h0 | ⟨g, cap, cur, h1, h2, h3, h4⟩
  · exact .inl h0
  · exact .inr ⟨g, cap, cur, h1, h2, (hb.block g (lt_heap h3)).trans h3, h4⟩
theorem OwnD.at {base : Nat} {w : World} {v : Value} {l : List Pie} (h : OwnD base w v l) : SL w v l := by
  rcases h.2 with ⟨rfl, h0⟩ | ⟨g, cap, cur, rfl, hb, hg, hn, hm, hs, ht⟩
  · obtain rfl : l = [] := List.eq_nil_of_length_eq_zero h0
    exact SL.nil _
  · refine ⟨_, cap, rfl, fun h0 => ⟨g, 0, rfl, lt_heap hg, fun i hi j v hv => ?_⟩, by unfold maxLen at hm; omega⟩
    have hj : j < 7 := by
      have := (List.getElem?_eq_some_iff.1 hv).1
      rwa [pie_len] at this
    have c0 := cellsL_get l i hi j hj
    rw [← ht, List.getElem?_take_of_lt (by omega), Array.getElem?_toList] at c0
    rw [Nat.zero_add, cell_of_row w g (i * 7 + j) cur _ _ hg, c0, hv]
theorem infoD : (Tryz.prog.info? 48).map (fun i => (i.zero, i.size, i.bytes)) = some (some (.agg #[.int .u64 0, .int .u64 0, .int .i64 0, .bool false, .int .i64 0, .float .f64 0, .string ⟨#[]⟩]), 7, 64) := by kernel_rfl
theorem wpList_appD {ops : Array Oper} {rest : List Oper} {o : Oper} {a : Act} {w : World} {Q : Exit → Act → World → Prop} (hgd : o.guard = none) (s x : Operand)
    (ho : o.op = .call { callee := .builtin .append, args := #[s, x], argTypes := #[22, 22] })
    (base : Nat) (v : Value) (L : List Pie) (hs : a.eval s = v) (hown : OwnD base w v L) (g : Nat) (p : Pie) (hx : a.eval x = .slice (some ⟨g, 0, none⟩) 1 1)
    (hp : ∀ j u, (Pie.cells p).toList[j]? = some u → w.cell? ⟨g, j, none⟩ = some u) (hlen : L.length ≤ 1000000000000) (hbase : base ≤ w.heap.size)
    (h : ∀ v' w', OwnD base w' v' (L ++ [p]) → Below base w w' → wpList Tryz.prog ops Q rest (a.put o.dst v') w') :
    wpList Tryz.prog ops Q (o :: rest) a w := by
  obtain ⟨i0, hi, hz0, hz1, hz2⟩ := info_parts infoD
  refine wpList_append_own_at _ hgd s x 22 ho base 48 i0 _ 7 64 Tryz.underlying22 hi hz0 hz1 hz2 rfl (by omega) v _ _ hs hown ⟨g, 0, none⟩ 1 1 (Pie.cells p).toList hx rfl ?_ ?_ (by unfold maxLen; omega) (by omega) hbase ?_
  · intro j u hj
    rw [add_off, Nat.zero_add]
    exact hp j u hj
  · intro u hu
    simp at hu
    rcases hu with rfl | rfl | rfl | rfl | rfl | rfl | rfl <;> rfl
  · intro v' w' h1 h2 h3 _
    refine h v' w' ?_ ((Below.refl _ _).grown h2 hbase fun k hk => (World.ownsRow.lt hown k hk).1)
    unfold OwnD
    rw [cellsL_append, cellsL_one, List.length_append]
    exact h1
/-- The value of a whole number. -/
def numV (n : Int) : VP := ⟨2, false, n, 0, ByteArray.empty⟩
theorem numV_may (n : Int) : (numV n).may := by unfold VP.may MayV numV; simp
section
set_option maxRecDepth 100000
set_option maxHeartbeats 8000000
theorem Number_any (n : Int) (w : World) : Calls Tryz.prog 84 #[.int .i64 n] w fun e w' => e = .returned (numV n).val ∧ Below w.heap.size w w' := by
  have hsf := store_float
  go_enter Tryz.func84, Tryz.ntmps84
  go_wp2
  go_returns
  exact ⟨rfl, by go_grown⟩
theorem theirs_any (v : Value) (l : List Pie) (w : World) (h : SL w v l) (hl : l.length ≤ 1000000000) :
    Calls Tryz.prog 16 #[v] w fun e w' => ∃ u, e = .returned u ∧ OwnD w.heap.size w' u l ∧ Below w.heap.size w w' := by
  obtain ⟨A, c, rfl, hA, hm⟩ := h
  have HA := Lib.hid hA
  clear hA
  have hsf := store_float
  go_enter Tryz.func16, Tryz.ntmps16
  go_wp2
  go_loopw [3, 4] (fun u i wr => ∃ k : Nat, k ≤ l.length ∧ i = .int .i64 k ∧ OwnD w.heap.size wr u (l.take k) ∧ Below w.heap.size w wr) (fun _ i _ => l.length - (intOf i).toNat)
  case atStart => exact ⟨0, Nat.zero_le _, rfl, OwnD.nil _ _, Below.refl _ _⟩
  case round =>
    obtain ⟨k, hk, rfl, ho, hb⟩ := hrel
    have HO := Lib.hid ho
    have HB := Lib.hid hb
    clear ho hb
    by_cases hlt : k < l.length
    · obtain ⟨g, off, rfl, lg, cg⟩ := (HA.out.below HB.out) (by omega)
      have r := cg k hlt
      have i0 : (k : Int) < (l.length : Int) := by omega
      have i1 : (0 : Int) ≤ (k : Int) := by omega
      have HT := Lib.hid (show l.take (k + 1) = l.take k ++ [l[k]] from List.take_succ_eq_append_getElem hlt)
      have HLN := Lib.hid (show (l.take k).length ≤ 1000000000000 by rw [List.length_take]; omega)
      have hsz := HB.out.size
      clear cg
      generalize l[k] = x at *
      generalize l.take k = M at *
      obtain ⟨a, b, ⟨kk, vb, n, f, s⟩⟩ := x
      go_wp2_with (first
        | refine wpList_load_mid rfl 43 (.tmp 14) rfl g (off + k * 7) rfl _ _ r Tryz.underlying43 rfl rowL ?_
        | (at_builtin; refine wpList_appD rfl (.tmp 11) (.tmp 16) rfl w.heap.size _ M rfl (HO.out.alloc _) wr.heap.size ⟨a, b, ⟨kk, vb, n, f, s⟩⟩ rfl (new_cells wr _ _) HLN.out (by simp; omega) ?_; intro v2 w2 ho2 hb2; have HO3 := Lib.hid ho2; have HB4 := Lib.hid ((HB.out.alloc hsz (.cells (Pie.cells ⟨a, b, ⟨kk, vb, n, f, s⟩⟩) 48)).trans hb2); clear ho2 hb2))
      exact ⟨⟨k + 1, by omega, by go_num, by rw [HT.out]; exact HO3.out, HB4.out⟩, by simp [intOf]; omega⟩
    · obtain rfl : k = l.length := by omega
      rw [List.take_length] at HO
      go_wp2
      go_ret
      exact ⟨_, rfl, HO.out, HB.out⟩
/-- Whether two lists of pieces are the same, as the document asks it. -/
theorem refPSame_any (va vb : Value) (l m : List Pie) (w : World) (ha : SL w va l) (hb : SL w vb m) (hl : ∀ x ∈ l, x.v.wide ∧ x.v.may) (hm : ∀ x ∈ m, x.v.wide ∧ x.v.may) :
    Calls Tryz.prog 15 #[va, vb] w (Says (l = m) w) := by
  obtain ⟨A, c, rfl, hA, hla⟩ := ha
  obtain ⟨B, d, rfl, hB, hlb⟩ := hb
  have HA := Lib.hid hA
  have HB := Lib.hid hB
  have HL := Lib.hid hl
  have HM := Lib.hid hm
  have hsf := store_float
  clear hA hB hl hm
  by_cases hne : l.length = m.length
  case neg =>
    have HN : Hid (¬ l = m) := Lib.hid fun e => hne (by rw [e])
    have hne' : ((l.length : Int) != (m.length : Int)) = true := by simp; omega
    clear hne
    go_enter Tryz.func15, Tryz.ntmps15
    go_wp2
    go_ret
    exact ⟨false, rfl, by simp [HN.out], Below.refl _ _⟩
  have HE := Lib.hid hne
  have hne' : ((l.length : Int) != (m.length : Int)) = false := by simp [hne]
  clear hne
  go_enter Tryz.func15, Tryz.ntmps15
  go_wp2
  clear hne'
  go_loopw [5] (fun i wr => ∃ k : Nat, k ≤ l.length ∧ i = .int .i64 k ∧ (∀ j (h : j < l.length) (g : j < m.length), j < k → l[j] = m[j]) ∧ Below w.heap.size w wr) (fun i _ => l.length - (intOf i).toNat)
  case atStart => exact ⟨0, Nat.zero_le _, rfl, fun j _ _ h => absurd h (Nat.not_lt_zero j), Below.refl _ _⟩
  case round =>
    obtain ⟨i, hi, rfl, hp, hbl⟩ := hrel
    have HP := Lib.hid hp
    have HBl := Lib.hid hbl
    clear hp hbl
    by_cases hlt : i < l.length
    · have hlt2 : i < m.length := by have := HE.out; omega
      obtain ⟨g, off, rfl, lg, cg⟩ := (HA.out.below HBl.out) (by omega)
      obtain ⟨q, oq, rfl, lq, cq⟩ := (HB.out.below HBl.out) (by omega)
      have r := cg i hlt
      have r2 := cq i hlt2
      obtain ⟨w1, v1⟩ := HL.out l[i] (List.getElem_mem hlt)
      obtain ⟨w2, v2⟩ := HM.out m[i] (List.getElem_mem hlt2)
      have CS := Lib.hid (fun W => refSame_any l[i].v m[i].v v1 v2 w1 w2 W)
      have HK : Hid (l[i] = m[i] → ∀ j (h : j < l.length) (g : j < m.length), j < i + 1 → l[j] = m[j]) := Lib.hid fun h j h1 g1 h2 => if e : j = i then (by subst e; exact h) else HP.out j h1 g1 (by omega)
      have HN : Hid (¬ l[i] = m[i] → ¬ l = m) := Lib.hid fun h e => h (by subst e; rfl)
      generalize l[i] = x at *
      generalize m[i] = y at *
      have i0 : (i : Int) < (l.length : Int) := by omega
      have i3 : (i : Int) < (m.length : Int) := by omega
      have i1 : (0 : Int) ≤ (i : Int) := by omega
      clear w1 w2 v1 v2 cg cq HA HB HL HM HP
      obtain ⟨a, b, ⟨k, vb, n, f, s⟩⟩ := x
      obtain ⟨a', b', ⟨k', vb', n', f', s'⟩⟩ := y
      simp only at CS
      have K0 : Hid (∀ w', Below wr.heap.size wr w' → w'.cell? ⟨g, off + i * 7, none⟩ = some (.int .u64 a) ∧ w'.cell? ⟨g, off + i * 7 + 1, none⟩ = some (.int .u64 b) ∧ w'.cell? ⟨g, off + i * 7 + 2, none⟩ = some (.int .i64 k) ∧ w'.cell? ⟨g, off + i * 7 + 3, none⟩ = some (.bool vb) ∧ w'.cell? ⟨g, off + i * 7 + 4, none⟩ = some (.int .i64 n) ∧ w'.cell? ⟨g, off + i * 7 + 5, none⟩ = some (.float .f64 f) ∧ w'.cell? ⟨g, off + i * 7 + 6, none⟩ = some (.string s) ∧ w'.cell? ⟨q, oq + i * 7, none⟩ = some (.int .u64 a') ∧ w'.cell? ⟨q, oq + i * 7 + 1, none⟩ = some (.int .u64 b') ∧ w'.cell? ⟨q, oq + i * 7 + 2, none⟩ = some (.int .i64 k') ∧ w'.cell? ⟨q, oq + i * 7 + 3, none⟩ = some (.bool vb') ∧ w'.cell? ⟨q, oq + i * 7 + 4, none⟩ = some (.int .i64 n') ∧ w'.cell? ⟨q, oq + i * 7 + 5, none⟩ = some (.float .f64 f') ∧ w'.cell? ⟨q, oq + i * 7 + 6, none⟩ = some (.string s')) := Lib.hid fun w' hb => by
        have on : ∀ j v, (Pie.cells ⟨a, b, ⟨k, vb, n, f, s⟩⟩).toList[j]? = some v → w'.cell? ⟨g, off + i * 7 + j, none⟩ = some v := fun j v hv => (hb.cell (p := ⟨g, off + i * 7 + j, none⟩) lg).trans (r j v hv)
        have on2 : ∀ j v, (Pie.cells ⟨a', b', ⟨k', vb', n', f', s'⟩⟩).toList[j]? = some v → w'.cell? ⟨q, oq + i * 7 + j, none⟩ = some v := fun j v hv => (hb.cell (p := ⟨q, oq + i * 7 + j, none⟩) lq).trans (r2 j v hv)
        exact ⟨on 0 _ rfl, on 1 _ rfl, on 2 _ rfl, on 3 _ rfl, on 4 _ rfl, on 5 _ rfl, on 6 _ rfl, on2 0 _ rfl, on2 1 _ rfl, on2 2 _ rfl, on2 3 _ rfl, on2 4 _ rfl, on2 5 _ rfl, on2 6 _ rfl⟩
      clear r r2
      have kk := K0.out wr (Below.refl _ _)
      by_cases hab : a = a' ∧ b = b'
      · obtain ⟨rfl, rfl⟩ := hab
        clear kk
        go_upto_region 6 with fail
        go_region_held3 (fun w' => w'.cell? ⟨g, off + i * 7, none⟩ = some (.int .u64 a) ∧ w'.cell? ⟨g, off + i * 7 + 1, none⟩ = some (.int .u64 b) ∧ w'.cell? ⟨g, off + i * 7 + 2, none⟩ = some (.int .i64 k) ∧ w'.cell? ⟨g, off + i * 7 + 3, none⟩ = some (.bool vb) ∧ w'.cell? ⟨g, off + i * 7 + 4, none⟩ = some (.int .i64 n) ∧ w'.cell? ⟨g, off + i * 7 + 5, none⟩ = some (.float .f64 f) ∧ w'.cell? ⟨g, off + i * 7 + 6, none⟩ = some (.string s) ∧ w'.cell? ⟨q, oq + i * 7, none⟩ = some (.int .u64 a) ∧ w'.cell? ⟨q, oq + i * 7 + 1, none⟩ = some (.int .u64 b) ∧ w'.cell? ⟨q, oq + i * 7 + 2, none⟩ = some (.int .i64 k') ∧ w'.cell? ⟨q, oq + i * 7 + 3, none⟩ = some (.bool vb') ∧ w'.cell? ⟨q, oq + i * 7 + 4, none⟩ = some (.int .i64 n') ∧ w'.cell? ⟨q, oq + i * 7 + 5, none⟩ = some (.float .f64 f') ∧ w'.cell? ⟨q, oq + i * 7 + 6, none⟩ = some (.string s')) (first
            | exact K0.out _ (Below.refl _ _).drew
            | exact K0.out _ HU1.out
            | fail) (first
          | (go_at_call 70; (with_reducible refine (CS.out _).mono ?_); rintro e1 w4 ⟨c4, rfl, hc4, b4⟩; have HC4 := Lib.hid hc4; have HU1 := Lib.hid (show Below wr.heap.size wr w4 from (Below.refl _ _).drew.trans b4); clear b4 hc4)
          | fail)
        all_goals (
          have B4 := Lib.hid (HBl.out.trans (HU1.out.mono HBl.out.size))
          cases c4
          · go_wp2
            go_ret
            exact ⟨false, rfl, by have := HN.out (fun h => by have h' := HC4.out.2 (by injection h); simp at h'); simp [this], B4.out⟩
          · have HK2 := Lib.hid (HK.out (by rw [HC4.out.1 (by simp)]))
            clear HK HN
            go_wp2
            exact ⟨⟨i + 1, by omega, by go_num, HK2.out, B4.out⟩, by simp [intOf]; omega⟩)
      · have HN2 := Lib.hid (HN.out (fun h => hab (by injection h with h1 h2; exact ⟨h1, h2⟩)))
        clear HK HN
        by_cases ha : a = a'
        · have t0 : (b == b') = false := by simp; exact fun h => hab ⟨ha, h⟩
          subst ha
          clear hab
          go_upto_region 6 with fail
          go_quiet (fail)
          go_wp2
          go_ret
          exact ⟨false, rfl, by simp [HN2.out], bel_drewN _ HBl.out⟩
        · have t0 : (a == a') = false := by simpa using ha
          clear hab ha
          go_upto_region 6 with fail
          go_quiet (fail)
          go_wp2
          go_ret
          exact ⟨false, rfl, by simp [HN2.out], bel_drewN _ HBl.out⟩
    · have HT : Hid (l = m) := Lib.hid (List.ext_getElem HE.out fun j h1 h2 => HP.out j h1 h2 (by omega))
      clear HP
      go_wp2
      go_ret
      exact ⟨true, rfl, by simp [HT.out], HBl.out⟩
end
end Go.Proofs.YtgmaompjhhomcaaGreat

