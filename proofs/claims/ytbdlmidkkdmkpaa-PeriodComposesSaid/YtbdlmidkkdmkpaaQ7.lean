/- The document's Compose. -/
import Derived.Test.YtbdlmidkkdmkpaaQ6
namespace Go.Proofs.Ytbdlmidkkdmkpaa
open Go.RowKit
/-- append of one whole number onto what the call owns; memory below stays. -/
theorem wpList_appB {ops : Array Oper} {rest : List Oper} {o : Oper} {a : Act} {w : World} {Q : Exit → Act → World → Prop} (hgd : o.guard = none) (s x : Operand)
    (ho : o.op = .call { callee := .builtin .append, args := #[s, x], argTypes := #[44, 44] })
    (base : Nat) (v : Value) (L : List Int) (hs : a.eval s = v) (hown : OwnI base w v L) (g : Nat) (p : Int) (hx : a.eval x = .slice (some ⟨g, 0, none⟩) 1 1)
    (hp : w.cell? ⟨g, 0, none⟩ = some (.int .i64 p)) (hlen : L.length ≤ 1000) (hbase : base ≤ w.heap.size)
    (h : ∀ v' w', OwnI base w' v' (L ++ [p]) → Below base w w' → wpList Try.prog ops Q rest (a.put o.dst v') w') :
    wpList Try.prog ops Q (o :: rest) a w :=
  wpList_appI hgd s x ho base v L hs hown g p hx hp hlen hbase fun v' w' h1 h2 _ =>
    h v' w' h1 ((Below.refl _ _).grown h2 hbase fun k hk => (World.ownsRow.lt hown k hk).1)
/-- Those of the first n that can be composed. -/
def upL (r s n : Nat) : List Int := ((List.range n).map fun (k : Nat) => ((k + 1 : Nat) : Int)).filter fun t => (compL r s).contains t
theorem upL_yes {r s n : Nat} (h : (compL r s).contains ((n + 1 : Nat) : Int) = true) : upL r s (n + 1) = upL r s n ++ [((n + 1 : Nat) : Int)] := by
  simp only [upL, List.range_succ, List.map_append, List.filter_append, List.map_cons, List.map_nil]
  rw [List.filter_cons_of_pos h, List.filter_nil]
theorem upL_no {r s n : Nat} (h : (compL r s).contains ((n + 1 : Nat) : Int) = false) : upL r s (n + 1) = upL r s n := by
  simp only [upL, List.range_succ, List.map_append, List.filter_append, List.map_cons, List.map_nil]
  rw [List.filter_cons_of_neg (by rw [h]; decide), List.filter_nil, List.append_nil]
theorem upL_all (r s : Nat) : upL r s 13 = compL r s := by
  have e : ((List.range 13).map fun (k : Nat) => ((k + 1 : Nat) : Int)) = numsR := by decide
  rw [upL, e]
  show numsR.filter (fun t => (compL r s).contains t) = numsR.filter fun t => (seen1 r s PL).contains t
  refine List.filter_congr fun t _ => ?_
  rw [Bool.eq_iff_iff, List.contains_iff_mem, List.contains_iff_mem, mem_comp]
theorem upL_len (r s n : Nat) (h : n ≤ 13) : (upL r s n).length ≤ 1000 := by
  have := List.length_filter_le (fun t => (compL r s).contains t) ((List.range n).map fun (k : Nat) => ((k + 1 : Nat) : Int))
  rw [List.length_map, List.length_range] at this
  unfold upL
  omega
set_option maxRecDepth 100000 in
set_option maxHeartbeats 4000000 in
theorem refCompose_yes (r s : Nat) (hr1 : 1 ≤ r) (hr2 : r ≤ 13) (hs1 : 1 ≤ s) (hs2 : s ≤ 13) (w : World) :
    Calls Try.prog 26 #[.int .i64 (r : Int), .int .i64 (s : Int)] w fun e w' => ∃ A c, e = .returned (.tuple #[.slice A (compL r s).length c, .int .i64 0]) ∧ AtI w' A (compL r s) ∧ Below w.heap.size w w' := by
  have CO := Lib.hid Composed_any
  have HM := Lib.hid (fun t h5 h6 => marked r s t hr1 hr2 hs1 hs2 h5 h6)
  have v1 : (1 : Int) ≤ (r : Int) := by omega
  have v2 : (r : Int) ≤ 13 := by omega
  have v3 : (1 : Int) ≤ (s : Int) := by omega
  have v4 : (s : Int) ≤ 13 := by omega
  go_enter Try.func26, Try.ntmps26
  go_wp2_with fail
  refine (CO.out _).mono ?_
  rintro e w1 ⟨C, rfl, hn, hget, hb⟩
  have thr : (w1.alloc (.cells Try.zeroCells70 70)).there w1.heap.size 0 C.size := fun j hj => by
    have T := Tab.new w1 _ rfl
    rw [Nat.zero_add]
    exact ⟨by rw [World.rowIs.cell T (by omega)]; rfl, World.rowIs.frozen T j⟩
  have hbool : ∀ v ∈ C.toList, v.oneCell' = true := fun v hv => by
    obtain ⟨j, hj, e⟩ := List.getElem_of_mem hv
    have hj2 : j < C.size := by simpa using hj
    have e2 := hget j (by omega)
    rw [Array.getElem?_eq_getElem hj2] at e2
    injection e2 with e2
    rw [← e, Array.getElem_toList, e2]
    rfl
  have hall : C.all (·.oneCell') = true := Array.all_eq_true_iff_forall_mem.2 (fun v hv => hbool v (by simpa using hv))
  have hinf : (Try.prog.info? 70).map (·.size) = some C.size := by rw [hn]; exact sizeA
  have hback := World.rangeAt_setCells_same (w1.alloc (.cells Try.zeroCells70 70)) w1.heap.size 0 C.toList (by simpa using thr)
  obtain ⟨w2, hw2⟩ : ∃ w2, (w1.alloc (.cells Try.zeroCells70 70)).setCells w1.heap.size 0 C.toList = w2 := ⟨_, rfl⟩
  have hs1' : w.heap.size ≤ w1.heap.size := hb.size
  have B2 : Hid (Below w.heap.size w w2) := Lib.hid (by rw [← hw2]; exact bel_setCells _ hs1' _ _ _ (hb.alloc hs1' _))
  have Q2 : Hid (∀ o, o < 2744 → w2.cell? ⟨w1.heap.size, o, none⟩ = some (.bool ((codes1 RL).contains o))) := Lib.hid fun o ho => by
    have := hback o _ (by rw [Array.getElem?_toList]; exact hget o ho)
    rw [Nat.zero_add, hw2] at this
    exact this
  have hlt2 : w1.heap.size < w2.heap.size := by
    have := (bel_setCells (B := w1.heap.size) w1.heap.size (Nat.le_refl _) C.toList 0 _ (Below.refl w1.heap.size (w1.alloc (.cells Try.zeroCells70 70)))).size
    rw [hw2] at this
    simp at this
    omega
  have hs2 : w.heap.size ≤ w2.heap.size := by omega
  go_upto_region 4 with (refine wpList_store_mid rfl 70 (.tmp 6) (.tmp 23) rfl w1.heap.size 0 C rfl rfl thr hinf hall ?_)
  try rw [hw2]
  clear hw2 hback hinf hall hbool thr hget hb hn
  obtain ⟨g, hg⟩ : ∃ g, w1.heap.size = g := ⟨_, rfl⟩
  rw [hg] at Q2 hlt2 ⊢
  clear hg hs1'
  go_wp2
  go_loopw [7, 8] (fun v x wr => ∃ n : Nat, n ≤ 13 ∧ x = .int .i64 ((n + 1 : Nat) : Int) ∧ OwnI w2.heap.size wr v (upL r s n) ∧ Below w2.heap.size w2 wr) (fun _ x _ => 14 - (intOf x).toNat)
  case atStart => exact ⟨0, by omega, rfl, OwnI.nil _ _, Below.refl _ _⟩
  case round =>
    obtain ⟨n, hn, rfl, ho, hb⟩ := hrel
    have HO := Lib.hid ho
    have HB := Lib.hid hb
    clear ho hb
    by_cases hlt : n < 13
    · obtain ⟨t, ht⟩ : ∃ t, n + 1 = t := ⟨_, rfl⟩
      have hc := Q2.out (r * 196 + s * 14 + t) (by omega)
      rw [HM.out t (by omega) (by omega), ← HB.out.cell (p := ⟨g, r * 196 + s * 14 + t, none⟩) hlt2] at hc
      have hsz := HB.out.size
      have hyes := upL_yes (r := r) (s := s) (n := n)
      have hno := upL_no (r := r) (s := s) (n := n)
      rw [ht] at hyes hno ⊢
      have HY := Lib.hid hyes
      have HN := Lib.hid hno
      have t1 : (t : Int) < 14 := by omega
      have t2 : (0 : Int) ≤ (t : Int) := by omega
      have v5 : (r : Int) < 14 := by omega
      have v6 : (s : Int) < 14 := by omega
      have v7 : (0 : Int) ≤ (r : Int) := by omega
      have v8 : (0 : Int) ≤ (s : Int) := by omega
      clear hyes hno
      generalize (compL r s).contains (t : Int) = yes at *
      cases yes
      · have HX := HN.out rfl
        clear HN HY
        go_wp2
        exact ⟨⟨n + 1, by omega, by rw [ht]; go_num, by rw [ht, HX]; exact HO.out, HB.out⟩, by simp [intOf]; omega⟩
      · have HX := Lib.hid (HY.out rfl)
        clear HN HY
        go_wp2_with (at_builtin; refine wpList_appB rfl (.tmp 35) (.tmp 37) rfl w2.heap.size _ (upL r s n) rfl (HO.out.alloc _) wr.heap.size (t : Int) rfl (by go_simp) (upL_len r s n hn) (by simp; omega) ?_; intro v' w3 ho3 hb3; rw [← HX.out] at ho3; have HO3 := Lib.hid ho3; have HB3 := Lib.hid ((HB.out.alloc hsz (.cells #[.int .i64 (t : Int)] 3)).trans hb3); clear ho3 hb3)
        exact ⟨⟨n + 1, by omega, by rw [ht]; go_num, by rw [ht]; exact HO3.out, HB3.out⟩, by simp [intOf]; omega⟩
    · obtain rfl : n = 13 := by omega
      rw [upL_all] at HO
      obtain ⟨A, cp, rfl, hA⟩ := HO.out.at
      clear HM
      go_wp2
      go_ret2
      exact ⟨A, cp, rfl, hA, B2.out.trans (HB.out.mono hs2)⟩
end Go.Proofs.Ytbdlmidkkdmkpaa
