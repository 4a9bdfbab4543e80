/- What the call owns, appended to; the document's own answers of layer 3: Own, digits, Num, Int. -/
import Derived.Test.YthkmljegjgahgaaB14
namespace Go.Proofs.Ythkmljegjgahgaa
open Go.RowKit
theorem At.none_nil {w : World} {l : List UInt8} (h : At w none l) : l = [] := by
  rcases Nat.eq_zero_or_pos l.length with e | e
  · exact List.eq_nil_of_length_eq_zero e
  · obtain ⟨b, off, h, _⟩ := h e; cases h
/-- A slice that the call owns holds these bytes. -/
def Own1 (base : Nat) (w : World) (v : Value) (l : List UInt8) : Prop := w.ownsRow base 5 1 v l.length (cellsB l)
theorem Own1.nil (base : Nat) (w : World) : Own1 base w (.slice none 0 0) [] := World.ownsRow_nil _ _ _ _
theorem Own1.alloc {base : Nat} {w : World} {v : Value} {l : List UInt8} (h : Own1 base w v l) (o : Obj) : Own1 base (w.alloc o) v l := World.ownsRow.alloc h o
theorem Own1.at {base : Nat} {w : World} {v : Value} {l : List UInt8} (h : Own1 base w v l) : ∃ A c, v = .slice A l.length c ∧ (A = none → c = 0) ∧ l.length ≤ c ∧ At w A l := by
  have h' := h
  rcases h'.2 with ⟨rfl, h0⟩ | ⟨g, cap, cur, rfl, _, _, h1, h2, _⟩
  · exact ⟨none, 0, by rw [h0], fun _ => rfl, by omega, fun e => absurd e (by omega)⟩
  · exact ⟨_, _, rfl, (fun e => by cases e), by omega, own_at h⟩
theorem Own1.below {base : Nat} {w w' : World} {v : Value} {l : List UInt8} (h : Own1 base w v l) (hb : Below w.heap.size w w') : Own1 base w' v l := by
  have hg : w.grownBy w' none := ⟨hb.os, hb.tape, hb.output, hb.size, fun k hk _ => hb.block k hk⟩
  refine World.ownsRow.kept h hg ?_
  cases hv : v.ownBlock with
  | none => exact .inl rfl
  | some k => exact .inr (by simp)
/-- append onto what the call owns, whatever is appended. -/
theorem run_app (base : Nat) (w : World) (v : Value) (l : List UInt8) (A : Option Addr) (c : Nat) (news : List UInt8) (ty : TypeId) (h : Own1 base w v l) (hA : At w A news) (hz : A = none → c = 0)
    (hm : l.length + news.length ≤ 140737488355328) (hb : base ≤ w.heap.size) :
    ∃ v' w', (Builtin.append_ #[22, 22] ty #[v, .slice A news.length c]).run Try.prog w = .ok v' w' ∧ Own1 base w' v' (l ++ news) ∧ w.grownBy w' v.ownBlock ∧ (v'.ownBlock = v.ownBlock ∨ v'.ownBlock = some w.heap.size) := by
  obtain ⟨i0, hi, hz0, hz1, hz2⟩ := info_parts info8
  cases A with
  | none =>
    obtain rfl := hA.none_nil
    obtain rfl := hz rfl
    refine ⟨v, w, run_append_owned_none (P := Try.prog) w base 22 ty 5 i0 1 Try.underlying22 hi v _ _ h, by simpa using h, World.grownBy.refl _ _, .inl rfl⟩
  | some ad =>
    obtain ⟨v', w', h1, h2, h3, _, h5⟩ := run_append_own_at (P := Try.prog) w base 22 ty 5 i0 _ 1 1 Try.underlying22 hi hz0 hz1 hz2 rfl (by omega) v _ _ h ad news.length c (cellsB news) (by rw [cellsB_length]; omega) hA.cells (cellsB_one news)
      (by unfold maxLen; omega) (by omega) hb
    exact ⟨v', w', h1, by rw [Own1, cellsB_append, List.length_append]; exact h2, h3, h5⟩
theorem below_app {base : Nat} {ws w w' : World} {v : Value} {l : List UInt8} (h : Own1 base w v l) (hB : Below base ws w) (hs : base ≤ w.heap.size) (hg : w.grownBy w' v.ownBlock) : Below base ws w' :=
  hB.grown hg hs fun k hk => (World.ownsRow.lt h k hk).1
theorem below_none {w w' : World} (hg : w.grownBy w' (Value.slice none 0 0).ownBlock) : Below w.heap.size w w' := (Below.refl _ _).grown hg (Nat.le_refl _) (fun k hk => by cases hk)
/-- The same as a step of a walk. -/
theorem wpList_app (w : World) {ops : Array Oper} {rest : List Oper} {o : Oper} {a : Act} {Q : Exit → Act → World → Prop} (hg : o.guard = none) (s x : Operand) (ho : o.op = .call { callee := .builtin .append, args := #[s, x], argTypes := #[22, 22] })
    (base : Nat) (v : Value) (l : List UInt8) (hs : a.eval s = v) (h : Own1 base w v l) (A : Option Addr) (n c : Nat) (news : List UInt8) (hx : a.eval x = .slice A n c) (hA : At w A news) (hz : A = none → c = 0) (hn : news.length = n)
    (hm : l.length + news.length ≤ 140737488355328) (hb : base ≤ w.heap.size) (ws : World) (hB : Below base ws w)
    (hK : ∀ v' w', Own1 base w' v' (l ++ news) → Below base ws w' → w.grownBy w' v.ownBlock → (v'.ownBlock = v.ownBlock ∨ v'.ownBlock = some w.heap.size) → wpList Try.prog ops Q rest (a.put o.dst v') w') : wpList Try.prog ops Q (o :: rest) a w := by
  subst hn
  refine wpList_plain hg fun K hK' => ?_
  obtain ⟨v', w', h1, h2, h3, h4⟩ := run_app base w v l A c news o.type h hA hz hm hb
  unfold Oper.wp execOp
  simp only [ho, resolve, invoke, builtin, Sem.run_bind, Sem.run_pure, Result.andThen_ok, List.map_toArray, List.map_cons, List.map_nil, hs, hx, h1]
  exact hK' _ _ (hK v' w' h2 (below_app h hB hb h3) h3 h4)
theorem at_one (w : World) (x : Int) (c : UInt8) (h : x = (c.toNat : Int)) : At (w.alloc (.cells #[.int .u8 x] 5)) (some ⟨w.heap.size, 0, none⟩) [c] := by
  subst h
  intro _
  refine ⟨w.heap.size, 0, rfl, by simp, fun i hi => ?_⟩
  rw [cell_of_row _ _ _ _ _ _ (heap_alloc_new w _)]
  obtain rfl : i = 0 := by simpa using hi
  rfl
theorem below_alloc {B : Nat} {ws w : World} (h : Below B ws w) (hB : B ≤ w.heap.size) (o : Obj) : Below B ws (w.alloc o) := h.alloc hB o
set_option maxRecDepth 100000 in
set_option maxHeartbeats 1000000 in
theorem refOwn_any (A : Option Addr) (l : List UInt8) (cap : Nat) (w : World) (hA : At w A l) (hz : A = none → cap = 0) (hm : l.length ≤ 140737488355328) :
    Calls Try.prog 5 #[.slice A l.length cap] w fun e w' => ∃ v, e = .returned v ∧ Own1 w.heap.size w' v l ∧ Below w.heap.size w w' := by
  have HA := Lib.hid hA
  have HZ := Lib.hid hz
  clear hA hz
  go_enter Try.func5, Try.ntmps5
  go_wp2_with (at_builtin; refine wpList_app _ rfl (.tmp 4) (.tmp 5) rfl w.heap.size (.slice none 0 0) [] rfl (Own1.nil _ _) A l.length cap l rfl HA.out HZ.out rfl (by simp; omega) (Nat.le_refl _) w (Below.refl _ _) ?_; intro v1 w1 ho1 hb1 _ _)
  go_ret
  exact ⟨v1, rfl, ho1, hb1⟩
theorem digs_front (n j : Nat) : [UInt8.ofNat (n / 256 ^ j)] ++ digs n j = digs n (j + 1) := rfl
theorem pow_div (n j : Nat) : n / 256 ^ j / 256 = n / 256 ^ (j + 1) := by rw [Nat.div_div_eq_div_mul, Nat.pow_succ]
set_option maxRecDepth 100000 in
set_option maxHeartbeats 2000000 in
theorem refdigits_any (n : Nat) (w : World) (hn : n < 2 ^ 64) :
    Calls Try.prog 39 #[.int .u64 n] w fun e w' => ∃ v, e = .returned v ∧ Own1 w.heap.size w' v (digs n (nlen n)) ∧ Below w.heap.size w w' := by
  have HN := Lib.hid hn
  go_enter Try.func39, Try.ntmps39
  go_wp2
  go_loopw [0, 3] (fun r v wr => ∃ j : Nat, j ≤ 8 ∧ r = .int .u64 ((n / 256 ^ j : Nat) : Int) ∧ (0 < j → 256 ^ (j - 1) ≤ n) ∧ Own1 w.heap.size wr v (digs n j) ∧ Below w.heap.size w wr) (fun r _ _ => (intOf r).toNat)
  case atStart => exact ⟨0, Nat.zero_le _, by simp, fun h => absurd h (Nat.lt_irrefl 0), Own1.nil _ _, Below.refl _ _⟩
  case round =>
    obtain ⟨j, hj, rfl, h1, hown, hbel⟩ := hrel
    by_cases h0 : 0 < n / 256 ^ j
    · have hj8 : j < 8 := by
        rcases Nat.lt_or_ge j 8 with h | h
        · exact h
        · obtain rfl : j = 8 := by omega
          rw [Nat.div_eq_of_lt (show n < 256 ^ 8 from HN.out)] at h0
          omega
      have hle : 256 ^ j ≤ n := by
        rcases Nat.lt_or_ge n (256 ^ j) with h | h
        · rw [Nat.div_eq_of_lt h] at h0; omega
        · exact h
      have HL := Lib.hid hle
      have HD := Lib.hid (pow_div n j)
      have HF := Lib.hid (digs_front n j)
      have hlen : Hid ((digs n j).length = j) := digs_length n j
      have hlt := Nat.div_le_self n (256 ^ j)
      obtain ⟨D, cD, rfl, zD, lD, hD⟩ := hown.at
      have O0 := Lib.hid hown
      have B0 := Lib.hid hbel
      have HAD := Lib.hid hD
      have HZD := Lib.hid zD
      have s0 := hbel.size
      clear hown hbel hD zD hn h1 hle
      generalize n / 256 ^ j = m at *
      have i1 : (0 : Int) < (m : Int) := by omega
      have i2 : (m : Int) ≤ 18446744073709551615 := by have := HN.out; omega
      go_wp2_with (first
        | (at_builtin; refine wpList_app _ rfl (.tmp 7) (.tmp 11) rfl w.heap.size (.slice none 0 0) [] rfl (Own1.nil _ _) _ 1 1 [UInt8.ofNat m] rfl (at_one _ _ _ (by rw [byte_ofNat]; omega)) (fun h => by cases h) rfl (by simp) (by simp; omega) w (below_alloc B0.out s0 _) ?_; intro v1 w1 ho1 hb1 hg1 _; have O1 : Hid (Own1 w.heap.size w1 v1 [UInt8.ofNat m]) := ho1; have B1 := Lib.hid hb1; have A1 := Lib.hid ((HAD.out.below ((Below.refl _ _).alloc (Nat.le_refl _) _)).below (below_none hg1)); clear ho1 hb1 hg1)
        | (at_builtin; refine wpList_app _ rfl (.tmp 13) (.tmp 14) rfl w.heap.size v1 [UInt8.ofNat m] rfl O1.out D _ cD (digs n j) rfl A1.out HZD.out rfl (by rw [hlen.out]; simp; omega) B1.out.size w B1.out ?_; intro v2 w2 ho2 hb2 _ _))
      refine ⟨⟨j + 1, by omega, ?_, fun _ => HL.out, by rw [← HF.out]; exact ho2, hb2⟩, ?_⟩
      · rw [← HD.out]
        go_num
      · simp [intOf]
        omega
    · have e : nlen n = j := nlen_eq n j HN.out (by
        rcases Nat.lt_or_ge n (256 ^ j) with h | h
        · exact h
        · have := Nat.div_pos h (Nat.pow_pos (by omega)); omega) h1
      have i0 : n / 256 ^ j = 0 := Nat.eq_zero_of_not_pos h0
      rw [i0]
      have O0 := Lib.hid hown
      have B0 := Lib.hid hbel
      clear hown hbel h1 h0 i0 hn
      go_wp2
      go_ret
      exact ⟨_, rfl, by rw [e]; exact O0.out, B0.out⟩
end Go.Proofs.Ythkmljegjgahgaa
