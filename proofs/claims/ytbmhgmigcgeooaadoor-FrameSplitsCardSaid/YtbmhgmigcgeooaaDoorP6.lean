/- The document's own answers of layer 4, bit by bit: In, More, Sum, Mark, Strip. -/
import Derived.Test.YtbmhgmigcgeooaaDoorP4
namespace Go.Proofs.YtbmhgmigcgeooaaDoor
open Go.RowKit
theorem fell_yes (y : BitVec 32) (h : 2147483648 ≤ y.toNat) : bits .xor .u32 ((y.toNat : Int) * 2 % 4294967296) 79764919 = ((sh1 y).toNat : Int) := by
  have e : y.msb = true := by rw [BitVec.msb_eq_decide]; simpa using h
  have e2 := ushl y 1
  rw [IntKind.wrap_u32', show (2 : Int) ^ 1 = 2 from rfl] at e2
  rw [e2, show (79764919 : Int) = ((poly.toNat : Nat) : Int) from rfl, bx]
  unfold sh1
  rw [e]
  rfl
theorem fell_no (y : BitVec 32) (h : ¬ 2147483648 ≤ y.toNat) : (y.toNat : Int) * 2 = ((sh1 y).toNat : Int) := by
  have e : y.msb = false := by rw [BitVec.msb_eq_decide]; simpa using h
  have e2 := ushl y 1
  rw [IntKind.wrap_u32', show (2 : Int) ^ 1 = 2 from rfl] at e2
  rw [sh1_low e, ← e2]
  omega
theorem shn_last (n : Nat) (x : BitVec 32) : shn (n + 1) x = sh1 (shn n x) := shn_add 1 n x
set_option maxRecDepth 100000 in
set_option maxHeartbeats 1000000 in
theorem In_any (x : BitVec 32) (c : UInt8) (w : World) : Calls Tryd.prog 40 #[.int .u32 (x.toNat : Int), .int .u8 (c.toNat : Int)] w fun e w' => e = .returned (.int .u32 ((feedB x c).toNat : Int)) ∧ w = w' := by
  have hx := Lib.hid (bxor_top x c)
  have hb8 := c.toNat_lt
  go_enter Tryd.func40, Tryd.ntmps40
  go_wp2
  go_loopw [0, 5] (fun r i wr => ∃ j : Nat, j ≤ 8 ∧ i = .int .i64 j ∧ r = .int .u32 ((shn j (x ^^^ top c)).toNat : Int) ∧ w = wr) (fun _ i _ => 8 - (intOf i).toNat)
  case atStart => exact ⟨0, Nat.zero_le _, rfl, congrArg (Value.int .u32) hx.out, rfl⟩
  case round =>
    obtain ⟨j, hj, rfl, rfl, rfl⟩ := hrel
    by_cases hlt : j < 8
    · have i1 : (j : Int) < 8 := by omega
      have hn := Lib.hid (shn_last j (x ^^^ top c))
      generalize shn j (x ^^^ top c) = y at *
      have hy := y.isLt
      by_cases hf : 2147483648 ≤ y.toNat
      · have hv := Lib.hid (fell_yes y hf)
        have i2 : (2147483648 : Int) ≤ (y.toNat : Int) := by omega
        go_wp2
        exact ⟨⟨j + 1, by omega, by go_num, by rw [hn.out, ← hv.out], by first | rfl | trivial⟩, by simp [intOf]; omega⟩
      · have hv := Lib.hid (fell_no y hf)
        have i2 : ¬ (2147483648 : Int) ≤ (y.toNat : Int) := by omega
        go_wp2
        exact ⟨⟨j + 1, by omega, by go_num, by rw [hn.out, ← hv.out], by first | rfl | trivial⟩, by simp [intOf]; omega⟩
    · obtain rfl : j = 8 := by omega
      go_wp2
      go_ret
      exact ⟨rfl, by first | rfl | trivial⟩
theorem In_at (x : BitVec 32) (z : Int) (c : UInt8) (w : World) (hz : z = (x.toNat : Int)) : Calls Tryd.prog 40 #[.int .u32 z, .int .u8 (c.toNat : Int)] w fun e w' => e = .returned (.int .u32 ((feedB x c).toNat : Int)) ∧ w = w' := by
  subst hz
  exact In_any x c w
theorem xor_lit (x : BitVec 32) : bits .xor .u32 (x.toNat : Int) 4294967295 = ((x ^^^ ones).toNat : Int) := by
  rw [show (4294967295 : Int) = ((ones.toNat : Nat) : Int) from rfl, bx]
theorem feed_step (x : BitVec 32) (l : List UInt8) (j : Nat) (h : j < l.length) : feed x (l.take (j + 1)) = feedB (feed x (l.take j)) (l.getD j 0) := by
  rw [take_snoc l j h, feed_append]
  rfl
set_option maxRecDepth 100000 in
set_option maxHeartbeats 1000000 in
theorem refMore_any (s : BitVec 32) (A : Option Addr) (l : List UInt8) (cap : Nat) (w : World) (hA : At w A l) (hm : l.length ≤ 140737488355328) :
    Calls Tryd.prog 37 #[.int .u32 (s.toNat : Int), .slice A l.length cap] w fun e w' => e = .returned (.int .u32 ((moreV s l).toNat : Int)) ∧ w = w' := by
  have HA := Lib.hid hA
  have HX := xor_lit
  clear hA
  go_enter Tryd.func37, Tryd.ntmps37
  go_wp2
  go_loopw [5, 6] (fun r i wr => ∃ j : Nat, j ≤ l.length ∧ i = .int .i64 j ∧ r = .int .u32 ((feed (s ^^^ ones) (l.take j)).toNat : Int) ∧ w = wr) (fun _ i _ => l.length - (intOf i).toNat)
  case atStart => exact ⟨0, Nat.zero_le _, rfl, by first | rfl | exact congrArg (Value.int .u32) (xor_lit s), rfl⟩
  case round =>
    obtain ⟨j, hj, rfl, rfl, rfl⟩ := hrel
    by_cases hlt : j < l.length
    · obtain ⟨b, off, rfl, hb, hc⟩ := HA.out (by omega)
      have hcj := hc j hlt
      have hf := Lib.hid (feed_step (s ^^^ ones) l j hlt)
      unfold bv at hcj
      have i1 : (j : Int) < (l.length : Int) := by omega
      generalize l.getD j 0 = c at *
      generalize feed (s ^^^ ones) (l.take j) = y at *
      clear hc
      go_wp2_with (go_at_call 40; ((with_reducible refine (In_any _ c _).mono ?_); rintro e w' ⟨rfl, rfl⟩))
      exact ⟨⟨j + 1, by omega, by go_num, by rw [hf.out], by first | rfl | trivial⟩, by simp [intOf]; omega⟩
    · obtain rfl : j = l.length := by omega
      go_wp2
      go_ret
      rw [List.take_length]
      exact ⟨by first | rfl | exact ret1 (xor_lit _), by first | rfl | trivial⟩
theorem refSum_any (A : Option Addr) (l : List UInt8) (n cap : Nat) (w : World) (hA : At w A l) (hm : l.length ≤ 140737488355328) (hn : l.length = n) :
    Calls Tryd.prog 31 #[.slice A n cap] w fun e w' => e = .returned (.int .u32 ((moreV 0#32 l).toNat : Int)) ∧ w = w' := by
  subst hn
  have C := Lib.hid (refMore_any 0#32 A l cap w hA hm)
  clear hA
  go_enter Tryd.func31, Tryd.ntmps31
  go_wp2_with (go_at_call 37; ((refine (C.out).mono ?_); rintro e w' ⟨rfl, rfl⟩))
  go_ret
  exact ⟨rfl, rfl⟩
/-- A slice that the call owns holds these bytes. -/
def Own1 (base : Nat) (w : World) (v : Value) (l : List UInt8) : Prop := w.ownsRow base 5 1 v l.length (cellsB l)
theorem Own1.nil (base : Nat) (w : World) : Own1 base w (.slice none 0 0) [] := World.ownsRow_nil _ _ _ _
theorem Own1.alloc {base : Nat} {w : World} {v : Value} {l : List UInt8} (h : Own1 base w v l) (o : Obj) : Own1 base (w.alloc o) v l := World.ownsRow.alloc h o
theorem Own1.at {base : Nat} {w : World} {v : Value} {l : List UInt8} (h : Own1 base w v l) : ∃ A c, v = .slice A l.length c ∧ (A = none → c = 0) ∧ l.length ≤ c ∧ At w A l := by
  have h' := h
  rcases h'.2 with ⟨rfl, h0⟩ | ⟨g, cap, cur, rfl, _, _, h1, h2, _⟩
  · exact ⟨none, 0, by rw [h0], fun _ => rfl, by omega, fun e => absurd e (by omega)⟩
  · exact ⟨_, _, rfl, (fun e => by cases e), by omega, own_at h⟩
/-- append onto what the call owns, whatever is appended. -/
theorem run_app (base : Nat) (w : World) (v : Value) (l : List UInt8) (A : Option Addr) (c : Nat) (news : List UInt8) (ty : TypeId) (h : Own1 base w v l) (hA : At w A news) (hz : A = none → c = 0)
    (hm : l.length + news.length ≤ 140737488355328) (hb : base ≤ w.heap.size) :
    ∃ v' w', (Builtin.append_ #[22, 22] ty #[v, .slice A news.length c]).run Tryd.prog w = .ok v' w' ∧ Own1 base w' v' (l ++ news) ∧ w.grownBy w' v.ownBlock ∧ (v'.ownBlock = v.ownBlock ∨ v'.ownBlock = some w.heap.size) := by
  obtain ⟨i0, hi, hz0, hz1, hz2⟩ := info_parts info8
  cases A with
  | none =>
    obtain rfl := hA.none_nil
    obtain rfl := hz rfl
    refine ⟨v, w, run_append_owned_none (P := Tryd.prog) w base 22 ty 5 i0 1 Tryd.underlying22 hi v _ _ h, by simpa using h, World.grownBy.refl _ _, .inl rfl⟩
  | some ad =>
    obtain ⟨v', w', h1, h2, h3, _, h5⟩ := run_append_own_at (P := Tryd.prog) w base 22 ty 5 i0 _ 1 1 Tryd.underlying22 hi hz0 hz1 hz2 rfl (by omega) v _ _ h ad news.length c (cellsB news) (by rw [cellsB_length]; omega) hA.cells (cellsB_one news)
      (by unfold maxLen; omega) (by omega) hb
    exact ⟨v', w', h1, by rw [Own1, cellsB_append, List.length_append]; exact h2, h3, h5⟩
theorem below_app {base : Nat} {ws w w' : World} {v : Value} {l : List UInt8} (h : Own1 base w v l) (hB : Below base ws w) (hs : base ≤ w.heap.size) (hg : w.grownBy w' v.ownBlock) : Below base ws w' :=
  hB.grown hg hs fun k hk => (World.ownsRow.lt h k hk).1
/-- The same as a step of a walk. -/
theorem wpList_app (w : World) {ops : Array Oper} {rest : List Oper} {o : Oper} {a : Act} {Q : Exit → Act → World → Prop} (hg : o.guard = none) (s x : Operand) (ho : o.op = .call { callee := .builtin .append, args := #[s, x], argTypes := #[22, 22] })
    (base : Nat) (v : Value) (l : List UInt8) (hs : a.eval s = v) (h : Own1 base w v l) (A : Option Addr) (n c : Nat) (news : List UInt8) (hx : a.eval x = .slice A n c) (hA : At w A news) (hz : A = none → c = 0) (hn : news.length = n)
    (hm : l.length + news.length ≤ 140737488355328) (hb : base ≤ w.heap.size) (ws : World) (hB : Below base ws w)
    (hK : ∀ v' w', Own1 base w' v' (l ++ news) → Below base ws w' → w.grownBy w' v.ownBlock → (v'.ownBlock = v.ownBlock ∨ v'.ownBlock = some w.heap.size) → wpList Tryd.prog ops Q rest (a.put o.dst v') w') : wpList Tryd.prog ops Q (o :: rest) a w := by
  subst hn
  refine wpList_plain hg fun K hK' => ?_
  obtain ⟨v', w', h1, h2, h3, h4⟩ := run_app base w v l A c news o.type h hA hz hm hb
  unfold Oper.wp execOp
  simp only [ho, resolve, invoke, builtin, Sem.run_bind, Sem.run_pure, Result.andThen_ok, List.map_toArray, List.map_cons, List.map_nil, hs, hx, h1]
  exact hK' _ _ (hK v' w' h2 (below_app h hB hb h3) h3 h4)
end Go.Proofs.YtbmhgmigcgeooaaDoor
