/- A new disk; bytes copied; a disk's file. -/
import Derived.Test.YthnfpkbpakffgaaB4
namespace Go.Proofs.Ythnfpkbpakffgaa
open Go.RowKit Go.Maps
open Disk (Nm Fl DS Up ins del upd fnd okName okByte used Wf fileR newD)
theorem new_own {base : Nat} {w : World} (h : base ≤ w.heap.size) : (w.alloc (.cells #[] 5)).ownsRow base 5 1 (.slice (some ⟨w.heap.size, 0, none⟩) 0 0) 0 (cellsB []) :=
  ⟨rfl, .inr ⟨w.heap.size, 0, #[], rfl, h, heap_alloc_new w _, Nat.le_refl _, by unfold maxLen; omega, rfl, rfl⟩⟩
/-- append onto what is owned, whatever is appended. -/
theorem run_app (base : Nat) (w : World) (v : Value) (l : List UInt8) (A : Option Addr) (c : Nat) (news : List UInt8) (ty : TypeId) (h : w.ownsRow base 5 1 v l.length (cellsB l)) (hA : At w A news) (hz : A = none → c = 0)
    (hm : l.length + news.length ≤ 140737488355328) (hb : base ≤ w.heap.size) :
    ∃ v' w', (Builtin.append_ #[32, 32] ty #[v, .slice A news.length c]).run Try.prog w = .ok v' w' ∧ w'.ownsRow base 5 1 v' (l ++ news).length (cellsB (l ++ news)) ∧ w.grownBy w' v.ownBlock ∧ (v'.ownBlock = v.ownBlock ∨ v'.ownBlock = some w.heap.size) := by
  obtain ⟨i0, hi, hz0, hz1, hz2⟩ := info_parts info8
  cases A with
  | none =>
    have hn : news = [] := hA.none_nil
    subst hn
    obtain rfl := hz rfl
    refine ⟨v, w, run_append_owned_none (P := Try.prog) w base 32 ty 5 i0 1 Try.underlying32 hi v _ _ h, by simpa using h, World.grownBy.refl _ _, .inl rfl⟩
  | some ad =>
    obtain ⟨v', w', h1, h2, h3, _, h5⟩ := run_append_own_at (P := Try.prog) w base 32 ty 5 i0 _ 1 1 Try.underlying32 hi hz0 hz1 hz2 rfl (by omega) v _ _ h ad news.length c (cellsB news) (by rw [cellsB_length]; omega) hA.cells (cellsB_one news)
      (by unfold maxLen; omega) (by omega) hb
    exact ⟨v', w', h1, by rw [cellsB_append, List.length_append]; exact h2, h3, h5⟩
theorem wpList_app {ops : Array Oper} {rest : List Oper} {o : Oper} {a : Act} {Q : Exit → Act → World → Prop} {w : World} (hg : o.guard = none) (s x : Operand) (ho : o.op = .call { callee := .builtin .append, args := #[s, x], argTypes := #[32, 32] })
    (base : Nat) (v : Value) (l : List UInt8) (hs : a.eval s = v) (h : w.ownsRow base 5 1 v l.length (cellsB l)) (A : Option Addr) (n c : Nat) (news : List UInt8) (hx : a.eval x = .slice A n c) (hn : news.length = n) (hA : At w A news) (hz : A = none → c = 0)
    (hm : l.length + news.length ≤ 140737488355328) (hb : base ≤ w.heap.size)
    (hK : ∀ v' w', w'.ownsRow base 5 1 v' (l ++ news).length (cellsB (l ++ news)) → w.grownBy w' v.ownBlock → (v'.ownBlock = v.ownBlock ∨ v'.ownBlock = some w.heap.size) → wpList Try.prog ops Q rest (a.put o.dst v') w') :
    wpList Try.prog ops Q (o :: rest) a w := by
  subst hn
  refine wpList_plain hg fun K' hK' => ?_
  obtain ⟨v', w', h1, h2, h3, h4⟩ := run_app base w v l A c news o.type h hA hz hm hb
  unfold Oper.wp execOp
  simp only [ho, resolve, invoke, builtin, Sem.run_bind, Sem.run_pure, Result.andThen_ok, List.map_toArray, List.map_cons, List.map_nil, hs, hx, h1]
  exact hK' _ _ (hK v' w' h2 h3 h4)
theorem eql_nil (w : World) : (binOp .eql 32 (.slice none 0 0) (.slice none 0 0)).run Try.prog w = .ok (.bool true) w := by kernel_rfl
theorem eql_some (a : Addr) (n c : Nat) (w : World) : (binOp .eql 32 (.slice (some a) n c) (.slice none 0 0)).run Try.prog w = .ok (.bool false) w := by kernel_rfl
set_option maxRecDepth 100000 in
/-- slices.Clone: what is copied lies in memory of its own; nil stays nil. -/
theorem Clone_any (A : Option Addr) (c : Nat) (l : List UInt8) (n : Nat) (w : World) (hn : l.length = n) (hA : At w A l) (hz : A = none → c = 0) (hl : l.length ≤ 4194304) :
    Calls Try.prog 32 #[.slice A n c] w fun e w' => ∃ v, e = .returned v ∧ w'.ownsRow w.heap.size 5 1 v l.length (cellsB l) ∧ Below w.heap.size w w' := by
  cases A with
  | none =>
    obtain rfl := hA.none_nil
    obtain rfl := hz rfl
    obtain rfl : n = 0 := hn.symm
    clear hl hA hz hn
    have hq := eql_nil w
    go_enter Try.func32, Try.ntmps32
    go_wp2_with fail
    go_ret
    exact ⟨_, rfl, ⟨rfl, .inl ⟨rfl, rfl⟩⟩, Below.refl _ _⟩
  | some a =>
    have hb : Below w.heap.size w (w.alloc (.cells #[] 5)) := (Below.refl _ _).alloc (Nat.le_refl _) _
    have N := Lib.hid (new_own (w := w) (Nat.le_refl _))
    have HA := Lib.hid (hA.below hb)
    have HL := Lib.hid hl
    have HN := Lib.hid hn
    have HB := Lib.hid hb
    clear hA hl hz hn hb
    have hq := eql_some a n c w
    go_enter Try.func32, Try.ntmps32
    go_wp2_with (first
      | (at_builtin; refine wpList_app rfl (.tmp 5) (.tmp 6) rfl w.heap.size _ [] rfl N.out (some a) n c l rfl HN.out HA.out (by simp) (by have := HL.out; simp; omega) HB.out.size ?_; intro v' w' h2 h3 h4)
      | fail)
    go_ret
    refine ⟨v', rfl, h2, HB.out.grown h3 HB.out.size (fun k hk => ?_)⟩
    have e : some w.heap.size = some k := hk
    injection e with e
    rw [← e]
    exact Nat.le_refl _
theorem cell_new (W : World) (v : Value) (ty : TypeId) : (W.alloc (.cells #[v] ty)).cell? ⟨W.heap.size, 0, none⟩ = some v := by go_simp
theorem New_no (q : Int) (w : World) (hq : ¬ (0 ≤ q ∧ q ≤ 4194304)) : Calls Try.prog 7 #[.int .i64 q] w fun e w' => e = .returned (.tuple #[.pointer none, .int .i64 1]) ∧ w = w' := by
  have M := mayQuota_any q w
  have hd : decide (0 ≤ q ∧ q ≤ 4194304) = false := by simpa using hq
  rw [hd] at M
  clear hd hq
  go_enter Try.func7, Try.ntmps7
  go_wp2_with fail
  refine M.mono ?_
  rintro e1 w1 ⟨rfl, rfl⟩
  go_wp2_with fail
  go_ret2
  exact ⟨rfl, rfl⟩
theorem New_yes (q : Int) (w : World) (h0 : 0 ≤ q) (h1 : q ≤ 4194304) : Calls Try.prog 7 #[.int .i64 q] w fun e w' => ∃ p S, e = .returned (.tuple #[.pointer (some ⟨p, 0, none⟩), .int .i64 0]) ∧ IsD w' p (newD q) S ∧ (∀ b, S b → w.heap.size ≤ b) ∧ Below w.heap.size w w' := by
  have M := mayQuota_any q w
  have hd : decide (0 ≤ q ∧ q ≤ 4194304) = true := by simp [h0, h1]
  rw [hd] at M
  clear hd
  have HQ := Lib.hid (And.intro h0 h1)
  clear h0 h1
  have hmm := @run_makeMap Try.prog
  go_enter Try.func7, Try.ntmps7
  go_wp2_with fail
  refine M.mono ?_
  rintro e1 w1 ⟨rfl, rfl⟩
  go_wp2_with fail
  go_ret2
  obtain ⟨W1, hW1⟩ : ∃ W, w.alloc (.map #[] 0) = W := ⟨_, rfl⟩
  have s1 : W1.heap.size = w.heap.size + 1 := by rw [← hW1]; simp
  have b1 : Below w.heap.size w W1 := by rw [← hW1]; exact (Below.refl _ _).alloc (Nat.le_refl _) _
  have m1 : MapP W1 w.heap.size [] := by rw [← hW1]; exact MapP.made w
  obtain ⟨W2, hW2⟩ : ∃ W, W1.alloc (.cells #[.map (some w.heap.size), .int .i64 q, .int .i64 (-1), .bool false] 63) = W := ⟨_, rfl⟩
  have s2 : W2.heap.size = w.heap.size + 2 := by rw [← hW2]; simp [s1]
  have b2 : Below W1.heap.size W1 W2 := by rw [← hW2]; exact (Below.refl _ _).alloc (Nat.le_refl _) _
  have c2 : Cont W2 (w.heap.size + 1) w.heap.size q (-1) false := by rw [← hW2, ← s1]; exact cont_new W1 _ _ _ _
  obtain ⟨W3, hW3⟩ : ∃ W, W2.alloc (.cells #[.pointer (some ⟨w.heap.size + 1, 0, none⟩)] 65) = W := ⟨_, rfl⟩
  have s3 : W3.heap.size = w.heap.size + 3 := by rw [← hW3]; simp [s2]
  have b3 : Below W2.heap.size W2 W3 := by rw [← hW3]; exact (Below.refl _ _).alloc (Nat.le_refl _) _
  have c3 : W3.cell? ⟨w.heap.size + 2, 0, none⟩ = some (.pointer (some ⟨w.heap.size + 1, 0, none⟩)) := by rw [← hW3, ← s2]; exact cell_new _ _ _
  have hf : ∀ b, foot w.heap.size [] b → b = w.heap.size := fun b h => by
    rcases h with h | ⟨e, he, _⟩
    · exact h
    · cases he
  refine ⟨w.heap.size + 2, fun b => w.heap.size ≤ b ∧ b < w.heap.size + 3, by rfl, ⟨w.heap.size + 1, w.heap.size, [], ?_⟩, fun b h => h.1, ?_⟩
  · have key : InD W3 (w.heap.size + 2) (w.heap.size + 1) w.heap.size [] (newD q) (fun b => w.heap.size ≤ b ∧ b < w.heap.size + 3) :=
      ⟨c3, by omega, c2.below b3, ⟨(m1.below b2).below b3, (fun e he => by cases he), (fun e he => by cases he), (fun e he => by cases he)⟩, rfl, by omega, (fun h => by have := hf _ h; omega), (fun h => by have := hf _ h; omega), ⟨by omega, by omega⟩, ⟨by omega, by omega⟩, (fun b h => by have := hf b h; omega), (fun b h => by omega), Wf.new HQ.out.1 HQ.out.2⟩
    rw [← hW3, ← hW2, ← hW1] at key
    simpa using key
  · have key : Below w.heap.size w W3 := (b1.trans (b2.mono (by omega))).trans (b3.mono (by omega))
    rw [← hW3, ← hW2, ← hW1] at key
    simpa using key
end Go.Proofs.Ythnfpkbpakffgaa
