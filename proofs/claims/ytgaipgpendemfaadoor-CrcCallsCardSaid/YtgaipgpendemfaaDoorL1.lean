/- The statement CrcMore, walked. -/
import Derived.Test.YtgaipgpendemfaaDoorP5
namespace Go.Proofs.YtgaipgpendemfaaDoor
open Go.RowKit
theorem tmod_nat (a n : Nat) : (a : Int).tmod ((n : Int) + 1) = ((a % (n + 1) : Nat) : Int) := by
  rw [show ((n : Int) + 1) = ((n + 1 : Nat) : Int) by omega]
  rfl
theorem more_parts (s : BitVec 32) (l : List UInt8) (k : Nat) : moreV (moreV s (l.take k)) (l.drop k) = moreV s l := by rw [more_append, List.take_append_drop]
/-- Where a slice from k on begins. -/
theorem from_at {w : World} {b off k cap : Nat} {l : List UInt8} (hA : At w (some ⟨b, off, none⟩) l) (hk : k ≤ l.length) (hc : l.length ≤ cap) : At w (if cap = k then some ⟨b, off, none⟩ else some ⟨b, off + k, none⟩) (l.drop k) := by
  split
  · rw [List.drop_of_length_le (by omega)]
    exact at_nil _ _
  · exact drop_at k hA
/-- A call that only reads, in a world that has come on. -/
theorem on {P : Program} {f : FuncId} {args : Array Value} {B : Nat} {w wk : World} {v : Value} (hb : Below B w wk) (h : Calls P f args wk fun e w' => e = .returned v ∧ wk = w') : Calls P f args wk fun e w' => e = .returned v ∧ Below B w w' :=
  h.mono fun _ _ h => ⟨h.1, h.2 ▸ hb⟩
theorem wakes_on {B : Nat} {w wk : World} (hb : Below B w wk) (hB : B ≤ wk.heap.size) (h : Env wk) : Calls Tryd.prog 17 #[] wk fun e w' => e = .returned (.bool true) ∧ Below B w w' :=
  (wakes_any wk h).mono fun _ _ h => ⟨h.1, hb.trans (h.2.mono hB)⟩
set_option maxRecDepth 100000 in
set_option maxHeartbeats 4000000 in
theorem More_some (s : BitVec 32) (b off cap at_ : Nat) (l : List UInt8) (w : World) (h : Env w) (hA : At w (some ⟨b, off, none⟩) l) (hm : l.length ≤ 140737488355328) (hc : l.length ≤ cap) (hat : at_ < 65536) :
    Calls Tryd.prog 6 #[.int .u32 (s.toNat : Int), .slice (some ⟨b, off, none⟩) l.length cap, .int .u16 (at_ : Int)] w fun e w' => e = .returned (.bool true) ∧ Below w.heap.size w w' := by
  have hk := tmod_nat at_ l.length
  have hkl : at_ % (l.length + 1) ≤ l.length := Nat.le_of_lt_succ (Nat.mod_lt _ (Nat.succ_pos _))
  generalize at_ % (l.length + 1) = k at hk hkl
  have h1 : (l.take k).length = k := by rw [List.length_take]; omega
  have h2 : (l.drop k).length = l.length - k := List.length_drop
  have A1 := fun w' (hb : Below w.heap.size w w') => h.below hb
  obtain ⟨D, hD⟩ : ∃ D : Option Addr, (if cap = k then some ⟨b, off, none⟩ else some ⟨b, off + k, none⟩) = D := ⟨_, rfl⟩
  have A3 : ∀ w', Below w.heap.size w w' → At w' D (l.drop k) := fun w' hb => hD ▸ from_at (hA.below hb) hkl hc
  have A2 := fun w' (hb : Below w.heap.size w w') => hA.below hb
  obtain ⟨X, hX⟩ : ∃ X, moreV s l = X := ⟨_, rfl⟩
  obtain ⟨Y, hY⟩ : ∃ X, moreV 0#32 l = X := ⟨_, rfl⟩
  obtain ⟨T, hT⟩ : ∃ X, moreV s (l.take k) = X := ⟨_, rfl⟩
  obtain ⟨U, hU⟩ : ∃ X, moreV 0#32 (l.take k) = X := ⟨_, rfl⟩
  have hTX : moreV T (l.drop k) = X := by rw [← hT, ← hX]; exact more_parts s l k
  have hUY : moreV U (l.drop k) = Y := by rw [← hU, ← hY]; exact more_parts 0#32 l k
  have c1 := fun w' (hb : Below w.heap.size w w') => on hb (MoreL s _ (some ⟨b, off, none⟩) (l.take k) k cap w' (A1 w' hb) (take_at k (A2 w' hb)) (by omega) h1 rfl)
  rw [hT] at c1
  have c2 := fun w' (hb : Below w.heap.size w w') => on hb (MoreL T _ D (l.drop k) (l.length - k) (cap - k) w' (A1 w' hb) (A3 w' hb) (by omega) h2 rfl)
  rw [hTX] at c2
  have c3 := fun w' (hb : Below w.heap.size w w') => on hb (MoreL s _ (some ⟨b, off, none⟩) l l.length cap w' (A1 w' hb) (A2 w' hb) hm rfl rfl)
  rw [hX] at c3
  have c4 := fun w' (hb : Below w.heap.size w w') => on hb (SumL (some ⟨b, off, none⟩) (l.take k) k cap w' (A1 w' hb) (take_at k (A2 w' hb)) (by omega) h1)
  rw [hU] at c4
  have c5 := fun w' (hb : Below w.heap.size w w') => on hb (MoreL U _ D (l.drop k) (l.length - k) (cap - k) w' (A1 w' hb) (A3 w' hb) (by omega) h2 rfl)
  rw [hUY] at c5
  have c6 := fun w' (hb : Below w.heap.size w w') => on hb (SumL (some ⟨b, off, none⟩) l l.length cap w' (A1 w' hb) (A2 w' hb) hm rfl)
  rw [hY] at c6
  have c7 := fun w' (hb : Below w.heap.size w w') => on hb (MoreL s _ none [] 0 0 w' (A1 w' hb) (at_nil _ _) (by decide) rfl rfl)
  rw [more_nil] at c7
  have c8 := fun w' (hb : Below w.heap.size w w') => on hb (MoreL 0#32 0 (some ⟨b, off, none⟩) l l.length cap w' (A1 w' hb) (A2 w' hb) hm rfl rfl)
  rw [hY] at c8
  have c9 := fun w' (hb : Below w.heap.size w w') => wakes_on hb hb.size (A1 w' hb)
  have C1 := Lib.hid c1
  have C2 := Lib.hid c2
  have C3 := Lib.hid c3
  have C4 := Lib.hid c4
  have C5 := Lib.hid c5
  have C6 := Lib.hid c6
  have C7 := Lib.hid c7
  have C8 := Lib.hid c8
  have C9 := Lib.hid c9
  have i0 : (0 : Int) ≤ (k : Int) := by omega
  have i1 : (k : Int) ≤ (l.length : Int) := by omega
  have i2 : (k : Int) ≤ (cap : Int) := by omega
  have i3 : (l.length : Int) ≤ (cap : Int) := by omega
  clear c1 c2 c3 c4 c5 c6 c7 c8 c9 A1 A2 A3 h hA hX hY hT hU hTX hUY h1 h2
  go_enter Tryd.func6, Tryd.ntmps6
  go_upto_region 2 with fail
  go_region_held3 (fun w' => Below w.heap.size w w') (first | exact Below.drew (Below.refl _ _) | assumption | fail) (first
    | (go_at_call 12; (first
      | ((with_reducible refine (C4.out _ (by assumption)).mono ?_); rintro e w1 ⟨rfl, hb1⟩)
      | ((with_reducible refine (C6.out _ (by assumption)).mono ?_); rintro e w1 ⟨rfl, hb1⟩)
      | fail))
    | (go_at_call 14; (first
      | ((with_reducible refine (C7.out _ (by assumption)).mono ?_); rintro e w1 ⟨rfl, hb1⟩)
      | ((with_reducible refine (C8.out _ (by assumption)).mono ?_); rintro e w1 ⟨rfl, hb1⟩)
      | ((with_reducible refine (C1.out _ (by assumption)).mono ?_); rintro e w1 ⟨rfl, hb1⟩)
      | ((with_reducible refine (C3.out _ (by assumption)).mono ?_); rintro e w1 ⟨rfl, hb1⟩)
      | ((with_reducible refine (C2.out _ (by assumption)).mono ?_); rintro e w1 ⟨rfl, hb1⟩)
      | ((with_reducible refine (C5.out _ (by assumption)).mono ?_); rintro e w1 ⟨rfl, hb1⟩)
      | fail))
    | (go_at_call 17; ((with_reducible refine (C9.out _ (by assumption)).mono ?_); rintro e w1 ⟨rfl, hb1⟩))
    | fail)
  all_goals (go_split_ands; go_wp2; go_ret; exact ⟨rfl, by assumption⟩)
set_option maxRecDepth 100000 in
set_option maxHeartbeats 4000000 in
theorem More_nil (s : BitVec 32) (at_ : Nat) (w : World) (h : Env w) (hat : at_ < 65536) :
    Calls Tryd.prog 6 #[.int .u32 (s.toNat : Int), .slice none 0 0, .int .u16 (at_ : Int)] w fun e w' => e = .returned (.bool true) ∧ Below w.heap.size w w' := by
  have hk : (at_ : Int).tmod 1 = 0 := Int.tmod_one _
  have A1 := fun w' (hb : Below w.heap.size w w') => h.below hb
  have c1 := fun (D : Option Addr) (c : Nat) w' (hb : Below w.heap.size w w') => on hb (MoreL s _ D [] 0 c w' (A1 w' hb) (at_nil _ _) (by decide) rfl rfl)
  simp only [more_nil] at c1
  have c2 := fun (D : Option Addr) (c : Nat) w' (hb : Below w.heap.size w w') => on hb (SumL D [] 0 c w' (A1 w' hb) (at_nil _ _) (by decide) rfl)
  simp only [more_nil, show (((0#32).toNat : Nat) : Int) = 0 from rfl] at c2
  have c3 := fun (D : Option Addr) (c : Nat) w' (hb : Below w.heap.size w w') => on hb (MoreL 0#32 0 D [] 0 c w' (A1 w' hb) (at_nil _ _) (by decide) rfl rfl)
  simp only [more_nil, show (((0#32).toNat : Nat) : Int) = 0 from rfl] at c3
  have c9 := fun w' (hb : Below w.heap.size w w') => wakes_on hb hb.size (A1 w' hb)
  have C1 := Lib.hid c1
  have C2 := Lib.hid c2
  have C3 := Lib.hid c3
  have C9 := Lib.hid c9
  clear c1 c2 c3 c9 A1 h
  go_enter Tryd.func6, Tryd.ntmps6
  go_upto_region 2 with fail
  go_region_held3 (fun w' => Below w.heap.size w w') (first | exact Below.drew (Below.refl _ _) | assumption | fail) (first
    | (go_at_call 12; ((with_reducible refine (C2.out _ _ _ (by assumption)).mono ?_); rintro e w1 ⟨rfl, hb1⟩))
    | (go_at_call 14; (first
      | ((with_reducible refine (C3.out _ _ _ (by assumption)).mono ?_); rintro e w1 ⟨rfl, hb1⟩)
      | ((with_reducible refine (C1.out _ _ _ (by assumption)).mono ?_); rintro e w1 ⟨rfl, hb1⟩)
      | fail))
    | (go_at_call 17; ((with_reducible refine (C9.out _ (by assumption)).mono ?_); rintro e w1 ⟨rfl, hb1⟩))
    | fail)
  all_goals (go_split_ands; go_wp2; go_ret; exact ⟨rfl, by assumption⟩)
set_option maxRecDepth 100000 in
set_option maxHeartbeats 4000000 in
theorem More_empty (s : BitVec 32) (ad : Addr) (cap : Nat) (at_ : Nat) (w : World) (h : Env w) (hat : at_ < 65536) :
    Calls Tryd.prog 6 #[.int .u32 (s.toNat : Int), .slice (some ad) 0 cap, .int .u16 (at_ : Int)] w fun e w' => e = .returned (.bool true) ∧ Below w.heap.size w w' := by
  have hk : (at_ : Int).tmod 1 = 0 := Int.tmod_one _
  have A1 := fun w' (hb : Below w.heap.size w w') => h.below hb
  have c1 := fun (D : Option Addr) (c : Nat) w' (hb : Below w.heap.size w w') => on hb (MoreL s _ D [] 0 c w' (A1 w' hb) (at_nil _ _) (by decide) rfl rfl)
  simp only [more_nil] at c1
  have c2 := fun (D : Option Addr) (c : Nat) w' (hb : Below w.heap.size w w') => on hb (SumL D [] 0 c w' (A1 w' hb) (at_nil _ _) (by decide) rfl)
  simp only [more_nil, show (((0#32).toNat : Nat) : Int) = 0 from rfl] at c2
  have c3 := fun (D : Option Addr) (c : Nat) w' (hb : Below w.heap.size w w') => on hb (MoreL 0#32 0 D [] 0 c w' (A1 w' hb) (at_nil _ _) (by decide) rfl rfl)
  simp only [more_nil, show (((0#32).toNat : Nat) : Int) = 0 from rfl] at c3
  have c9 := fun w' (hb : Below w.heap.size w w') => wakes_on hb hb.size (A1 w' hb)
  have C1 := Lib.hid c1
  have C2 := Lib.hid c2
  have C3 := Lib.hid c3
  have C9 := Lib.hid c9
  clear c1 c2 c3 c9 A1 h
  go_enter Tryd.func6, Tryd.ntmps6
  go_upto_region 2 with fail
  go_region_held3 (fun w' => Below w.heap.size w w') (first | exact Below.drew (Below.refl _ _) | assumption | fail) (first
    | (go_at_call 12; ((with_reducible refine (C2.out _ _ _ (by assumption)).mono ?_); rintro e w1 ⟨rfl, hb1⟩))
    | (go_at_call 14; (first
      | ((with_reducible refine (C3.out _ _ _ (by assumption)).mono ?_); rintro e w1 ⟨rfl, hb1⟩)
      | ((with_reducible refine (C1.out _ _ _ (by assumption)).mono ?_); rintro e w1 ⟨rfl, hb1⟩)
      | fail))
    | (go_at_call 17; ((with_reducible refine (C9.out _ (by assumption)).mono ?_); rintro e w1 ⟨rfl, hb1⟩))
    | fail)
  all_goals (go_split_ands; go_wp2; go_ret; exact ⟨rfl, by assumption⟩)
/-- The statement's walk. -/
theorem CrcMore_walk (s : BitVec 32) (A : Option Addr) (cap : Nat) (l : List UInt8) (at_ : Nat) (w : World) (hA : At w A l) (hz : A = none → cap = 0) (hm4 : l.length + 4 ≤ 140737488355328) (hc : l.length ≤ cap) (hat : at_ < 65536) (h : Env w) :
    Calls Tryd.prog 6 #[.int .u32 (s.toNat : Int), .slice A l.length cap, .int .u16 (at_ : Int)] w fun e w' => e = .returned (.bool true) ∧ Below w.heap.size w w' := by
  rcases Nat.eq_zero_or_pos l.length with h0 | h0
  · obtain rfl := List.eq_nil_of_length_eq_zero h0
    cases A with
    | none =>
      obtain rfl := hz rfl
      exact More_nil s at_ w h hat
    | some a => exact More_empty s a cap at_ w h hat
  · obtain ⟨b, off, rfl, _, _⟩ := hA h0
    exact More_some s b off cap at_ l w h hA (by omega) hc hat
end Go.Proofs.YtgaipgpendemfaaDoor
