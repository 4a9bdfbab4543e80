/- The document's Text and Float. -/
import Derived.Test.YthkmljegjgahgaaR3
import Derived.Test.YthkmljegjgahgaaB17
namespace Go.Proofs.Ythkmljegjgahgaa
open Go.RowKit
set_option maxRecDepth 100000 in
set_option maxHeartbeats 4000000 in
theorem refText_any (A : Option Addr) (l : List UInt8) (cap : Nat) (s : ByteArray) (w : World) (hA : At w A l) (hz : A = none → cap = 0) (hm : l.length + (encText s.data.toList).length ≤ 140737488355328) :
    Calls Try.prog 14 #[.slice A l.length cap, .string s] w (Tells w (l ++ encText s.data.toList)) := by
  have hlen : (encText s.data.toList).length = (escT s.data.toList).length + 2 := by unfold encText; simp
  rw [hlen] at hm
  have CO := Lib.hid (refOwn_any A l cap w hA hz (by omega))
  have hss : s.size ≤ (escT s.data.toList).length := by have := (escT_length s.data.toList).1; simpa using this
  obtain ⟨E, hE⟩ : ∃ E, E = (escT s.data.toList).length := ⟨_, rfl⟩
  rw [← hE] at hm hss
  have HE := Lib.hid hE
  have hs47 : s.size ≤ 140737488355328 := by omega
  clear hA hz hlen hE
  go_enter Try.func14, Try.ntmps14
  go_wp2_with (go_at_call 5; (refine (CO.out).mono ?_); rintro e w1 ⟨v1, rfl, ho1, hb1⟩; have O1 := Lib.hid ho1; have B1 := Lib.hid hb1; clear ho1 hb1)
  go_loopw [5, 6] (fun v i wr => ∃ k : Nat, k ≤ s.size ∧ i = .int .i64 k ∧ Own1 w.heap.size wr v (l ++ escT (pre s k)) ∧ Below w.heap.size w wr) (fun _ i _ => s.size - (intOf i).toNat)
  case atStart => exact ⟨0, Nat.zero_le _, rfl, by simpa [pre, escT] using O1.out, B1.out⟩
  case round =>
    obtain ⟨k, hk, rfl, hown, hbel⟩ := hrel
    have OW := Lib.hid hown
    have BW := Lib.hid hbel
    have sz := hbel.size
    clear hown hbel
    by_cases hlt : k < s.size
    · have hroom := esc_room s k hlt
      rw [← HE.out] at hroom
      have HP := Lib.hid (pre_succ s k hlt)
      by_cases hc : s[k] = 0
      · rw [if_pos hc] at hroom
        have hb1 : (l ++ escT (pre s k)).length + 2 ≤ 140737488355328 := by rw [List.length_append]; omega
        have t1 : ((s[k].toNat : Int) == 0) = true := by rw [hc]; rfl
        have HC := Lib.hid hc
        have HB := Lib.hid hb1
        clear hc hroom hb1
        go_wp2_with (first
          | (at_builtin; refine wpList_app _ rfl (.tmp 15) (.tmp 19) rfl w.heap.size _ (l ++ escT (pre s k)) rfl (OW.out.alloc _) _ 1 1 [s[k]] rfl (at_one _ _ _ rfl) (fun h => by cases h) rfl (by have := HB.out; simp at this ⊢; omega) (by simp; omega) w (below_alloc BW.out sz _) ?_; intro v2 w2 ho2 hb2 _ _; have O2 := Lib.hid ho2; have B2 := Lib.hid hb2; clear ho2 hb2)
          | (at_builtin; refine wpList_app _ rfl (.tmp 25) (.tmp 26) rfl w.heap.size v2 (l ++ escT (pre s k) ++ [s[k]]) rfl (O2.out.alloc _) _ 1 1 [255] rfl (at_one _ _ _ rfl) (fun h => by cases h) rfl (by have := HB.out; simp at this ⊢; omega) (by have := B2.out.size; simp; omega) w (below_alloc B2.out B2.out.size _) ?_; intro v3 w3 ho3 hb3 _ _))
        refine ⟨⟨k + 1, by omega, by go_num, ?_, hb3⟩, by simp [intOf]; omega⟩
        rw [HP.out, escT_append, esc_one, if_pos HC.out, ← List.append_assoc]
        rw [HC.out] at ho3
        simpa using ho3
      · rw [if_neg hc] at hroom
        have hb1 : (l ++ escT (pre s k)).length + 1 ≤ 140737488355328 := by rw [List.length_append]; omega
        have t1 : ((s[k].toNat : Int) == 0) = false := by
          simp
          intro h
          exact hc (UInt8.toNat_inj.1 (by simpa using h))
        have HC := Lib.hid hc
        have HB := Lib.hid hb1
        clear hc hroom hb1
        go_wp2_with (at_builtin; refine wpList_app _ rfl (.tmp 15) (.tmp 19) rfl w.heap.size _ (l ++ escT (pre s k)) rfl (OW.out.alloc _) _ 1 1 [s[k]] rfl (at_one _ _ _ rfl) (fun h => by cases h) rfl (by have := HB.out; simp at this ⊢; omega) (by simp; omega) w (below_alloc BW.out sz _) ?_; intro v2 w2 ho2 hb2 _ _)
        refine ⟨⟨k + 1, by omega, by go_num, ?_, hb2⟩, by simp [intOf]; omega⟩
        rw [HP.out, escT_append, esc_one, if_neg HC.out, ← List.append_assoc]
        exact ho2
    · obtain rfl : k = s.size := by omega
      have HPA := Lib.hid (pre_all s)
      rw [HPA.out] at OW
      have hb1 : Hid ((l ++ escT s.data.toList).length + 2 ≤ 140737488355328) := by show _ ≤ _; rw [List.length_append, ← HE.out]; omega
      go_wp2_with (at_builtin; refine wpList_app _ rfl (.tmp 28) (.tmp 29) rfl w.heap.size _ (l ++ escT s.data.toList) rfl (OW.out.alloc _) _ 2 2 [0, 0] rfl (at_new _ _ _ rfl) (fun h => by cases h) rfl (by have := hb1.out; simp at this ⊢; omega) (by simp; omega) w (below_alloc BW.out sz _) ?_; intro v2 w2 ho2 hb2 _ _)
      go_ret
      refine ⟨v2, rfl, ?_, hb2⟩
      rw [encText, ← List.append_assoc]
      exact ho2
/-- What the document's Float gives back. -/
def TellsF (w : World) (l : List UInt8) (e : Ending) (w' : World) : Prop := ∃ v, e = .returned (.tuple #[v, .int .i64 0]) ∧ Own1 w.heap.size w' v l ∧ Below w.heap.size w w'
set_option maxRecDepth 100000 in
set_option maxHeartbeats 2000000 in
theorem refFloat_no (A : Option Addr) (l : List UInt8) (cap f : Nat) (w : World) (hf : f < 18446744073709551616) (h : canonF f ≠ f) :
    Calls Try.prog 7 #[.slice A l.length cap, .float .f64 f] w fun e w' => e = .returned (.tuple #[.slice none 0 0, .int .i64 1]) ∧ w = w' := by
  have C := Lib.hid (fun w => refCanon_any f w hf)
  have hfb := call_Float64bits
  have t1 : ((f : Int) != (canonF f : Nat)) = true := by simp; omega
  generalize canonF f = c at *
  clear hf h
  go_enter Try.func7, Try.ntmps7
  go_wp2_with (go_at_call 36; ((with_reducible refine (C.out _).mono ?_); rintro e w' ⟨rfl, rfl⟩))
  go_ret2
  exact ⟨rfl, rfl⟩
set_option maxRecDepth 100000 in
set_option maxHeartbeats 4000000 in
theorem refFloat_yes (A : Option Addr) (l : List UInt8) (cap f : Nat) (w : World) (hf : f < 18446744073709551616) (h : canonF f = f) (hA : At w A l) (hz : A = none → cap = 0) (hm : l.length + 9 ≤ 140737488355328) :
    Calls Try.prog 7 #[.slice A l.length cap, .float .f64 f] w (TellsF w (l ++ encFloat f)) := by
  have C := Lib.hid (fun w => refCanon_any f w hf)
  have CO := Lib.hid (refOwn_any A l cap w hA hz (by omega))
  rw [h] at C
  have HE : Hid (encFloat f = digs (placeF f) 8) := rfl
  have HN := Lib.hid (placeF_lt f hf)
  have HT := Lib.hid (digs_take (placeF f) 8)
  have HP : Hid (placeF f = if f < 9223372036854775808 then f + 9223372036854775808 else 18446744073709551615 - f) := rfl
  have hl8 : (digs (placeF f) 8).length = 8 := digs_length _ _
  generalize encFloat f = En at *
  generalize placeF f = P at *
  clear h hA hz
  obtain ⟨z, hzf⟩ : ∃ z : Int, (f : Int) = z := ⟨_, rfl⟩
  have hfb : ∀ w, (callFunc 35 #[.float .f64 f]).run Try.prog w = .ok (.value (.int .u64 z)) w := fun w => hzf ▸ call_Float64bits f w
  have t1 : (z != z) = false := by simp
  have hcase : (z < 9223372036854775808 ∧ z + 9223372036854775808 = (P : Int)) ∨ (¬ z < 9223372036854775808 ∧ 18446744073709551615 - z = (P : Int)) := by
    rw [HP.out, ← hzf]
    by_cases h63 : f < 9223372036854775808
    · rw [if_pos h63]; left; omega
    · rw [if_neg h63]; right; omega
  have j0 : (0 : Int) ≤ z := by omega
  have j1 : z ≤ 18446744073709551615 := by omega
  clear hf HP hzf
  obtain ⟨p, hp⟩ : ∃ p : Int, (P : Int) = p := ⟨_, rfl⟩
  rw [hp] at hcase
  have hP : p ≤ 18446744073709551615 := by have := HN.out; omega
  have hP0 : 0 ≤ p := by omega
  have HPP := Lib.hid hp
  clear hp
  rcases hcase with ⟨i1, i2⟩ | ⟨i1, i2⟩
  all_goals
    go_enter Try.func7, Try.ntmps7
    go_wp2_with (first
      | (go_at_call 36; ((with_reducible refine (C.out _).mono ?_); rintro e w' ⟨rfl, rfl⟩))
      | (go_at_call 5; (refine (CO.out).mono ?_); rintro e w1 ⟨v1, rfl, ho1, hb1⟩; have O1 := Lib.hid ho1; have B1 := Lib.hid hb1; clear ho1 hb1))
    go_loopw [7, 8] (fun v i wr => ∃ k : Nat, k ≤ 8 ∧ i = .int .i64 k ∧ Own1 w.heap.size wr v (l ++ (digs P 8).take k) ∧ Below w.heap.size w wr) (fun _ i _ => 8 - (intOf i).toNat)
    case atStart => exact ⟨0, Nat.zero_le _, rfl, by simpa using O1.out, B1.out⟩
    case round =>
      obtain ⟨k, hk, rfl, hown, hbel⟩ := hrel
      have OW := Lib.hid hown
      have BW := Lib.hid hbel
      have sz := hbel.size
      clear hown hbel
      by_cases hlt : k < 8
      · obtain ⟨d, hd⟩ : ∃ d : Nat, 56 - 8 * k = d := ⟨_, rfl⟩
        have hpow : 256 ^ (8 - 1 - k) = 2 ^ d := by rw [show (256 : Nat) = 2 ^ 8 from rfl, ← Nat.pow_mul]; congr 1; omega
        have HT1 := Lib.hid (HT.out k hlt)
        rw [hpow] at HT1
        have i7 : (k : Int) < 8 := by omega
        have i8 : IntKind.i64.wrap (8 * (k : Int)) = 8 * (k : Int) := IntWalk.i64_in _ (by omega)
        have i3 : IntKind.i64.wrap (56 - 8 * (k : Int)) = (d : Int) := by rw [IntWalk.i64_in _ (by omega)]; omega
        have i4 : 56 - 8 * (k : Int) = (d : Int) := by omega
        have i5 : (0 : Int) ≤ (d : Int) := by omega
        have i6 : (d : Int) ≤ 64 := by omega
        have hlen : Hid ((l ++ (digs P 8).take k).length + 1 ≤ 140737488355328) := by show _ ≤ _; rw [List.length_append, List.length_take]; omega
        have hv : Hid (((UInt8.ofNat (P / 2 ^ d)).toNat : Int) = p / 2 ^ d % 256) := by show _ = _; rw [byte_ofNat, ← HPP.out]; simp
        go_wp2_with (at_builtin; refine wpList_app _ rfl (.tmp 28) (.tmp 35) rfl w.heap.size _ (l ++ (digs P 8).take k) rfl (OW.out.alloc _) _ 1 1 [UInt8.ofNat (P / 2 ^ d)] rfl (at_one _ _ _ (by rw [hv.out])) (fun h => by cases h) rfl (by have := hlen.out; simp at this ⊢; omega) (by simp; omega) w (below_alloc BW.out sz _) ?_; intro v2 w2 ho2 hb2 _ _)
        exact ⟨⟨k + 1, by omega, by go_num, by rw [HT1.out, ← List.append_assoc]; exact ho2, hb2⟩, by simp [intOf]; omega⟩
      · obtain rfl : k = 8 := by omega
        go_wp2
        go_ret2
        refine ⟨_, rfl, ?_, BW.out⟩
        have h := OW.out
        rw [List.take_of_length_le (by omega)] at h
        rw [HE.out]
        exact h
end Go.Proofs.Ythkmljegjgahgaa
