/- The document's Int below 0, Text. -/
import Derived.Test.YthkmljegjgahgaaR2
namespace Go.Proofs.Ythkmljegjgahgaa
open Go.RowKit
theorem flip_take (l : List UInt8) (j : Nat) (h : j < l.length) : flip8 (l.take (j + 1)) = flip8 (l.take j) ++ [255 - l.getD j 0] := by
  rw [List.take_succ_eq_append_getElem h]
  unfold flip8
  rw [List.map_append, List.map_cons, List.map_nil, show l.getD j 0 = l[j] by simp [List.getD, h]]
set_option maxRecDepth 100000 in
set_option maxHeartbeats 4000000 in
theorem refInt_neg (A : Option Addr) (l : List UInt8) (cap m : Nat) (w : World) (hn : m < 2 ^ 63) (hA : At w A l) (hz : A = none → cap = 0) (hm : l.length + 9 ≤ 140737488355328) :
    Calls Try.prog 13 #[.slice A l.length cap, .int .i64 (-(m : Int) - 1)] w (Tells w (l ++ encInt (-(m : Int) - 1))) := by
  have CD := Lib.hid (refdigits_any m w (by omega))
  have CO := Lib.hid (fun w' (hb : Below w.heap.size w w') => refOwn_any A l cap w' (hA.below hb) hz (by omega))
  have h8 := nlen_8 m (by omega)
  have hlen : Hid ((digs m (nlen m)).length = nlen m) := digs_length m _
  have HE : Hid (l ++ encInt (-(m : Int) - 1) = l ++ [UInt8.ofNat (15 - nlen m)] ++ flip8 (digs m (nlen m))) := by show _ = _; rw [encInt_neg]; simp
  have HT := Lib.hid (flip_take (digs m (nlen m)))
  generalize encInt (-(m : Int) - 1) = En at *
  obtain ⟨z, hzz⟩ : ∃ z : Int, -(m : Int) - 1 = z := ⟨_, rfl⟩
  rw [hzz]
  have i1 : ¬ (0 : Int) ≤ z := by omega
  have i2 : IntKind.i64.wrap (z + 1) = -(m : Int) := by rw [IntWalk.i64_in _ (by omega)]; omega
  have i3 : z + 1 = -(m : Int) := by omega
  have i4 : -(-(m : Int)) = (m : Int) := by omega
  have i5 : (m : Int) ≤ 9223372036854775807 := by omega
  clear hn hA hz hzz
  generalize nlen m = k at *
  generalize digs m k = dl at *
  go_enter Try.func13, Try.ntmps13
  go_wp2_with fail
  refine (CD.out).mono ?_
  rintro e w1 ⟨vd, rfl, hod, hbd⟩
  obtain ⟨D, cD, rfl, zD, _, hD⟩ := hod.at
  rw [hlen.out]
  go_wp2_with fail
  refine (CO.out _ hbd).mono ?_
  rintro e w2 ⟨v2, rfl, ho2, hb2⟩
  have HD1 := Lib.hid hD
  have B2 := Lib.hid hb2
  have O2 := Lib.hid ho2
  have BD := Lib.hid hbd
  have ZD := Lib.hid zD
  clear hD hb2 ho2 hod hbd zD
  have j1 : IntKind.i64.wrap (15 - (k : Int)) = 15 - (k : Int) := IntWalk.i64_in _ (by omega)
  have j2 : (15 - (k : Int)) % 256 = ((15 - k : Nat) : Int) := by omega
  have j3 : IntKind.u8.wrap (15 - (k : Int)) = ((15 - k : Nat) : Int) := by rw [IntKind.wrap_u8]; omega
  go_wp2_with (at_builtin; refine wpList_app _ rfl (.tmp 32) (.tmp 37) rfl w1.heap.size v2 l rfl (O2.out.alloc _) _ 1 1 [UInt8.ofNat (15 - k)] rfl (at_one _ _ _ (by rw [byte_ofNat]; omega)) (fun h => by cases h) rfl (by simp; omega) (by have := B2.out.size; simp; omega) w1 (below_alloc B2.out B2.out.size _) ?_; intro v3 w3 ho3 hb3 _ _; have O3 := Lib.hid ho3; have B3 := Lib.hid hb3; clear ho3 hb3)
  go_loopw [8, 9] (fun v i wr => ∃ j : Nat, j ≤ k ∧ i = .int .i64 j ∧ Own1 w1.heap.size wr v (l ++ [UInt8.ofNat (15 - k)] ++ flip8 (dl.take j)) ∧ Below w1.heap.size w1 wr) (fun _ i _ => k - (intOf i).toNat)
  case atStart => exact ⟨0, Nat.zero_le _, rfl, by simpa [flip8] using O3.out, B3.out⟩
  case round =>
    obtain ⟨j, hj, rfl, hown, hbel⟩ := hrel
    by_cases hlt : j < k
    · obtain ⟨b, off, rfl, hb, hc⟩ := HD1.out (by rw [hlen.out]; omega)
      have q := (hbel.cell (p := ⟨b, off + j, none⟩) hb).trans (hc j (by rw [hlen.out]; omega))
      have HF := Lib.hid (HT.out j (by rw [hlen.out]; omega))
      have OW := Lib.hid hown
      have BW := Lib.hid hbel
      have sz := hbel.size
      have hl : Hid ((l ++ [UInt8.ofNat (15 - k)] ++ flip8 (dl.take j)).length = l.length + 1 + j) := by
        show _ = _
        rw [List.length_append, List.length_append, flip8_length, List.length_take, hlen.out]
        simp
        omega
      unfold bv at q
      clear hown hbel hc
      generalize dl.getD j 0 = x at *
      have hx := x.toNat_lt
      have i6 : (j : Int) < (k : Int) := by omega
      have i7 : (0 : Int) ≤ (j : Int) := by omega
      go_wp2_with (at_builtin; refine wpList_app _ rfl (.tmp 45) (.tmp 51) rfl w1.heap.size _ (l ++ [UInt8.ofNat (15 - k)] ++ flip8 (dl.take j)) rfl (OW.out.alloc _) _ 1 1 [255 - x] rfl (at_one _ _ _ (by rw [byte_flip]; omega)) (fun h => by cases h) rfl (by rw [hl.out]; simp; omega) (by simp; omega) w1 (below_alloc BW.out sz _) ?_; intro v4 w4 ho4 hb4 _ _)
      exact ⟨⟨j + 1, by omega, by go_num, by rw [HF.out, ← List.append_assoc]; exact ho4, hb4⟩, by simp [intOf]; omega⟩
    · obtain rfl : j = k := by omega
      have OW := Lib.hid hown
      have BW := Lib.hid hbel
      clear hown hbel
      go_wp2
      go_ret
      refine ⟨_, rfl, ?_, BD.out.trans (BW.out.mono BD.out.size)⟩
      rw [HE.out]
      have h := OW.out
      rw [List.take_of_length_le (by rw [hlen.out]; exact Nat.le_refl _)] at h
      exact h.weaken BD.out.size
theorem refInt_any (A : Option Addr) (l : List UInt8) (cap : Nat) (n : Int) (w : World) (hn : fits n) (hA : At w A l) (hz : A = none → cap = 0) (hm : l.length + 9 ≤ 140737488355328) :
    Calls Try.prog 13 #[.slice A l.length cap, .int .i64 n] w (Tells w (l ++ encInt n)) := by
  unfold fits at hn
  by_cases h : 0 ≤ n
  · obtain ⟨k, rfl⟩ := Int.eq_ofNat_of_zero_le h
    exact refInt_pos A l cap k w (by omega) hA hz hm
  · obtain ⟨k, hk⟩ : ∃ k : Nat, n = -(k : Int) - 1 := ⟨(-(n + 1)).toNat, by omega⟩
    subst hk
    exact refInt_neg A l cap k w (by omega) hA hz hm
end Go.Proofs.Ythkmljegjgahgaa
