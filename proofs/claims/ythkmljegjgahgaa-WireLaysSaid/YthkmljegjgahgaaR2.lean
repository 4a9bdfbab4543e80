/- The document's Num, Int, Text. -/
import Derived.Test.YthkmljegjgahgaaR1
namespace Go.Proofs.Ythkmljegjgahgaa
open Go.RowKit
theorem Own1.weaken {base c : Nat} {w : World} {v : Value} {l : List UInt8} (h : Own1 base w v l) (hc : c ≤ base) : Own1 c w v l :=
  ⟨h.1, h.2.imp id fun ⟨g, cap, cur, h1, h2, h3⟩ => ⟨g, cap, cur, h1, Nat.le_trans hc h2, h3⟩⟩
/-- What a call of the document's gives back: a slice of its own, with these bytes. -/
def Tells (w : World) (l : List UInt8) (e : Ending) (w' : World) : Prop := ∃ v, e = .returned v ∧ Own1 w.heap.size w' v l ∧ Below w.heap.size w w'
set_option maxRecDepth 100000 in
set_option maxHeartbeats 2000000 in
theorem refNum_any (A : Option Addr) (l : List UInt8) (cap n : Nat) (w : World) (hn : n < 2 ^ 64) (hA : At w A l) (hz : A = none → cap = 0) (hm : l.length + 9 ≤ 140737488355328) :
    Calls Try.prog 12 #[.slice A l.length cap, .int .u64 n] w (Tells w (l ++ encNum n)) := by
  have CD := Lib.hid (refdigits_any n w hn)
  have CO := Lib.hid (fun w' (hb : Below w.heap.size w w') => refOwn_any A l cap w' (hA.below hb) hz (by omega))
  have h8 := nlen_8 n hn
  have hlen : Hid ((digs n (nlen n)).length = nlen n) := digs_length n _
  have HE : Hid (l ++ encNum n = l ++ [UInt8.ofNat (nlen n)] ++ digs n (nlen n)) := by show _ = _; simp [encNum]
  clear hn hA hz
  generalize nlen n = k at *
  generalize encNum n = En at *
  go_enter Try.func12, Try.ntmps12
  go_wp2_with fail
  refine (CD.out).mono ?_
  rintro e w1 ⟨vd, rfl, hod, hbd⟩
  obtain ⟨D, cD, rfl, zD, _, hD⟩ := hod.at
  rw [hlen.out]
  go_wp2_with fail
  refine (CO.out _ hbd).mono ?_
  rintro e w2 ⟨v2, rfl, ho2, hb2⟩
  have HD1 := Lib.hid hD
  have B2 := Lib.hid hb2
  have O2 := Lib.hid ho2
  have BD := Lib.hid hbd
  have ZD := Lib.hid zD
  clear hD hb2 ho2 hod hbd zD
  go_wp2_with (first
    | (at_builtin; refine wpList_app _ rfl (.tmp 10) (.tmp 14) rfl w1.heap.size v2 l rfl (O2.out.alloc _) _ 1 1 [UInt8.ofNat k] rfl (at_one _ _ _ (by rw [byte_ofNat]; omega)) (fun h => by cases h) rfl (by simp; omega) (by have := B2.out.size; simp; omega) w1 (below_alloc B2.out B2.out.size _) ?_; intro v3 w3 ho3 hb3 _ _; have O3 := Lib.hid ho3; have B3 := Lib.hid hb3; clear ho3 hb3)
    | (at_builtin; refine wpList_app _ rfl (.tmp 16) (.tmp 17) rfl w1.heap.size v3 (l ++ [UInt8.ofNat k]) rfl O3.out D _ cD (digs n k) rfl (HD1.out.below B3.out) ZD.out (hlen.out) (by rw [hlen.out]; simp; omega) B3.out.size w1 B3.out ?_; intro v4 w4 ho4 hb4 _ _))
  go_ret
  refine ⟨v4, rfl, ?_, BD.out.trans (hb4.mono BD.out.size)⟩
  rw [HE.out]
  exact ho4.weaken BD.out.size
set_option maxRecDepth 100000 in
set_option maxHeartbeats 2000000 in
theorem refInt_pos (A : Option Addr) (l : List UInt8) (cap n : Nat) (w : World) (hn : n < 2 ^ 63) (hA : At w A l) (hz : A = none → cap = 0) (hm : l.length + 9 ≤ 140737488355328) :
    Calls Try.prog 13 #[.slice A l.length cap, .int .i64 n] w (Tells w (l ++ encInt n)) := by
  have CD := Lib.hid (refdigits_any n w (by omega))
  have CO := Lib.hid (fun w' (hb : Below w.heap.size w w') => refOwn_any A l cap w' (hA.below hb) hz (by omega))
  have h8 := nlen_8 n (by omega)
  have hlen : Hid ((digs n (nlen n)).length = nlen n) := digs_length n _
  have HE : Hid (l ++ encInt (n : Int) = l ++ [UInt8.ofNat (16 + nlen n)] ++ digs n (nlen n)) := by show _ = _; rw [encInt_pos]; simp
  have i1 : (0 : Int) ≤ (n : Int) := by omega
  have i2 : (n : Int) ≤ 9223372036854775807 := by omega
  clear hn hA hz
  generalize nlen n = k at *
  generalize encInt (n : Int) = En at *
  go_enter Try.func13, Try.ntmps13
  go_wp2_with fail
  refine (CD.out).mono ?_
  rintro e w1 ⟨vd, rfl, hod, hbd⟩
  obtain ⟨D, cD, rfl, zD, _, hD⟩ := hod.at
  rw [hlen.out]
  go_wp2_with fail
  refine (CO.out _ hbd).mono ?_
  rintro e w2 ⟨v2, rfl, ho2, hb2⟩
  have HD1 := Lib.hid hD
  have B2 := Lib.hid hb2
  have O2 := Lib.hid ho2
  have BD := Lib.hid hbd
  have ZD := Lib.hid zD
  clear hD hb2 ho2 hod hbd zD
  go_wp2_with (first
    | (at_builtin; refine wpList_app _ rfl (.tmp 16) (.tmp 21) rfl w1.heap.size v2 l rfl (O2.out.alloc _) _ 1 1 [UInt8.ofNat (16 + k)] rfl (at_one _ _ _ (by rw [byte_ofNat]; omega)) (fun h => by cases h) rfl (by simp; omega) (by have := B2.out.size; simp; omega) w1 (below_alloc B2.out B2.out.size _) ?_; intro v3 w3 ho3 hb3 _ _; have O3 := Lib.hid ho3; have B3 := Lib.hid hb3; clear ho3 hb3)
    | (at_builtin; refine wpList_app _ rfl (.tmp 23) (.tmp 24) rfl w1.heap.size v3 (l ++ [UInt8.ofNat (16 + k)]) rfl O3.out D _ cD (digs n k) rfl (HD1.out.below B3.out) ZD.out (hlen.out) (by rw [hlen.out]; simp; omega) B3.out.size w1 B3.out ?_; intro v4 w4 ho4 hb4 _ _))
  go_ret
  refine ⟨v4, rfl, ?_, BD.out.trans (hb4.mono BD.out.size)⟩
  rw [HE.out]
  exact ho4.weaken BD.out.size
end Go.Proofs.Ythkmljegjgahgaa
