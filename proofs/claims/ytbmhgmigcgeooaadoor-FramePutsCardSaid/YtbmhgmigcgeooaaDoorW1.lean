/- The statement FramePuts, walked. -/
import Derived.Test.YtbmhgmigcgeooaaDoorR1
namespace Go.Proofs.YtbmhgmigcgeooaaDoor
open Go.RowKit
theorem flip_val (x : UInt8) : bits .xor .u8 (x.toNat : Int) 255 = ((x ^^^ 255).toNat : Int) := by
  have h : ∀ a : Fin 256, bits .xor .u8 (a.val : Int) 255 = (((UInt8.ofNat a.val) ^^^ 255).toNat : Int) := by decide +kernel
  have := h ⟨x.toNat, x.toNat_lt⟩
  simpa using this
theorem AtN (w : World) (A : Option Addr) (l : List UInt8) (k : Nat) (h : At w A l) : At w A (l.take k) := take_at k h
set_option maxRecDepth 100000 in
set_option maxHeartbeats 4000000 in
theorem FramePuts_ok (f : Fr) (hf : f.ok) (l0 : List UInt8) (hl : l0.take (min l0.length 3000) = f.l) (A : Option Addr) (cap : Nat) (w : World) (hE : Env w) (hA : At w A l0) (hz : A = none → cap = 0) (hc : l0.length ≤ cap) (hm : l0.length ≤ 140737488355328) :
    Calls Tryd.prog 3 #[.int .i64 (f.k : Int), .slice A l0.length cap] w fun e w' => e = .returned (.bool true) ∧ Below w.heap.size w w' := by
  have hlen : f.l.length = l0.length := by
    have := congrArg List.length hl
    rw [List.length_take] at this
    have := hf.2.2
    omega
  have hmi : min (l0.length : Int) 3000 = (l0.length : Int) := by have := hf.2.2; omega
  have hl2 : l0 = f.l := by
    rw [← hl, List.take_of_length_le (by have := hf.2.2; omega)]
  subst hl2
  have HE := Lib.hid hE
  have HA := Lib.hid hA
  have HZ := Lib.hid hz
  have hci : (f.l.length : Int) ≤ (cap : Int) := by omega
  clear hE hA hz hc hl hlen hm
  go_enter Tryd.func3, Tryd.ntmps3
  go_upto_region 3 with (first
    | (at_builtin; refine wpList_app _ rfl (.tmp 17) (.tmp 18) rfl w.heap.size (.slice (some ⟨w.heap.size, 0, none⟩) 0 0) [] rfl (Own1.made _ _ (Nat.le_refl _)) A f.l.length cap f.l rfl (HA.out.below ((Below.refl _ _).alloc (Nat.le_refl _) _)) HZ.out rfl (by simp; have := hf.2.2; omega) (by simp) w ((Below.refl _ _).alloc (Nat.le_refl _) _) ?_; intro v1 w1 ho1 hb1 _ _; have B1 := Lib.hid hb1; obtain ⟨A1, c1, rfl, z1, p1, l1, a1⟩ := Own1.plain ho1; clear ho1 hb1)
    | fail)
  have HP := Lib.hid (Put_ok f hf A1 c1 w1 (HE.out.below B1.out) a1 z1)
  have HA1 := Lib.hid a1
  have HS := Lib.hid (show sizeV (f.k : Int) f.l.length = (putL f).length by
    obtain ⟨h1, h2, h3⟩ := hf
    rw [putL_length, Fr.size, sizeV, if_pos (by rw [refE, if_pos (by omega), if_neg (by omega)])])
  have hF2 : f.l.length ≤ 2048 := hf.2.2
  have HF := Lib.hid hf
  clear a1 z1 l1 p1 hf hmi
  have hpb : (putL f).length ≤ 2055 := by rw [putL_length, Fr.size]; omega
  generalize hpl : putL f = pl at *
  have HPL := Lib.hid hpl
  clear hpl
  go_upto_region 6 with (first
    | (go_at_call 8; ((with_reducible refine (HP.out).mono ?_); rintro e2 w2 ⟨g, c2, rfl, ho2, hb2⟩; have M2 := Lib.hid (own_mine ho2); have B2 := Lib.hid (B1.out.trans (hb2.mono B1.out.size)); have S2 := Lib.hid hb2; clear ho2 hb2))
    | (go_at_call 9; ((with_reducible refine (rPut_ok f HF.out A cap w2 (HA.out.below B2.out) HZ.out).mono ?_); rintro e3 w3 ⟨v3, rfl, ho3, hb3⟩; rw [HPL.out] at ho3; have B3 := Lib.hid (B2.out.trans (hb3.mono B2.out.size)); have M3 := Lib.hid (M2.out.below hb3); have S3 := Lib.hid (S2.out.trans (hb3.mono S2.out.size)); obtain ⟨A3, c3, rfl, z3, p3, l3, a3⟩ := Own1.plain ho3; clear ho3 hb3 z3 p3 l3))
    | (go_at_call 10; ((with_reducible refine (Equal_any _ _ pl pl _ _ _ _ _ M3.out.at_ a3 rfl rfl).mono ?_); rintro e4 w4 ⟨rfl, rfl⟩))
    | fail)
  clear a3
  go_wp2
  go_loopw [39] (fun i wr => ∃ (j : Nat) (L : List UInt8), j ≤ pl.length ∧ i = .int .i64 j ∧ L.length = pl.length ∧ Mine w1.heap.size wr g L ∧ Below w1.heap.size w1 wr) (fun i _ => pl.length - (intOf i).toNat)
  case atStart => exact ⟨0, pl, Nat.zero_le _, rfl, rfl, M3.out, S3.out⟩
  case round =>
    obtain ⟨j, L, hj, rfl, hL, hM, hS⟩ := hrel
    by_cases hlt : j < pl.length
    · have hcj := hM.cell j (by omega)
      have hfj := hM.free j
      unfold bv at hcj
      have hx := flip_val (L.getD j 0)
      have hM2 := set_bytes hM j (L.getD j 0 ^^^ 255)
      have hS2 := below_set hS hM.ge j (bv (L.getD j 0 ^^^ 255))
      unfold bv at hM2 hS2
      have HM2 := Lib.hid hM2
      have HS2 := Lib.hid hS2
      have hb8 := (L.getD j 0).toNat_lt
      clear hM hS hM2 hS2
      generalize L.getD j 0 = y at *
      go_wp2
      exact ⟨⟨j + 1, L.set j (y ^^^ 255), by omega, by go_num, by rw [List.length_set]; exact hL, HM2.out, HS2.out⟩, by simp [intOf]; omega⟩
    · obtain rfl : j = pl.length := by omega
      have BW := Lib.hid (B1.out.trans (hS.mono B1.out.size))
      have HBo := Lib.hid (HA1.out.below hS)
      have HAb := Lib.hid (HA.out.below BW.out)
      have HEw := Lib.hid (HE.out.below BW.out)
      have CZ := Lib.hid (fun W => Size_any (f.k : Int) A f.l.length cap W (by omega))
      rw [HS.out] at CZ
      clear hM hS
      go_wp2_with (first
        | (go_at_call 11; ((with_reducible refine (awake_any wr HEw.out).mono ?_); rintro e5 w5 ⟨rfl, hb5⟩; have B5 := Lib.hid hb5; clear hb5))
        | (go_at_call 12; ((with_reducible refine (CZ.out _).mono ?_); rintro e6 w6 ⟨rfl, hb6⟩; have B6 := Lib.hid (B5.out.trans (hb6.mono B5.out.size)); clear hb6))
        | (go_at_call 10; ((with_reducible refine (Equal_any _ _ f.l f.l _ _ _ _ _ (HBo.out.below B6.out) (HAb.out.below B6.out) rfl rfl).mono ?_); rintro e4 w4 ⟨rfl, rfl⟩))
        | fail)
      go_ret
      exact ⟨rfl, BW.out.trans (B6.out.mono BW.out.size)⟩
set_option maxRecDepth 100000 in
set_option maxHeartbeats 4000000 in
theorem FramePuts_no (k : Int) (l0 l : List UInt8) (hl : l0.take (min l0.length 3000) = l) (hr : refE k l.length ≠ 0) (A : Option Addr) (cap : Nat) (w : World) (hE : Env w) (hA : At w A l0) (hz : A = none → cap = 0) (hc : l0.length ≤ cap) (hm : l0.length ≤ 140737488355328) :
    Calls Tryd.prog 3 #[.int .i64 k, .slice A l0.length cap] w fun e w' => e = .returned (.bool true) ∧ Below w.heap.size w w' := by
  have hlen : l.length = min l0.length 3000 := by rw [← hl, List.length_take]; omega
  have hmi : min (l0.length : Int) 3000 = (l.length : Int) := by omega
  have HE := Lib.hid hE
  have HA := Lib.hid (show At w A l from hl ▸ take_at _ hA)
  have HZ := Lib.hid hz
  have hci : (l.length : Int) ≤ (cap : Int) := by omega
  have hll : l.length ≤ 3000 := by omega
  have HS := Lib.hid (show sizeV k l.length = 0 by rw [sizeV, if_neg hr])
  have HP := Lib.hid hr
  have t0 : ((refE k l.length : Nat) : Int) ≠ 0 := by omega
  clear hE hA hz hc hl hlen hm hr
  go_enter Tryd.func3, Tryd.ntmps3
  go_upto_region 2 with fail
  try rw [hmi]
  clear hmi
  go_upto_region 3 with (first
    | (at_builtin; refine wpList_app _ rfl (.tmp 17) (.tmp 18) rfl w.heap.size (.slice (some ⟨w.heap.size, 0, none⟩) 0 0) [] rfl (Own1.made _ _ (Nat.le_refl _)) A l.length cap l rfl (HA.out.below ((Below.refl _ _).alloc (Nat.le_refl _) _)) HZ.out rfl (by simp; omega) (by simp) w ((Below.refl _ _).alloc (Nat.le_refl _) _) ?_; intro v1 w1 ho1 hb1 _ _; have B1 := Lib.hid hb1; obtain ⟨A1, c1, rfl, z1, p1, l1, a1⟩ := Own1.plain ho1; clear ho1 hb1)
    | fail)
  have HA1 := Lib.hid a1
  clear a1 z1 l1 p1
  have CP := Lib.hid (Put_no k A1 l.length c1 w1 (by omega) HP.out)
  have CR := Lib.hid (fun W => rPut_no k A l.length cap W (by omega) HP.out)
  have CZ := Lib.hid (fun W => Size_any k A l.length cap W (by omega))
  rw [HS.out] at CZ
  clear HP HS
  generalize refE k l.length = z at *
  go_upto_region 6 with (first
    | (go_at_call 8; ((with_reducible refine (CP.out).mono ?_); rintro e2 w2 ⟨rfl, hb2⟩; have B2 := Lib.hid (B1.out.trans (hb2.mono B1.out.size)); have S2 := Lib.hid hb2; clear hb2))
    | (go_at_call 9; ((with_reducible refine (CR.out _).mono ?_); rintro e3 w3 ⟨rfl, hb3⟩; have B3 := Lib.hid (B2.out.trans (hb3.mono B2.out.size)); have S3 := Lib.hid (S2.out.trans (hb3.mono S2.out.size)); clear hb3))
    | (go_at_call 10; ((with_reducible refine (Equal_any none none [] [] 0 0 0 0 _ (at_nil _ _) (at_nil _ _) rfl rfl).mono ?_); rintro e4 w4 ⟨rfl, rfl⟩))
    | fail)
  have HBo := Lib.hid (HA1.out.below S3.out)
  have HAb := Lib.hid (HA.out.below B3.out)
  have HEw := Lib.hid (HE.out.below B3.out)
  go_wp2
  go_loopw [39] (fun i wr => i = .int .i64 0 ∧ wr = w3) (fun _ _ => 0)
  case atStart => exact ⟨rfl, rfl⟩
  case round =>
    obtain ⟨rfl, rfl⟩ := hrel
    go_wp2_with (first
      | (go_at_call 11; ((with_reducible refine (awake_any wr HEw.out).mono ?_); rintro e5 w5 ⟨rfl, hb5⟩; have B5 := Lib.hid hb5; clear hb5))
      | (go_at_call 12; ((with_reducible refine (CZ.out _).mono ?_); rintro e6 w6 ⟨rfl, hb6⟩; have B6 := Lib.hid (B5.out.trans (hb6.mono B5.out.size)); clear hb6))
      | (go_at_call 10; ((with_reducible refine (Equal_any _ _ l l _ _ _ _ _ (HBo.out.below B6.out) (HAb.out.below B6.out) rfl rfl).mono ?_); rintro e4 w4 ⟨rfl, rfl⟩))
      | fail)
    go_ret
    exact ⟨rfl, B3.out.trans (B6.out.mono B3.out.size)⟩
theorem FramePuts_walk (k : Int) (A : Option Addr) (cap : Nat) (l0 : List UInt8) (w : World) (hA : At w A l0) (hz : A = none → cap = 0) (hm : l0.length + 4 ≤ 140737488355328) (hc : l0.length ≤ cap) (hE : Env w) :
    Calls Tryd.prog 3 #[.int .i64 k, .slice A l0.length cap] w fun e w' => e = .returned (.bool true) ∧ Below w.heap.size w w' := by
  by_cases hr : refE k (l0.take (min l0.length 3000)).length = 0
  · have h1 : 1 ≤ k ∧ k ≤ 3 := by
      refine Decidable.byContradiction fun h => ?_
      rw [refE, if_neg h] at hr
      cases hr
    have h2 : (l0.take (min l0.length 3000)).length ≤ 2048 := by
      refine Nat.le_of_not_lt fun h => ?_
      rw [refE, if_pos h1, if_pos h] at hr
      cases hr
    have e : ((k.toNat : Nat) : Int) = k := by omega
    have := FramePuts_ok ⟨k.toNat, l0.take (min l0.length 3000)⟩ ⟨by show 1 ≤ k.toNat; omega, by show k.toNat ≤ 3; omega, h2⟩ l0 rfl A cap w hE hA hz hc (by omega)
    rw [show ((⟨k.toNat, l0.take (min l0.length 3000)⟩ : Fr).k : Int) = k from e] at this
    exact this
  · exact FramePuts_no k l0 _ rfl hr A cap w hE hA hz hc (by omega)
end Go.Proofs.YtbmhgmigcgeooaaDoor
