/- The sweep over the ends of two lists. -/
import Derived.Test.YtmolpogehgeebaaGreatbLY
namespace Go.Proofs.YtmolpogehgeebaaGreat.Se
open Go.RowKit
open Iset (nf turns Inv Res Wide atL nextL nextB)
/-- The length of a slice. -/
def lenV (v : Value) : Nat := match v with
  | .slice _ n _ => n
  | _ => 0
/-- Where the sweep stands, in memory. -/
def Swept (k : Bool → Bool → Bool) (a b : List (Int × Int)) (w1 : World) (t7 t8 t9 t10 t11 t12 : Value) (wr : World) : Prop :=
  ∃ A B x y o kept c K s, IsU w1 t7 A ∧ IsU w1 t8 B ∧ t10 = .bool x ∧ t11 = .bool y ∧ t12 = .bool o ∧ Inv k a b A B x y o kept c K s ∧ OwnP w1.heap.size wr t9 kept ∧ Below w1.heap.size w1 wr
/-- What one word less leaves of a slice of words. -/
theorem IsU.tail {w : World} {b off c n : Nat} {X : Option Addr} {z : Int} {A : List Int} (h : IsU w (.slice (some ⟨b, off, none⟩) (n + 1) c) (z :: A)) (hX : 0 < n → X = some ⟨b, off + 1, none⟩) : IsU w (.slice X n (c - 1)) A := by
  obtain ⟨Ad, c', e, hc, hm, k⟩ := h
  injection e with e1 e2 e3
  subst e1 e3
  have hn : A.length = n := by simp at e2; omega
  subst hn
  simp only [List.length_cons] at hc
  refine ⟨X, c - 1, rfl, by omega, by omega, fun h0 => ?_⟩
  obtain ⟨b', off', e, hl, hcl⟩ := k (by simp)
  injection e with e
  injection e with e4 e5 e6
  subst e4 e5
  refine ⟨b, off + 1, hX h0, hl, fun i hi => ?_⟩
  have := hcl (i + 1) (by simp; omega)
  rw [show off + 1 + i = off + (i + 1) by omega]
  exact this
set_option maxRecDepth 100000 in
set_option maxHeartbeats 4000000 in
theorem combine_any (k : Bool → Bool → Bool) (hk : k false false = false) (F : Nat) (eg : ∀ args w, (callFunc F args).run Tryz.prog w = .ok (.enter F args) w)
    (hF : ∀ x y W, Calls Tryz.prog F #[.bool x, .bool y] W fun e w' => e = .returned (.bool (k x y)) ∧ W = w')
    (va vb : Value) (a b : List (Int × Int)) (w : World) (ha : IsP w va a) (hb : IsP w vb b) (wa : Wide a) (wb : Wide b) (la : a.length ≤ 100000000000) (lb : b.length ≤ 100000000000) :
    Calls Tryz.prog 119 #[va, vb, .func (.func F) #[] #[]] w fun e w' => ∃ v' R, e = .returned v' ∧ Res k a b R ∧ OwnP w.heap.size w' v' R ∧ Below w.heap.size w w' := by
  have HI := Lib.hid (Inv.start k hk a b wa wb)
  have hta := Iset.turns_length (nf a)
  have htb := Iset.turns_length (nf b)
  have HA := Lib.hid (ends_any va a w ha (by omega))
  have HE := Lib.hid (fun w1 (h : Below w.heap.size w w1) => ends_any vb b w1 (hb.below h) (by omega))
  have HF := Lib.hid hF
  have HEG := eg
  have HKK := Lib.hid hk
  clear ha hb wa wb hF hk eg
  generalize turns (nf a) = A0 at *
  generalize turns (nf b) = B0 at *
  clear hta htb
  go_enter Tryz.func119, Tryz.ntmps119
  go_wp2_with fail
  go_step3
  go_wp2_with fail
  refine (HA.out).mono ?_
  rintro e w1 ⟨v1, rfl, ho1, hb1⟩
  have HO1 := Lib.hid ho1
  have HB1 := Lib.hid hb1
  clear ho1 hb1
  go_wp2_with fail
  refine (HE.out _ HB1.out).mono ?_
  rintro e w2 ⟨v2, rfl, ho2, hb2⟩
  have IA := Lib.hid ((HO1.out.below hb2).at)
  have IB := Lib.hid ho2.at
  have HB2 := Lib.hid (HB1.out.trans (hb2.mono HB1.out.size))
  clear ho2 hb2
  go_wp2_with fail
  go_step3
  go_wp2_with fail
  go_loopw [7, 8, 9, 10, 11, 12] (Swept k a b w2) (fun t7 t8 _ _ _ _ _ => lenV t7 + lenV t8)
  case atStart => exact ⟨A0, B0, false, false, false, [], -1, [], 0, IA.out, IB.out, rfl, rfl, rfl, HI.out, OwnP.nil _ _, Below.refl _ _⟩
  case round =>
    obtain ⟨A, B, x, y, o, kept, c, K, s, iA, iB, rfl, rfl, rfl, hinv, ho, hb⟩ := hrel
    obtain ⟨z, A1, z', B1, rfl, rfl⟩ := hinv.shape
    have hkl0 : kept.length ≤ 400000000000 := by
      have := hinv.len
      split at this <;> omega
    have IA1 := Lib.hid iA
    have IB1 := Lib.hid iB
    obtain ⟨Ad, cA, rfl, hcA, hmA, hAd⟩ := iA
    obtain ⟨Bd, cB, rfl, hcB, hmB, hBd⟩ := iB
    obtain ⟨bA, oA, rfl, hbA, clA⟩ := hAd (by simp)
    obtain ⟨bB, oB, rfl, hbB, clB⟩ := hBd (by simp)
    have cA0 := clA 0 (by simp)
    have cB0 := clB 0 (by simp)
    rw [Nat.add_zero, List.getElem_cons_zero] at cA0 cB0
    simp only [List.length_cons] at *
    have kA : wr.cell? ⟨bA, oA, none⟩ = some (.int .u64 z) := (hb.cell (p := ⟨bA, oA, none⟩) hbA).trans cA0
    have kB : wr.cell? ⟨bB, oB, none⟩ = some (.int .u64 z') := (hb.cell (p := ⟨bB, oB, none⟩) hbB).trans cB0
    clear clA clB cA0 cB0 hAd hBd
    have HV := Lib.hid hinv
    have HO := Lib.hid ho
    have HB := Lib.hid hb
    clear hinv ho hb
    rcases Int.lt_trichotomy z z' with hz | hz | hz
    · have hm : min z z' = z := by omega
      have e0 : atL (z :: A1) (z' :: B1) = z := hm
      have e1 : nextL z (z :: A1) = A1 := if_pos rfl
      have e2 : nextL z (z' :: B1) = (z' :: B1) := if_neg (by omega)
      have e3 : nextB z x (z :: A1) = (!x) := if_pos rfl
      have e4 : nextB z y (z' :: B1) = y := if_neg (by omega)
      have g1 := HV.out.go
      have g2 := fun (h : o = true) => Inv.stop (h ▸ HV.out)
      have g3 := fun (h : o = false) => Inv.begin (h ▸ HV.out)
      have g4 := HV.out.done HKK.out
      rw [e0] at g1 g2 g3 g4
      rw [e1, e2, e3, e4] at g1 g2 g3
      have HV1 := HV.out.least
      rw [e0] at HV1
      have hle : z ≤ 1099511627777 := HV1.2.2.2.1
      clear HV1
      have G1 := Lib.hid g1
      have G2 := Lib.hid g2
      have G3 := Lib.hid g3
      have G4 := Lib.hid g4
      clear g1 g2 g3 g4 e0 e1 e2 e3 e4
      have hd2 : (z == z') = false := by simp; omega
      go_upto_region 4 with fail
      go_quiet (fail)
      revert nq
      intro n1
      go_upto_region 6 with fail
      go_quiet (fail)
      revert nq
      intro n2
      go_upto_region 10 with fail
      obtain ⟨XA, hXA⟩ : ∃ X, (if cA = 1 then some (⟨bA, oA, none⟩ : Addr) else some ⟨bA, oA + 1, none⟩) = X := ⟨_, rfl⟩
      rw [hXA]
      have I7 := Lib.hid (IA1.out.tail (n := A1.length) (X := XA) fun h0 => by rw [← hXA, if_neg (by omega)])
      clear hXA
      have I8 := IB1
      obtain ⟨W, hW⟩ : ∃ W, wr.drewN (n1 + n2) = W := ⟨_, rfl⟩
      rw [hW]
      have HO1 := Lib.hid (show OwnP w2.heap.size W u9 kept by rw [← hW]; exact HO.out.below (bel_drewN _ (Below.refl _ _)))
      have HB1 := Lib.hid (show Below w2.heap.size w2 W by rw [← hW]; exact bel_drewN _ HB.out)
      clear hW HO HB kA kB
      have hs := HB1.out.size
      by_cases hbe : z = 1099511627777
      · subst hbe
        go_wp2
        try rw [Exit.noGoto_ret]
        go_ret
        exact ⟨_, kept, rfl, G4.out (by first | rfl | trivial), HO1.out.mono HB2.out.size, HB2.out.trans (HB1.out.mono HB2.out.size)⟩
      · have hbe1 : (z == 1099511627777) = false := by simpa using hbe
        have hlt : z < 1099511627777 := by omega
        clear hbe
        go_wp2_with fail
        refine (HF.out _ _ _).mono ?_
        rintro e w3 ⟨rfl, rfl⟩
        cases hkv : k (!x) y <;> cases o
        · have HG := Lib.hid (G1.out hlt hkv)
          clear hkv
          go_wp2
          exact ⟨⟨_, _, _, _, _, _, z, _, _, I7.out, I8.out, rfl, rfl, rfl, HG.out, HO1.out, HB1.out⟩, by simp [lenV] <;> omega⟩
        · have HG := Lib.hid (G2.out rfl hlt hkv)
          have hkk := HV.out.kk
          simp only [if_true] at hkk
          subst hkk
          have hn : (K ++ [(s, 0)]).length = K.length + 1 := by simp
          obtain ⟨g, c2, rfl, hg1, hg2, hfr, hcl⟩ := HO1.out.form (by omega)
          have hy := hcl K.length (by omega)
          have ey : (K ++ [(s, 0)])[K.length]'(by omega) = (s, 0) := by simp
          rw [ey] at hy
          obtain ⟨y1, y2⟩ := hy
          have hkl : K.length + 1 ≤ 400000000000 := by rw [← hn]; exact hkl0
          rw [hn] at HO1 ⊢
          clear hcl ey hn hkv
          go_wp2
          exact ⟨⟨_, _, _, _, _, _, z, _, _, I7.out, I8.out, rfl, rfl, rfl, HG.out, OwnP.stored HO1.out _, HB1.out.setCell hg1 _⟩, by simp [lenV] <;> omega⟩
        · have HG := Lib.hid (G3.out rfl hlt hkv)
          clear hkv
          go_wp2_with (at_builtin; refine wpList_appP rfl (.tmp 43) (.tmp 46) rfl w2.heap.size _ kept rfl (HO1.out.alloc _) W.heap.size z 0 rfl (by go_simp) (by go_simp) (by omega) (by simp; omega) ?_; intro v2 w4 ho2 hb2 _; have HO2 := Lib.hid ho2; have HB3 := Lib.hid ((HB1.out.alloc hs (.cells #[.int .u64 z, .int .u64 0] 33)).trans hb2); clear ho2 hb2)
          exact ⟨⟨_, _, _, _, _, _, z, _, _, I7.out, I8.out, rfl, rfl, rfl, HG.out, HO2.out, HB3.out⟩, by simp [lenV] <;> omega⟩
        · have HG := Lib.hid (G1.out hlt hkv)
          clear hkv
          go_wp2
          exact ⟨⟨_, _, _, _, _, _, z, _, _, I7.out, I8.out, rfl, rfl, rfl, HG.out, HO1.out, HB1.out⟩, by simp [lenV] <;> omega⟩
    · obtain rfl : z' = z := hz.symm
      have hm : min z' z' = z' := by omega
      have e0 : atL (z' :: A1) (z' :: B1) = z' := hm
      have e1 : nextL z' (z' :: A1) = A1 := if_pos rfl
      have e2 : nextL z' (z' :: B1) = B1 := if_pos rfl
      have e3 : nextB z' x (z' :: A1) = (!x) := if_pos rfl
      have e4 : nextB z' y (z' :: B1) = (!y) := if_pos rfl
      have g1 := HV.out.go
      have g2 := fun (h : o = true) => Inv.stop (h ▸ HV.out)
      have g3 := fun (h : o = false) => Inv.begin (h ▸ HV.out)
      have g4 := HV.out.done HKK.out
      rw [e0] at g1 g2 g3 g4
      rw [e1, e2, e3, e4] at g1 g2 g3
      have HV1 := HV.out.least
      rw [e0] at HV1
      have hle : z' ≤ 1099511627777 := HV1.2.2.2.1
      clear HV1
      have G1 := Lib.hid g1
      have G2 := Lib.hid g2
      have G3 := Lib.hid g3
      have G4 := Lib.hid g4
      clear g1 g2 g3 g4 e0 e1 e2 e3 e4
      go_upto_region 4 with fail
      go_quiet (fail)
      revert nq
      intro n1
      go_upto_region 6 with fail
      go_quiet (fail)
      revert nq
      intro n2
      go_upto_region 8 with fail
      go_quiet (fail)
      revert nq
      intro n3
      go_upto_region 10 with fail
      obtain ⟨XA, hXA⟩ : ∃ X, (if cA = 1 then some (⟨bA, oA, none⟩ : Addr) else some ⟨bA, oA + 1, none⟩) = X := ⟨_, rfl⟩
      rw [hXA]
      have I7 := Lib.hid (IA1.out.tail (n := A1.length) (X := XA) fun h0 => by rw [← hXA, if_neg (by omega)])
      clear hXA
      obtain ⟨XB, hXB⟩ : ∃ X, (if cB = 1 then some (⟨bB, oB, none⟩ : Addr) else some ⟨bB, oB + 1, none⟩) = X := ⟨_, rfl⟩
      rw [hXB]
      have I8 := Lib.hid (IB1.out.tail (n := B1.length) (X := XB) fun h0 => by rw [← hXB, if_neg (by omega)])
      clear hXB
      obtain ⟨W, hW⟩ : ∃ W, (wr.drewN (n1 + n2)).drewN n3 = W := ⟨_, rfl⟩
      rw [hW]
      have HO1 := Lib.hid (show OwnP w2.heap.size W u9 kept by rw [← hW]; exact HO.out.below (bel_drewN _ (bel_drewN _ (Below.refl _ _))))
      have HB1 := Lib.hid (show Below w2.heap.size w2 W by rw [← hW]; exact bel_drewN _ (bel_drewN _ HB.out))
      clear hW HO HB kA kB
      have hs := HB1.out.size
      by_cases hbe : z' = 1099511627777
      · subst hbe
        go_wp2
        try rw [Exit.noGoto_ret]
        go_ret
        exact ⟨_, kept, rfl, G4.out (by first | rfl | trivial), HO1.out.mono HB2.out.size, HB2.out.trans (HB1.out.mono HB2.out.size)⟩
      · have hbe1 : (z' == 1099511627777) = false := by simpa using hbe
        have hlt : z' < 1099511627777 := by omega
        clear hbe
        go_wp2_with fail
        refine (HF.out _ _ _).mono ?_
        rintro e w3 ⟨rfl, rfl⟩
        cases hkv : k (!x) (!y) <;> cases o
        · have HG := Lib.hid (G1.out hlt hkv)
          clear hkv
          go_wp2
          exact ⟨⟨_, _, _, _, _, _, z', _, _, I7.out, I8.out, rfl, rfl, rfl, HG.out, HO1.out, HB1.out⟩, by simp [lenV] <;> omega⟩
        · have HG := Lib.hid (G2.out rfl hlt hkv)
          have hkk := HV.out.kk
          simp only [if_true] at hkk
          subst hkk
          have hn : (K ++ [(s, 0)]).length = K.length + 1 := by simp
          obtain ⟨g, c2, rfl, hg1, hg2, hfr, hcl⟩ := HO1.out.form (by omega)
          have hy := hcl K.length (by omega)
          have ey : (K ++ [(s, 0)])[K.length]'(by omega) = (s, 0) := by simp
          rw [ey] at hy
          obtain ⟨y1, y2⟩ := hy
          have hkl : K.length + 1 ≤ 400000000000 := by rw [← hn]; exact hkl0
          rw [hn] at HO1 ⊢
          clear hcl ey hn hkv
          go_wp2
          exact ⟨⟨_, _, _, _, _, _, z', _, _, I7.out, I8.out, rfl, rfl, rfl, HG.out, OwnP.stored HO1.out _, HB1.out.setCell hg1 _⟩, by simp [lenV] <;> omega⟩
        · have HG := Lib.hid (G3.out rfl hlt hkv)
          clear hkv
          go_wp2_with (at_builtin; refine wpList_appP rfl (.tmp 43) (.tmp 46) rfl w2.heap.size _ kept rfl (HO1.out.alloc _) W.heap.size z' 0 rfl (by go_simp) (by go_simp) (by omega) (by simp; omega) ?_; intro v2 w4 ho2 hb2 _; have HO2 := Lib.hid ho2; have HB3 := Lib.hid ((HB1.out.alloc hs (.cells #[.int .u64 z', .int .u64 0] 33)).trans hb2); clear ho2 hb2)
          exact ⟨⟨_, _, _, _, _, _, z', _, _, I7.out, I8.out, rfl, rfl, rfl, HG.out, HO2.out, HB3.out⟩, by simp [lenV] <;> omega⟩
        · have HG := Lib.hid (G1.out hlt hkv)
          clear hkv
          go_wp2
          exact ⟨⟨_, _, _, _, _, _, z', _, _, I7.out, I8.out, rfl, rfl, rfl, HG.out, HO1.out, HB1.out⟩, by simp [lenV] <;> omega⟩
    · have hm : min z z' = z' := by omega
      have e0 : atL (z :: A1) (z' :: B1) = z' := hm
      have e1 : nextL z' (z :: A1) = (z :: A1) := if_neg (by omega)
      have e2 : nextL z' (z' :: B1) = B1 := if_pos rfl
      have e3 : nextB z' x (z :: A1) = x := if_neg (by omega)
      have e4 : nextB z' y (z' :: B1) = (!y) := if_pos rfl
      have g1 := HV.out.go
      have g2 := fun (h : o = true) => Inv.stop (h ▸ HV.out)
      have g3 := fun (h : o = false) => Inv.begin (h ▸ HV.out)
      have g4 := HV.out.done HKK.out
      rw [e0] at g1 g2 g3 g4
      rw [e1, e2, e3, e4] at g1 g2 g3
      have HV1 := HV.out.least
      rw [e0] at HV1
      have hle : z' ≤ 1099511627777 := HV1.2.2.2.1
      clear HV1
      have G1 := Lib.hid g1
      have G2 := Lib.hid g2
      have G3 := Lib.hid g3
      have G4 := Lib.hid g4
      clear g1 g2 g3 g4 e0 e1 e2 e3 e4
      have hd1 : (z' == z) = false := by simp; omega
      go_upto_region 4 with fail
      go_quiet (fail)
      revert nq
      intro n1
      go_upto_region 8 with fail
      go_quiet (fail)
      revert nq
      intro n3
      go_upto_region 10 with fail
      have I7 := IA1
      obtain ⟨XB, hXB⟩ : ∃ X, (if cB = 1 then some (⟨bB, oB, none⟩ : Addr) else some ⟨bB, oB + 1, none⟩) = X := ⟨_, rfl⟩
      rw [hXB]
      have I8 := Lib.hid (IB1.out.tail (n := B1.length) (X := XB) fun h0 => by rw [← hXB, if_neg (by omega)])
      clear hXB
      obtain ⟨W, hW⟩ : ∃ W, (wr.drewN n1).drewN n3 = W := ⟨_, rfl⟩
      rw [hW]
      have HO1 := Lib.hid (show OwnP w2.heap.size W u9 kept by rw [← hW]; exact HO.out.below (bel_drewN _ (bel_drewN _ (Below.refl _ _))))
      have HB1 := Lib.hid (show Below w2.heap.size w2 W by rw [← hW]; exact bel_drewN _ (bel_drewN _ HB.out))
      clear hW HO HB kA kB
      have hs := HB1.out.size
      by_cases hbe : z' = 1099511627777
      · subst hbe
        go_wp2
        try rw [Exit.noGoto_ret]
        go_ret
        exact ⟨_, kept, rfl, G4.out (by first | rfl | trivial), HO1.out.mono HB2.out.size, HB2.out.trans (HB1.out.mono HB2.out.size)⟩
      · have hbe1 : (z' == 1099511627777) = false := by simpa using hbe
        have hlt : z' < 1099511627777 := by omega
        clear hbe
        go_wp2_with fail
        refine (HF.out _ _ _).mono ?_
        rintro e w3 ⟨rfl, rfl⟩
        cases hkv : k x (!y) <;> cases o
        · have HG := Lib.hid (G1.out hlt hkv)
          clear hkv
          go_wp2
          exact ⟨⟨_, _, _, _, _, _, z', _, _, I7.out, I8.out, rfl, rfl, rfl, HG.out, HO1.out, HB1.out⟩, by simp [lenV] <;> omega⟩
        · have HG := Lib.hid (G2.out rfl hlt hkv)
          have hkk := HV.out.kk
          simp only [if_true] at hkk
          subst hkk
          have hn : (K ++ [(s, 0)]).length = K.length + 1 := by simp
          obtain ⟨g, c2, rfl, hg1, hg2, hfr, hcl⟩ := HO1.out.form (by omega)
          have hy := hcl K.length (by omega)
          have ey : (K ++ [(s, 0)])[K.length]'(by omega) = (s, 0) := by simp
          rw [ey] at hy
          obtain ⟨y1, y2⟩ := hy
          have hkl : K.length + 1 ≤ 400000000000 := by rw [← hn]; exact hkl0
          rw [hn] at HO1 ⊢
          clear hcl ey hn hkv
          go_wp2
          exact ⟨⟨_, _, _, _, _, _, z', _, _, I7.out, I8.out, rfl, rfl, rfl, HG.out, OwnP.stored HO1.out _, HB1.out.setCell hg1 _⟩, by simp [lenV] <;> omega⟩
        · have HG := Lib.hid (G3.out rfl hlt hkv)
          clear hkv
          go_wp2_with (at_builtin; refine wpList_appP rfl (.tmp 43) (.tmp 46) rfl w2.heap.size _ kept rfl (HO1.out.alloc _) W.heap.size z' 0 rfl (by go_simp) (by go_simp) (by omega) (by simp; omega) ?_; intro v2 w4 ho2 hb2 _; have HO2 := Lib.hid ho2; have HB3 := Lib.hid ((HB1.out.alloc hs (.cells #[.int .u64 z', .int .u64 0] 33)).trans hb2); clear ho2 hb2)
          exact ⟨⟨_, _, _, _, _, _, z', _, _, I7.out, I8.out, rfl, rfl, rfl, HG.out, HO2.out, HB3.out⟩, by simp [lenV] <;> omega⟩
        · have HG := Lib.hid (G1.out hlt hkv)
          clear hkv
          go_wp2
          exact ⟨⟨_, _, _, _, _, _, z', _, _, I7.out, I8.out, rfl, rfl, rfl, HG.out, HO1.out, HB1.out⟩, by simp [lenV] <;> omega⟩
end Go.Proofs.YtmolpogehgeebaaGreat.Se


