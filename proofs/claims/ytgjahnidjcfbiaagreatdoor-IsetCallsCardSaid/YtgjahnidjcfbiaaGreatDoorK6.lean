/- The document's Union, Meet, Minus, Not, Same, Size. -/
import Derived.Test.YtgjahnidjcfbiaaGreatDoorK8
import Derived.Test.YtgjahnidjcfbiaaGreatDoorK51
import Derived.Test.YtgjahnidjcfbiaaGreatDoorK52
import Derived.Test.YtgjahnidjcfbiaaGreatDoorK53
namespace Go.Proofs.YtgjahnidjcfbiaaGreatDoor
open Go.RowKit Go.Shelf Go.Lib
open Iset (nf has NF Res Wide KL opOr opAnd opLess opNot sumL)
theorem docUnion_any (va vb : Value) (a b : List (Int × Int)) (w : World) (ha : IsZ w va a) (hb : IsZ w vb b) (wa : Wide a) (wb : Wide b) (la : a.length ≤ 100000) (lb : b.length ≤ 100000) :
    Calls Tryz.prog 11 #[va, vb] w fun e w' => ∃ v' R, e = .returned v' ∧ KL opOr a b R ∧ OwnP w.heap.size w' v' R ∧ Below w.heap.size w w' := by
  have H := Lib.hid (docKept0_any va vb a b w ha hb wa wb la lb)
  go_enter Tryz.func11, Tryz.ntmps11
  go_wp2_with fail
  refine (H.out).mono ?_
  rintro e w1 ⟨v1, R, rfl, hk, ho, hb⟩
  have HH := Lib.hid (And.intro hk (And.intro ho hb))
  clear ho hb hk
  go_wp2
  go_ret
  exact ⟨_, R, rfl, HH.out⟩
theorem docMeet_any (va vb : Value) (a b : List (Int × Int)) (w : World) (ha : IsZ w va a) (hb : IsZ w vb b) (wa : Wide a) (wb : Wide b) (la : a.length ≤ 100000) (lb : b.length ≤ 100000) :
    Calls Tryz.prog 12 #[va, vb] w fun e w' => ∃ v' R, e = .returned v' ∧ KL opAnd a b R ∧ OwnP w.heap.size w' v' R ∧ Below w.heap.size w w' := by
  have H := Lib.hid (docKept1_any va vb a b w ha hb wa wb la lb)
  go_enter Tryz.func12, Tryz.ntmps12
  go_wp2_with fail
  refine (H.out).mono ?_
  rintro e w1 ⟨v1, R, rfl, hk, ho, hb⟩
  have HH := Lib.hid (And.intro hk (And.intro ho hb))
  clear ho hb hk
  go_wp2
  go_ret
  exact ⟨_, R, rfl, HH.out⟩
theorem docMinus_any (va vb : Value) (a b : List (Int × Int)) (w : World) (ha : IsZ w va a) (hb : IsZ w vb b) (wa : Wide a) (wb : Wide b) (la : a.length ≤ 100000) (lb : b.length ≤ 100000) :
    Calls Tryz.prog 13 #[va, vb] w fun e w' => ∃ v' R, e = .returned v' ∧ KL opLess a b R ∧ OwnP w.heap.size w' v' R ∧ Below w.heap.size w w' := by
  have H := Lib.hid (docKept2_any va vb a b w ha hb wa wb la lb)
  go_enter Tryz.func13, Tryz.ntmps13
  go_wp2_with fail
  refine (H.out).mono ?_
  rintro e w1 ⟨v1, R, rfl, hk, ho, hb⟩
  have HH := Lib.hid (And.intro hk (And.intro ho hb))
  clear ho hb hk
  go_wp2
  go_ret
  exact ⟨_, R, rfl, HH.out⟩
theorem docNot_any (va : Value) (a : List (Int × Int)) (w : World) (ha : IsZ w va a) (wa : Wide a) (la : a.length ≤ 100000) :
    Calls Tryz.prog 14 #[va] w fun e w' => ∃ v' R, e = .returned v' ∧ KL opNot a [] R ∧ OwnP w.heap.size w' v' R ∧ Below w.heap.size w w' := by
  have H := Lib.hid (docKept3_any va (.slice none 0 0) a [] w ha (IsZ.nil w) wa (fun p hp => by simp at hp) la (by simp))
  go_enter Tryz.func14, Tryz.ntmps14
  go_wp2_with fail
  refine (H.out).mono ?_
  rintro e w1 ⟨v1, R, rfl, hk, ho, hb⟩
  have HH := Lib.hid (And.intro hk (And.intro ho hb))
  clear ho hb hk
  go_wp2
  go_ret
  exact ⟨_, R, rfl, HH.out⟩
theorem docSame_any (va vb : Value) (a b : List (Int × Int)) (w : World) (ha : IsZ w va a) (hb : IsZ w vb b) (wa : Wide a) (wb : Wide b) (la : a.length ≤ 100000) (lb : b.length ≤ 100000) :
    Calls Tryz.prog 21 #[va, vb] w fun e w' => e = .returned (.bool (sameL (nf a) (nf b))) ∧ Below w.heap.size w w' := by
  have H := Lib.hid (docOf_any va a w ha wa la)
  have H2 := Lib.hid (fun w1 (h : Below w.heap.size w w1) => docOf_any vb b w1 (hb.below h) wb lb)
  have hn := Iset.nf_length a
  have hm := Iset.nf_length b
  generalize nf a = A0 at *
  generalize nf b = B0 at *
  clear ha hb wa wb
  go_enter Tryz.func21, Tryz.ntmps21
  go_wp2_with fail
  refine (H.out).mono ?_
  rintro e w1 ⟨v1, rfl, ho1, hb1⟩
  go_wp2_with fail
  refine (H2.out _ hb1).mono ?_
  rintro e w2 ⟨v2, rfl, ho2, hb2⟩
  have HL := Lib.hid (Like_any v1 v2 A0 B0 w2 (ho1.below hb2).at ho2.at (by omega) (by omega))
  have HB2 := Lib.hid (hb1.trans (hb2.mono hb1.size))
  clear ho1 ho2 hb1 hb2
  go_wp2_with fail
  refine (HL.out).mono ?_
  rintro e w3 ⟨rfl, hb3⟩
  go_wp2
  go_ret
  exact ⟨rfl, HB2.out.trans (hb3.mono HB2.out.size)⟩
set_option maxRecDepth 100000 in
set_option maxHeartbeats 4000000 in
theorem docSize_any (v : Value) (L : List (Int × Int)) (w : World) (hv : IsZ w v L) (hw : Wide L) (hl : L.length ≤ 100000) :
    Calls Tryz.prog 23 #[v] w fun e w' => e = .returned (.int .u64 (Iset.size L)) ∧ Below w.heap.size w w' := by
  have hvl := Iset.nf_length L
  have HS := Lib.hid (docOf_any v L w hv hw hl)
  have HT := Lib.hid (fun k => Iset.sum_take (nf L) (Iset.nf_nf L) (Iset.nf_wide hw) k)
  have HW := Lib.hid (Iset.nf_wide hw)
  have HM := Lib.hid (fun p hp => (Iset.mayP_iff p).1 ((Iset.nf_nf L).may p hp))
  have HN := Lib.hid (show Iset.size L = sumL (nf L) from rfl)
  generalize nf L = V at *
  have HU := Lib.hid (sum_succ V)
  clear hv hw
  go_enter Tryz.func23, Tryz.ntmps23
  go_wp2_with fail
  refine (HS.out).mono ?_
  rintro e w1 ⟨v1, rfl, ho1, hb1⟩
  obtain ⟨A, c, rfl, hA⟩ := ho1.at
  have HA := Lib.hid hA
  have HB1 := Lib.hid hb1
  clear ho1 hA hb1
  go_wp2
  go_loopw [3, 5] (fun s i wr => ∃ k : Nat, k ≤ V.length ∧ i = .int .i64 k ∧ s = .int .u64 (sumL (V.take k)) ∧ Below w1.heap.size w1 wr) (fun _ i _ => V.length - (intOf i).toNat)
  case atStart => exact ⟨0, by omega, rfl, rfl, Below.refl _ _⟩
  case round =>
    obtain ⟨k, hk, rfl, rfl, hb⟩ := hrel
    by_cases hlt : k < V.length
    · have h1 := HT.out k
      have h2 := HT.out (k + 1)
      rw [HU.out k hlt] at h2
      have h3 := HW.out V[k] (List.getElem_mem hlt)
      have h4 := HM.out V[k] (List.getElem_mem hlt)
      have HK := Lib.hid (HU.out k hlt)
      generalize sumL (V.take k) = s at *
      obtain ⟨b, off, rfl, hbl, hc⟩ := (PAt.below HA.out hb) (by omega)
      obtain ⟨c0, c1⟩ := hc k hlt
      clear hc
      generalize V[k].1 = p at *
      generalize V[k].2 = q at *
      obtain ⟨h5, h6⟩ := h1
      obtain ⟨h7, h8⟩ := h2
      obtain ⟨h9, h10⟩ := h3
      obtain ⟨h11, h12⟩ := h4
      have h13 : 0 ≤ q - p := by omega
      have hs := hb.size
      have HB := Lib.hid hb
      clear hb
      have hw1 : IntKind.u64.wrap (q - p) = q - p := by rw [IntWalk.u64_in]; omega
      have hw2 : IntKind.u64.wrap (s + (q - p)) = s + (q - p) := by rw [IntWalk.u64_in]; omega
      clear h5 h6 h7 h8 h9 h10 h11 h12 h13
      go_upto_region 6 with fail
      go_quiet (fail)
      go_wp2
      exact ⟨⟨k + 1, by omega, by go_num, by rw [HK.out], bel_drewN _ HB.out⟩, by simp [intOf]; omega⟩
    · obtain rfl : k = V.length := by omega
      rw [List.take_length, ← HN.out]
      have HB := Lib.hid hb
      clear hb
      go_wp2
      go_ret
      exact ⟨rfl, HB1.out.trans (HB.out.mono HB1.out.size)⟩
end Go.Proofs.YtgjahnidjcfbiaaGreatDoor
