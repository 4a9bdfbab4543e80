/- The law IsetKnown, walked: the chapter's rows, and what is no set's text. -/
import Derived.Test.YtgjahnidjcfbiaaDoorJ20
namespace Go.Proofs.YtgjahnidjcfbiaaDoor
open Go.RowKit Go.Shelf Go.Lib
open Iset (nf has NF Res Wide NotL textL Parsed Reads readPL)
theorem unread_head {s : List UInt8} (h : readPL s = none) (hne : s ≠ []) (hs : s ≠ [91, 41]) : Parsed s none :=
  Iset.parsed_unread (fun L hL => by
    cases hL with
    | nil => exact hne rfl
    | cons h1 _ => rw [h] at h1; cases h1) hs
theorem unread_next {s r : List UInt8} {p : Int × Int} (h : readPL s = some (p, r)) (h' : readPL r = none) (hr : r ≠ []) (hs : s ≠ [91, 41]) : Parsed s none :=
  Iset.parsed_unread (fun L hL => by
    cases hL with
    | nil => simp [readPL] at h
    | cons h1 h2 =>
      rw [h] at h1
      injection h1 with h1
      injection h1 with _ h1
      subst h1
      cases h2 with
      | nil => exact hr rfl
      | cons h3 _ => rw [h'] at h3; cases h3) hs
theorem bad0 : Parsed [] none := Iset.parsed_unlike .nil (by rw [row_none]; decide) (by decide)
theorem bad1 : Parsed [91] none := unread_head (by decide +kernel) (by decide) (by decide)
theorem bad2 : Parsed [91, 49, 44, 50] none := unread_head (by decide +kernel) (by decide) (by decide)
theorem bad3 : Parsed [49, 44, 50, 41] none := unread_head (by decide +kernel) (by decide) (by decide)
theorem bad4 : Parsed [91, 49, 44, 50, 41, 32] none := unread_next (p := (1, 2)) (r := [32]) (by decide +kernel) (by decide +kernel) (by decide) (by decide)
theorem bad5 : Parsed [91, 50, 44, 49, 41] none := parsed_notNF (L := [(2, 1)]) (.cons (r := []) (by decide +kernel) .nil) (fun h => absurd (h.may (2, 1) (by simp)) (by decide)) (by decide)
theorem bad6 : Parsed [91, 49, 44, 49, 48, 57, 57, 53, 49, 49, 54, 50, 55, 55, 55, 54, 41] none := Iset.parsed_unlike (L := [(1, 1099511627776)]) (.cons (r := []) (by decide +kernel) .nil) (by rw [row_text]; decide) (by decide)
theorem bad7 : Parsed [91, 42, 44, 42, 41] none := parsed_notNF (L := [(1099511627776, 1099511627776)]) (.cons (r := []) (by decide +kernel) .nil) (fun h => absurd (h.may (1099511627776, 1099511627776) (by simp)) (by decide)) (by decide)
theorem bad8 : Parsed [91, 49, 44, 42, 41, 91, 41] none := unread_next (p := (1, 1099511627776)) (r := [91, 41]) (by decide +kernel) (by decide +kernel) (by decide) (by decide)
theorem dig0 : Lib.decDigits 0 = [48] := Lib.decDigits_one (by decide)
theorem dig1 : Lib.decDigits 1 = [49] := Lib.decDigits_one (by decide)
theorem dig3 : Lib.decDigits 3 = [51] := Lib.decDigits_one (by decide)
theorem good1 : Parsed [91, 48, 44, 49, 41, 91, 51, 44, 42, 41] (some [(0, 1), (3, 1099511627776)]) := ⟨nfb (by decide) (by decide), fun p hp => by
  simp only [List.mem_cons, List.not_mem_nil, or_false] at hp
  rcases hp with rfl | rfl <;> exact ⟨by decide, by decide⟩, by
  rw [Iset.textL_some (by simp)]
  simp [Iset.textsL, Iset.textP, Iset.dec, Iset.endT, dig0, dig1, dig3]⟩
theorem good2 : Parsed [91, 41] (some []) := ⟨NF.nil, fun p hp => by simp at hp, rfl⟩
theorem odd_has (t : Int) : has [(5, 5), (9, 3), (0, 1099511627777), (9223372036854775808, 18446744073709551615)] t = false := by
  rw [Bool.eq_false_iff]
  simp [has, Iset.hasP, Iset.mayP]
theorem odd_nf : nf [(5, 5), (9, 3), (0, 1099511627777), (9223372036854775808, 18446744073709551615)] = [] := nf_eq NF.nil fun t => by rw [odd_has]; rfl
theorem odd_not : ¬ NF [(5, 5), (9, 3), (0, 1099511627777), (9223372036854775808, 18446744073709551615)] := fun h => absurd (h.may (5, 5) (by simp)) (by decide)
theorem not1 : ¬ NF [(1, 2), (2, 3)] := fun h => absurd h.apart (by decide)
theorem not2 : ¬ NF [(3, 4), (1, 2)] := fun h => absurd h.apart (by decide)
theorem full_size : Iset.size [(0, 1099511627776)] = 1099511627776 := by
  rw [Iset.size, Iset.nf_of_NF Iset.full_nf]
  rfl
theorem cOfNone {va : Value} {a : List (Int × Int)} {n : Nat} {w : World} (ha : SetAt w va a n) (hn : n ≤ 1000000) (h : nf a = []) :
    Calls Tryd.prog 25 #[va] w fun e w' => ∃ A c, e = .returned (.slice A 0 c) ∧ Below w.heap.size w w' :=
  (cOf ha hn).mono fun e w' ⟨v, he, hs, hw⟩ => by
    rw [h] at hs
    obtain ⟨A, c, rfl, _⟩ := hs.at_
    exact ⟨A, c, he, hw⟩
theorem cHasAs {va : Value} {a : List (Int × Int)} {n : Nat} {w : World} (ha : SetAt w va a n) (t : Int) (hn : n ≤ 1000000) (r : Bool) (h : has a t = r) :
    Calls Tryd.prog 23 #[va, .int .u64 t] w fun e w' => e = .returned (.bool r) ∧ Below w.heap.size w w' := h ▸ cHas ha t hn
theorem cParseNil (w : World) (henv : Env w) : Calls Tryd.prog 12 #[.string ⟨#[91, 41]⟩] w fun e w' => ∃ A c, e = .returned (.tuple #[.slice A 0 c, .int .i64 0]) ∧ Below w.heap.size w w' :=
  (cParseGood ⟨#[91, 41]⟩ w (by decide) henv [] 0 good2 (Nat.le_refl _)).mono fun e w' ⟨v, he, hs, hw⟩ => by
    obtain ⟨A, c, rfl, _⟩ := hs.at_
    exact ⟨A, c, he, hw⟩
/-- The nine texts in memory. -/
def Texts (g : Nat) (w : World) : Prop := w.cell? ⟨g, 0, none⟩ = some (.string ⟨#[]⟩) ∧ w.cell? ⟨g, 1, none⟩ = some (.string ⟨#[91]⟩) ∧ w.cell? ⟨g, 2, none⟩ = some (.string ⟨#[91, 49, 44, 50]⟩) ∧ w.cell? ⟨g, 3, none⟩ = some (.string ⟨#[49, 44, 50, 41]⟩) ∧ w.cell? ⟨g, 4, none⟩ = some (.string ⟨#[91, 49, 44, 50, 41, 32]⟩) ∧ w.cell? ⟨g, 5, none⟩ = some (.string ⟨#[91, 50, 44, 49, 41]⟩) ∧ w.cell? ⟨g, 6, none⟩ = some (.string ⟨#[91, 49, 44, 49, 48, 57, 57, 53, 49, 49, 54, 50, 55, 55, 55, 54, 41]⟩) ∧ w.cell? ⟨g, 7, none⟩ = some (.string ⟨#[91, 42, 44, 42, 41]⟩) ∧ w.cell? ⟨g, 8, none⟩ = some (.string ⟨#[91, 49, 44, 42, 41, 91, 41]⟩)
theorem Texts.below {g : Nat} {w w' : World} (h : Texts g w) (hg : g < w.heap.size) (hb : Below w.heap.size w w') : Texts g w' := by
  obtain ⟨h0, h1, h2, h3, h4, h5, h6, h7, h8⟩ := h
  exact ⟨(hb.cell (p := ⟨g, 0, none⟩) hg).trans h0, (hb.cell (p := ⟨g, 1, none⟩) hg).trans h1, (hb.cell (p := ⟨g, 2, none⟩) hg).trans h2, (hb.cell (p := ⟨g, 3, none⟩) hg).trans h3, (hb.cell (p := ⟨g, 4, none⟩) hg).trans h4, (hb.cell (p := ⟨g, 5, none⟩) hg).trans h5, (hb.cell (p := ⟨g, 6, none⟩) hg).trans h6, (hb.cell (p := ⟨g, 7, none⟩) hg).trans h7, (hb.cell (p := ⟨g, 8, none⟩) hg).trans h8⟩
set_option maxRecDepth 100000 in
set_option maxHeartbeats 32000000 in
theorem Known_walk (w : World) (henv : Env w) : Calls Tryd.prog 9 #[] w fun e w' => e = .returned (.bool true) ∧ Below w.heap.size w w' := by
  have HE := Lib.hid henv
  have LV := Lib.hid (Live.nil w)
  have BV := Lib.hid (Below.refl w.heap.size w)
  clear henv
  go_enter Tryd.func9, Tryd.ntmps9
  go_wp2_with fail
  refine (cP [5, 5, 9, 3, 0, 1099511627777, 9223372036854775808, 18446744073709551615] [(5, 5), (9, 3), (0, 1099511627777), (9223372036854775808, 18446744073709551615)] 4 w (by decide) rfl (by decide) (by decide)).mono ?_
  rintro e w1 ⟨v1, rfl, hs1, hb1⟩
  obtain ⟨A1, c1, rfl, _⟩ := hs1.at_
  have LV1 := Lib.hid ((LV.out.below hb1).cons hs1)
  have BV1 := Lib.hid (BV.out.trans (hb1.mono BV.out.size))
  clear hb1 hs1
  go_upto_region 3 with fail
  obtain ⟨W, hW⟩ : ∃ W, w1.alloc (.cells #[.string ⟨#[]⟩, .string ⟨#[91]⟩, .string ⟨#[91, 49, 44, 50]⟩, .string ⟨#[49, 44, 50, 41]⟩, .string ⟨#[91, 49, 44, 50, 41, 32]⟩, .string ⟨#[91, 50, 44, 49, 41]⟩, .string ⟨#[91, 49, 44, 49, 48, 57, 57, 53, 49, 49, 54, 50, 55, 55, 55, 54, 41]⟩, .string ⟨#[91, 42, 44, 42, 41]⟩, .string ⟨#[91, 49, 44, 42, 41, 91, 41]⟩] 47) = W := ⟨_, rfl⟩
  have hbW : Below w1.heap.size w1 W := by rw [← hW]; exact (Below.refl _ _).alloc (Nat.le_refl _) _
  have hgW : w1.heap.size < W.heap.size := by rw [← hW]; simp
  have hT : Texts w1.heap.size W := by rw [← hW]; clear hW hbW hgW; exact ⟨by simp [World.cell?_alloc_new], by simp [World.cell?_alloc_new], by simp [World.cell?_alloc_new], by simp [World.cell?_alloc_new], by simp [World.cell?_alloc_new], by simp [World.cell?_alloc_new], by simp [World.cell?_alloc_new], by simp [World.cell?_alloc_new], by simp [World.cell?_alloc_new]⟩
  rw [hW]
  clear hW
  have LVW := Lib.hid (LV1.out.below hbW)
  have BVW := Lib.hid (BV1.out.trans (hbW.mono BV1.out.size))
  obtain ⟨g, hg⟩ : ∃ g, w1.heap.size = g := ⟨_, rfl⟩
  rw [hg] at hgW hT ⊢
  have HT0 := Lib.hid hT
  have HG0 := Lib.hid hgW
  clear hbW hT hgW hg LV1 BV1
  go_wp2_with fail
  refine wp_loop_rounds 10 ?_
  obtain ⟨z0, z1, z2, z3, z4, z5, z6, z7, z8⟩ := HT0.out
  clear z1 z2 z3 z4 z5 z6 z7 z8
  rw [rounds_succ]
  go_wp2_with fail
  refine (cParseBad _ _ (by decide) (HE.out.below BVW.out) bad0).mono ?_
  rintro e w2 ⟨rfl, hb2⟩
  have LV2 := Lib.hid ((LVW.out.below hb2))
  have BV2 := Lib.hid (BVW.out.trans (hb2.mono BVW.out.size))
  have HT2 := Lib.hid (HT0.out.below HG0.out hb2)
  have HG2 := Lib.hid (Nat.lt_of_lt_of_le HG0.out hb2.size)
  clear z0
  clear hb2
  obtain ⟨z0, z1, z2, z3, z4, z5, z6, z7, z8⟩ := HT2.out
  clear z0 z2 z3 z4 z5 z6 z7 z8
  go_wp2_with fail
  rw [rounds_succ]
  go_wp2_with fail
  refine (cParseBad _ _ (by decide) (HE.out.below BV2.out) bad1).mono ?_
  rintro e w3 ⟨rfl, hb3⟩
  have LV3 := Lib.hid ((LV2.out.below hb3))
  have BV3 := Lib.hid (BV2.out.trans (hb3.mono BV2.out.size))
  have HT3 := Lib.hid (HT2.out.below HG2.out hb3)
  have HG3 := Lib.hid (Nat.lt_of_lt_of_le HG2.out hb3.size)
  clear z1
  clear hb3
  obtain ⟨z0, z1, z2, z3, z4, z5, z6, z7, z8⟩ := HT3.out
  clear z0 z1 z3 z4 z5 z6 z7 z8
  go_wp2_with fail
  rw [rounds_succ]
  go_wp2_with fail
  refine (cParseBad _ _ (by decide) (HE.out.below BV3.out) bad2).mono ?_
  rintro e w4 ⟨rfl, hb4⟩
  have LV4 := Lib.hid ((LV3.out.below hb4))
  have BV4 := Lib.hid (BV3.out.trans (hb4.mono BV3.out.size))
  have HT4 := Lib.hid (HT3.out.below HG3.out hb4)
  have HG4 := Lib.hid (Nat.lt_of_lt_of_le HG3.out hb4.size)
  clear z2
  clear hb4
  obtain ⟨z0, z1, z2, z3, z4, z5, z6, z7, z8⟩ := HT4.out
  clear z0 z1 z2 z4 z5 z6 z7 z8
  go_wp2_with fail
  rw [rounds_succ]
  go_wp2_with fail
  refine (cParseBad _ _ (by decide) (HE.out.below BV4.out) bad3).mono ?_
  rintro e w5 ⟨rfl, hb5⟩
  have LV5 := Lib.hid ((LV4.out.below hb5))
  have BV5 := Lib.hid (BV4.out.trans (hb5.mono BV4.out.size))
  have HT5 := Lib.hid (HT4.out.below HG4.out hb5)
  have HG5 := Lib.hid (Nat.lt_of_lt_of_le HG4.out hb5.size)
  clear z3
  clear hb5
  obtain ⟨z0, z1, z2, z3, z4, z5, z6, z7, z8⟩ := HT5.out
  clear z0 z1 z2 z3 z5 z6 z7 z8
  go_wp2_with fail
  rw [rounds_succ]
  go_wp2_with fail
  refine (cParseBad _ _ (by decide) (HE.out.below BV5.out) bad4).mono ?_
  rintro e w6 ⟨rfl, hb6⟩
  have LV6 := Lib.hid ((LV5.out.below hb6))
  have BV6 := Lib.hid (BV5.out.trans (hb6.mono BV5.out.size))
  have HT6 := Lib.hid (HT5.out.below HG5.out hb6)
  have HG6 := Lib.hid (Nat.lt_of_lt_of_le HG5.out hb6.size)
  clear z4
  clear hb6
  obtain ⟨z0, z1, z2, z3, z4, z5, z6, z7, z8⟩ := HT6.out
  clear z0 z1 z2 z3 z4 z6 z7 z8
  go_wp2_with fail
  rw [rounds_succ]
  go_wp2_with fail
  refine (cParseBad _ _ (by decide) (HE.out.below BV6.out) bad5).mono ?_
  rintro e w7 ⟨rfl, hb7⟩
  have LV7 := Lib.hid ((LV6.out.below hb7))
  have BV7 := Lib.hid (BV6.out.trans (hb7.mono BV6.out.size))
  have HT7 := Lib.hid (HT6.out.below HG6.out hb7)
  have HG7 := Lib.hid (Nat.lt_of_lt_of_le HG6.out hb7.size)
  clear z5
  clear hb7
  obtain ⟨z0, z1, z2, z3, z4, z5, z6, z7, z8⟩ := HT7.out
  clear z0 z1 z2 z3 z4 z5 z7 z8
  go_wp2_with fail
  rw [rounds_succ]
  go_wp2_with fail
  refine (cParseBad _ _ (by decide) (HE.out.below BV7.out) bad6).mono ?_
  rintro e w8 ⟨rfl, hb8⟩
  have LV8 := Lib.hid ((LV7.out.below hb8))
  have BV8 := Lib.hid (BV7.out.trans (hb8.mono BV7.out.size))
  have HT8 := Lib.hid (HT7.out.below HG7.out hb8)
  have HG8 := Lib.hid (Nat.lt_of_lt_of_le HG7.out hb8.size)
  clear z6
  clear hb8
  obtain ⟨z0, z1, z2, z3, z4, z5, z6, z7, z8⟩ := HT8.out
  clear z0 z1 z2 z3 z4 z5 z6 z8
  go_wp2_with fail
  rw [rounds_succ]
  go_wp2_with fail
  refine (cParseBad _ _ (by decide) (HE.out.below BV8.out) bad7).mono ?_
  rintro e w9 ⟨rfl, hb9⟩
  have LV9 := Lib.hid ((LV8.out.below hb9))
  have BV9 := Lib.hid (BV8.out.trans (hb9.mono BV8.out.size))
  have HT9 := Lib.hid (HT8.out.below HG8.out hb9)
  have HG9 := Lib.hid (Nat.lt_of_lt_of_le HG8.out hb9.size)
  clear z7
  clear hb9
  obtain ⟨z0, z1, z2, z3, z4, z5, z6, z7, z8⟩ := HT9.out
  clear z0 z1 z2 z3 z4 z5 z6 z7
  go_wp2_with fail
  rw [rounds_succ]
  go_wp2_with fail
  refine (cParseBad _ _ (by decide) (HE.out.below BV9.out) bad8).mono ?_
  rintro e w10 ⟨rfl, hb10⟩
  have LV10 := Lib.hid ((LV9.out.below hb10))
  have BV10 := Lib.hid (BV9.out.trans (hb10.mono BV9.out.size))
  have HT10 := Lib.hid (HT9.out.below HG9.out hb10)
  have HG10 := Lib.hid (Nat.lt_of_lt_of_le HG9.out hb10.size)
  clear z8
  clear hb10
  go_wp2_with fail
  rw [rounds_succ]
  go_wp2_with fail
  refine (cParseGood _ _ (by decide) (HE.out.below BV10.out) _ 2 good1 (by decide)).mono ?_
  rintro e w11 ⟨v11, rfl, hs11, hb11⟩
  obtain ⟨A11, c11, rfl, _⟩ := hs11.at_
  have LV11 := Lib.hid ((LV10.out.below hb11).cons hs11)
  have BV11 := Lib.hid (BV10.out.trans (hb11.mono BV10.out.size))
  clear hb11 hs11
  go_wp2_with fail
  refine (cParseNil _ (HE.out.below BV11.out)).mono ?_
  rintro e w12 ⟨A12, c12, rfl, hb12⟩
  have LV12 := Lib.hid ((LV11.out.below hb12))
  have BV12 := Lib.hid (BV11.out.trans (hb12.mono BV11.out.size))
  clear hb12
  go_wp2_with fail
  refine (cOfNone (LV12.out.nth 1 rfl) (by decide) odd_nf).mono ?_
  rintro e w13 ⟨A13, c13, rfl, hb13⟩
  have LV13 := Lib.hid ((LV12.out.below hb13))
  have BV13 := Lib.hid (BV12.out.trans (hb13.mono BV12.out.size))
  clear hb13
  go_wp2_with fail
  refine (cIsNot (LV13.out.nth 1 rfl) (by decide) odd_not).mono ?_
  rintro e w14 ⟨rfl, hb14⟩
  have LV14 := Lib.hid ((LV13.out.below hb14))
  have BV14 := Lib.hid (BV13.out.trans (hb14.mono BV13.out.size))
  clear hb14
  go_wp2_with fail
  refine (cIs (SetAt.nil _) (by decide) NF.nil).mono ?_
  rintro e w15 ⟨rfl, hb15⟩
  have LV15 := Lib.hid ((LV14.out.below hb15))
  have BV15 := Lib.hid (BV14.out.trans (hb15.mono BV14.out.size))
  clear hb15
  go_wp2_with fail
  refine (cP [1, 2, 2, 3] [(1, 2), (2, 3)] 2 w15 (by decide) rfl (by decide) (by decide)).mono ?_
  rintro e w16 ⟨v16, rfl, hs16, hb16⟩
  obtain ⟨A16, c16, rfl, _⟩ := hs16.at_
  have LV16 := Lib.hid ((LV15.out.below hb16).cons hs16)
  have BV16 := Lib.hid (BV15.out.trans (hb16.mono BV15.out.size))
  clear hb16 hs16
  go_wp2_with fail
  refine (cIsNot (LV16.out.nth 0 rfl) (by decide) not1).mono ?_
  rintro e w17 ⟨rfl, hb17⟩
  have LV17 := Lib.hid ((LV16.out.below hb17))
  have BV17 := Lib.hid (BV16.out.trans (hb17.mono BV16.out.size))
  clear hb17
  go_wp2_with fail
  refine (cP [3, 4, 1, 2] [(3, 4), (1, 2)] 2 w17 (by decide) rfl (by decide) (by decide)).mono ?_
  rintro e w18 ⟨v18, rfl, hs18, hb18⟩
  obtain ⟨A18, c18, rfl, _⟩ := hs18.at_
  have LV18 := Lib.hid ((LV17.out.below hb18).cons hs18)
  have BV18 := Lib.hid (BV17.out.trans (hb18.mono BV17.out.size))
  clear hb18 hs18
  go_wp2_with fail
  refine (cIsNot (LV18.out.nth 0 rfl) (by decide) not2).mono ?_
  rintro e w19 ⟨rfl, hb19⟩
  have LV19 := Lib.hid ((LV18.out.below hb19))
  have BV19 := Lib.hid (BV18.out.trans (hb19.mono BV18.out.size))
  clear hb19
  go_wp2_with fail
  refine (cSizeAs (LV19.out.nth 3 rfl) (by decide) 0 (by rw [Iset.size, odd_nf]; rfl)).mono ?_
  rintro e w20 ⟨rfl, hb20⟩
  have LV20 := Lib.hid ((LV19.out.below hb20))
  have BV20 := Lib.hid (BV19.out.trans (hb20.mono BV19.out.size))
  clear hb20
  go_wp2_with fail
  refine (cHasAs (LV20.out.nth 3 rfl) 5 (by decide) false (odd_has 5)).mono ?_
  rintro e w21 ⟨rfl, hb21⟩
  have LV21 := Lib.hid ((LV20.out.below hb21))
  have BV21 := Lib.hid (BV20.out.trans (hb21.mono BV20.out.size))
  clear hb21
  go_wp2_with fail
  refine (cP [0, 1, 3, 1099511627776] [(0, 1), (3, 1099511627776)] 2 w21 (by decide) rfl (by decide) (by decide)).mono ?_
  rintro e w22 ⟨v22, rfl, hs22, hb22⟩
  obtain ⟨A22, c22, rfl, _⟩ := hs22.at_
  have LV22 := Lib.hid ((LV21.out.below hb22).cons hs22)
  have BV22 := Lib.hid (BV21.out.trans (hb22.mono BV21.out.size))
  clear hb22 hs22
  go_wp2_with fail
  refine (cSame2 (LV22.out.nth 3 rfl) (LV22.out.nth 0 rfl) (by decide) rfl).mono ?_
  rintro e w23 ⟨rfl, hb23⟩
  have LV23 := Lib.hid ((LV22.out.below hb23))
  have BV23 := Lib.hid (BV22.out.trans (hb23.mono BV22.out.size))
  clear hb23
  go_wp2_with fail
  refine (cP [0, 1099511627776] [(0, 1099511627776)] 1 w23 (by decide) rfl (by decide) (by decide)).mono ?_
  rintro e w24 ⟨v24, rfl, hs24, hb24⟩
  obtain ⟨A24, c24, rfl, _⟩ := hs24.at_
  have LV24 := Lib.hid ((LV23.out.below hb24).cons hs24)
  have BV24 := Lib.hid (BV23.out.trans (hb24.mono BV23.out.size))
  clear hb24 hs24
  go_wp2_with fail
  refine (cSizeAs (LV24.out.nth 0 rfl) (by decide) 1099511627776 full_size).mono ?_
  rintro e w25 ⟨rfl, hb25⟩
  have LV25 := Lib.hid ((LV24.out.below hb25))
  have BV25 := Lib.hid (BV24.out.trans (hb25.mono BV24.out.size))
  clear hb25
  go_wp2_with fail
  refine (cP [0, 1099511627776] [(0, 1099511627776)] 1 w25 (by decide) rfl (by decide) (by decide)).mono ?_
  rintro e w26 ⟨v26, rfl, hs26, hb26⟩
  obtain ⟨A26, c26, rfl, _⟩ := hs26.at_
  have LV26 := Lib.hid ((LV25.out.below hb26).cons hs26)
  have BV26 := Lib.hid (BV25.out.trans (hb26.mono BV25.out.size))
  clear hb26 hs26
  go_wp2_with fail
  refine (cHasAs (LV26.out.nth 0 rfl) 1099511627776 (by decide) false (Iset.has_beyond _ _ (by decide))).mono ?_
  rintro e w27 ⟨rfl, hb27⟩
  have LV27 := Lib.hid ((LV26.out.below hb27))
  have BV27 := Lib.hid (BV26.out.trans (hb27.mono BV26.out.size))
  clear hb27
  go_wp2_with fail
  refine (cCoversYes (SetAt.nil _) (LV27.out.nth 6 rfl) (by decide) (fun t ht => by rw [odd_has] at ht; cases ht)).mono ?_
  rintro e w28 ⟨rfl, hb28⟩
  have LV28 := Lib.hid ((LV27.out.below hb28))
  have BV28 := Lib.hid (BV27.out.trans (hb28.mono BV27.out.size))
  clear hb28
  go_wp2_with fail
  refine (wakes_any _ (HE.out.below BV28.out)).mono ?_
  rintro e w29 ⟨rfl, hb29⟩
  have LV29 := Lib.hid ((LV28.out.below hb29))
  have BV29 := Lib.hid (BV28.out.trans (hb29.mono BV28.out.size))
  clear hb29
  go_wp2
  go_ret
  exact ⟨rfl, BV29.out⟩
end Go.Proofs.YtgjahnidjcfbiaaDoor
