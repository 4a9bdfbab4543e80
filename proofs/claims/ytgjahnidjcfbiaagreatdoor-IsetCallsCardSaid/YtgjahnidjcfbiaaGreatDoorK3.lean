/- The document's ends. -/
import Derived.Test.YtgjahnidjcfbiaaGreatDoorK2
namespace Go.Proofs.YtgjahnidjcfbiaaGreatDoor
open Go.RowKit Go.Shelf Go.Lib
open Iset (nf has NF Res Wide hasP mayP allE aboveB Sel Outs EndsOf)
theorem allE_on (L : List (Int × Int)) (k : Nat) (h : k < L.length) (hm : mayP (L[k].1, L[k].2) = true) : allE (L.take (k + 1)) = allE (L.take k) ++ [L[k].1, L[k].2] := by
  rw [Iset.allE_take L k h, if_pos hm]
theorem allE_off (L : List (Int × Int)) (k : Nat) (h : k < L.length) (hm : mayP (L[k].1, L[k].2) = false) : allE (L.take (k + 1)) = allE (L.take k) := by
  rw [Iset.allE_take L k h, if_neg (by rw [hm]; exact Bool.false_ne_true), List.append_nil]
theorem allE_len (L : List (Int × Int)) (k : Nat) : (allE (L.take k)).length ≤ 2 + 2 * L.length := by
  have := Iset.allE_length (L.take k)
  have := List.length_take_le' k L
  omega
set_option maxRecDepth 100000 in
set_option maxHeartbeats 8000000 in
theorem docEnds_any (v : Value) (L : List (Int × Int)) (w : World) (hv : IsP w v L) (hl : L.length ≤ 1000000) :
    Calls Tryz.prog 43 #[v] w fun e w' => ∃ v' E, e = .returned v' ∧ IsU w' v' E ∧ EndsOf L E ∧ Below w.heap.size w w' := by
  obtain ⟨A, c, rfl, hA⟩ := hv
  have HA := Lib.hid hA
  have HON := Lib.hid (allE_on L)
  have HOFF := Lib.hid (allE_off L)
  have HLE := Lib.hid (allE_len L)
  clear hA
  have HS := Lib.hid (show OwnU w.heap.size (w.alloc (.cells #[.int .u64 0, .int .u64 1099511627776] 23)) (.slice (some ⟨w.heap.size, 0, none⟩) 2 2) (allE (L.take 0)) from ownU_two w 0 1099511627776)
  go_enter Tryz.func43, Tryz.ntmps43
  go_wp2_with fail
  go_loopw [3, 4] (fun s i wr => ∃ k : Nat, k ≤ L.length ∧ i = .int .i64 k ∧ OwnU w.heap.size wr s (allE (L.take k)) ∧ Below w.heap.size w wr) (fun _ i _ => L.length - (intOf i).toNat)
  case atStart => exact ⟨0, Nat.zero_le _, rfl, HS.out, (Below.refl _ _).alloc (Nat.le_refl _) _⟩
  case round =>
    obtain ⟨k, hk, rfl, ho, hb⟩ := hrel
    have hs := hb.size
    have hle := HLE.out k
    by_cases hlt : k < L.length
    · obtain ⟨b, off, rfl, hbl, hc⟩ := HA.out (by omega)
      obtain ⟨b0, b1⟩ := hc k hlt
      have c0 := (hb.cell (p := ⟨b, off + k * 2, none⟩) hbl).trans b0
      have c1 := (hb.cell (p := ⟨b, off + k * 2 + 1, none⟩) hbl).trans b1
      have K1 := Lib.hid (HON.out k hlt)
      have K2 := Lib.hid (HOFF.out k hlt)
      have i0 : (k : Int) < (L.length : Int) := by omega
      have i1 : (0 : Int) ≤ (k : Int) := by omega
      generalize allE (L.take k) = s at *
      generalize L[k].1 = p at *
      generalize L[k].2 = q at *
      have HM := Lib.hid (refMay_any p q)
      have HH := Lib.hid (show mayP (p, q) = mayB p q from rfl)
      generalize mayB p q = m at *
      have HO := Lib.hid ho
      have HB := Lib.hid hb
      clear hc HA HON HOFF ho hb
      cases m
      · have HZ := Lib.hid (K2.out HH.out)
        clear K1 K2 HH
        go_wp2_with (go_at_call 35; ((with_reducible refine (HM.out _).mono ?_); rintro e w1 ⟨rfl, hb1⟩; have HO1 := Lib.hid (HO.out.below hb1); have HB1 := Lib.hid (HB.out.trans (hb1.mono HB.out.size)); clear hb1))
        exact ⟨⟨k + 1, by omega, by go_num, by rw [HZ.out]; exact HO1.out, HB1.out⟩, by simp [intOf]; omega⟩
      · have HZ := Lib.hid (K1.out HH.out)
        clear K1 K2 HH
        go_wp2_with fail
        refine (HM.out _).mono ?_
        rintro e w1 ⟨rfl, hb1⟩
        have HO1 := Lib.hid (HO.out.below hb1)
        have HB1 := Lib.hid (HB.out.trans (hb1.mono HB.out.size))
        have hs1 := HB1.out.size
        clear hb1 c0 c1 HO HB hs
        obtain ⟨A3, c3, hv3, hcc, _, _⟩ := HO1.out.at
        subst hv3
        go_upto_region 6 with fail
        have K0 := Lib.hid (fun w' (hb : Below w.heap.size w w') => (⟨(hb.cell (p := ⟨b, off + k * 2, none⟩) hbl).trans b0, (hb.cell (p := ⟨b, off + k * 2 + 1, none⟩) hbl).trans b1⟩ : w'.cell? ⟨b, off + k * 2, none⟩ = some (.int .u64 p) ∧ w'.cell? ⟨b, off + k * 2 + 1, none⟩ = some (.int .u64 q)))
        clear b0 b1
        go_region_held3 (fun w' => w'.cell? ⟨b, off + k * 2, none⟩ = some (.int .u64 p) ∧ w'.cell? ⟨b, off + k * 2 + 1, none⟩ = some (.int .u64 q)) (first | exact K0.out _ HB1.out.drew | exact K0.out _ (HB1.out.alloc hs1 _).drew | exact K0.out _ HB2.out | fail) (first
          | (refine step_appU2 rfl (.tmp 21) (.tmp 32) rfl w.heap.size _ s rfl (HO1.out.below (((Below.refl _ _).alloc (Nat.le_refl _) _).drew)) w1.heap.size p q rfl (by go_simp) (by go_simp) (by omega) (by simp [World.drew]; omega) ?_; intro v2 w2 ho2 hb2; have HO2 := Lib.hid ho2; have HB2 := Lib.hid ((HB1.out.alloc hs1 (.cells #[.int .u64 p, .int .u64 q] 23)).drew.trans hb2); clear ho2 hb2)
          | fail)
        go_wp2
        exact ⟨⟨k + 1, by omega, by go_num, by rw [HZ.out]; exact HO2.out, HB2.out⟩, by simp [intOf]; omega⟩
    · obtain rfl : k = L.length := by omega
      rw [List.take_length] at ho hle
      have HD := Lib.hid (fun out least (h : Outs (allE L) out) (s : Sel (allE L) out (allE L).length false least) => h.done s)
      have hpos : 0 < (allE L).length := by simp [allE]
      clear HON HOFF HLE HS
      generalize allE L = all at *
      have HB := Lib.hid hb
      obtain ⟨A3, c3, hv3, _, _, hA3⟩ := ho.at
      obtain ⟨b3, o3, rfl, hb3, hc3⟩ := hA3 hpos
      subst hv3
      obtain ⟨w1, rfl⟩ : ∃ x : World, x = wr := ⟨_, rfl⟩
      have HC3 := Lib.hid hc3
      clear ho hb hA3 hs hk HA hc3
      go_wp2_with fail
      go_loopw [5, 6, 7, 8] (fun o _ _ _ wr => ∃ out, OwnU w1.heap.size wr o out ∧ Outs all out ∧ Below w1.heap.size w1 wr) (fun o _ _ _ _ => all.length + 1 - lenV o)
      case atStart => exact ⟨[], OwnU.nil _ _, Outs.start _, Below.refl _ _⟩
      case round =>
        obtain ⟨out, ho, hou, hb⟩ := hrel
        have HU := Lib.hid hou
        have hlen := hou.len
        have HO := Lib.hid ho
        have HB2 := Lib.hid hb
        have hb32 := Nat.lt_of_lt_of_le hb3 hb.size
        have hc2 := Lib.hid (fun i (h : i < all.length) => (hb.cell (p := ⟨b3, o3 + i, none⟩) hb3).trans (HC3.out i h))
        obtain ⟨A5, c5, hv5, _, _, hA5⟩ := ho.at
        subst hv5
        have HSTART := Lib.hid (Sel.start all out)
        obtain ⟨w2, rfl⟩ : ∃ x : World, x = wr := ⟨_, rfl⟩
        clear ho hb hou
        rcases Iset.nil_or_snocI out with rfl | ⟨o, y, rfl⟩
        · rw [List.length_nil] at HO ⊢
          go_wp2_with fail
          go_loopw [6, 7, 8] (fun l s i wr => ∃ (j : Nat) (is : Bool) (least : Int), j ≤ all.length ∧ i = .int .i64 j ∧ s = .bool is ∧ l = .int .u64 least ∧ Sel all [] j is least ∧ Below w2.heap.size w2 wr) (fun _ _ i _ => all.length - (intOf i).toNat)
          case atStart => exact ⟨0, false, 0, Nat.zero_le _, rfl, rfl, rfl, HSTART.out, Below.refl _ _⟩
          case round =>
            obtain ⟨j, is, least, hj, rfl, rfl, rfl, hsel, hb9⟩ := hrel
            have HX := Lib.hid hb9
            have hsx := hb9.size
            by_cases hlt : j < all.length
            · have c0 := (hb9.cell (p := ⟨b3, o3 + j, none⟩) hb32).trans (hc2.out j hlt)
              have T := Lib.hid (hsel.take hlt)
              have U := Lib.hid (hsel.skip hlt)
              have V := Lib.hid (fun (h : is = true) => Sel.leave (h ▸ hsel) hlt)
              rw [Iset.above_nil] at T U
              have j0 : (j : Int) < (all.length : Int) := by omega
              have j1 : (0 : Int) ≤ (j : Int) := by omega
              generalize all[j] = z at *
              clear hb9 hsel
              cases is
              · skip
                have HZ := Lib.hid (T.out rfl (.inl rfl))
                clear T U V
                go_upto_region 13 with fail
                go_quiet (fail)
                go_wp2
                exact ⟨⟨j + 1, true, z, by omega, by go_num, rfl, rfl, HZ.out, bel_drewN _ HX.out⟩, by simp [intOf]; omega⟩
              · by_cases hz : z < least
                · skip
                  have HZ := Lib.hid (T.out rfl (.inr hz))
                  clear T U V
                  go_upto_region 13 with fail
                  go_quiet (fail)
                  go_wp2
                  exact ⟨⟨j + 1, true, z, by omega, by go_num, rfl, rfl, HZ.out, bel_drewN _ HX.out⟩, by simp [intOf]; omega⟩
                · have hz' : decide (z < least) = false := by simpa using hz
                  have HZ := Lib.hid (V.out rfl hz)
                  clear T U V
                  go_upto_region 13 with fail
                  go_quiet (fail)
                  go_wp2
                  exact ⟨⟨j + 1, true, least, by omega, by go_num, rfl, rfl, HZ.out, bel_drewN _ HX.out⟩, by simp [intOf]; omega⟩
            · obtain rfl : j = all.length := by omega
              have HO3 := Lib.hid (HO.out.below hb9)
              have HB3 := Lib.hid (HB2.out.trans (hb9.mono HB2.out.size))
              have hs3 := HB3.out.size
              cases is
              · have HE := Lib.hid (HD.out _ _ HU.out hsel)
                clear hb9 hsel
                go_wp2
                try rw [Exit.noGoto_ret]
                go_ret
                exact ⟨_, [], rfl, HO3.out.at, HE.out, HB.out.trans (HB3.out.mono HB.out.size)⟩
              · have HE := Lib.hid (HU.out.add hsel)
                have hl6 := HE.out.len
                rw [List.length_append] at hl6
                simp only [List.length_cons, List.length_nil] at hl6
                clear hb9 hsel
                go_wp2_with (at_builtin; refine wpList_appU rfl (.tmp 75) (.tmp 77) rfl w1.heap.size _ [] [least] rfl (HO3.out.alloc _) 1 rfl wr.heap.size 0 1 ?_ (by omega) ?_ (by simp only [List.length_cons, List.length_nil]; omega) (by simp; omega) ?_)
                · go_simp
                · intro i hi
                  match i, hi with
                  | 0, _ => go_simp
                intro v2 w4 ho2 hb2
                have HO4 := Lib.hid ho2
                have HB4 := Lib.hid ((HB3.out.alloc hs3 (.cells #[.int .u64 least] 23)).trans hb2)
                have hm6 : lenV v2 = 0 + 1 := by
                  obtain ⟨A6, c6, hv6, _⟩ := ho2.at
                  rw [hv6]; simp [lenV]
                clear ho2 hb2
                go_wp2
                exact ⟨⟨_, HO4.out, HE.out, HB4.out⟩, by rw [hm6]; simp only [lenV]; omega⟩
        · obtain ⟨n, hn⟩ : ∃ n : Nat, o.length = n := ⟨_, rfl⟩
          have hlo : (o ++ [y]).length = n + 1 := by simp [hn]
          obtain ⟨b5, o5, rfl, hb5, hc5⟩ := hA5 (by omega)
          have cy := hc5 n (by omega)
          have ey : (o ++ [y])[n]'(by omega) = y := by subst hn; simp
          rw [ey] at cy
          rw [hlo] at HO hlen ⊢
          have hw1 : IntKind.i64.wrap ((n : Int) + 1 - 1) = n := by rw [Int.add_sub_cancel, IntWalk.i64_in]; constructor <;> omega
          have hw2 : IntKind.i64.wrap (n : Int) = n := by rw [IntWalk.i64_in]; constructor <;> omega
          have hne : ((n : Int) + 1 == 0) = false := by simp; omega
          clear hc5 hA5 ey
          go_wp2_with fail
          go_loopw [6, 7, 8] (fun l s i wr => ∃ (j : Nat) (is : Bool) (least : Int), j ≤ all.length ∧ i = .int .i64 j ∧ s = .bool is ∧ l = .int .u64 least ∧ Sel all (o ++ [y]) j is least ∧ Below w2.heap.size w2 wr) (fun _ _ i _ => all.length - (intOf i).toNat)
          case atStart => exact ⟨0, false, 0, Nat.zero_le _, rfl, rfl, rfl, HSTART.out, Below.refl _ _⟩
          case round =>
            obtain ⟨j, is, least, hj, rfl, rfl, rfl, hsel, hb9⟩ := hrel
            have HX := Lib.hid hb9
            have hsx := hb9.size
            by_cases hlt : j < all.length
            · have c0 := (hb9.cell (p := ⟨b3, o3 + j, none⟩) hb32).trans (hc2.out j hlt)
              have c1 := (hb9.cell (p := ⟨b5, o5 + n, none⟩) hb5).trans cy
              have T := Lib.hid (hsel.take hlt)
              have U := Lib.hid (hsel.skip hlt)
              have V := Lib.hid (fun (h : is = true) => Sel.leave (h ▸ hsel) hlt)
              rw [Iset.above_snoc] at T U
              have j0 : (j : Int) < (all.length : Int) := by omega
              have j1 : (0 : Int) ≤ (j : Int) := by omega
              generalize all[j] = z at *
              clear hb9 hsel
              by_cases hy : y < z
              · skip
                cases is
                · skip
                  have HZ := Lib.hid (T.out (by simpa using hy) (.inl rfl))
                  clear T U V
                  go_upto_region 13 with fail
                  go_quiet (fail)
                  go_wp2
                  exact ⟨⟨j + 1, true, z, by omega, by go_num, rfl, rfl, HZ.out, bel_drewN _ HX.out⟩, by simp [intOf]; omega⟩
                · by_cases hz : z < least
                  · skip
                    have HZ := Lib.hid (T.out (by simpa using hy) (.inr hz))
                    clear T U V
                    go_upto_region 13 with fail
                    go_quiet (fail)
                    go_wp2
                    exact ⟨⟨j + 1, true, z, by omega, by go_num, rfl, rfl, HZ.out, bel_drewN _ HX.out⟩, by simp [intOf]; omega⟩
                  · have hz' : decide (z < least) = false := by simpa using hz
                    have HZ := Lib.hid (V.out rfl hz)
                    clear T U V
                    go_upto_region 13 with fail
                    go_quiet (fail)
                    go_wp2
                    exact ⟨⟨j + 1, true, least, by omega, by go_num, rfl, rfl, HZ.out, bel_drewN _ HX.out⟩, by simp [intOf]; omega⟩
              · have hy' : decide (y < z) = false := by simpa using hy
                have HZ := Lib.hid (U.out hy')
                clear T U V
                go_upto_region 13 with fail
                go_quiet (fail)
                go_wp2
                exact ⟨⟨j + 1, is, least, by omega, by go_num, rfl, rfl, HZ.out, bel_drewN _ HX.out⟩, by simp [intOf]; omega⟩
            · obtain rfl : j = all.length := by omega
              have HO3 := Lib.hid (HO.out.below hb9)
              have HB3 := Lib.hid (HB2.out.trans (hb9.mono HB2.out.size))
              have hs3 := HB3.out.size
              cases is
              · have HE := Lib.hid (HD.out _ _ HU.out hsel)
                clear hb9 hsel
                go_wp2
                try rw [Exit.noGoto_ret]
                go_ret
                exact ⟨_, (o ++ [y]), rfl, HO3.out.at, HE.out, HB.out.trans (HB3.out.mono HB.out.size)⟩
              · have HE := Lib.hid (HU.out.add hsel)
                have hl6 := HE.out.len
                rw [List.length_append] at hl6
                simp only [List.length_cons, List.length_nil] at hl6
                rw [hlo] at hl6
                clear hb9 hsel
                go_wp2_with (at_builtin; refine wpList_appU rfl (.tmp 75) (.tmp 77) rfl w1.heap.size _ (o ++ [y]) [least] rfl (HO3.out.alloc _) 1 rfl wr.heap.size 0 1 ?_ (by omega) ?_ (by simp only [List.length_cons, List.length_nil]; rw [hlo]; omega) (by simp; omega) ?_)
                · go_simp
                · intro i hi
                  match i, hi with
                  | 0, _ => go_simp
                intro v2 w4 ho2 hb2
                have HO4 := Lib.hid ho2
                have HB4 := Lib.hid ((HB3.out.alloc hs3 (.cells #[.int .u64 least] 23)).trans hb2)
                have hm6 : lenV v2 = (n + 1) + 1 := by
                  obtain ⟨A6, c6, hv6, _⟩ := ho2.at
                  rw [hv6]; simp [lenV, hn]
                clear ho2 hb2
                go_wp2
                exact ⟨⟨_, HO4.out, by have := HE.out; rw [List.append_assoc] at this; exact this, HB4.out⟩, by rw [hm6]; simp only [lenV]; omega⟩
end Go.Proofs.YtgjahnidjcfbiaaGreatDoor
