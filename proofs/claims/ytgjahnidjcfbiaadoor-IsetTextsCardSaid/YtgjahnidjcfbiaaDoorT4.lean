/- The document's Parse. -/
import Derived.Test.YtgjahnidjcfbiaaDoorT3
namespace Go.Proofs.YtgjahnidjcfbiaaDoor
open Go.RowKit Go.Shelf Go.Lib
open Iset (nf has NF Res Wide textL Parsed nums feed isDig lastDig bump)
theorem OwnU.form {base : Nat} {w : World} {v : Value} {L : List Int} (h : OwnU base w v L) (hn : 0 < L.length) : ∃ g c, v = .slice (some ⟨g, 0, none⟩) L.length c ∧ base ≤ g ∧ g < w.heap.size ∧ (∀ o, w.frozen? ⟨g, o, none⟩ = false) ∧ ∀ i (h : i < L.length), w.cell? ⟨g, i, none⟩ = some (.int .u64 L[i]) := by
  have h' := h
  rcases h.2 with ⟨rfl, h0⟩ | ⟨g, cap, cur, rfl, hg, hb, h1, h2, h3, h4⟩
  · omega
  · obtain ⟨A, c, e, _, _, k⟩ := h'.at
    obtain ⟨b, off, rfl, hl, hc⟩ := k hn
    injection e with e1 e2 e3
    injection e1 with e1
    injection e1 with e4 e5 e6
    subst e4 e5
    refine ⟨g, cap, rfl, hg, hl, fun o => by simp [World.frozen?, hb], fun i hi => ?_⟩
    have := hc i hi
    rw [Nat.zero_add] at this
    exact this
theorem OwnU.stored {base g c : Nat} {w : World} {s : List Int} {q : Int} (h : OwnU base w (.slice (some ⟨g, 0, none⟩) (s.length + 1) c) (s ++ [q])) (z : Int) :
    OwnU base (w.setCell ⟨g, s.length, none⟩ (.int .u64 z)) (.slice (some ⟨g, 0, none⟩) (s.length + 1) c) (s ++ [z]) := by
  unfold OwnU at *
  rw [List.length_append] at *
  have := World.ownsRow.stored h s.length (.int .u64 z)
  rw [show ((s ++ [q]).map (Value.int .u64)).set s.length (.int .u64 z) = (s ++ [z]).map (Value.int .u64) by simp] at this
  exact this.1
theorem not_dig {c : UInt8} (h : c.toNat < 48 ∨ 57 < c.toNat) : isDig c = false := by
  simp [isDig]
  omega
theorem is_dig {c : UInt8} (h : 48 ≤ c.toNat) (k : c.toNat ≤ 57) : isDig c = true := by
  simp [isDig]
  omega
theorem feed_star (d : Bool) (l : List Int) {c : UInt8} (h : c.toNat = 42) : feed d l c = l ++ [1099511627776] := by
  have e : c = 42 := UInt8.toNat_inj.1 h
  rw [feed, not_dig (by omega), if_neg (by simp), if_pos e]
theorem feed_else (d : Bool) (l : List Int) {c : UInt8} (h : c.toNat ≠ 42) (k : c.toNat < 48 ∨ 57 < c.toNat) : feed d l c = l := by
  rw [feed, not_dig k, if_neg (by simp), if_neg (by rintro rfl; exact h rfl)]
theorem feed_new (l : List Int) {c : UInt8} (h : 48 ≤ c.toNat) (k : c.toNat ≤ 57) : feed false l c = l ++ [(c.toNat : Int) - 48] := by
  rw [feed, is_dig h k, if_pos rfl, if_neg (by simp)]
theorem feed_more (l : List Int) (z : Int) {c : UInt8} (h : 48 ≤ c.toNat) (k : c.toNat ≤ 57) : feed true (l ++ [z]) c = l ++ [(10 * z + ((c.toNat : Int) - 48)) % 18446744073709551616] := by
  rw [feed, is_dig h k, if_pos rfl, if_pos rfl, Iset.bump_snoc]
set_option maxRecDepth 100000 in
set_option maxHeartbeats 16000000 in
theorem docParse_any (s : ByteArray) (w : World) (hs : s.size ≤ 1000) :
    Calls Tryd.prog 13 #[.string s] w fun e w' =>
      (∃ v R, e = .returned (.tuple #[v, .int .i64 0]) ∧ Parsed s.data.toList (some R) ∧ R.length ≤ 1000 ∧ IsP w' v R ∧ Below w.heap.size w w') ∨
      (e = .returned (.tuple #[.slice none 0 0, .int .i64 5]) ∧ Parsed s.data.toList none ∧ Below w.heap.size w w') := by
  have hsl : s.data.toList.length = s.size := by simp
  have HSL := Lib.hid hsl
  have TS := Lib.hid (Iset.Told.start s.data.toList)
  clear hsl
  go_enter Tryd.func13, Tryd.ntmps13
  go_wp2_with fail
  go_loopw [4, 5, 6] (fun l i _ wr => ∃ (k : Nat) (L : List Int), k ≤ s.size ∧ i = .int .i64 k ∧ OwnU w.heap.size wr l L ∧ Iset.Told s.data.toList k L ∧ Below w.heap.size w wr) (fun _ i _ _ => s.size - (intOf i).toNat)
  case atStart => exact ⟨0, [], Nat.zero_le _, rfl, OwnU.nil _ _, TS.out, Below.refl _ _⟩
  case round =>
    obtain ⟨k, L, hk, rfl, ho, ht, hb⟩ := hrel
    have hsz := hb.size
    have hll := ht.len
    have HO := Lib.hid ho
    have HT := Lib.hid ht
    have HB := Lib.hid hb
    by_cases hlt : k < s.size
    · have hkl : k < s.data.toList.length := by rw [HSL.out]; exact hlt
      have hN := ht.next hkl
      obtain ⟨c, hc⟩ : ∃ c : UInt8, s[k]'hlt = c := ⟨_, rfl⟩
      have hcl : s.data.toList[k]'hkl = c := by rw [← hc]; rfl
      rw [hcl] at hN
      have hz : (s[k]'hlt).toNat = c.toNat := by rw [hc]
      have i0 : (k : Int) < (s.size : Int) := by omega
      have i1 : (0 : Int) ≤ (k : Int) := by omega
      clear hc hcl ho ht hb
      have hc8 : c.toNat < 256 := UInt8.toNat_lt c
      by_cases hstar : c.toNat = 42
      · have HZ := Lib.hid (feed_star (lastDig (s.data.toList.take k)) L hstar ▸ hN)
        rw [hstar] at hz
        clear hN hstar hc8
        go_wp2_with (at_builtin; refine wpList_appU rfl (.tmp 19) (.tmp 20) rfl w.heap.size _ L [1099511627776] rfl (HO.out.alloc _) 1 rfl wr.heap.size 0 1 ?_ (by omega) ?_ (by simp; omega) (by simp; omega) ?_)
        · go_simp
        · intro i hi
          match i, hi with
          | 0, _ => go_simp
        intro v2 w2 ho2 hb2
        have HO2 := Lib.hid ho2
        have HB2 := Lib.hid ((HB.out.alloc hsz (.cells #[.int .u64 1099511627776] 36)).trans hb2)
        clear ho2 hb2
        go_wp2
        exact ⟨⟨k + 1, _, by omega, by go_num, HO2.out, HZ.out, HB2.out⟩, by simp [intOf]; omega⟩
      · by_cases hd : c.toNat < 48 ∨ 57 < c.toNat
        · have HZ := Lib.hid (feed_else (lastDig (s.data.toList.take k)) L hstar hd ▸ hN)
          obtain ⟨z, hcz⟩ : ∃ z : Nat, c.toNat = z := ⟨_, rfl⟩
          rw [hcz] at hz hd hstar
          clear hN hcz
          have hst : ((z : Int) == 42) = false := by simp; omega
          rcases hd with hd | hd
          · have hd1 : (z : Int) < 48 := by omega
            clear hstar
            go_wp2
            exact ⟨⟨k + 1, _, by omega, by go_num, HO.out, HZ.out, HB.out⟩, by simp [intOf]; omega⟩
          · have hd1 : ¬ (z : Int) < 48 := by omega
            have hd2 : 57 < (z : Int) := by omega
            clear hstar
            go_wp2
            exact ⟨⟨k + 1, _, by omega, by go_num, HO.out, HZ.out, HB.out⟩, by simp [intOf]; omega⟩
        · have hd1 : 48 ≤ c.toNat := by omega
          have hd2 : c.toNat ≤ 57 := by omega
          have FN := Lib.hid (feed_new L hd1 hd2)
          have FM := Lib.hid (fun l z => feed_more l z hd1 hd2)
          obtain ⟨z, hcz⟩ : ∃ z : Nat, c.toNat = z := ⟨_, rfl⟩
          rw [hcz] at hz hd1 hd2 hstar FN FM
          have hst : ((z : Int) == 42) = false := by simp; omega
          have hu1 : ¬ (z : Int) < 48 := by omega
          have hu2 : ¬ 57 < (z : Int) := by omega
          have hw8 : IntKind.u8.wrap ((z : Int) - 48) = (z : Int) - 48 := by rw [IntWalk.u8_in]; omega
          clear hcz hd hstar hc8
          have HLAST := Lib.hid (fun (h0 : 0 < k) => Iset.lastDig_take (s := s.data.toList) h0 (Nat.le_of_lt hkl))
          have HSOME := Lib.hid (HT.out.some)
          generalize hld : lastDig (s.data.toList.take k) = ld at *
          rcases Nat.eq_zero_or_pos k with hk0 | hk0
          · have e0 : ld = false := by rw [← hld, hk0]; rfl
            subst e0
            have hkz : ((k : Int) == 0) = true := by simp [hk0]
            clear hld hk0
            have HZ := Lib.hid (FN.out ▸ hN)
            clear hN FN FM HSOME HLAST
            go_upto_region 10 with (at_builtin; refine wpList_appU rfl (.tmp 48) (.tmp 49) rfl w.heap.size _ L [0] rfl (HO.out.alloc _) 1 rfl wr.heap.size 0 1 (by go_simp) (by omega) (by intro i hi; match i, hi with | 0, _ => go_simp) (by simp; omega) (by simp; omega) ?_; intro v2 w2 ho2 hb2; have HO2 := Lib.hid ho2; have HB2 := Lib.hid ((HB.out.alloc hsz (.cells #[.int .u64 0] 36)).trans hb2); clear ho2 hb2)
            have hne1 : (L ++ [0]).length = L.length + 1 := by simp
            obtain ⟨g, cc, rfl, hg1, hg2, hfr, hcel⟩ := HO2.out.form (by omega)
            have hx := hcel L.length (by omega)
            have ex : (L ++ [0])[L.length]'(by omega) = 0 := by simp
            rw [ex] at hx
            rw [hne1] at HO2 ⊢
            clear hcel ex hne1
            go_upto_region 11 with fail
            
            go_region
            go_wp2
            exact ⟨⟨k + 1, _, by omega, by go_num, OwnU.stored HO2.out _, HZ.out, (HB2.out.setCell (p := ⟨g, L.length, none⟩) hg1 _).drew⟩, by simp [intOf]; omega⟩
          · have hy := HLAST.out hk0
            obtain ⟨y, hyy⟩ : ∃ y : UInt8, s.data.toList[k - 1]'(by omega) = y := ⟨_, rfl⟩
            rw [hyy] at hy
            have hy1 : (s[k - 1]'(by omega)).toNat = y.toNat := by rw [← hyy]; rfl
            have hkn : ((k : Int) == 0) = false := by simp; omega
            have hkw : IntKind.i64.wrap ((k : Int) - 1) = ((k - 1 : Nat) : Int) := by rw [IntWalk.i64_in] <;> omega
            have hyr : y.toNat < 256 := UInt8.toNat_lt y
            have HYD := Lib.hid (fun (h : y.toNat < 48 ∨ 57 < y.toNat) => (hy.trans (not_dig h)))
            have HYE := Lib.hid (fun (h : 48 ≤ y.toNat) (h2 : y.toNat ≤ 57) => (hy.trans (is_dig h h2)))
            obtain ⟨x0, hx0⟩ : ∃ z : Nat, y.toNat = z := ⟨_, rfl⟩
            rw [hx0] at hy1 hyr HYD HYE
            clear hy hyy hx0 hld
            by_cases ha : x0 < 48
            · have e0 := HYD.out (.inl ha)
              subst e0
              have ha1 : (x0 : Int) < 48 := by omega
              clear HYD HYE hkw
              have HZ := Lib.hid (FN.out ▸ hN)
              clear hN FN FM HSOME HLAST
              go_upto_region 10 with (at_builtin; refine wpList_appU rfl (.tmp 48) (.tmp 49) rfl w.heap.size _ L [0] rfl (HO.out.alloc _) 1 rfl wr.heap.size 0 1 (by go_simp) (by omega) (by intro i hi; match i, hi with | 0, _ => go_simp) (by simp; omega) (by simp; omega) ?_; intro v2 w2 ho2 hb2; have HO2 := Lib.hid ho2; have HB2 := Lib.hid ((HB.out.alloc hsz (.cells #[.int .u64 0] 36)).trans hb2); clear ho2 hb2)
              have hne1 : (L ++ [0]).length = L.length + 1 := by simp
              obtain ⟨g, cc, rfl, hg1, hg2, hfr, hcel⟩ := HO2.out.form (by omega)
              have hx := hcel L.length (by omega)
              have ex : (L ++ [0])[L.length]'(by omega) = 0 := by simp
              rw [ex] at hx
              rw [hne1] at HO2 ⊢
              clear hcel ex hne1
              go_upto_region 11 with fail
              
              go_region
              go_wp2
              exact ⟨⟨k + 1, _, by omega, by go_num, OwnU.stored HO2.out _, HZ.out, (HB2.out.setCell (p := ⟨g, L.length, none⟩) hg1 _).drew⟩, by simp [intOf]; omega⟩
            · by_cases hb9 : 57 < x0
              · have e0 := HYD.out (.inr hb9)
                subst e0
                have ha1 : ¬ (x0 : Int) < 48 := by omega
                have ha2 : 57 < (x0 : Int) := by omega
                clear HYD HYE
                have HZ := Lib.hid (FN.out ▸ hN)
                clear hN FN FM HSOME HLAST
                go_upto_region 10 with (at_builtin; refine wpList_appU rfl (.tmp 48) (.tmp 49) rfl w.heap.size _ L [0] rfl (HO.out.alloc _) 1 rfl wr.heap.size 0 1 (by go_simp) (by omega) (by intro i hi; match i, hi with | 0, _ => go_simp) (by simp; omega) (by simp; omega) ?_; intro v2 w2 ho2 hb2; have HO2 := Lib.hid ho2; have HB2 := Lib.hid ((HB.out.alloc hsz (.cells #[.int .u64 0] 36)).trans hb2); clear ho2 hb2)
                have hne1 : (L ++ [0]).length = L.length + 1 := by simp
                obtain ⟨g, cc, rfl, hg1, hg2, hfr, hcel⟩ := HO2.out.form (by omega)
                have hx := hcel L.length (by omega)
                have ex : (L ++ [0])[L.length]'(by omega) = 0 := by simp
                rw [ex] at hx
                rw [hne1] at HO2 ⊢
                clear hcel ex hne1
                go_upto_region 11 with fail
                
                go_region
                go_wp2
                exact ⟨⟨k + 1, _, by omega, by go_num, OwnU.stored HO2.out _, HZ.out, (HB2.out.setCell (p := ⟨g, L.length, none⟩) hg1 _).drew⟩, by simp [intOf]; omega⟩
              · have e0 := HYE.out (by omega) (by omega)
                subst e0
                have ha1 : ¬ (x0 : Int) < 48 := by omega
                have ha2 : ¬ 57 < (x0 : Int) := by omega
                clear HYD HYE
                obtain ⟨M, x, rfl⟩ : ∃ M x, L = M ++ [x] := by
                  rcases Iset.nil_or_snocI L with rfl | ⟨M, x, rfl⟩
                  · exact absurd rfl (HSOME.out rfl)
                  · exact ⟨M, x, rfl⟩
                have HZ0 := Lib.hid (FM.out M x ▸ hN)
                have HZ := Lib.hid (show Iset.Told s.data.toList (k + 1) (M ++ [IntKind.u64.wrap (IntKind.u64.wrap (10 * x) + ((z : Int) - 48))]) by rw [show IntKind.u64.wrap (IntKind.u64.wrap (10 * x) + ((z : Int) - 48)) = (10 * x + ((z : Int) - 48)) % 18446744073709551616 by rw [IntKind.wrap_u64, IntKind.wrap_u64]; omega]; exact HZ0.out)
                clear HZ0
                clear hN FN FM HSOME HLAST
                have hMl : M.length + 1 ≤ k := by simpa using hll
                have hne1 : (M ++ [x]).length = M.length + 1 := by simp
                obtain ⟨g, cc, rfl, hg1, hg2, hfr, hcel⟩ := HO.out.form (by omega)
                have hx := hcel M.length (by omega)
                have ex : (M ++ [x])[M.length]'(by omega) = x := by simp
                rw [ex] at hx
                rw [hne1] at HO ⊢
                clear hcel ex hne1
                go_upto_region 11 with fail
                
                go_region
                go_wp2
                exact ⟨⟨k + 1, _, by omega, by go_num, OwnU.stored HO.out _, HZ.out, (HB.out.setCell (p := ⟨g, M.length, none⟩) hg1 _).drew⟩, by simp [intOf]; omega⟩
    · obtain rfl : k = s.size := by omega
      have hnum := Iset.Told.done (s := s.data.toList) (l := L) (by rw [HSL.out]; exact ht)
      have hwl := Iset.pairs_wide ht.wide
      have hpl := pairs_len L
      have HW := Lib.hid hwl
      have HNUM := Lib.hid hnum
      obtain ⟨w1, rfl⟩ : ∃ x : World, x = wr := ⟨_, rfl⟩
      obtain ⟨A, c, rfl, _, _, hA⟩ := ho.at
      have HA := Lib.hid hA
      have HTK := Lib.hid (fun k => pairs_take L k (2 * k) rfl)
      have HF := Lib.hid (pairs_all L)
      have HPL := Lib.hid (fun k => pairs_len (L.take (2 * k)))
      clear hA ho ht hb hnum hwl HT HO TS HSL hk hlt
      go_wp2_with fail
      go_loopw [7, 8] (fun v i wr => ∃ (n k : Nat), n ≤ 2 * k ∧ 2 * k ≤ n ∧ n ≤ L.length + 1 ∧ i = .int .i64 n ∧ OwnP w1.heap.size wr v (pairs (L.take (2 * k))) ∧ Below w1.heap.size w1 wr) (fun _ i _ => L.length + 2 - (intOf i).toNat)
      case atStart => exact ⟨0, 0, by omega, by omega, by omega, rfl, OwnP.nil _ _, Below.refl _ _⟩
      case round =>
        obtain ⟨n, k, hk1, hk2, hn, rfl, ho, hb⟩ := hrel
        have hlen := HPL.out k
        rw [List.length_take] at hlen
        have HO := Lib.hid ho
        have HB2 := Lib.hid hb
        have hs := hb.size
        clear ho hb
        by_cases hlt : n + 1 < L.length
        · obtain ⟨b, off, rfl, hbl, hc⟩ := HA.out (by omega)
          have h0 := hc n (by omega)
          have h1 := hc (n + 1) hlt
          obtain rfl : n = 2 * k := by omega
          have HK := Lib.hid (HTK.out k hlt)
          have hk3 : (pairs (L.take (2 * k))).length ≤ 1000000 := by omega
          generalize L[2 * k] = p at *
          generalize L[2 * k + 1] = q at *
          generalize hm : 2 * k = m at *
          have HM := Lib.hid hm
          clear hc hm hk1 hk2 hlen
          go_upto_region 16 with fail
          have K0 := Lib.hid (fun w' (hb : Below w1.heap.size w1 w') => (⟨(hb.cell (p := ⟨b, off + m, none⟩) hbl).trans h0, (hb.cell (p := ⟨b, off + (m + 1), none⟩) hbl).trans h1⟩ : w'.cell? ⟨b, off + m, none⟩ = some (.int .u64 p) ∧ w'.cell? ⟨b, off + (m + 1), none⟩ = some (.int .u64 q)))
          have i1 : IntKind.i64.wrap ((m : Int) + 1) = (m : Int) + 1 := by rw [IntWalk.i64_in]; constructor <;> omega
          have i2 : (m : Int) + 1 < (L.length : Int) := by omega
          have i3 : (0 : Int) ≤ (m : Int) + 1 := by omega
          have i4 : ((m : Int) + 1).toNat = m + 1 := by omega
          have i5 : (m : Int) < (L.length : Int) := by omega
          clear h0 h1
          go_region_held3 (fun w' => w'.cell? ⟨b, off + m, none⟩ = some (.int .u64 p) ∧ w'.cell? ⟨b, off + (m + 1), none⟩ = some (.int .u64 q)) (first | exact K0.out _ HB2.out.drew | exact K0.out _ (HB2.out.alloc hs _).drew | exact K0.out _ HB3.out | fail) (first
            | (refine step_appP rfl (.tmp 75) (.tmp 86) rfl w1.heap.size _ (pairs (L.take m)) rfl (OwnP.below HO.out (((Below.refl _ _).alloc (Nat.le_refl _) _).drew)) wr.heap.size p q rfl (by go_simp) (by go_simp) (by omega) (by simp [World.drew]; omega) ?_; intro v2 w2 ho2 hb2; have HO2 := Lib.hid ho2; have HB3 := Lib.hid ((HB2.out.alloc hs (.cells #[.int .u64 p, .int .u64 q] 39)).drew.trans hb2); clear ho2 hb2)
            | fail)
          clear i1 i3 i4 i5
          have hm2 := HM.out
          go_wp2
          exact ⟨⟨m + 2, k + 1, by omega, by omega, by omega, by go_num, by rw [show 2 * (k + 1) = m + 2 by omega, HK.out]; exact HO2.out, HB3.out⟩, by simp [intOf]; omega⟩
        · have HK := Lib.hid (HF.out k (by omega))
          have HO2 := Lib.hid (show OwnP w1.heap.size wr u7 (pairs L) by rw [← HK.out]; exact HO.out)
          have HX := Lib.hid (docText_any u7 (pairs L) wr HO2.out.isZ HW.out (by omega))
          clear hlen
          go_wp2_with fail
          refine (HX.out).mono ?_
          rintro e w2 ⟨t, rfl, ht, hb2⟩
          have HB3 := Lib.hid (HB.out.trans ((HB2.out.trans (hb2.mono HB2.out.size)).mono HB.out.size))
          have HO3 := Lib.hid (HO2.out.below hb2)
          clear hb2
          by_cases he : t.toList = s.toList
          · have he1 : (t.toList == s.toList) = true := by simp [he]
            have HP := Lib.hid (show Parsed s.data.toList (some (pairs L)) by rw [← HNUM.out]; exact Iset.doc_yes (by rw [HNUM.out]; exact HW.out) (by rw [HNUM.out, ← ht, ← toList_data, he, toList_data]))
            clear he ht
            go_wp2
            go_ret2
            exact .inl ⟨_, _, rfl, HP.out, by omega, HO3.out.at, HB3.out⟩
          · have he1 : (t.toList == s.toList) = false := by simpa using he
            have HP := Lib.hid (show Parsed s.data.toList none from Iset.doc_no (by rw [HNUM.out, ← ht, ← toList_data t, ← toList_data s]; exact he))
            clear he ht
            go_wp2
            go_ret2
            exact .inr ⟨rfl, HP.out, HB3.out⟩
end Go.Proofs.YtgjahnidjcfbiaaDoor
