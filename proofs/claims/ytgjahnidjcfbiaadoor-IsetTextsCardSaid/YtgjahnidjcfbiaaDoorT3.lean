/- The document's Text. -/
import Derived.Test.YtgjahnidjcfbiaaDoorT2
import Derived.Test.YtgjahnidjcfbiaaDoorK8
namespace Go.Proofs.YtgjahnidjcfbiaaDoor
open Go.RowKit Go.Shelf Go.Lib
open Iset (nf has NF Res Wide textL textsL textP dec endT pre KL)
set_option maxRecDepth 100000 in
set_option maxHeartbeats 4000000 in
theorem docText_any (v : Value) (L : List (Int × Int)) (w : World) (hv : IsZ w v L) (hw : Wide L) (hl : L.length ≤ 100000) :
    Calls Tryd.prog 15 #[v] w fun e w' => ∃ s : ByteArray, e = .returned (.string s) ∧ s.data.toList = textL (nf L) ∧ Below w.heap.size w w' := by
  have hvl := Iset.nf_length L
  have HS := Lib.hid (docOf_any v L w hv hw hl)
  have HW : Hid (∀ p ∈ nf L, mayB p.1 p.2 = true ∧ 0 ≤ p.1 ∧ 0 ≤ p.2) := Lib.hid fun p hp => ⟨(Iset.nf_nf L).may p hp, Iset.nf_wide hw p hp⟩
  generalize nf L = V at *
  clear hv hw
  go_enter Tryd.func15, Tryd.ntmps15
  go_wp2_with fail
  refine (HS.out).mono ?_
  rintro e w1 ⟨v1, rfl, ho1, hb1⟩
  obtain ⟨A, c, rfl, hA⟩ := ho1.at
  have HA := Lib.hid hA
  have HB1 := Lib.hid hb1
  clear ho1 hA hb1
  rcases Nat.eq_zero_or_pos V.length with h0 | h0
  · obtain rfl := List.eq_nil_of_length_eq_zero h0
    rw [List.length_nil]
    go_wp2
    go_ret
    exact ⟨_, rfl, rfl, HB1.out⟩
  · have HN := Lib.hid (show textL V = textsL V from Iset.textL_some (by rintro rfl; exact absurd h0 (Nat.lt_irrefl 0)))
    have HT := Lib.hid (texts_take V)
    have HL : Hid (∀ k, (textsL (V.take k)).length ≤ 43 * (V.take k).length) := Lib.hid fun k => texts_len (V.take k) fun p hp => HW.out p (List.mem_of_mem_take hp)
    have hz0 : ((V.length : Int) == 0) = false := beq_eq_false_iff_ne.2 (by omega)
    go_wp2
    clear hz0
    go_loopw [4, 5] (fun s i wr => ∃ (k : Nat) (r : ByteArray), k ≤ V.length ∧ i = .int .i64 k ∧ s = .string r ∧ r.data.toList = textsL (V.take k) ∧ Below w1.heap.size w1 wr) (fun _ i _ => V.length - (intOf i).toNat)
    case atStart => exact ⟨0, _, by omega, rfl, rfl, rfl, Below.refl _ _⟩
    case round =>
      obtain ⟨k, r, hk, rfl, rfl, hr, hb⟩ := hrel
      have hlen := HL.out k
      rw [List.length_take, ← hr] at hlen
      have hrs : r.data.toList.length = r.size := by simp
      have HR := Lib.hid hr
      have HB := Lib.hid hb
      have hs := hb.size
      by_cases hlt : k < V.length
      · have HK := Lib.hid (HT.out k hlt)
        have hwk := HW.out V[k] (List.getElem_mem hlt)
        obtain ⟨b, off, rfl, hbl, hc⟩ := (PAt.below HA.out hb) (by omega)
        obtain ⟨c0, c1⟩ := hc k hlt
        rw [← hr] at HK
        have hrb : r.size ≤ 43000000 := by omega
        clear hc hb hr HR hrs hlen
        generalize V[k].1 = p at *
        generalize V[k].2 = q at *
        obtain ⟨hm, hp0, hq0⟩ := hwk
        have hq1 : q < 18446744073709551616 := by simp [mayB] at hm; omega
        have hp1 : p < 18446744073709551616 := by simp [mayB] at hm; omega
        obtain ⟨n, rfl⟩ : ∃ n : Nat, p = n := ⟨p.toNat, by omega⟩
        obtain ⟨m, rfl⟩ : ∃ n : Nat, q = n := ⟨q.toNat, by omega⟩
        have NP := Lib.hid (fun w => docNum_any n hp1 w)
        have NQ := Lib.hid (fun w => docNum_any m hq1 w)
        have LP := dec_len (n : Int) (by omega) hp1
        have LQ := dec_len (m : Int) (by omega) hq1
        rw [dec, Int.toNat_natCast] at LP LQ
        have LP1 := Lib.hid LP
        have LQ1 := Lib.hid LQ
        clear hm hp0 hq0 hq1 hp1 LP LQ
        go_wp2_with fail
        refine (NP.out _).mono ?_
        rintro e w2 ⟨x, rfl, hx, hb2⟩
        have d1 := (hb2.cell (p := ⟨b, off + k * 2 + 1, none⟩) hbl).trans c1
        have hbl2 := Nat.lt_of_lt_of_le hbl hb2.size
        have HB2 := Lib.hid (HB.out.trans (hb2.mono hs))
        have hxs : x.size ≤ 20 := by
          have : x.data.toList.length = x.size := by simp
          have := LP1.out
          rw [← hx] at this
          omega
        have HX := Lib.hid hx
        clear hb2 hx c0 c1
        by_cases hqf : (m : Int) = 1099511627776
        · have HS5 := Lib.hid (text_app r.data.toList n 1099511627776)
          have hqf' : ((m : Int) == 1099511627776) = true := by simpa using hqf
          rw [hqf] at HK
          clear hqf
          go_wp2
          exact ⟨⟨k + 1, _, by omega, by go_num, rfl, by rw [HK.out, ← HS5.out]; simp [HX.out, dec, endT], HB2.out⟩, by simp [intOf]; omega⟩
        · have hqf' : ((m : Int) == 1099511627776) = false := by simpa using hqf
          have HS5 := Lib.hid (text_app r.data.toList n m)
          have HQ1 := Lib.hid (show endT (m : Int) = decDigits m from (if_neg hqf).trans (by rw [dec, Int.toNat_natCast]))
          clear hqf
          go_wp2_with fail
          refine (NQ.out _).mono ?_
          rintro e w3 ⟨y, rfl, hy, hb3⟩
          have HB3 := Lib.hid (HB2.out.trans (hb3.mono HB2.out.size))
          have hys : y.size ≤ 20 := by
            have : y.data.toList.length = y.size := by simp
            have := LQ1.out
            rw [← hy] at this
            omega
          have HY := Lib.hid hy
          clear hb3 hy d1
          go_wp2
          exact ⟨⟨k + 1, _, by omega, by go_num, rfl, by rw [HK.out, ← HS5.out, HQ1.out]; simp [HX.out, HY.out, dec], HB3.out⟩, by simp [intOf]; omega⟩
      · obtain rfl : k = V.length := by omega
        have HZ := Lib.hid (show r.data.toList = textL V by rw [HN.out, hr, List.take_length])
        clear hr hb
        go_wp2
        go_ret
        exact ⟨_, rfl, HZ.out, HB1.out.trans (HB.out.mono HB1.out.size)⟩
end Go.Proofs.YtgjahnidjcfbiaaDoor
