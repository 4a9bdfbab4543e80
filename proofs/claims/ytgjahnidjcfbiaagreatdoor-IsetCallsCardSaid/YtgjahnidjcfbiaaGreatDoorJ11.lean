/- The text of a set. -/
import Derived.Test.YtgjahnidjcfbiaaGreatDoorJ10
namespace Go.Proofs.YtgjahnidjcfbiaaGreatDoor
open Go.RowKit Go.Shelf Go.Lib
open Iset (nf has NF Res Wide textL textsL textP dec endT)
/-- A period's box as an object. -/
def BoxO (w : World) (g : Nat) (p q : Int) : Prop := w.heap[g]? = some (.cells #[.int .u64 p, .int .u64 q] 29 (0, 0))
theorem BoxO.box {w : World} {g : Nat} {p q : Int} (h : BoxO w g p q) : Box w g p q := by
  unfold BoxO at h
  have hg : g < w.heap.size := (Array.getElem?_eq_some_iff.1 h).1
  exact ⟨by simp [World.cell?, h], by simp [World.cell?, h], fun o => by simp [World.frozen?, h], hg⟩
theorem BoxO.new (w : World) (p q : Int) : BoxO (w.alloc (.cells #[.int .u64 p, .int .u64 q] 29)) w.heap.size p q := by
  unfold BoxO
  exact heap_alloc_new w _
theorem BoxO.below {w w' : World} {g : Nat} {p q : Int} (h : BoxO w g p q) (hb : Below w.heap.size w w') : BoxO w' g p q :=
  (hb.block g (Array.getElem?_eq_some_iff.1 h).1).trans h
theorem BoxO.kept {w w' : World} {g : Nat} {p q : Int} (h : BoxO w g p q) (hk : Lib.OthersKept 5 none w w') : BoxO w' g p q :=
  hk g _ h (by simp) (fun c fz e => by injection e with e1 e2 e3; cases e2)
theorem nDigits_le : ∀ (k u : Nat), u < 10 ^ (k + 1) → Lib.nDigits u ≤ k + 1
  | 0, u, h => by rw [Lib.nDigits_small (by simpa using h)]; omega
  | k + 1, u, h => by
    by_cases h1 : u < 10
    · rw [Lib.nDigits_small h1]; omega
    · rw [Lib.nDigits_big h1]
      have := nDigits_le k (u / 10) (by rw [Nat.pow_succ] at h; omega)
      omega
theorem dec_len (z : Int) (h0 : 0 ≤ z) (h : z < 18446744073709551616) : (dec z).length ≤ 20 := by
  rw [dec, Lib.decDigits_length]
  exact nDigits_le 19 _ (by rw [show (10 : Nat) ^ (19 + 1) = 100000000000000000000 by decide]; omega)
theorem endT_len (z : Int) (h0 : 0 ≤ z) (h : z < 18446744073709551616) : (endT z).length ≤ 20 := by
  rw [endT]
  split
  · simp
  · exact dec_len z h0 h
theorem textP_len (p : Int × Int) (h : mayB p.1 p.2 = true) (h0 : 0 ≤ p.1) (h1 : 0 ≤ p.2) : (textP p).length ≤ 43 := by
  simp [mayB] at h
  have a := dec_len p.1 h0 (by omega)
  have b := endT_len p.2 h1 (by omega)
  simp only [textP, List.length_append, List.length_cons, List.length_nil]
  omega
theorem texts_take (V : List (Int × Int)) (k : Nat) (h : k < V.length) : textsL (V.take (k + 1)) = textsL (V.take k) ++ textP (V[k].1, V[k].2) := by
  rw [List.take_succ_eq_append_getElem h, textsL, textsL, List.flatMap_append, List.flatMap_cons, List.flatMap_nil, List.append_nil]
theorem texts_len (V : List (Int × Int)) (h : ∀ p ∈ V, mayB p.1 p.2 = true ∧ 0 ≤ p.1 ∧ 0 ≤ p.2) : (textsL V).length ≤ 43 * V.length := by
  induction V with
  | nil => simp [textsL]
  | cons p V ih =>
    have h1 := h p (by simp)
    have := textP_len p h1.1 h1.2.1 h1.2.2
    have := ih fun q hq => h q (by simp [hq])
    simp only [textsL, List.flatMap_cons, List.length_append, List.length_cons] at *
    omega
theorem text_app (s : List UInt8) (p q : Int) : s ++ [91] ++ dec p ++ [44] ++ endT q ++ [41] = s ++ textP (p, q) := by simp [textP]
set_option maxRecDepth 100000 in
set_option maxHeartbeats 8000000 in
theorem Text_any (v : Value) (L : List (Int × Int)) (w : World) (hv : IsP w v L) (hw : Wide L) (hl : L.length ≤ 1000000000000) (henv : Env w) :
    Calls Tryz.prog 38 #[v] w fun e w' => ∃ s : ByteArray, e = .returned (.string s) ∧ s.data.toList = textL (nf L) ∧ Below w.heap.size w w' := by
  have hvl := Iset.nf_length L
  have HS := Lib.hid (Of_any v L w hv hl)
  have HW : Hid (∀ p ∈ nf L, mayB p.1 p.2 = true ∧ 0 ≤ p.1 ∧ 0 ≤ p.2) := Lib.hid fun p hp => ⟨(Iset.nf_nf L).may p hp, Iset.nf_wide hw p hp⟩
  have HE := Lib.hid henv
  generalize nf L = V at *
  clear hv hw henv
  go_enter Tryz.func38, Tryz.ntmps38
  go_wp2_with fail
  refine (HS.out).mono ?_
  rintro e w1 ⟨v1, rfl, ho1, hb1⟩
  obtain ⟨A, c, rfl, hA⟩ := ho1.at
  have HA := Lib.hid hA
  have HB1 := Lib.hid hb1
  have HE1 := Lib.hid (HE.out.below hb1)
  clear ho1 hA hb1
  rcases Nat.eq_zero_or_pos V.length with h0 | h0
  · obtain rfl := List.eq_nil_of_length_eq_zero h0
    rw [List.length_nil]
    go_wp2
    go_ret
    exact ⟨_, rfl, rfl, HB1.out⟩
  · have HN := Lib.hid (show textL V = textsL V from Iset.textL_some (by rintro rfl; exact absurd h0 (Nat.lt_irrefl 0)))
    have HT := Lib.hid (texts_take V)
    have HL : Hid (∀ k, (textsL (V.take k)).length ≤ 43 * (V.take k).length) := Lib.hid fun k => texts_len (V.take k) fun p hp => HW.out p (List.mem_of_mem_take hp)
    have hz0 : ((V.length : Int) == 0) = false := beq_eq_false_iff_ne.2 (by omega)
    go_wp2
    clear hz0
    go_loopw [4, 14] (fun s i wr => ∃ k : Nat, k ≤ V.length ∧ i = .int .i64 k ∧ OwnB w1.heap.size wr s (textsL (V.take k)) ∧ Below w1.heap.size w1 wr) (fun _ i _ => V.length - (intOf i).toNat)
    case atStart => exact ⟨0, by omega, rfl, OwnB.nil _ _, Below.refl _ _⟩
    case round =>
      obtain ⟨k, hk, rfl, ho, hb⟩ := hrel
      have hlen := HL.out k
      rw [List.length_take] at hlen
      by_cases hlt : k < V.length
      · have HK := Lib.hid (HT.out k hlt)
        have hwk := HW.out V[k] (List.getElem_mem hlt)
        generalize textsL (V.take k) = s at *
        obtain ⟨b, off, rfl, hbl, hc⟩ := (PAt.below HA.out hb) (by omega)
        obtain ⟨c0, c1⟩ := hc k hlt
        clear hc
        generalize V[k].1 = p at *
        generalize V[k].2 = q at *
        obtain ⟨hm, hp0, hq0⟩ := hwk
        have hq1 : q < 18446744073709551616 := by simp [mayB] at hm; omega
        have hp1 : p < 18446744073709551616 := by simp [mayB] at hm; omega
        have hlp := dec_len p hp0 hp1
        have hlq := dec_len q hq0 hq1
        have HQ : Hid (∀ h : ¬ q = 1099511627776, endT q = dec q) := Lib.hid fun h => if_neg h
        have hls : s.length ≤ 43000000000000 := by omega
        clear hm hlen
        have hs := hb.size
        have HO := Lib.hid ho
        have HB := Lib.hid hb
        clear ho hb
        have x := (BoxO.new wr p q).box
        obtain ⟨x0, x1, x2, x3⟩ := x
        go_upto_region 8 with fail
        clear x0 x1 x2 x3
        obtain ⟨W, hW⟩ : ∃ W, wr.alloc (.cells #[.int .u64 p, .int .u64 q] 29) = W := ⟨_, rfl⟩
        have X0 := Lib.hid (show BoxO W wr.heap.size p q by rw [← hW]; exact BoxO.new wr p q)
        have HO0 := Lib.hid (show OwnB w1.heap.size W u4 s by rw [← hW]; exact HO.out.alloc _)
        have HB0 := Lib.hid (show Below w1.heap.size w1 W by rw [← hW]; exact HB.out.alloc hs _)
        rw [hW]
        clear hW HO HB
        generalize wr.heap.size = g at *
        have hs0 := HB0.out.size
        have AU := Lib.hid (AppendUint_any w1.heap.size)
        go_upto_region 9 with (at_builtin; refine wpList_appB rfl (.tmp 18) (.tmp 19) rfl w1.heap.size _ s 91 rfl (HO0.out.alloc _) W.heap.size rfl (by go_simp) (by first | omega | (simp; omega)) (by first | omega | (simp; omega)) ?_; intro v2 w2 ho hb hk; have HO2 := Lib.hid ho; have HB2 := Lib.hid ((HB0.out.alloc hs0 (.cells #[.int .u8 91] 5)).trans hb); have X2 := Lib.hid ((X0.out.below ((Below.refl _ _).alloc (Nat.le_refl _) _)).kept hk); clear ho hb hk)
        obtain ⟨x0, x1, x2, x3⟩ := X2.out.box
        have hs2 := HB2.out.size
        go_wp2_with fail
        refine (AU.out p _ (s ++ [91]) _ hp0 hp1 HO2.out hs2 (by simp; omega) (HE1.out.below HB2.out)).mono ?_
        rintro e w3 ⟨v3, rfl, ho, hb, hk⟩
        have HO3 := Lib.hid ho
        have HB3 := Lib.hid (HB2.out.trans hb)
        have X3 := Lib.hid (X2.out.kept hk)
        clear ho hb hk x0 x1 x2 x3
        have hs3 := HB3.out.size
        go_upto_region 11 with (at_builtin; refine wpList_appB rfl (.tmp 25) (.tmp 26) rfl w1.heap.size _ (s ++ [91] ++ dec p) 44 rfl (HO3.out.alloc _) w3.heap.size rfl (by go_simp) (by first | omega | (simp; omega)) (by first | omega | (simp; omega)) ?_; intro v4 w4 ho hb hk; have HO4 := Lib.hid ho; have HB4 := Lib.hid ((HB3.out.alloc hs3 (.cells #[.int .u8 44] 5)).trans hb); have X4 := Lib.hid ((X3.out.below ((Below.refl _ _).alloc (Nat.le_refl _) _)).kept hk); clear ho hb hk)
        obtain ⟨x0, x1, x2, x3⟩ := X4.out.box
        have hs4 := HB4.out.size
        by_cases hqf : q = 1099511627776
        · subst hqf
          have HS5 := Lib.hid (text_app s p 1099511627776)
          go_upto_region 14 with (at_builtin; refine wpList_appS rfl (.tmp 31) _ rfl w1.heap.size _ (s ++ [91] ++ dec p ++ [44]) ⟨#[42]⟩ rfl HO4.out rfl (by simp [ByteArray.size]; omega) (by omega) ?_; intro v5 w5 ho hb hk; have HO5 := Lib.hid ho; have HB5 := Lib.hid (HB4.out.trans hb); clear ho hb hk)
          clear x0 x1 x2 x3
          have hs5 := HB5.out.size
          go_wp2_with (at_builtin; refine wpList_appB rfl (.tmp 37) (.tmp 38) rfl w1.heap.size _ (s ++ [91] ++ dec p ++ [44] ++ [42]) 41 rfl (HO5.out.alloc _) w5.heap.size rfl (by go_simp) (by first | omega | (simp; omega)) (by first | omega | (simp; omega)) ?_; intro v6 w6 ho hb hk; have HO6 := Lib.hid ho; have HB6 := Lib.hid ((HB5.out.alloc hs5 (.cells #[.int .u8 41] 5)).trans hb); clear ho hb hk)
          exact ⟨⟨k + 1, by omega, by go_num, by rw [HK.out, ← HS5.out]; exact HO6.out, HB6.out⟩, by simp [intOf]; omega⟩
        · have hqf' : (q == 1099511627776) = false := by simpa using hqf
          have HS5 := Lib.hid (text_app s p q)
          have HQ1 := Lib.hid (HQ.out hqf)
          clear hqf
          go_wp2_with fail
          refine (AU.out q _ (s ++ [91] ++ dec p ++ [44]) _ hq0 hq1 HO4.out hs4 (by simp; omega) (HE1.out.below HB4.out)).mono ?_
          rintro e w5 ⟨v5, rfl, ho, hb, hk⟩
          have HO5 := Lib.hid ho
          have HB5 := Lib.hid (HB4.out.trans hb)
          clear ho hb hk x0 x1 x2 x3
          have hs5 := HB5.out.size
          go_wp2_with (at_builtin; refine wpList_appB rfl (.tmp 37) (.tmp 38) rfl w1.heap.size _ (s ++ [91] ++ dec p ++ [44] ++ dec q) 41 rfl (HO5.out.alloc _) w5.heap.size rfl (by go_simp) (by first | omega | (simp; omega)) (by first | omega | (simp; omega)) ?_; intro v6 w6 ho hb hk; have HO6 := Lib.hid ho; have HB6 := Lib.hid ((HB5.out.alloc hs5 (.cells #[.int .u8 41] 5)).trans hb); clear ho hb hk)
          exact ⟨⟨k + 1, by omega, by go_num, by rw [HK.out, ← HS5.out, HQ1.out]; exact HO6.out, HB6.out⟩, by simp [intOf]; omega⟩
      · obtain rfl : k = V.length := by omega
        rw [List.take_length] at ho
        have HC := Lib.hid ho.conv
        have HB := Lib.hid hb
        clear ho hb
        have hcv := HC.out
        go_wp2
        go_ret
        exact ⟨_, rfl, by rw [HN.out], HB1.out.trans (HB.out.mono HB1.out.size)⟩
end Go.Proofs.YtgjahnidjcfbiaaGreatDoor
