/- DiskBytes' walk. -/
import Derived.Test.YthnfpkbpakffgaaP1
import Derived.Test.YthnfpkbpakffgaaM2
namespace Go.Proofs.Ythnfpkbpakffgaa
open Go.RowKit Go.Maps Go.Sort Go.Shelf
open Disk (Nm Fl DS Up fnd used Wf fileR newD createR createD)
/-- What is owned lies in a block that is there. -/
theorem own_lt {w : World} {base n : Nat} {v : Value} {xs : List Value} (h : w.ownsRow base 5 1 v n xs) {b : Nat} (hb : v.ownBlock = some b) : base ≤ b ∧ b < w.heap.size := by
  rcases h.2 with ⟨rfl, _⟩ | ⟨g, cap, cur, rfl, h1, h2, _⟩
  · simp [Value.ownBlock] at hb
  · simp [Value.ownBlock] at hb
    subst hb
    refine ⟨h1, ?_⟩
    rcases Nat.lt_or_ge g w.heap.size with h3 | h3
    · exact h3
    · rw [Array.getElem?_eq_none (by omega)] at h2
      cases h2
/-- What the round holds: the disk, what was appended, and memory that came in. -/
structure Held (w wr : World) (p j : Nat) (A : Option Addr) (c : Nat) (W : List UInt8) (s : Nat) (O : List UInt8) : Prop where
  own : wr.ownsRow w.heap.size 5 1 (.slice A W.length c) W.length (cellsB W)
  many : Many wr [(p, DB j W s O)] (fun b => b < w.heap.size ∨ (Value.slice A W.length c).ownBlock = some b)
  kept : Kept (fun b => b < w.heap.size) w wr
theorem Held.turn {w wr w' : World} {p j j' : Nat} {A : Option Addr} {c : Nat} {W : List UInt8} {s s' : Nat} {O : List UInt8} (h : Held w wr p j A c W s O) (ht : Turned wr [(p, DB j W s O)] (fun b => b < w.heap.size ∨ (Value.slice A W.length c).ownBlock = some b) 0 p (DB j' W s' O) w') : Held w w' p j' A c W s' O :=
  ⟨own_but h.own ht.2 fun _ hk hn => hn (.inr hk), ht.1, Kept.trans h.kept (But.sub ht.2 fun _ hb hk => hb (.inl hk))⟩
theorem Held.below {w wr w' : World} {p j : Nat} {A : Option Addr} {c : Nat} {W : List UInt8} {s : Nat} {O : List UInt8} (h : Held w wr p j A c W s O) (hb : Below wr.heap.size wr w') : Held w w' p j A c W s O :=
  ⟨own_but h.own (But.of_below (S := fun _ => False) hb) fun _ _ h => h, h.many.below hb, h.kept.on hb⟩
theorem Held.at {w wr : World} {p j : Nat} {A : Option Addr} {c : Nat} {W : List UInt8} {s : Nat} {O : List UInt8} (h : Held w wr p j A c W s O) : At wr A W := own_at h.own
theorem cat_one (c : UInt8) : (⟨#[97]⟩ : ByteArray) ++ ⟨#[c]⟩ = ⟨#[97, c]⟩ := by
  apply ByteArray.ext
  simp
set_option maxRecDepth 100000 in
set_option maxHeartbeats 8000000 in
theorem Bytes_walk (A0 : Option Addr) (n0 c0 : Nat) (f : Nat → Option Addr × Nat × List UInt8) (A1 : Option Addr) (n1 c1 : Nat) (tl : List UInt8) (A2 : Option Addr) (n2 c2 : Nat) (ob : List UInt8) (w : World) (hL : LAt w A0 n0 f) (hn : n0 ≤ maxLen)
    (hT : At w A1 tl) (lT : tl.length = n1) (mT : n1 ≤ maxLen) (hO : At w A2 ob) (lO : ob.length = n2) (zO : A2 = none → c2 = 0) (mO : n2 ≤ maxLen) :
    Calls Try.prog 6 #[.slice A0 n0 c0, .slice A1 n1 c1, .slice A2 n2 c2] w fun r w' => r = .returned (.bool true) ∧ Below w.heap.size w w' := by
  unfold maxLen at hn mT
  have HL := Lib.hid hL
  have HT := Lib.hid hT
  have LT := Lib.hid lT
  have HO := Lib.hid hO
  have LO := Lib.hid (And.intro lO (And.intro zO mO))
  have KO := Lib.hid (show 0 < ob.length → ∀ bb off, A2 = some ⟨bb, off, none⟩ → bb < w.heap.size from fun h0 bb off e => by obtain ⟨b', off', e', hl, _⟩ := hO h0; rw [e] at e'; cases e'; exact hl)
  clear hL hT lT hO lO zO mO
  have N := Lib.hid (New_yes 400 w (by omega) (by omega))
  go_enter Try.func6, Try.ntmps6
  go_wp2_with fail
  refine N.out.mono ?_
  rintro r0 w0 ⟨p, S0, rfl, hI, hS, hb⟩
  have T0 := Lib.hid (show Many w0 [(p, newD 400)] (fun b => b < w.heap.size) from many_one hI hS hb fun b h => h)
  have B0 := Lib.hid (show Kept (fun b => b < w.heap.size) w w0 from Kept.of_below hb)
  clear hI hS hb N
  have C1 := Lib.hid (kCreate T0.out (i := 0) rfl ⟨#[97, 48]⟩)
  rw [first_1.1] at C1
  go_wp2_with fail
  refine C1.out.mono ?_
  rintro r1 w1 ⟨rfl, t1, b1⟩
  have T1 := Lib.hid t1
  have B1 := Lib.hid (Kept.trans B0.out b1)
  clear t1 b1 C1 T0 B0
  have C2 := Lib.hid (kCreate T1.out (i := 0) rfl ⟨#[122]⟩)
  rw [first_1.2.1, first_1.2.2] at C2
  go_wp2_with fail
  refine C2.out.mono ?_
  rintro r2 w2 ⟨rfl, t2, b2⟩
  have T2 := Lib.hid (show Many w2 [(p, DB 0 [] 0 [])] (fun b => b < w.heap.size) from t2)
  have B2 := Lib.hid (Kept.trans B1.out b2)
  clear t2 b2 C2 T1 B1
  have AP := Lib.hid (kAppend T2.out (i := 0) rfl ⟨#[122]⟩ A2 n2 c2 ob (HO.out.but B2.out fun h0 bb off e hn => hn (KO.out h0 bb off e)) LO.out.1 LO.out.2.1 LO.out.2.2 KO.out)
  rw [(first_2 ob).1, (first_2 ob).2] at AP
  obtain ⟨rv, hrv⟩ : ∃ rv, (if ob.length ≤ 400 then (0 : Int) else 7) = rv := ⟨_, rfl⟩
  obtain ⟨O, hOo⟩ : ∃ O, (if ob.length ≤ 400 then ob else []) = O := ⟨_, rfl⟩
  have hdb : (if ob.length ≤ 400 then DB 0 [] 0 ob else DB 0 [] 0 []) = DB 0 [] 0 O := by rw [← hOo]; split <;> rfl
  rw [hrv, hdb] at AP
  have oL : O.length ≤ 400 := by rw [← hOo]; split <;> simp_all
  have HR := Lib.hid (show (rv = 0 ∧ O.length = n2) ∨ (rv = 7 ∧ O = []) by
    rw [← hrv, ← hOo]
    by_cases h : ob.length ≤ 400
    · rw [if_pos h, if_pos h]; exact .inl ⟨rfl, LO.out.1⟩
    · rw [if_neg h, if_neg h]; exact .inr ⟨rfl, rfl⟩)
  clear hrv hOo hdb
  go_wp2_with fail
  refine AP.out.mono ?_
  rintro r3 w3 ⟨rfl, t3, b3⟩
  have T3 := Lib.hid (show Many w3 [(p, DB 0 [] 0 O)] (fun b => b < w.heap.size) from t3)
  have B3 := Lib.hid (Kept.trans B2.out b3)
  clear t3 b3 AP T2 B2
  go_upto_if 36 with fail
  go_cut [11] from 37 to 38 (fun t w' => t = .int .i64 O.length ∧ w3 = w')
  case first =>
    rcases HR.out with ⟨rfl, hO⟩ | ⟨rfl, rfl⟩
    · go_wp2_with fail
      go_meet
      exact ⟨by rw [hO], rfl⟩
    · go_wp2_with fail
      go_meet
      exact ⟨rfl, rfl⟩
  case rest =>
  obtain ⟨rfl, rfl⟩ := hcut
  have H0 := Lib.hid (show Held w w3 p 0 none 0 [] 0 O from ⟨World.ownsRow_nil _ _ _ _, T3.out.less fun b hb => hb.elim id fun h => absurd h (by simp [Value.ownBlock]), B3.out⟩)
  clear T3 B3 HR
  have nx := nm_x0
  go_wp2_with fail
  go_loopw [9, 10, 12, 13, 14, 15, 16] (fun v9 v10 v12 _ _ _ _ wr => ∃ (i j : Nat) (A : Option Addr) (c : Nat) (W : List UInt8) (s : Nat), v12 = .int .i64 i ∧ v9 = .string (nmB (xn j)) ∧ j < 10 ∧ v10 = .slice A W.length c ∧ i ≤ n0 ∧ i ≤ 30 ∧ W.length ≤ 400 ∧ Held w wr p j A c W s O) (fun _ _ v12 _ _ _ _ _ => n0 - (intOf v12).toNat)
  case atStart => exact ⟨0, 0, none, 0, [], 0, rfl, rfl, by omega, rfl, Nat.zero_le _, by omega, Nat.zero_le _, H0.out⟩
  case round =>
    clear H0
    obtain ⟨i, j, A, c, W, s, rfl, rfl, hj, rfl, hi, hi30, hW, hH⟩ := hrel
    have H := Lib.hid hH
    clear hH
    by_cases hlt : i < n0 ∧ i < 30
    · obtain ⟨hin, h30⟩ := hlt
      obtain ⟨b0, off0, rfl, hb0, hcell⟩ := HL.out (by omega)
      obtain ⟨k1, k2, k3, k4⟩ := hcell i hin
      obtain ⟨⟨Ai, ci, bi⟩, hfi⟩ : ∃ x, f i = x := ⟨_, rfl⟩
      rw [hfi] at k1 k2 k3 k4
      have kc := (H.out.kept.cell b0 (off0 + i) hb0 (fun hn => hn hb0)).trans k1
      have KA := Lib.hid (show 0 < bi.length → ∀ bb off, Ai = some ⟨bb, off, none⟩ → bb < w.heap.size from fun h0 bb off e => by obtain ⟨b', off', e', hl, _⟩ := k2 h0; have e : Ai = some ⟨bb, off, none⟩ := e; rw [e] at e'; cases e'; exact hl)
      have KB := Lib.hid (And.intro k2 (And.intro k3 k4))
      have k5 : bi.length ≤ 140737488355328 := k4
      clear hcell k1 k2 k3 k4 hfi
      have i1 : (0 : Int) ≤ (i : Int) := by omega
      have i2 : (i : Int) < (n0 : Int) := by omega
      have i3 : (i : Int) < 30 := by omega
      obtain ⟨nm, hnm⟩ : ∃ nm, nmB (xn j) = nm := ⟨_, rfl⟩
      rw [hnm]
      have NM := Lib.hid (show nmOf nm = xn j by subst hnm; exact nm_back _)
      have NM2 := Lib.hid hnm
      clear hnm
      have AP := Lib.hid (kAppend H.out.many (i := 0) rfl nm Ai bi.length ci bi (KB.out.1.but H.out.kept fun h0 bb off e hn => hn (KA.out h0 bb off e)) rfl KB.out.2.1 (by unfold maxLen; omega) (fun h0 bb off e => .inl (KA.out h0 bb off e)))
      rw [NM.out, (db_app hj W s O bi).1, (db_app hj W s O bi).2] at AP
      obtain ⟨rv, hrv⟩ : ∃ rv, (if W.length + O.length + bi.length ≤ 400 then (0 : Int) else 7) = rv := ⟨_, rfl⟩
      rw [hrv] at AP
      have HRV := Lib.hid hrv
      clear hrv
      go_wp2_with fail
      refine AP.out.mono ?_
      rintro r1 w1 ⟨rfl, t1, q1⟩
      obtain ⟨W1, hW1⟩ : ∃ W1, (if W.length + O.length + bi.length ≤ 400 then W ++ bi else W) = W1 := ⟨_, rfl⟩
      have hdb : (if W.length + O.length + bi.length ≤ 400 then DB j (W ++ bi) s O else DB j W s O) = DB j W1 s O := by rw [← hW1]; split <;> rfl
      rw [hdb] at t1
      have M1 := Lib.hid (show Many w1 [(p, DB j W1 s O)] (fun b => b < w.heap.size ∨ (Value.slice A W.length c).ownBlock = some b) from t1)
      have O1 := Lib.hid (show w1.ownsRow w.heap.size 5 1 (.slice A W.length c) W.length (cellsB W) from own_but H.out.own q1 fun _ hk hn => hn (.inr hk))
      have K1 := Lib.hid (Kept.trans H.out.kept (But.sub q1 fun _ hb hk => hb (.inl hk)))
      have hW1' : W1.length ≤ 400 := by rw [← hW1]; split <;> first | (rw [List.length_append]; omega) | exact hW
      have kc1 := (q1.cell b0 (off0 + i) (Nat.lt_of_lt_of_le hb0 H.out.kept.size) (fun hn => hn (.inl hb0))).trans kc
      have FIT := Lib.hid (show (rv = 0 ∧ W.length + O.length + bi.length ≤ 400 ∧ W1 = W ++ bi) ∨ (rv = 7 ∧ ¬ (W.length + O.length + bi.length ≤ 400) ∧ W1 = W) by
        rw [← HRV.out, ← hW1]
        by_cases h : W.length + O.length + bi.length ≤ 400
        · rw [if_pos h, if_pos h]; exact .inl ⟨rfl, h, rfl⟩
        · rw [if_neg h, if_neg h]; exact .inr ⟨rfl, h, rfl⟩)
      clear hdb hW1 t1 q1 AP HRV H kc
      go_upto_region 13 with fail
      go_cut [77] from 56 to 77 (fun t w' => t = .bool false ∧ w1 = w')
      case first =>
        obtain ⟨S, hS⟩ : ∃ S, W.length + O.length = S := ⟨_, rfl⟩
        obtain ⟨U, hU⟩ : ∃ U, S + bi.length = U := ⟨_, rfl⟩
        have hw1 : IntKind.i64.wrap ((W.length : Int) + (O.length : Int)) = (S : Int) := by rw [show (W.length : Int) + (O.length : Int) = (S : Int) by omega]; exact IntWalk.i64_in _ (by omega)
        have hw2 : IntKind.i64.wrap ((S : Int) + (bi.length : Int)) = (U : Int) := by rw [show (S : Int) + (bi.length : Int) = (U : Int) by omega]; exact IntWalk.i64_in _ (by omega)
        rcases FIT.out with ⟨rfl, hf, _⟩ | ⟨rfl, hf, _⟩
        · have f1 : (U : Int) ≤ 400 := by omega
          go_wp2_with fail
          go_meet
          exact ⟨rfl, rfl⟩
        · have f1 : ¬ ((U : Int) ≤ 400) := by omega
          go_wp2_with fail
          go_meet
          exact ⟨rfl, rfl⟩
      case rest =>
      obtain ⟨rfl, rfl⟩ := hcut
      go_upto_if 79 with fail
      go_cut [10] from 80 to 85 (fun t w' => ∃ (A' : Option Addr) (c' : Nat), t = .slice A' W1.length c' ∧ Held w w' p j A' c' W1 s O)
      case first =>
        rcases FIT.out with ⟨rfl, hf, rfl⟩ | ⟨rfl, hf, rfl⟩
        · go_wp2_with (first
            | (at_builtin; refine wpList_app rfl (.tmp 80) (.tmp 84) rfl w.heap.size (.slice A W.length c) W rfl O1.out Ai bi.length ci bi rfl rfl (KB.out.1.but K1.out fun h0 bb off e hn => hn (KA.out h0 bb off e)) KB.out.2.1 (by omega) K1.out.size ?_; intro v' w' g2 g3 g4; obtain ⟨A', c', hv⟩ := own_form g2; subst hv; have G := Lib.hid (And.intro g2 (And.intro g3 g4)); clear g2 g3 g4))
          go_meet
          obtain ⟨g2, g3, g4⟩ := G.out
          have gb : But (fun y => (Value.slice A W.length c).ownBlock = some y) w1 w' := (But.refl _ _).grown g3 (fun y hy => .inl hy)
          refine ⟨A', c', by rw [List.length_append], g2, M1.out.grown gb (fun b hb => .inr hb) fun b hb => ?_, Kept.trans K1.out (But.sub gb fun b hb hk => ?_)⟩
          · rcases hb with hb | hb
            · exact .inl (.inl hb)
            · rcases g4 with g4 | g4
              · exact .inl (.inr (by rw [← g4]; exact hb))
              · have := own_lt g2 hb
                rw [hb] at g4
                injection g4 with g4
                exact .inr (by omega)
          · have := own_lt O1.out hb
            omega
        · go_wp2_with fail
          go_meet
          exact ⟨A, c, rfl, O1.out, M1.out, K1.out⟩
      case rest =>
      obtain ⟨A', c', rfl, hH⟩ := hcut
      have H := Lib.hid hH
      clear hH O1 M1 K1 FIT KA KB kc1
      obtain ⟨tb, htb⟩ : ∃ tb, decide (i < n1) = tb := ⟨_, rfl⟩
      have HTB := Lib.hid htb
      clear htb
      go_upto_region 17 with fail
      go_cut [89] from 86 to 89 (fun t w' => t = .bool tb ∧ wc = w')
      case first =>
        have hb := HTB.out
        by_cases ht : i < n1
        · have j1 : (i : Int) < (n1 : Int) := by omega
          obtain rfl : true = tb := by rw [← hb]; simp [ht]
          clear hb
          go_wp2_with fail
          go_meet
          exact ⟨rfl, rfl⟩
        · have j1 : ¬ ((i : Int) < (n1 : Int)) := by omega
          obtain rfl : false = tb := by rw [← hb]; simp [ht]
          clear hb
          go_wp2_with fail
          go_meet
          exact ⟨rfl, rfl⟩
      case rest =>
      obtain ⟨rfl, rfl⟩ := hcut
      go_upto_if 89 with fail
      go_cut [9, 14] from 90 to 104 (fun t9 _ w' => ∃ j', t9 = .string (nmB (xn j')) ∧ j' < 10 ∧ Held w w' p j' A' c' W1 s O)
      case first =>
        cases tb with
        | true =>
          have ht : i < n1 := by have := HTB.out; simp at this; omega
          obtain ⟨b1, off1, rfl, hb1, hc⟩ := HT.out (by have := LT.out; omega)
          have tc := (H.out.kept.cell b1 (off1 + i) hb1 (fun hn => hn hb1)).trans (hc i (by have := LT.out; omega))
          obtain ⟨t, ht2⟩ : ∃ t, tl.getD i 0 = t := ⟨_, rfl⟩
          rw [ht2] at tc
          have tc' : wc.cell? ⟨b1, off1 + i, none⟩ = some (.int .u8 (t.toNat : Int)) := tc
          obtain ⟨k, hk⟩ : ∃ k, t.toNat % 10 = k := ⟨_, rfl⟩
          have hk10 : k < 10 := by omega
          have hrem : (t.toNat : Int) % 10 = (k : Int) := by omega
          have hw1 : IntKind.u8.wrap (48 + (k : Int)) = 48 + (k : Int) := by unfold IntKind.wrap; simp [IntKind.signed, IntKind.bits]; omega
          have j1 : (i : Int) < (n1 : Int) := by omega
          have hbx : Below wc.heap.size wc (wc.alloc (.cells #[.int .u8 (48 + (k : Int))] 5)) := (Below.refl _ _).alloc (Nat.le_refl _) _
          obtain ⟨ch, hch⟩ : ∃ ch, UInt8.ofNat (48 + k) = ch := ⟨_, rfl⟩
          have hat : At (wc.alloc (.cells #[.int .u8 (48 + (k : Int))] 5)) (some ⟨wc.heap.size, 0, none⟩) [ch] := by rw [← hch]; exact at_new' wc _ _ _ (by simp [cellsB, bv]; omega)
          have NK := Lib.hid (show (⟨#[97]⟩ : ByteArray) ++ ⟨#[ch]⟩ = nmB (xn k) by rw [cat_one, ← hch]; rfl)
          clear hch
          have cv : (convert 32 9 (.slice (some ⟨wc.heap.size, 0, none⟩) 1 1)).run Try.prog (wc.alloc (.cells #[.int .u8 (48 + (k : Int))] 5)) = .ok (.string ⟨#[ch]⟩) (wc.alloc (.cells #[.int .u8 (48 + (k : Int))] 5)) := conv_text _ _ _ 1 hat
          have H2 := Lib.hid (H.out.below hbx)
          clear hc tc ht2 hat hbx
          have RN := Lib.hid (kRename H2.out.many (i := 0) rfl nm (⟨#[97]⟩ ++ ⟨#[ch]⟩))
          rw [NM.out, show nmOf (⟨#[97]⟩ ++ ⟨#[ch]⟩) = xn k by rw [NK.out], (db_ren hj hk10 W1 s O).1, (db_ren hj hk10 W1 s O).2] at RN
          go_wp2_with fail
          refine RN.out.mono ?_
          rintro r4 w4 ⟨rfl, t4⟩
          have H4 := Lib.hid (H2.out.turn t4)
          clear t4 RN
          go_wp2_with fail
          go_meet
          exact ⟨k, by rw [NK.out], hk10, H4.out⟩
        | false =>
          go_wp2_with fail
          go_meet
          exact ⟨j, by rw [NM2.out], hj, H.out⟩
      case rest =>
      obtain ⟨j', rfl, hj', hH⟩ := hcut
      clear H NM NM2
      have H := Lib.hid hH
      clear hH
      obtain ⟨nm', hnm⟩ : ∃ nm', nmB (xn j') = nm' := ⟨_, rfl⟩
      rw [hnm]
      have NM := Lib.hid (show nmOf nm' = xn j' by subst hnm; exact nm_back _)
      have NM2 := Lib.hid hnm
      clear hnm
      go_upto_region 22 with fail
      go_cut [113] from 105 to 113 (fun t w' => t = .bool false ∧ ∃ s', Held w w' p j' A' c' W1 s' O)
      case first =>
        obtain ⟨m, hm⟩ : ∃ m, i % 3 = m := ⟨_, rfl⟩
        have hrem : (i : Int) % 3 = (m : Int) := by omega
        by_cases h0 : m = 0
        · subst h0
          have hrem' : (i : Int) % 3 = 0 := by omega
          have SY := Lib.hid (kSync H.out.many (i := 0) rfl nm')
          rw [NM.out, (db_sync hj' W1 s O).1, (db_sync hj' W1 s O).2] at SY
          go_wp2_with fail
          refine SY.out.mono ?_
          rintro r4 w4 ⟨rfl, t4⟩
          have H4 := Lib.hid (H.out.turn t4)
          clear t4 SY
          go_wp2_with fail
          go_meet
          exact ⟨rfl, _, H4.out⟩
        · have hne : ((m : Int) == 0) = false := by simp; omega
          go_wp2_with fail
          go_meet
          exact ⟨rfl, _, H.out⟩
      case rest =>
      obtain ⟨rfl, s', hH⟩ := hcut
      clear H
      have H := Lib.hid hH
      clear hH
      have RD := Lib.hid (kReadX H.out.many (i := 0) rfl (db_file hj' W1 s' O) (db_read hj' W1 s' O))
      rw [NM2.out] at RD
      go_wp2_with fail
      refine RD.out.mono ?_
      rintro r5 w5 ⟨Ab, cb, rfl, hAb, hzb, hcb, hb5⟩
      have H5 := Lib.hid (H.out.below hb5)
      have cv1 := conv_text w5 Ab W1 cb hAb
      have cv2 := conv_text w5 A' W1 c' H5.out.at
      clear hAb hzb hcb hb5 RD H
      have US := Lib.hid (kUsedOn H5.out.many (i := 0) rfl rfl)
      rw [db_used] at US
      obtain ⟨S, hS⟩ : ∃ S, W1.length + O.length = S := ⟨_, rfl⟩
      rw [hS] at US
      have hw1 : IntKind.i64.wrap ((W1.length : Int) + (O.length : Int)) = (S : Int) := by rw [show (W1.length : Int) + (O.length : Int) = (S : Int) by omega]; exact IntWalk.i64_in _ (by omega)
      go_wp2_with fail
      refine US.out.mono ?_
      rintro r6 w6 ⟨rfl, hb6⟩
      have H6 := Lib.hid (H5.out.below hb6)
      clear hb6 US H5 cv1 cv2
      have NA := Lib.hid (kNamesOn H6.out.many (i := 0) rfl rfl)
      rw [show (DB j' W1 s' O).L.length = 2 from rfl] at NA
      go_wp2_with fail
      refine NA.out.mono ?_
      rintro r7 w7 ⟨NB, nd, rfl, _, hb7⟩
      have H7 := Lib.hid (H6.out.below hb7)
      clear hb7 NA H6
      go_wp2_with fail
      go_roundw
      · exact ⟨i + 1, j', A', c', W1, s', by simp, by rw [NM2.out], hj', rfl, by omega, by omega, hW1', H7.out⟩
      · show n0 - ((i : Int) + 1).toNat < n0 - (i : Int).toNat
        omega
    · have WK := Lib.hid (wakes_any wr)
      have hx : ¬ ((i : Int) < (n0 : Int)) ∨ (i = 30 ∧ ((30 : Nat) : Int) < (n0 : Int)) := by omega
      rcases hx with hx | ⟨rfl, hx⟩
      all_goals (
        go_wp2_with fail
        refine WK.out.mono ?_
        rintro r4 w4 ⟨rfl, hb4⟩
        go_wp2_with fail
        go_ret
        exact ⟨rfl, (Kept.below H.out.kept (fun b hb => hb) (Nat.le_refl _)).trans (hb4.mono H.out.kept.size)⟩)
end Go.Proofs.Ythnfpkbpakffgaa
