/- DiskSafe's walk. -/
import Derived.Test.YthnfpkbpakffgaaM1
import Derived.BigQuiet
namespace Go.Proofs.Ythnfpkbpakffgaa
open Go.RowKit Go.Maps Go.Sort Go.Shelf
open Disk (Nm Fl DS Up fnd used Wf fileR newD crashD crashL)
section
variable {w : World} {ds : List (Nat × DS)} {K : Nat → Prop} {i p : Nat} {d : DS}
theorem kCrashNone (h : Many w ds K) (hi : ds[i]? = some (p, d)) : Calls Try.prog 17 #[.pointer (some ⟨p, 0, none⟩), .slice none 0 0, .slice none 0 0] w fun r w' => r = .returned (.int .i64 0) ∧ Turned w ds K i p (crashD [] [] d) w' :=
  kCrash h hi none 0 0 [] ⟨fun i => by simp, fun h0 => absurd h0 (by simp)⟩ rfl (by simp [maxLen]) (fun h0 => absurd h0 (by simp)) none 0 0 [] (at_nil _ _) rfl (by simp [maxLen]) (fun h0 => absurd h0 (by simp))
theorem kReadX (h : Many w ds K) (hi : ds[i]? = some (p, d)) {x : Nm} {bs : List UInt8} (h1 : fileR x d = 0) (h2 : readB x d = bs) : Calls Try.prog 20 #[.pointer (some ⟨p, 0, none⟩), .string (nmB x)] w fun e w' => ∃ A c, e = .returned (.tuple #[.slice A bs.length c, .int .i64 0]) ∧ At w' A bs ∧ (A = none → c = 0) ∧ bs.length ≤ c ∧ Below w.heap.size w w' := by
  refine (kRead h hi (nmB x)).mono ?_
  rw [nm_back, h1, h2]
  rintro e w' ⟨v, rfl, hr, hb⟩
  obtain ⟨A, c, rfl, hA, hz, hc⟩ := own_slice hr
  exact ⟨A, c, rfl, hA, hz, hc, hb⟩
theorem kSafeX (h : Many w ds K) (hi : ds[i]? = some (p, d)) {x : Nm} {n : Nat} (h1 : fileR x d = 0) (h2 : safeN x d = n) : Calls Try.prog 25 #[.pointer (some ⟨p, 0, none⟩), .string (nmB x)] w fun e w' => e = .returned (.tuple #[.int .i64 n, .int .i64 0]) ∧ Below w.heap.size w w' := by
  refine (kSafe h hi (nmB x)).mono ?_
  rw [nm_back, h1, h2]
  exact fun e w' h => h
theorem kNamesOn2 (h : Many w ds K) (hi : ds[i]? = some (p, d)) (ho : d.off = false) : Calls Try.prog 24 #[.pointer (some ⟨p, 0, none⟩)] w fun e w' => ∃ A c, e = .returned (.slice A d.L.length c) ∧ NAt w' A ((d.L.map Fl.nm).map nmB) ∧ (0 < d.L.length → ∀ bb off, A = some ⟨bb, off, none⟩ → w.heap.size ≤ bb ∧ bb < w'.heap.size) ∧ Below w.heap.size w w' := by
  have hk := kNames h hi
  rw [if_neg (by simp [ho])] at hk
  refine hk.mono ?_
  rintro e w' ⟨v, rfl, hr, hb⟩
  obtain ⟨A, c, rfl, hA⟩ := own_nat hr
  refine ⟨A, c, by rw [List.length_map], hA, fun h0 bb off e => ?_, hb⟩
  obtain ⟨g, cap', hv, hg, hlt⟩ := hr.form (by rw [List.length_map]; omega)
  injection hv with hP
  rw [e] at hP
  cases hP
  exact ⟨hg, hlt⟩
end
theorem nat_cell {w : World} {A : Option Addr} {L : List Fl} (h : NAt w A ((L.map Fl.nm).map nmB)) {i : Nat} (hi : i < L.length) : ∃ b off, A = some ⟨b, off, none⟩ ∧ b < w.heap.size ∧ w.cell? ⟨b, off + i, none⟩ = some (.string (nmB L[i].nm)) := by
  obtain ⟨b, off, e, hl, hc⟩ := h (by simp; omega)
  refine ⟨b, off, e, hl, ?_⟩
  have := hc i (by simpa using hi)
  rwa [List.getElem_map, List.getElem_map] at this
theorem cell_on {w w' : World} {b off : Nat} {v : Value} (hb : Below w.heap.size w w') (hl : b < w.heap.size) (h : w.cell? ⟨b, off, none⟩ = some v) : w'.cell? ⟨b, off, none⟩ = some v := ((But.of_below (S := fun _ => False) hb).cell b off hl (fun h => h)).trans h
theorem NAt.below' {w w' : World} {A : Option Addr} {xs : List ByteArray} (h : NAt w A xs) (hb : Below w.heap.size w w') : NAt w' A xs := h.but (T := fun _ => False) (But.of_below hb) (fun _ _ _ h => h)
theorem conv_on {w : World} {A : Option Addr} {l : List UInt8} {n : Nat} (hA : At w A l) (hn : l.length = n) (c : Nat) : ∀ k, (convert 32 9 (.slice A n c)).run Try.prog (w.drewN k) = .ok (.string ⟨l.toArray⟩) (w.drewN k) := fun k => by
  subst hn
  exact conv_text (w.drewN k) A l c (hA.below (below_drewN' (Below.refl _ _) k))
set_option maxRecDepth 100000 in
set_option maxHeartbeats 8000000 in
theorem Safe_walk (q : Int) (B : Option Addr) (n cap : Nat) (f : Nat → Opp) (A2 : Option Addr) (n2 c2 : Nat) (ps : List Nat) (A3 : Option Addr) (n3 c3 : Nat) (ts : List UInt8) (w : World) (hB : OAt w B n f) (hn : n ≤ maxLen)
    (hP : PAt w A2 ps) (lP : ps.length = n2) (mP : n2 ≤ maxLen) (hT : At w A3 ts) (lT : ts.length = n3) (mT : n3 ≤ maxLen) :
    Calls Try.prog 4 #[.int .i64 q, .slice B n cap, .slice A2 n2 c2, .slice A3 n3 c3] w fun r w' => r = .returned (.bool true) ∧ Below w.heap.size w w' := by
  unfold maxLen at hn
  have HB := Lib.hid hB
  have HP := Lib.hid hP
  have HT := Lib.hid hT
  have LP := Lib.hid (And.intro lP mP)
  have LT := Lib.hid (And.intro lT mT)
  have KP := Lib.hid (show 0 < ps.length → ∀ bb off, A2 = some ⟨bb, off, none⟩ → bb < w.heap.size from fun h0 bb off e => by obtain ⟨b', off', e', hl, _⟩ := hP.2 h0; rw [e] at e'; cases e'; exact hl)
  have KT := Lib.hid (show 0 < ts.length → ∀ bb off, A3 = some ⟨bb, off, none⟩ → bb < w.heap.size from fun h0 bb off e => by obtain ⟨b', off', e', hl, _⟩ := hT h0; rw [e] at e'; cases e'; exact hl)
  clear hB hP hT lP mP lT mT
  by_cases hq : 0 ≤ q ∧ q ≤ 4194304
  · have N := Lib.hid (New_yes q w hq.1 hq.2)
    clear hq
    go_enter Try.func4, Try.ntmps4
    go_wp2_with fail
    refine N.out.mono ?_
    rintro r0 w0 ⟨p, S0, rfl, hI, hS, hb⟩
    have T0 := Lib.hid (show Many w0 [(p, newD q)] (fun b => b < w.heap.size) from many_one hI hS hb fun b h => h)
    have B0 := Lib.hid (show Kept (fun b => b < w.heap.size) w w0 from Kept.of_below hb)
    clear hI hS hb N
    go_upto_block 0 with fail
    go_cut [11] from 43 to 58 (fun _ w' => ∃ d, Many w' [(p, d)] (fun b => b < w.heap.size) ∧ Kept (fun b => b < w.heap.size) w w')
    case first =>
     go_wp2_with fail
     go_loopw [11] (fun v11 wr => ∃ (i : Nat) (d : DS), v11 = .int .i64 i ∧ i ≤ n ∧ i ≤ 60 ∧ Many wr [(p, d)] (fun b => b < w.heap.size) ∧ Kept (fun b => b < w.heap.size) w wr) (fun v11 _ => n - (intOf v11).toNat)
     case atStart => exact ⟨0, newD q, rfl, Nat.zero_le _, by omega, T0.out, B0.out⟩
     case round =>
       clear T0 B0
       obtain ⟨i, d, rfl, hi, hi60, hT, hK⟩ := hrel
       have T := Lib.hid hT
       have KK := Lib.hid hK
       clear hT hK
       by_cases hlt : i < n ∧ i < 60
       · obtain ⟨hin, h60⟩ := hlt
         obtain ⟨b, off, rfl, hbl, hcells⟩ := HB.out (by omega)
         obtain ⟨hc0, ho0⟩ := hcells i hin
         have hc := hc0.but hbl KK.out (by simp [hbl])
         have OK := Lib.hid (ho0.kept KK.out)
         obtain ⟨o, hfo⟩ : ∃ o, f i = o := ⟨_, rfl⟩
         rw [hfo] at hc OK
         obtain ⟨z0, z1, z2, z3, z4, z5⟩ := hc
         clear hc0 ho0 hcells hfo
         have i1 : (0 : Int) ≤ (i : Int) := by omega
         have i2 : (i : Int) < (n : Int) := by omega
         have i3 : (i : Int) < 60 := by omega
         have R := Lib.hid (run_any T.out (i := 0) rfl o OK.out)
         go_wp2_with fail
         refine (show Calls Try.prog 22 #[.pointer (some ⟨p, 0, none⟩), .agg #[.int .i64 o.what, .string o.nm, .string o.tn, .int .i64 o.n, .slice o.A o.nb o.cb, .slice o.P o.np o.cp]] wr _ from R.out).mono ?_
         rintro r3 w3 ⟨rfl, hT3, hK3⟩
         have T3 := Lib.hid (show Many w3 [(p, runD o d)] (fun b => b < w.heap.size) from hT3)
         have K3 := Lib.hid (show Kept (fun b => b < w.heap.size) w w3 from Kept.trans KK.out hK3)
         clear hT3 hK3 R z0 z1 z2 z3 z4 z5 T KK OK
         go_wp2_with fail
         go_roundw
         · exact ⟨i + 1, runD o d, by simp, by omega, by omega, T3.out, K3.out⟩
         · show n - ((i : Int) + 1).toNat < n - (i : Int).toNat
           omega
       · have hx : ¬ ((i : Int) < (n : Int)) ∨ (i = 60 ∧ ((60 : Nat) : Int) < (n : Int)) := by omega
         rcases hx with hx | ⟨rfl, hx⟩
         all_goals (
           go_wp2_with fail
           go_meet
           exact ⟨d, T.out, KK.out⟩)
    case rest =>
    obtain ⟨d, hT, hK⟩ := hcut
    have T := Lib.hid hT
    have KK := Lib.hid hK
    clear hT hK T0 B0
    have CP := Lib.hid (kCopy T.out (i := 0) rfl)
    go_wp2_with fail
    refine CP.out.mono ?_
    rintro r1 w1 ⟨u, rfl, hT1, hb1⟩
    have T1 := Lib.hid (show Many w1 [(p, d), (u, d)] (fun b => b < w.heap.size) from hT1)
    have K1 := Lib.hid (show Kept (fun b => b < w.heap.size) w w1 from KK.out.on hb1)
    clear hT1 hb1 CP T KK
    have O := Lib.hid (kOn T1.out (i := 1) rfl)
    obtain ⟨of, hof⟩ : ∃ of, d.off = of := ⟨_, rfl⟩
    have HOF := Lib.hid hof
    rw [hof] at O
    clear hof
    go_wp2_with fail
    refine O.out.mono ?_
    rintro r2 w2 ⟨rfl, rfl⟩
    go_upto_if 63 with fail
    go_cut [12] from 64 to 65 (fun t w' => t = .pointer (some ⟨u, 0, none⟩) ∧ Many w' [(p, d), (u, wasD d)] (fun b => b < w.heap.size) ∧ Kept (fun b => b < w.heap.size) w w')
    case first =>
      cases of with
      | false =>
        go_wp2_with fail
        go_meet
        refine ⟨rfl, ?_, K1.out⟩
        unfold wasD
        rw [if_neg (by simp [HOF.out])]
        exact T1.out
      | true =>
        have CN := Lib.hid (kCrashNone T1.out (i := 1) rfl)
        go_wp2_with fail
        refine CN.out.mono ?_
        rintro r3 w3 ⟨rfl, g1, g2⟩
        go_wp2_with fail
        go_meet
        refine ⟨rfl, ?_, Kept.trans K1.out g2⟩
        unfold wasD
        rw [if_pos HOF.out]
        exact g1
    case rest =>
    obtain ⟨rfl, hT, hK⟩ := hcut
    rename_i wx
    have T2 := Lib.hid hT
    have K2 := Lib.hid hK
    clear hT hK O T1 K1
    have O := Lib.hid (kOn T2.out (i := 0) rfl)
    rw [HOF.out] at O
    obtain ⟨lv, hlv⟩ : ∃ lv, (!of) = lv := ⟨_, rfl⟩
    rw [hlv] at O
    have HLV := Lib.hid (show (!d.off) = lv by rw [HOF.out, hlv])
    clear hlv
    go_wp2_with fail
    refine O.out.mono ?_
    rintro r2 w2 ⟨rfl, rfl⟩
    have CR := Lib.hid (kCrash T2.out (i := 0) rfl A2 n2 c2 ps (HP.out.but K2.out fun h0 bb off e hn => hn (KP.out h0 bb off e)) LP.out.1 LP.out.2 KP.out A3 n3 c3 ts (HT.out.but K2.out fun h0 bb off e hn => hn (KT.out h0 bb off e)) LT.out.1 LT.out.2 KT.out)
    go_wp2_with fail
    refine CR.out.mono ?_
    rintro r3 w3 ⟨rfl, hT3, hK3⟩
    have T3 := Lib.hid (show Many w3 [(p, crashD ps ts d), (u, wasD d)] (fun b => b < w.heap.size) from hT3)
    have K3 := Lib.hid (show Kept (fun b => b < w.heap.size) w w3 from Kept.trans K2.out hK3)
    have WD := Lib.hid (T2.out.wf (i := 0) rfl)
    clear hT3 hK3 CR T2 K2 O
    have e1 := wasD_off d
    have e2 : (crashD ps ts d).off = false := rfl
    have e3 : (crashD ps ts d).L.map Fl.nm = (wasD d).L.map Fl.nm := (Disk.crashL_names ps ts d.L 0).trans (wasD_names d).symm
    have REL := Lib.hid (fun (i : Nat) (f : Fl) (hi : (wasD d).L[i]? = some f) => rel_at WD.out ps ts hi)
    rw [HLV.out] at REL
    have SAFE := Lib.hid (show ∀ f ∈ (crashD ps ts d).L, f.s = f.bs.length from Disk.crashL_safe ps ts d.L 0 WD.out.safe)
    have e4 : (crashD ps ts d).L.length = (wasD d).L.length := by have := congrArg List.length e3; simpa using this
    obtain ⟨dn, hdn⟩ : ∃ dn, crashD ps ts d = dn := ⟨_, rfl⟩
    obtain ⟨dw, hdw⟩ : ∃ dw, wasD d = dw := ⟨_, rfl⟩
    rw [hdn] at e2 e3 e4 T3 REL SAFE
    rw [hdw] at e1 e3 e4 T3 REL
    clear hdn hdw WD
    have O := Lib.hid (kOn T3.out (i := 0) rfl)
    rw [e2] at O
    go_wp2_with fail
    refine O.out.mono ?_
    rintro r4 w4 ⟨rfl, rfl⟩
    clear O
    have N1 := Lib.hid (kNamesOn T3.out (i := 1) rfl e1)
    go_wp2_with fail
    refine N1.out.mono ?_
    rintro r5 w5 ⟨NA, nc, rfl, hNA, hb5⟩
    have T5 := Lib.hid (T3.out.below hb5)
    have K5 := Lib.hid (show Kept (fun b => b < w.heap.size) w w5 from K3.out.on hb5)
    have NN := Lib.hid hNA
    clear hNA hb5 N1 T3 K3
    have N2 := Lib.hid (kNamesOn2 T5.out (i := 0) rfl e2)
    rw [e3, e4] at N2
    go_wp2_with fail
    refine N2.out.mono ?_
    rintro r6 w6 ⟨NB, nd, rfl, hNB, hbk, hb6⟩
    have T6' := T5.out.keep (K' := fun b => b < w.heap.size ∨ (0 < dw.L.length ∧ ∃ off, NB = some ⟨b, off, none⟩)) hb6 (fun b hb => by
      rcases hb with hb | ⟨h0, off, e⟩
      · exact .inl hb
      · exact .inr (hbk h0 b off e))
    have HK0 := Lib.hid (show ∀ b, b < w.heap.size → (fun b => b < w.heap.size ∨ (0 < dw.L.length ∧ ∃ off, NB = some ⟨b, off, none⟩)) b from fun b hb => .inl hb)
    have HK1 := Lib.hid (show 0 < dw.L.length → ∀ bb off, NB = some ⟨bb, off, none⟩ → (fun b => b < w.heap.size ∨ (0 < dw.L.length ∧ ∃ off, NB = some ⟨b, off, none⟩)) bb from fun h0 bb off e => .inr ⟨h0, off, e⟩)
    obtain ⟨KB, hKB⟩ : ∃ KB, (fun b => b < w.heap.size ∨ (0 < dw.L.length ∧ ∃ off, NB = some ⟨b, off, none⟩)) = KB := ⟨_, rfl⟩
    rw [hKB] at T6' HK0 HK1
    have T6 := Lib.hid T6'
    clear hKB T6' hbk
    have K6 := Lib.hid (show Kept (fun b => b < w.heap.size) w w6 from K5.out.on hb6)
    have NN6 := Lib.hid (And.intro (NN.out.below' hb6) hNB)
    clear hNB hb6 N2 T5 K5 NN
    have WW := Lib.hid (show Wf dw from T6.out.wf (i := 1) rfl)
    have WN := Lib.hid (show Wf dn from T6.out.wf (i := 0) rfl)
    have bnd := WW.out.many
    go_wp2_with fail
    go_loopw [16, 17, 18, 19, 20, 21, 22, 23, 24] (fun v16 _ _ _ _ _ _ _ _ wk => ∃ (k : Nat), v16 = .int .i64 k ∧ k ≤ dw.L.length ∧ Many wk [(p, dn), (u, dw)] KB ∧ Kept (fun b => b < w.heap.size) w wk ∧ NAt wk NA ((dw.L.map Fl.nm).map nmB) ∧ NAt wk NB ((dw.L.map Fl.nm).map nmB)) (fun v16 _ _ _ _ _ _ _ _ _ => dw.L.length - (intOf v16).toNat)
    case atStart => exact ⟨0, rfl, Nat.zero_le _, T6.out, K6.out, NN6.out.1, NN6.out.2⟩
    case round =>
      clear T6 K6 NN6
      obtain ⟨k, rfl, hk, hT, hK, hNA, hNB⟩ := hrel
      have T := Lib.hid hT
      have KK := Lib.hid hK
      have NN := Lib.hid (And.intro hNA hNB)
      clear hT hK hNA hNB
      by_cases hlt : k < dw.L.length
      · obtain ⟨b1, o1, rfl, l1, c1⟩ := nat_cell NN.out.1 hlt
        obtain ⟨b2, o2, rfl, l2, c2'⟩ := nat_cell NN.out.2 hlt
        obtain ⟨ff, hff⟩ : ∃ ff, dw.L[k] = ff := ⟨_, rfl⟩
        have hf? : dw.L[k]? = some ff := by rw [List.getElem?_eq_getElem hlt, hff]
        rw [hff] at c1 c2'
        obtain ⟨gg, hg?, hR⟩ := REL.out k ff hf?
        obtain ⟨q1, q2, q3, q4, q5, q6⟩ := hR
        obtain ⟨x1, x2, x3⟩ := look_at WW.out e1 hf?
        obtain ⟨y1, y2, y3⟩ := look_at WN.out e2 hg?
        rw [q1] at y1 y2 y3
        rw [q2] at y3
        have m1 := (readB_len (x := ff.nm) WW.out).1
        have m2 := (readB_len (x := ff.nm) WN.out).1
        rw [x2] at m1
        rw [y2] at m2
        obtain ⟨nm, hnm⟩ : ∃ nm, ff.nm = nm := ⟨_, rfl⟩
        obtain ⟨a, ha⟩ : ∃ a, ff.bs = a := ⟨_, rfl⟩
        obtain ⟨m, hm⟩ : ∃ m, ff.s = m := ⟨_, rfl⟩
        obtain ⟨bb, hbb⟩ : ∃ bb, gg.bs = bb := ⟨_, rfl⟩
        rw [hnm] at c1 c2' x1 x2 x3 y1 y2 y3
        rw [ha] at x2 m1 q3 q5 q6
        rw [hm] at x3 q3 q4 q5 q6
        rw [hbb] at y2 y3 m2 q4 q5 q6
        clear hff hf? hg? q1 q2 hnm ha hm hbb
        have i1 : (0 : Int) ≤ (k : Int) := by omega
        have i2 : (k : Int) < (dw.L.length : Int) := by omega
        have Q5 := Lib.hid (And.intro q5 q6)
        clear q5 q6
        have R1 := Lib.hid (kReadX T.out (i := 1) rfl x1 x2)
        go_wp2_with fail
        refine R1.out.mono ?_
        rintro r7 w7 ⟨Aa, ca, rfl, hAa, hza, hca, hb7⟩
        have T7 := Lib.hid (T.out.below hb7)
        have K7 := Lib.hid (show Kept (fun b => b < w.heap.size) w w7 from KK.out.on hb7)
        have NN7 := Lib.hid (And.intro (NN.out.1.below' hb7) (NN.out.2.below' hb7))
        have c17 := cell_on hb7 l1 c1
        have c27 := cell_on hb7 l2 c2'
        have l17 := Nat.lt_of_lt_of_le l1 hb7.size
        have l27 := Nat.lt_of_lt_of_le l2 hb7.size
        have AA := Lib.hid hAa
        clear hAa hza hb7 R1 T KK NN c1 c2' l1 l2
        have S1 := Lib.hid (kSafeX T7.out (i := 1) rfl x1 x3)
        go_wp2_with fail
        refine S1.out.mono ?_
        rintro r8 w8 ⟨rfl, hb8⟩
        have T8 := Lib.hid (T7.out.below hb8)
        have K8 := Lib.hid (show Kept (fun b => b < w.heap.size) w w8 from K7.out.on hb8)
        have NN8 := Lib.hid (And.intro (NN7.out.1.below' hb8) (NN7.out.2.below' hb8))
        have c18 := cell_on hb8 l17 c17
        have c28 := cell_on hb8 l27 c27
        have l18 := Nat.lt_of_lt_of_le l17 hb8.size
        have l28 := Nat.lt_of_lt_of_le l27 hb8.size
        have AA8 := Lib.hid (AA.out.below hb8)
        clear hb8 S1 T7 K7 NN7 c17 c27 l17 l27 AA
        have R2 := Lib.hid (kReadX T8.out (i := 0) rfl y1 y2)
        go_wp2_with fail
        refine R2.out.mono ?_
        rintro r9 w9 ⟨Ab, cb, rfl, hAb, hzb, hcb, hb9⟩
        have T9 := Lib.hid (T8.out.below hb9)
        have K9 := Lib.hid (show Kept (fun b => b < w.heap.size) w w9 from K8.out.on hb9)
        have NN9 := Lib.hid (And.intro (NN8.out.1.below' hb9) (NN8.out.2.below' hb9))
        have c19 := cell_on hb9 l18 c18
        have c29 := cell_on hb9 l28 c28
        have l19 := Nat.lt_of_lt_of_le l18 hb9.size
        have l29 := Nat.lt_of_lt_of_le l28 hb9.size
        have AA9 := Lib.hid (And.intro (AA8.out.below hb9) hAb)
        clear hAb hzb hb9 R2 T8 K8 NN8 c18 c28 l18 l28 AA8
        have S2 := Lib.hid (kSafeX T9.out (i := 0) rfl y1 y3)
        go_wp2_with fail
        refine S2.out.mono ?_
        rintro r10 w10 ⟨rfl, hb10⟩
        have T10 := Lib.hid (T9.out.below hb10)
        have K10 := Lib.hid (show Kept (fun b => b < w.heap.size) w w10 from K9.out.on hb10)
        have NN10 := Lib.hid (And.intro (NN9.out.1.below' hb10) (NN9.out.2.below' hb10))
        have c110 := cell_on hb10 l19 c19
        have c210 := cell_on hb10 l29 c29
        have AA10 := Lib.hid (And.intro (AA9.out.1.below hb10) (AA9.out.2.below hb10))
        clear hb10 S2 T9 K9 NN9 c19 c29 l19 l29 AA9 x1 x2 x3 y1 y2 y3
        go_upto_region 25 with fail
        obtain ⟨A4, c4, sb, hA4, n4⟩ := reslice0 (hi := m) AA10.out.2 hcb (by omega)
        obtain ⟨A5, c5, sa, hA5, n5⟩ := reslice0 (hi := m) AA10.out.1 hca (by omega)
        have cv4 := conv_on hA4 n4 c4
        have cv5 := conv_on hA5 n5 c5
        rw [Q5.out.1] at cv4
        have j1 : ((bb.length : Int) != (bb.length : Int)) = false := by simp
        have j2 : ¬ ((bb.length : Int) < (m : Int)) := by omega
        have j3 : decide ((bb.length : Int) < (m : Int)) = false := by simpa using j2
        go_quiet (fail)
        have hq := below_drewN' (Below.refl w10.heap.size w10) nq
        have T11 := Lib.hid (T10.out.below hq)
        have K11 := Lib.hid (show Kept (fun b => b < w.heap.size) w (w10.drewN nq) from K10.out.on hq)
        have NN11 := Lib.hid (And.intro (NN10.out.1.below' hq) (NN10.out.2.below' hq))
        have AA11 := Lib.hid (And.intro (AA10.out.1.below hq) (AA10.out.2.below hq))
        obtain ⟨w11, hw11⟩ : ∃ w11, w10.drewN nq = w11 := ⟨_, rfl⟩
        rw [hw11] at T11 K11 NN11 AA11
        try rw [hw11]
        clear hw11 hq T10 K10 NN10 AA10 cv4 cv5 sa sb hA4 hA5 n4 n5 c110 c210
        cases lv with
        | false =>
          go_upto_region 27 with fail
          go_quiet (fail)
          have hq := below_drewN' (Below.refl w11.heap.size w11) nq
          have T12 := Lib.hid (T11.out.below hq)
          have K12 := Lib.hid (show Kept (fun b => b < w.heap.size) w (w11.drewN nq) from K11.out.on hq)
          have NN12 := Lib.hid (And.intro (NN11.out.1.below' hq) (NN11.out.2.below' hq))
          go_wp2_with fail
          go_roundw
          · exact ⟨k + 1, by simp, by omega, T12.out, K12.out, NN12.out.1, NN12.out.2⟩
          · show dw.L.length - ((k : Int) + 1).toNat < dw.L.length - (k : Int).toNat
            omega
        | true =>
          obtain ⟨q7, q8⟩ := Q5.out.2 rfl
          have j4 : ¬ ((a.length : Int) < (bb.length : Int)) := by omega
          have j5 : decide ((a.length : Int) < (bb.length : Int)) = false := by simpa using j4
          by_cases hm : m < bb.length
          · have j6 : (m : Int) < (bb.length : Int) := by omega
            have j7 : decide ((m : Int) < (bb.length : Int)) = true := by simpa using j6
            have hw1 : IntKind.i64.wrap ((bb.length : Int) - 1) = ((bb.length - 1 : Nat) : Int) := by rw [show ((bb.length - 1 : Nat) : Int) = (bb.length : Int) - 1 by omega]; exact IntWalk.i64_in _ (by omega)
            obtain ⟨A4, c4, sb, hA4, n4⟩ := reslice (lo := m) (hi := bb.length - 1) AA11.out.2 hcb (by omega) (by omega)
            obtain ⟨A5, c5, sa, hA5, n5⟩ := reslice (lo := m) (hi := bb.length - 1) AA11.out.1 hca (by omega) (by omega)
            have cv4 := conv_on hA4 n4 c4
            have cv5 := conv_on hA5 n5 c5
            rw [mid_same (q8 hm)] at cv4
            go_upto_region 27 with fail
            go_quiet (fail)
            have hq := below_drewN' (Below.refl w11.heap.size w11) nq
            have T12 := Lib.hid (T11.out.below hq)
            have K12 := Lib.hid (show Kept (fun b => b < w.heap.size) w (w11.drewN nq) from K11.out.on hq)
            have NN12 := Lib.hid (And.intro (NN11.out.1.below' hq) (NN11.out.2.below' hq))
            go_wp2_with fail
            go_roundw
            · exact ⟨k + 1, by simp, by omega, T12.out, K12.out, NN12.out.1, NN12.out.2⟩
            · show dw.L.length - ((k : Int) + 1).toNat < dw.L.length - (k : Int).toNat
              omega
          · have j6 : ¬ ((m : Int) < (bb.length : Int)) := by omega
            have j7 : decide ((m : Int) < (bb.length : Int)) = false := by simpa using j6
            go_upto_region 27 with fail
            go_quiet (fail)
            have hq := below_drewN' (Below.refl w11.heap.size w11) nq
            have T12 := Lib.hid (T11.out.below hq)
            have K12 := Lib.hid (show Kept (fun b => b < w.heap.size) w (w11.drewN nq) from K11.out.on hq)
            have NN12 := Lib.hid (And.intro (NN11.out.1.below' hq) (NN11.out.2.below' hq))
            go_wp2_with fail
            go_roundw
            · exact ⟨k + 1, by simp, by omega, T12.out, K12.out, NN12.out.1, NN12.out.2⟩
            · show dw.L.length - ((k : Int) + 1).toNat < dw.L.length - (k : Int).toNat
              omega
      · have hk' : k = dw.L.length := by omega
        subst hk'
        have CP := Lib.hid (kCopy T.out (i := 0) rfl)
        go_wp2_with fail
        refine CP.out.mono ?_
        rintro r7 w7 ⟨s, rfl, hT7, hb7⟩
        have T7 := Lib.hid (show Many w7 [(p, dn), (u, dw), (s, dn)] KB from hT7)
        have K7 := Lib.hid (show Kept (fun b => b < w.heap.size) w w7 from KK.out.on hb7)
        have NN7 := Lib.hid (NN.out.2.below' hb7)
        clear hT7 hb7 CP T KK NN
        have CR := Lib.hid (kCrash T7.out (i := 2) rfl A2 n2 c2 ps (HP.out.but K7.out fun h0 bb off e hn => hn (KP.out h0 bb off e)) LP.out.1 LP.out.2 (fun h0 bb off e => HK0.out _ (KP.out h0 bb off e)) A3 n3 c3 ts (HT.out.but K7.out fun h0 bb off e hn => hn (KT.out h0 bb off e)) LT.out.1 LT.out.2 (fun h0 bb off e => HK0.out _ (KT.out h0 bb off e)))
        go_wp2_with fail
        refine CR.out.mono ?_
        rintro r8 w8 ⟨rfl, hT8, hK8⟩
        have e5 : (crashD ps ts dn).off = false := rfl
        have e6 : (crashD ps ts dn).L = dn.L := crash_again ps ts dn.L 0 SAFE.out
        have T8 := Lib.hid (show Many w8 [(p, dn), (u, dw), (s, crashD ps ts dn)] KB from hT8)
        have K8 := Lib.hid (show Kept (fun b => b < w.heap.size) w w8 from Kept.trans K7.out (But.sub hK8 fun b hb hk => hb (HK0.out b hk)))
        have NN8 := Lib.hid (show NAt w8 NB ((dn.L.map Fl.nm).map nmB) by
          by_cases h0 : 0 < dw.L.length
          · rw [e3]; exact NN7.out.but hK8 fun bb off e hn => hn (HK1.out h0 bb off e)
          · exact fun h => absurd h (by rw [List.length_map, List.length_map, e4]; exact h0))
        obtain ⟨dz, hdz⟩ : ∃ dz, crashD ps ts dn = dz := ⟨_, rfl⟩
        rw [hdz] at e5 e6 T8
        clear hT8 hK8 CR T7 K7 NN7 hdz REL
        go_wp2_with fail
        go_loopw [26, 27, 28, 29, 30] (fun v26 _ _ _ _ wk => ∃ (k : Nat), v26 = .int .i64 k ∧ k ≤ dw.L.length ∧ Many wk [(p, dn), (u, dw), (s, dz)] KB ∧ Kept (fun b => b < w.heap.size) w wk ∧ NAt wk NB ((dn.L.map Fl.nm).map nmB)) (fun v26 _ _ _ _ _ => dw.L.length - (intOf v26).toNat)
        case atStart => exact ⟨0, rfl, Nat.zero_le _, T8.out, K8.out, NN8.out⟩
        case round =>
          clear T8 K8 NN8
          obtain ⟨k, rfl, hk, hT, hK, hNB⟩ := hrel
          have T := Lib.hid hT
          have KK := Lib.hid hK
          have NN := Lib.hid hNB
          clear hT hK hNB
          by_cases hlt : k < dw.L.length
          · obtain ⟨b2, o2, rfl, l2, c2'⟩ := nat_cell NN.out (i := k) (by omega)
            have hltn : k < dn.L.length := by omega
            obtain ⟨gg, hgg⟩ : ∃ gg, dn.L[k] = gg := ⟨_, rfl⟩
            have hg? : dn.L[k]? = some gg := by rw [List.getElem?_eq_getElem hltn, hgg]
            rw [hgg] at c2'
            obtain ⟨y1, y2, y3⟩ := look_at WN.out e2 hg?
            obtain ⟨x1, x2, x3⟩ := look_at (T.out.wf (i := 2) rfl : Wf dz) e5 (i := k) (f := gg) (by rw [e6]; exact hg?)
            obtain ⟨nm, hnm⟩ : ∃ nm, gg.nm = nm := ⟨_, rfl⟩
            obtain ⟨bb, hbb⟩ : ∃ bb, gg.bs = bb := ⟨_, rfl⟩
            rw [hnm] at c2' x1 x2 y1 y2
            rw [hbb] at x2 y2
            clear hgg hg? hnm hbb x3 y3
            have i1 : (0 : Int) ≤ (k : Int) := by omega
            have i2 : (k : Int) < (dw.L.length : Int) := by omega
            have R1 := Lib.hid (kReadX T.out (i := 0) rfl y1 y2)
            go_wp2_with fail
            refine R1.out.mono ?_
            rintro r9 w9 ⟨Aa, ca, rfl, hAa, hza, hca, hb9⟩
            have T9 := Lib.hid (T.out.below hb9)
            have K9 := Lib.hid (show Kept (fun b => b < w.heap.size) w w9 from KK.out.on hb9)
            have NN9 := Lib.hid (NN.out.below' hb9)
            have c29 := cell_on hb9 l2 c2'
            have AA := Lib.hid hAa
            clear hAa hza hb9 R1 T KK NN c2' l2
            have R2 := Lib.hid (kReadX T9.out (i := 2) rfl x1 x2)
            go_wp2_with fail
            refine R2.out.mono ?_
            rintro r10 w10 ⟨Ab, cb, rfl, hAb, hzb, hcb, hb10⟩
            have T10 := Lib.hid (T9.out.below hb10)
            have K10 := Lib.hid (show Kept (fun b => b < w.heap.size) w w10 from K9.out.on hb10)
            have NN10 := Lib.hid (NN9.out.below' hb10)
            have cv1 := conv_text w10 Aa bb ca (AA.out.below hb10)
            have cv2 := conv_text w10 Ab bb cb hAb
            clear hAb hzb hb10 R2 T9 K9 NN9 c29 AA x1 x2 y1 y2
            go_wp2_with fail
            go_roundw
            · exact ⟨k + 1, by simp, by omega, T10.out, K10.out, NN10.out⟩
            · show dw.L.length - ((k : Int) + 1).toNat < dw.L.length - (k : Int).toNat
              omega
          · have hk' : k = dw.L.length := by omega
            subst hk'
            have U1 := Lib.hid (kUsedOn T.out (i := 2) rfl e5)
            rw [e6] at U1
            go_wp2_with fail
            refine U1.out.mono ?_
            rintro r9 w9 ⟨rfl, hb9⟩
            have T9 := Lib.hid (T.out.below hb9)
            have K9 := Lib.hid (show Kept (fun b => b < w.heap.size) w w9 from KK.out.on hb9)
            clear hb9 U1 T KK NN
            have U2 := Lib.hid (kUsedOn T9.out (i := 0) rfl e2)
            go_wp2_with fail
            refine U2.out.mono ?_
            rintro r10 w10 ⟨rfl, hb10⟩
            have K10 := Lib.hid (show Kept (fun b => b < w.heap.size) w w10 from K9.out.on hb10)
            clear hb10 U2 T9 K9
            have W := Lib.hid (wakes_any w10)
            go_wp2_with fail
            refine W.out.mono ?_
            rintro r11 w11 ⟨rfl, hb11⟩
            go_wp2_with fail
            go_ret
            exact ⟨rfl, (Kept.below K10.out (fun b hb => hb) (Nat.le_refl _)).trans (hb11.mono K10.out.size)⟩
  · have N := Lib.hid (New_no q w hq)
    have W := Lib.hid (wakes_any w)
    clear hq
    go_enter Try.func4, Try.ntmps4
    go_wp2_with fail
    refine N.out.mono ?_
    rintro r0 w0 ⟨rfl, rfl⟩
    go_wp2_with fail
    refine W.out.mono ?_
    rintro r4 w4 ⟨rfl, hb4⟩
    go_wp2_with fail
    go_ret
    exact ⟨rfl, hb4⟩
end Go.Proofs.Ythnfpkbpakffgaa
