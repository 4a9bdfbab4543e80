/- DiskStays' walk. -/
import Derived.Test.YthnfpkbpakffgaaA3
import Derived.Deep.CutBlock
namespace Go.Proofs.Ythnfpkbpakffgaa
open Go.RowKit Go.Maps Go.Sort Go.Shelf
open Disk (Nm Fl DS Up ins del upd fnd okName okByte used Wf fileR newD crashD crashL)
/-- Where a slice of calls lies. -/
def OAt (w : World) (A : Option Addr) (n : Nat) (f : Nat → Opp) : Prop := 0 < n → ∃ b off, A = some ⟨b, off, none⟩ ∧ b < w.heap.size ∧ ∀ i, i < n → Cells6 w b (off + i * 6) (f i) ∧ OpOk w (fun b => b < w.heap.size) (f i)
section
variable {w : World} {ds : List (Nat × DS)} {K : Nat → Prop} {i p : Nat} {d : DS}
theorem kCrashOne (h : Many w ds K) (hi : ds[i]? = some (p, d)) (q : Nat) (hq : q ≤ 65535) : Calls Try.prog 17 #[.pointer (some ⟨p, 0, none⟩), .slice (some ⟨w.heap.size, 0, none⟩) 1 1, .slice none 0 0] (w.alloc (.cells #[.int .u16 q] 54)) fun r w' => r = .returned (.int .i64 0) ∧ Turned w ds K i p (crashD [q] [] d) w' := by
  have hb : Below w.heap.size w (w.alloc (.cells #[.int .u16 q] 54)) := (Below.refl _ _).alloc (Nat.le_refl _) _
  have s1 : (w.alloc (.cells #[.int .u16 q] 54)).heap.size = w.heap.size + 1 := by simp
  have x1 : (w.alloc (.cells #[.int .u16 q] 54)).cell? ⟨w.heap.size, 0, none⟩ = some (.int .u16 q) := cell_new _ _ _
  obtain ⟨W1, hW1⟩ : ∃ W1, w.alloc (.cells #[.int .u16 q] 54) = W1 := ⟨_, rfl⟩
  rw [hW1] at hb s1 x1 ⊢
  have h2 : Many W1 ds (fun b => K b ∨ b = w.heap.size) := h.keep hb fun b hb => hb.imp id fun e => by omega
  have hp : PAt W1 (some ⟨w.heap.size, 0, none⟩) [q] := by
    refine ⟨fun i => ?_, fun _ => ⟨w.heap.size, 0, rfl, by omega, fun i hi => ?_⟩⟩
    · cases i with
      | zero => exact hq
      | succ i => exact Nat.zero_le _
    · have h0 : i = 0 := by simp at hi; omega
      subst h0
      exact x1
  refine (kCrash h2 hi (some ⟨w.heap.size, 0, none⟩) 1 1 [q] hp rfl (by simp [maxLen]) (fun _ bb off e => by cases e; exact .inr rfl) none 0 0 [] (at_nil _ _) rfl (by simp [maxLen]) (fun h0 => absurd h0 (by simp))).mono ?_
  rintro r w' ⟨e, g1, g2⟩
  exact ⟨e, g1.less fun b hb => .inl hb, (Kept.of_below hb).trans (But.sub g2 fun b hb hk => hb (.inl hk))⟩
end
theorem readB_same {x : Nm} {d e : DS} (h1 : d.off = e.off) (h2 : d.L = e.L) : readB x d = readB x e ∧ fileR x d = fileR x e := by
  have hf : fileR x d = fileR x e := by unfold fileR; rw [h1, h2]
  refine ⟨?_, hf⟩
  unfold readB
  rw [hf, h2]
theorem fileR_mem {d : DS} (hw : Wf d) (ho : d.off = false) {f : Fl} (hf : f ∈ d.L) : fileR f.nm d = 0 := by
  unfold fileR
  rw [if_neg (by simp [ho]), if_neg (by simp [hw.names f hf]), hw.up.fnd hf, if_neg (by simp)]
theorem nm_back (x : Nm) : nmOf (nmB x) = x := by simp [nmOf_mk]
section
variable {w : World} {ds : List (Nat × DS)} {K : Nat → Prop} {i p : Nat} {d : DS}
theorem kNamesOn (h : Many w ds K) (hi : ds[i]? = some (p, d)) (ho : d.off = false) : Calls Try.prog 24 #[.pointer (some ⟨p, 0, none⟩)] w fun e w' => ∃ A c, e = .returned (.slice A d.L.length c) ∧ NAt w' A ((d.L.map Fl.nm).map nmB) ∧ Below w.heap.size w w' := by
  have hk := kNames h hi
  rw [if_neg (by simp [ho])] at hk
  refine hk.mono ?_
  rintro e w' ⟨v, rfl, hr, hb⟩
  obtain ⟨A, c, rfl, hA⟩ := own_nat hr
  exact ⟨A, c, by rw [List.length_map], hA, hb⟩
theorem kUsedOn (h : Many w ds K) (hi : ds[i]? = some (p, d)) (ho : d.off = false) : Calls Try.prog 26 #[.pointer (some ⟨p, 0, none⟩)] w fun r w' => r = .returned (.int .i64 (used d.L : Nat)) ∧ Below w.heap.size w w' := by
  have hk := kUsed h hi
  rw [if_neg (by simp [ho])] at hk
  exact hk
theorem kReadAt (h : Many w ds K) (hi : ds[i]? = some (p, d)) (s : ByteArray) : Calls Try.prog 20 #[.pointer (some ⟨p, 0, none⟩), .string s] w fun e w' => ∃ A c, e = .returned (.tuple #[.slice A (readB (nmOf s) d).length c, .int .i64 (fileR (nmOf s) d)]) ∧ At w' A (readB (nmOf s) d) ∧ (A = none → c = 0) ∧ Below w.heap.size w w' := by
  refine (kRead h hi s).mono ?_
  rintro e w' ⟨v, rfl, hr, hb⟩
  obtain ⟨A, c, rfl, hA, hz, _⟩ := own_slice hr
  exact ⟨A, c, rfl, hA, hz, hb⟩
theorem kCrashAll (h : Many w ds K) (hi : ds[i]? = some (p, d)) : Calls Try.prog 17 #[.pointer (some ⟨p, 0, none⟩), .slice (some ⟨w.heap.size, 0, none⟩) 1 1, .slice none 0 0] (w.alloc (.cells #[.int .u16 65535] 54)) fun r w' => r = .returned (.int .i64 0) ∧ Turned w ds K i p (crashD [65535] [] d) w' := kCrashOne h hi 65535 (Nat.le_refl _)
end
set_option maxRecDepth 100000 in
set_option maxHeartbeats 8000000 in
theorem Stays_walk (q : Int) (B : Option Addr) (n cap : Nat) (f : Nat → Opp) (w : World) (hB : OAt w B n f) (hn : n ≤ maxLen) : Calls Try.prog 5 #[.int .i64 q, .slice B n cap] w fun r w' => r = .returned (.bool true) ∧ Below w.heap.size w w' := by
  unfold maxLen at hn
  have HB := Lib.hid hB
  clear hB
  by_cases hq : 0 ≤ q ∧ q ≤ 4194304
  · have N := Lib.hid (New_yes q w hq.1 hq.2)
    have Wn := Lib.hid (Wf.new hq.1 hq.2)
    clear hq
    go_enter Try.func5, Try.ntmps5
    go_wp2_with fail
    refine N.out.mono ?_
    rintro r0 w0 ⟨p, S0, rfl, hI, hS, hb⟩
    have T0 := Lib.hid (show Many w0 [(p, newD q)] (fun b => b < w.heap.size) from many_one hI hS hb fun b h => h)
    have B0 := Lib.hid (show Kept (fun b => b < w.heap.size) w w0 from Kept.of_below hb)
    clear hI hS hb N
    go_wp2_with fail
    go_loopw [7, 8] (fun v7 v8 wr => ∃ (i : Nat) (d : DS), v8 = .int .i64 i ∧ v7 = .int .i64 d.fu ∧ i ≤ n ∧ i ≤ 60 ∧ Many wr [(p, d)] (fun b => b < w.heap.size) ∧ Kept (fun b => b < w.heap.size) w wr) (fun _ v8 _ => n - (intOf v8).toNat)
    case atStart => exact ⟨0, newD q, rfl, rfl, Nat.zero_le _, by omega, T0.out, B0.out⟩
    case round =>
      clear T0 B0
      obtain ⟨i, d, rfl, rfl, hi, hi60, hT, hK⟩ := hrel
      have T := Lib.hid hT
      have KK := Lib.hid hK
      clear hT hK
      by_cases hlt : i < n ∧ i < 60
      · obtain ⟨hin, h60⟩ := hlt
        obtain ⟨b, off, rfl, hbl, hcells⟩ := HB.out (by omega)
        obtain ⟨hc0, ho0⟩ := hcells i hin
        have hc := hc0.but hbl KK.out (by simp [hbl])
        have OK := Lib.hid (ho0.kept KK.out)
        obtain ⟨o, hfo⟩ : ∃ o, f i = o := ⟨_, rfl⟩
        rw [hfo] at hc OK
        obtain ⟨z0, z1, z2, z3, z4, z5⟩ := hc
        clear hc0 ho0 hcells hfo
        have i1 : (0 : Int) ≤ (i : Int) := by omega
        have i2 : (i : Int) < (n : Int) := by omega
        have i3 : (i : Int) < 60 := by omega
        have hbx : Below wr.heap.size wr (wr.alloc (.cells o.cells 35)) := (Below.refl _ _).alloc (Nat.le_refl _) _
        have hcx := cells6_new wr o
        have hsx : (wr.alloc (.cells o.cells 35)).heap.size = wr.heap.size + 1 := by simp
        go_upto_region 9 with fail
        obtain ⟨X, hX⟩ : ∃ X, wr.alloc (.cells o.cells 35) = X := ⟨_, rfl⟩
        rw [hX] at hbx hcx hsx
        try rw [show wr.alloc (.cells #[.int .i64 o.what, .string o.nm, .string o.tn, .int .i64 o.n, .slice o.A o.nb o.cb, .slice o.P o.np o.cp] 35) = X from hX]
        obtain ⟨h, hh⟩ : ∃ h, wr.heap.size = h := ⟨_, rfl⟩
        rw [hh] at hcx hsx
        have hwh : w.heap.size ≤ h := by rw [← hh]; exact KK.out.size
        have TX := Lib.hid (show Many X [(p, d)] (fun b => b < w.heap.size ∨ b = h) from T.out.keep hbx fun b hb => hb.imp id fun e => by omega)
        have KX := Lib.hid (show Kept (fun b => b < w.heap.size) w X from KK.out.on hbx)
        have CX := Lib.hid (And.intro hcx (show h < X.heap.size by omega))
        have OKX := Lib.hid ((OK.out.kept (Kept.of_below hbx)).more (K' := fun b => b < w.heap.size ∨ b = h) fun b hb => .inl hb)
        have HH := Lib.hid hwh
        rw [hh]
        clear hX hh hbx hcx hsx hwh z0 z1 z2 z3 z4 z5 i1 i2 i3 T KK OK hbl
        have CP := Lib.hid (kCopy TX.out (i := 0) rfl)
        go_wp2_with fail
        refine CP.out.mono ?_
        rintro r1 w2 ⟨u, rfl, hT2, hb2⟩
        have T2 := Lib.hid (show Many w2 [(p, d), (u, d)] (fun b => b < w.heap.size ∨ b = h) from hT2)
        have K2 := Lib.hid (KX.out.on hb2)
        have C2 := Lib.hid (And.intro (Cells6.but CX.out.1 CX.out.2 (But.of_below (S := fun _ => False) hb2) (fun h => h)) (Nat.lt_of_lt_of_le CX.out.2 hb2.size))
        have OK2 := Lib.hid (OKX.out.kept (Kept.of_below hb2))
        clear hT2 hb2 CP TX KX CX OKX
        have O := Lib.hid (kOn T2.out (i := 0) rfl)
        go_wp2_with fail
        refine O.out.mono ?_
        rintro r2 w2' ⟨rfl, rfl⟩
        clear O
        have R := Lib.hid (run_any T2.out (i := 0) rfl o OK2.out)
        obtain ⟨z0, z1, z2, z3, z4, z5⟩ := C2.out.1
        go_wp2_with fail
        refine (show Calls Try.prog 22 #[.pointer (some ⟨p, 0, none⟩), .agg #[.int .i64 o.what, .string o.nm, .string o.tn, .int .i64 o.n, .slice o.A o.nb o.cb, .slice o.P o.np o.cp]] w2 _ from R.out).mono ?_
        rintro r3 w3 ⟨rfl, hT3, hK3⟩
        have T3 := Lib.hid (show Many w3 [(p, runD o d), (u, d)] (fun b => b < w.heap.size ∨ b = h) from hT3)
        have K3 := Lib.hid (show Kept (fun b => b < w.heap.size) w w3 from Kept.trans K2.out (But.sub hK3 fun b hb hk => hb (.inl hk)))
        have C3 := Lib.hid (Cells6.but C2.out.1 C2.out.2 hK3 (fun hn => hn (.inr rfl)))
        have FU := Lib.hid (runD_fuse o d)
        have FE := Lib.hid (runD_err o d)
        have F8 := Lib.hid (run_burnt o d)
        have F0 := Lib.hid (run_kept o d)
        have FW := Lib.hid (show Wf d from T2.out.wf (i := 0) rfl)
        clear hT3 hK3 R z0 z1 z2 z3 z4 z5 T2 K2 C2 OK2
        obtain ⟨r, hr⟩ : ∃ r, runR o d = r := ⟨_, rfl⟩
        obtain ⟨d', hd⟩ : ∃ d', runD o d = d' := ⟨_, rfl⟩
        rw [hr] at FU FE F8 F0
        rw [hd] at FU FE T3
        try rw [hr]
        clear hr hd
        obtain ⟨z0, z1, z2, z3, z4, z5⟩ := C3.out
        have fu0 := FW.out.f0
        have fu1 := FW.out.f1
        obtain ⟨fu, hfu⟩ : ∃ fu, d.fu = fu := ⟨_, rfl⟩
        obtain ⟨on, hon⟩ : ∃ on, d.off = on := ⟨_, rfl⟩
        rw [hfu] at fu0 fu1 FU F8 F0
        rw [hon] at FU F8
        try rw [hfu]
        try rw [hon]
        clear hfu hon
        clear z1 z2 z4 z5 C3
        obtain ⟨wh, hwh⟩ : ∃ wh, o.what = wh := ⟨_, rfl⟩
        obtain ⟨nn, hnn⟩ : ∃ nn, o.n = nn := ⟨_, rfl⟩
        rw [hwh] at z0 FU F8 F0
        rw [hnn] at z3 FU
        try rw [hwh]
        try rw [hnn]
        clear hwh hnn
        go_upto_region 12 with fail
        go_cut [13] from 54 to 61 (fun t w' => t = .bool (decide (0 ≤ wh ∧ wh ≤ 6)) ∧ w3 = w')
        case first =>
          by_cases s0 : 0 ≤ wh
          · go_wp2_with fail
            go_meet
            exact ⟨by congr 1; rw [Bool.eq_iff_iff]; simp [s0], rfl⟩
          · have s0' : wh < 0 := by omega
            go_wp2_with fail
            go_meet
            exact ⟨by congr 1; rw [Bool.eq_iff_iff]; simp; omega, rfl⟩
        case rest =>
        obtain ⟨rfl, rfl⟩ := hcut
        obtain ⟨st, hst⟩ : ∃ st, decide (0 ≤ wh ∧ wh ≤ 6) = st := ⟨_, rfl⟩
        try rw [hst]
        have HST := Lib.hid hst
        clear hst
        go_upto_block 2 with fail
        go_cut [7] from 62 to 107 (fun t w' => t = .int .i64 (follow wh nn (!on) r fu) ∧ w3 = w')
        case first =>
          by_cases w8 : wh = 8
          · subst w8
            have hs : st = false := by rw [← HST.out]; rfl
            subst hs
            by_cases r0 : r = 0
            · subst r0
              go_wp2_with fail
              go_meet
              exact ⟨by unfold follow; simp, rfl⟩
            · have r0' : (r == 0) = false := by simpa using r0
              go_wp2_with fail
              go_meet
              exact ⟨by unfold follow; simp [r0], rfl⟩
          · have w8' : (wh == 8) = false := by simpa using w8
            cases st with
            | true =>
              have hs : 0 ≤ wh ∧ wh ≤ 6 := by simpa using HST.out
              by_cases r8 : r = 8
              · subst r8
                cases on with
                | false =>
                  have f0 := F8.out hs rfl rfl
                  subst f0
                  go_wp2_with fail
                  go_meet
                  exact ⟨by unfold follow; simp [w8, hs], rfl⟩
                | true =>
                  go_wp2_with fail
                  go_meet
                  exact ⟨by unfold follow; simp [w8, hs], rfl⟩
              · have r8' : (r == 8) = false := by simpa using r8
                by_cases r0 : r = 0
                · subst r0
                  have f0 := F0.out hs rfl
                  have f0' : (fu == 0) = false := by simpa using f0
                  have hw1 : IntKind.i64.wrap (fu - 1) = fu - 1 := IntWalk.i64_in _ (by omega)
                  by_cases fp : 0 < fu
                  · cases on <;> (
                      go_wp2_with fail
                      go_meet
                      exact ⟨by unfold follow; simp [w8, hs, fp], rfl⟩)
                  · have fp' : fu ≤ 0 := by omega
                    cases on <;> (
                      go_wp2_with fail
                      go_meet
                      exact ⟨by unfold follow; simp [w8, hs]; omega, rfl⟩)
                · have r0' : (r == 0) = false := by simpa using r0
                  cases on <;> (
                    go_wp2_with fail
                    go_meet
                    exact ⟨by unfold follow; simp [w8, hs, r0, r8], rfl⟩)
            | false =>
              have hs : ¬ (0 ≤ wh ∧ wh ≤ 6) := by simpa using HST.out
              by_cases w7 : wh = 7
              · subst w7
                go_wp2_with fail
                go_meet
                exact ⟨by unfold follow; simp, rfl⟩
              · have w7' : (wh == 7) = false := by simpa using w7
                have w7n : (wh != 7) = true := by simpa using w7
                have w8n : (wh != 8) = true := by simpa using w8
                go_wp2_with fail
                go_meet
                exact ⟨by unfold follow; simp [w8, w7]; omega, rfl⟩
        case rest =>
        obtain ⟨rfl, rfl⟩ := hcut
        rw [← FU.out]
        clear z0 z3 FU F8 F0 HST
        obtain ⟨fu', hfu⟩ : ∃ fu', d'.fu = fu' := ⟨_, rfl⟩
        rw [hfu]
        have HF := Lib.hid hfu
        clear hfu
        by_cases r0 : r = 0
        · subst r0
          go_wp2_with fail
          go_roundw
          · refine ⟨i + 1, d', by simp, by rw [HF.out], by omega, by omega, ?_, K3.out⟩
            exact (T3.out.pick (es := [(p, d')]) (fun _ => 0) (by simp) (by simp)).less fun b hb => .inl hb
          · show n - ((i : Int) + 1).toNat < n - (i : Int).toNat
            omega
        · have r0' : (r == 0) = false := by simpa using r0
          have hL := FE.out r0
          clear FE
          have CP := Lib.hid (kCopy T3.out (i := 0) rfl)
          go_wp2_with fail
          refine CP.out.mono ?_
          rintro r4 w4 ⟨s, rfl, hT4, hb4⟩
          have T4 := Lib.hid (show Many w4 [(p, d'), (u, d), (s, d')] (fun b => b < w.heap.size ∨ b = h) from hT4)
          have K4 := Lib.hid (show Kept (fun b => b < w.heap.size) w w4 from K3.out.on hb4)
          clear hT4 hb4 CP T3 K3
          have CR := Lib.hid (kCrashAll T4.out (i := 1) rfl)
          go_wp2_with fail
          refine CR.out.mono ?_
          rintro r5 w5 ⟨rfl, hT5, hK5⟩
          have T5 := Lib.hid (show Many w5 [(p, d'), (u, crashD [65535] [] d), (s, d')] (fun b => b < w.heap.size ∨ b = h) from hT5)
          have K5 := Lib.hid (show Kept (fun b => b < w.heap.size) w w5 from Kept.trans K4.out (But.sub hK5 fun b hb hk => hb (.inl hk)))
          clear hT5 hK5 CR T4 K4
          have CR := Lib.hid (kCrashAll T5.out (i := 2) rfl)
          go_wp2_with fail
          refine CR.out.mono ?_
          rintro r6 w6 ⟨rfl, hT6, hK6⟩
          have T6 := Lib.hid (show Many w6 [(p, d'), (u, crashD [65535] [] d), (s, crashD [65535] [] d')] (fun b => b < w.heap.size ∨ b = h) from hT6)
          have K6 := Lib.hid (show Kept (fun b => b < w.heap.size) w w6 from Kept.trans K5.out (But.sub hK6 fun b hb hk => hb (.inl hk)))
          clear hT6 hK6 CR T5 K5
          have e1 : (crashD [65535] [] d).off = false := rfl
          have e2 : (crashD [65535] [] d').off = false := rfl
          have e3 : (crashD [65535] [] d').L = (crashD [65535] [] d).L := by unfold crashD; rw [hL]
          obtain ⟨dq, hdq⟩ : ∃ dq, crashD [65535] [] d = dq := ⟨_, rfl⟩
          obtain ⟨dn, hdn⟩ : ∃ dn, crashD [65535] [] d' = dn := ⟨_, rfl⟩
          rw [hdq] at T6 e1 e3
          rw [hdn] at T6 e2 e3
          clear hdq hdn hL
          have WQ := Lib.hid (show Wf dq from T6.out.wf (i := 1) rfl)
          have N1 := Lib.hid (kNamesOn T6.out (i := 1) rfl e1)
          go_wp2_with fail
          refine N1.out.mono ?_
          rintro r7 w7 ⟨NA, nc, rfl, hNA, hb7⟩
          have T7 := Lib.hid (T6.out.below hb7)
          have K7 := Lib.hid (show Kept (fun b => b < w.heap.size) w w7 from K6.out.on hb7)
          have NN := Lib.hid hNA
          clear hNA hb7 N1 T6 K6
          have N2 := Lib.hid (kNamesOn T7.out (i := 2) rfl e2)
          rw [e3] at N2
          go_wp2_with fail
          refine N2.out.mono ?_
          rintro r8 w8 ⟨NB, nd, rfl, _, hb8⟩
          have T8 := Lib.hid (T7.out.below hb8)
          have K8 := Lib.hid (show Kept (fun b => b < w.heap.size) w w8 from K7.out.on hb8)
          have NN8 := Lib.hid (NN.out.but (T := fun _ => False) (But.of_below hb8) (fun _ _ _ h => h))
          clear hb8 N2 T7 K7 NN
          have U1 := Lib.hid (kUsedOn T8.out (i := 1) rfl e1)
          go_wp2_with fail
          refine U1.out.mono ?_
          rintro r9 w9 ⟨rfl, hb9⟩
          have T9 := Lib.hid (T8.out.below hb9)
          have K9 := Lib.hid (show Kept (fun b => b < w.heap.size) w w9 from K8.out.on hb9)
          have NN9 := Lib.hid (NN8.out.but (T := fun _ => False) (But.of_below hb9) (fun _ _ _ h => h))
          clear hb9 U1 T8 K8 NN8
          have U2 := Lib.hid (kUsedOn T9.out (i := 2) rfl e2)
          rw [e3] at U2
          go_wp2_with fail
          refine U2.out.mono ?_
          rintro r10 w10 ⟨rfl, hb10⟩
          have T10 := Lib.hid (T9.out.below hb10)
          have K10 := Lib.hid (show Kept (fun b => b < w.heap.size) w w10 from K9.out.on hb10)
          have NN10 := Lib.hid (NN9.out.but (T := fun _ => False) (But.of_below hb10) (fun _ _ _ h => h))
          clear hb10 U2 T9 K9 NN9
          go_wp2_with fail
          have HK := Lib.hid (show ∀ bb, bb < w.heap.size ∨ bb = h → bb < w10.heap.size from fun bb hb => T10.out.klt hb)
          obtain ⟨hs, hhs⟩ : ∃ hs, w10.heap.size = hs := ⟨_, rfl⟩
          go_loopw [16, 17, 18, 19, 20] (fun v16 _ _ _ _ wk => ∃ (k : Nat), v16 = .int .i64 k ∧ k ≤ dq.L.length ∧ Many wk [(p, d'), (u, dq), (s, dn)] (fun b => b < w.heap.size ∨ b = h) ∧ Kept (fun b => b < w.heap.size) w wk ∧ NAt wk NA ((dq.L.map Fl.nm).map nmB)) (fun v16 _ _ _ _ _ => dq.L.length - (intOf v16).toNat)
          case atStart => exact ⟨0, rfl, Nat.zero_le _, T10.out, K10.out, NN10.out⟩
          case round =>
            clear T10 K10 NN10
            obtain ⟨k, rfl, hk, hT, hK, hN⟩ := hrel
            have T := Lib.hid hT
            have KK := Lib.hid hK
            have NN := Lib.hid hN
            clear hT hK hN
            by_cases hlt : k < dq.L.length
            · obtain ⟨nb, no, rfl, hnl, hcell⟩ := NN.out (by simp; omega)
              have hc := hcell k (by simpa using hlt)
              rw [List.getElem_map, List.getElem_map] at hc
              have hmem : dq.L[k] ∈ dq.L := List.getElem_mem hlt
              have f1 := fileR_mem WQ.out e1 hmem
              have f2 := (readB_same (x := dq.L[k].nm) (d := dn) (e := dq) (by rw [e1, e2]) e3)
              have l1 := (readB_len (x := dq.L[k].nm) WQ.out).1
              have i1 : (0 : Int) ≤ (k : Int) := by omega
              have i2 : (k : Int) < (dq.L.length : Int) := by omega
              have bnd := WQ.out.many
              obtain ⟨x, hx⟩ : ∃ x, dq.L[k].nm = x := ⟨_, rfl⟩
              rw [hx] at hc f1 f2 l1
              clear hmem hx hcell
              have R1 := Lib.hid (kReadAt T.out (i := 1) rfl (nmB x))
              rw [nm_back, f1] at R1
              go_wp2_with fail
              refine R1.out.mono ?_
              rintro r11 w11 ⟨A1, c1, rfl, hA1, hz1, hb11⟩
              have T11 := Lib.hid (T.out.below hb11)
              have K11 := Lib.hid (show Kept (fun b => b < w.heap.size) w w11 from KK.out.on hb11)
              have N11 := Lib.hid (NN.out.but (T := fun _ => False) (But.of_below hb11) (fun _ _ _ h => h))
              have hc11 : w11.cell? ⟨nb, no + k, none⟩ = some (.string (nmB x)) := ((But.of_below (S := fun _ => False) hb11).cell nb (no + k) hnl (fun h => h)).trans hc
              have AT := Lib.hid hA1
              clear hA1 hb11 R1 T KK NN hc hnl
              have R2 := Lib.hid (kReadAt T11.out (i := 2) rfl (nmB x))
              rw [nm_back, f2.1, f2.2, f1] at R2
              obtain ⟨bs, hbs⟩ : ∃ bs, readB x dq = bs := ⟨_, rfl⟩
              rw [hbs] at R2 AT l1
              go_wp2_with fail
              refine R2.out.mono ?_
              rintro r12 w12 ⟨A2, c2, rfl, hA2, hz2, hb12⟩
              have T12 := Lib.hid (T11.out.below hb12)
              have K12 := Lib.hid (show Kept (fun b => b < w.heap.size) w w12 from K11.out.on hb12)
              have N12 := Lib.hid (N11.out.but (T := fun _ => False) (But.of_below hb12) (fun _ _ _ h => h))
              have cv1 := conv_text w12 A1 bs c1 (AT.out.below hb12)
              have cv2 := conv_text w12 A2 bs c2 hA2
              clear hA2 hb12 R2 T11 K11 N11 AT hc11
              try rw [hbs]
              go_wp2_with fail
              go_roundw
              · exact ⟨k + 1, by simp, by omega, T12.out, K12.out, N12.out⟩
              · show dq.L.length - ((k : Int) + 1).toNat < dq.L.length - (k : Int).toNat
                omega
            · have hk' : k = dq.L.length := by omega
              subst hk'
              go_wp2_with fail
              go_roundw
              · refine ⟨i + 1, d', by simp, by rw [HF.out], by omega, by omega, ?_, KK.out⟩
                exact (T.out.pick (es := [(p, d')]) (fun _ => 0) (by simp) (by simp)).less fun b hb => .inl hb
              · show n - ((i : Int) + 1).toNat < n - (i : Int).toNat
                omega
      · have W := Lib.hid (wakes_any wr)
        by_cases hin : i < n
        · have h60 : i = 60 := by omega
          subst h60
          have i2 : ((60 : Nat) : Int) < (n : Int) := by omega
          go_wp2_with fail
          refine W.out.mono ?_
          rintro r4 w4 ⟨rfl, hb4⟩
          go_wp2_with fail
          go_ret
          exact ⟨rfl, (Kept.below KK.out (fun b hb => hb) (Nat.le_refl _)).trans (hb4.mono KK.out.size)⟩
        · have hin' : i = n := by omega
          subst hin'
          go_wp2_with fail
          refine W.out.mono ?_
          rintro r4 w4 ⟨rfl, hb4⟩
          go_wp2_with fail
          go_ret
          exact ⟨rfl, (Kept.below KK.out (fun b hb => hb) (Nat.le_refl _)).trans (hb4.mono KK.out.size)⟩
  · have N := Lib.hid (New_no q w hq)
    have W := Lib.hid (wakes_any w)
    clear hq
    go_enter Try.func5, Try.ntmps5
    go_wp2_with fail
    refine N.out.mono ?_
    rintro r0 w0 ⟨rfl, rfl⟩
    go_wp2_with fail
    refine W.out.mono ?_
    rintro r4 w4 ⟨rfl, hb4⟩
    go_wp2_with fail
    go_ret
    exact ⟨rfl, hb4⟩
end Go.Proofs.Ythnfpkbpakffgaa
