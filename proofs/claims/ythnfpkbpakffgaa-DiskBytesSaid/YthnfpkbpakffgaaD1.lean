/- Crash. -/
import Derived.Test.YthnfpkbpakffgaaC9
import Derived.Test.YthnfpkbpakffgaaA2
namespace Go.Proofs.Ythnfpkbpakffgaa
open Go.RowKit Go.Maps Go.Sort Go.Shelf
open Disk (Nm Fl DS Up ins del upd fnd okName okByte used Wf crashF crashL crashD crashB mid nl)
/-- A row of picks in memory. -/
def PAt (w : World) (A : Option Addr) (ps : List Nat) : Prop := (∀ i, ps.getD i 0 ≤ 65535) ∧ (0 < ps.length → ∃ b off, A = some ⟨b, off, none⟩ ∧ b < w.heap.size ∧ ∀ i, i < ps.length → w.cell? ⟨b, off + i, none⟩ = some (.int .u16 (ps.getD i 0 : Nat)))
theorem PAt.but {T : Nat → Prop} {w w' : World} {A : Option Addr} {ps : List Nat} (h : PAt w A ps) (hb : But T w w') (hn : 0 < ps.length → ∀ bb off, A = some ⟨bb, off, none⟩ → ¬ T bb) : PAt w' A ps := by
  refine ⟨h.1, fun h0 => ?_⟩
  obtain ⟨b, off, e, hl, hc⟩ := h.2 h0
  exact ⟨b, off, e, Nat.lt_of_lt_of_le hl hb.size, fun i hi => (hb.cell b (off + i) hl (hn h0 b off e)).trans (hc i hi)⟩
theorem PAt.below {w w' : World} {A : Option Addr} {ps : List Nat} (h : PAt w A ps) (hb : Below w.heap.size w w') : PAt w' A ps := h.but (But.of_below (S := fun _ => False) hb) (fun _ _ _ _ h => h)
theorem pick_any (A : Option Addr) (ps : List Nat) (n c k : Nat) (w : World) (hn : ps.length = n) (hm : n ≤ maxLen) (hk : k ≤ 4194304) (hA : PAt w A ps) :
    Calls Try.prog 45 #[.slice A n c, .int .i64 k] w fun e w' => e = .returned (.int .u16 (ps.getD k 0 : Nat)) ∧ w = w' := by
  subst hn
  refine (element16_any A ps.length c k w (fun i => ps.getD i 0) hm hk (fun h0 => ?_)).mono ?_
  · obtain ⟨b, off, e, _, hc⟩ := hA.2 h0
    exact ⟨b, off, e, hc⟩
  · rintro e w' ⟨rfl, rfl⟩
    refine ⟨?_, rfl⟩
    by_cases h : k < ps.length
    · rw [if_pos h]
    · rw [if_neg h, List.getD, List.getElem?_eq_none (by omega)]
      rfl
theorem turn_any (A : Option Addr) (ts : List UInt8) (n c k : Nat) (w : World) (hn : ts.length = n) (hm : n ≤ maxLen) (hk : k ≤ 4194304) (hA : At w A ts) :
    Calls Try.prog 46 #[.slice A n c, .int .i64 k] w fun e w' => e = .returned (.int .u8 (ts.getD k 0).toNat) ∧ w = w' := by
  subst hn
  exact element8_any A ts c k w hm hk hA
/-- What changes of a disk whose contents lie where they lay. -/
theorem InD.went {w w' : World} {p c m : Nat} {C : List Ent} {d : DS} {S : Nat → Prop} {g : List Fl → List Fl} (h : InD w p c m C d S) (hw : WroteC w m C g w') (hwf : Wf ⟨g d.L, d.q, d.fu, d.off⟩) : ∃ C' S', InD w' p c m C' ⟨g d.L, d.q, d.fu, d.off⟩ S' ∧ But S w w' ∧ ∀ b, S' b → S b ∨ w.heap.size ≤ b := by
  obtain ⟨C', i, hL, b1, hf⟩ := hw
  have hp : ¬ foot m C' p := fun h1 => by
    rcases hf p h1 with h2 | h2
    · exact h.pf h2
    · have := h.plt; omega
  have hcf : ¬ foot m C' c := fun h1 => by
    rcases hf c h1 with h2 | h2
    · exact h.cf h2
    · have := h.cont.lt; omega
  refine ⟨C', fun b => S b ∨ foot m C' b, ⟨(b1.cell p 0 h.plt h.pf).trans h.ptr, Nat.lt_of_lt_of_le h.plt b1.size, h.cont.but b1 h.cf, i, by rw [hL, h.L], h.pc, hp, hcf, .inl h.Sp, .inl h.Sc, fun b hb => .inr hb, fun b hb' => ?_, hwf⟩, b1.sub fun b hb => h.Sf b hb, fun b hb' => ?_⟩
  · rcases hb' with h1 | h1
    · exact Nat.lt_of_lt_of_le (h.Slt b h1) b1.size
    · exact i.lt h1
  · rcases hb' with h1 | h1
    · exact .inl h1
    · exact (hf b h1).imp_left (h.Sf b)
theorem crash_file {w w' : World} {m : Nat} {C : List Ent} {e : Ent} (h : IsC w m C) (he : e ∈ C) (p : Nat) (t : UInt8) {v' : Value} (ho : v'.ownBlock = e.v.ownBlock) (hf : FileAt w' ⟨e.nm, e.k, v', crashB p t e.fl, (crashB p t e.fl).length⟩) (hb : But e.has w w') : WroteC w m C (upd Fl.nm e.nm (crashF p t)) w' :=
  upd_done h he ⟨e.nm, e.k, v', crashB p t e.fl, (crashB p t e.fl).length⟩ rfl rfl hf hb (fun _ hb' => .inl (hb'.imp id fun h => ho ▸ h)) (crashF p t) rfl
set_option maxRecDepth 100000 in
set_option maxHeartbeats 2000000 in
theorem Crash_any {w : World} {p : Nat} {d : DS} {S : Nat → Prop} (h0 : IsD w p d S) (A : Option Addr) (n cap : Nat) (ps : List Nat) (hA : PAt w A ps) (hn : ps.length = n) (hm : n ≤ maxLen) (hS : 0 < ps.length → ∀ bb off, A = some ⟨bb, off, none⟩ → ¬ S bb)
    (A' : Option Addr) (n' cap' : Nat) (ts : List UInt8) (hA' : At w A' ts) (hn' : ts.length = n') (hm' : n' ≤ maxLen) (hS' : 0 < ts.length → ∀ bb off, A' = some ⟨bb, off, none⟩ → ¬ S bb) :
    Calls Try.prog 17 #[.pointer (some ⟨p, 0, none⟩), .slice A n cap, .slice A' n' cap'] w fun r w' => r = .returned (.int .i64 0) ∧ WroteD w p S (crashD ps ts d) w' := by
  obtain ⟨c, m, C, h⟩ := h0
  have M := Lib.hid (made_any p c w h.ptr)
  have HI := Lib.hid h
  have PA := Lib.hid hA
  have TA := Lib.hid hA'
  have HN := Lib.hid (And.intro hn (And.intro hm (And.intro hn' hm')))
  have SS := Lib.hid (And.intro hS hS')
  have q0 := h.ptr
  have q2 := h.cont.c2
  have q3 := h.cont.c3
  have f2 := h.cont.fr 2
  have f3 := h.cont.fr 3
  have hpc := h.pc
  clear h hA hA' hn hm hn' hm' hS hS'
  go_enter Try.func17, Try.ntmps17
  go_wp2_with fail
  refine M.out.mono ?_
  rintro e1 w1 ⟨rfl, rfl⟩
  clear M
  go_upto_region 3 with fail
  go_region
  obtain ⟨W1, hW1⟩ : ∃ W1, ((w.setCell ⟨c, 3, none⟩ (.bool false)).setCell ⟨c, 2, none⟩ (.int .i64 (-1))).drew = W1 := ⟨_, rfl⟩
  have hbc : But (fun b => b = c) w W1 := by rw [← hW1]; exact (((But.refl (fun b => b = c) w).setk c 3 (.inl rfl) _).setk c 2 (.inl rfl) _).drew
  have hsz : W1.heap.size = w.heap.size := by rw [← hW1]; simp [World.setCell]
  have hc1 : Cont W1 c m d.q (-1) false := by rw [← hW1]; exact ((HI.out.cont.off false).fu (-1)).below (Below.refl _ _).drew
  have hI1 : InD W1 p c m C ⟨d.L, d.q, -1, false⟩ S := HI.out.cont_but hbc hc1 (by have := HI.out.wf.mid ps ts 0; rwa [Disk.mid_zero] at this)
  try rw [hW1]
  have HB1 := Lib.hid (And.intro hbc hsz)
  have I1 := Lib.hid hI1
  have p0 := hI1.ptr
  have hlen : (C.map nk).length ≤ 512 := by
    have := HI.out.wf.many
    rw [← HI.out.L, List.length_map] at this
    rwa [List.length_map]
  have hnm : (C.map nk).map Prod.fst = d.L.map Fl.nm := by
    rw [← HI.out.L, List.map_map, List.map_map]
    rfl
  have hl2 : (C.map nk).length = d.L.length := by rw [← HI.out.L]; simp
  have NA := names_any hc1.c0 hI1.isc.map hlen
  rw [hnm, hl2] at NA
  have NN := Lib.hid NA
  have HL5 := Lib.hid (show d.L.length ≤ 512 by rw [← hl2]; exact hlen)
  clear hbc hsz hc1 hI1 hlen hnm hl2 NA hW1 q0 q2 q3 f2 f3
  go_wp2_with fail
  refine NN.out.mono ?_
  rintro e4 w4 ⟨v, rfl, hv, b4⟩
  have hv2 : w4.ownsRow W1.heap.size 9 1 v (d.L.map Fl.nm).length ((d.L.map Fl.nm).map encStr) := by rw [List.length_map]; exact hv
  obtain ⟨N, ncap, rfl, hN⟩ := own_nat hv2
  rw [List.length_map] at *
  have hfresh : ∀ bb off, N = some ⟨bb, off, none⟩ → W1.heap.size ≤ bb := by
    intro bb off e
    subst e
    exact (World.ownsRow.lt hv bb rfl).1
  have NT := Lib.hid (And.intro hN hfresh)
  have B4 := Lib.hid b4
  have I4 := Lib.hid (I1.out.below b4)
  clear NN hv hv2 hN hfresh b4 p0
  obtain ⟨nL, hnL⟩ : ∃ nL, d.L.length = nL := ⟨_, rfl⟩
  have HnL := Lib.hid hnL
  rw [hnL] at HL5
  try rw [hnL]
  have h512 := HL5.out
  go_wp2_with fail
  go_loopw [7, 32] (fun vk vi wr => ∃ (i k : Nat) (C' : List Ent) (S' : Nat → Prop), vk = .int .i64 k ∧ vi = .int .i64 i ∧ i ≤ nL ∧ k = nl (d.L.take i) ∧ InD wr p c m C' ⟨mid ps ts i d.L, d.q, -1, false⟩ S' ∧ But S w4 wr ∧ ∀ b, S' b → S b ∨ w4.heap.size ≤ b) (fun _ vi _ => nL - (intOf vi).toNat)
  case atStart => exact ⟨0, 0, C, S, rfl, rfl, Nat.zero_le _, rfl, by rw [Disk.mid_zero]; exact I4.out, But.refl _ _, fun b hb => .inl hb⟩
  case round =>
    obtain ⟨i, k, C', S', rfl, rfl, hi, hk, hI, hb, hfr⟩ := hrel
    have II := Lib.hid hI
    have HB := Lib.hid hb
    have FR := Lib.hid hfr
    have HK := Lib.hid hk
    clear hI hb hfr hk
    by_cases hlt : i < nL
    · have hil : i < d.L.length := by have := HnL.out; omega
      have hkk : k ≤ 512 := by
        have h1 := Disk.nl_le (d.L.take i)
        rw [List.length_take] at h1
        have := HK.out
        omega
      obtain ⟨bb, off, hNe, hbl, hcell⟩ := NT.out.1 (by rw [List.length_map, List.length_map]; omega)
      subst hNe
      have hfb := NT.out.2 bb off rfl
      have hnS : ¬ S bb := fun h => by have := I1.out.Slt bb h; omega
      have hce : wr.cell? ⟨bb, off + i, none⟩ = some (.string (nmB d.L[i].nm)) := by
        rw [HB.out.cell bb (off + i) hbl hnS, hcell i (by rw [List.length_map, List.length_map]; exact hil)]
        simp
      obtain ⟨f, hf⟩ : ∃ f, d.L[i] = f := ⟨_, rfl⟩
      rw [hf] at hce
      have HF := Lib.hid hf
      have hmem : f ∈ C'.map Ent.fl := by
        rw [II.out.L, ← hf]
        exact Disk.mid_mem ps ts hil
      obtain ⟨e, he, hef⟩ := List.mem_map.1 hmem
      have hen : e.nm = f.nm := by rw [← hef]
      have hok : okName f.nm = true := HI.out.wf.names f (by rw [← hf]; exact List.getElem_mem _)
      have lk0 := II.out.isc.map.lookup (nmB f.nm) (by rw [nmOf_mk]; exact okName_max hok)
      rw [nmOf_mk, ← hen, look_ent II.out.isc.up he, hen] at lk0
      have lk : (Instr.lookup 61 (.map (some m)) (.string (nmB f.nm)) false).run Try.prog wr = .ok (.pointer (some ⟨e.k, 0, none⟩)) wr := lk0
      have FE := Lib.hid (II.out.isc.files e he)
      have EF := Lib.hid (And.intro he (And.intro hef hen))
      have BS := Lib.hid (bs_le II.out he)
      obtain ⟨As, cs, hvs, _, _, _⟩ := own_slice FE.out.own
      have LO := Lib.hid (loose_any e.k As e.bs.length cs e.s wr (by rw [← hvs]; exact FE.out.c0) FE.out.c1 BS.out.1 BS.out.2.1)
      have p0 := II.out.ptr
      have p1 := II.out.cont.c0
      obtain ⟨nm, hnm⟩ : ∃ nm, nmB f.nm = nm := ⟨_, rfl⟩
      rw [hnm] at lk hce
      have i1 : (0 : Int) ≤ (i : Int) := by omega
      have i2 : (i : Int) < (nL : Int) := by omega
      have u1 : e.s = f.s := by rw [← hef]
      have u2 : e.bs.length = f.bs.length := by rw [← hef]
      have UU := Lib.hid (And.intro u1 u2)
      clear lk0 hok hen hef he hmem hf hcell hbl hfb hnS hvs hnm u1 u2
      by_cases hls : f.s < f.bs.length
      · have hgt : (0 : Int) < ((e.bs.length - e.s : Nat) : Int) := by have := UU.out; omega
        have PK := Lib.hid (fun W hW => pick_any A ps n cap k W HN.out.1 HN.out.2.1 (by omega) hW)
        have TK := Lib.hid (fun W hW => turn_any A' ts n' cap' k W HN.out.2.2.1 HN.out.2.2.2 (by omega) hW)
        have hMS := Disk.mid_loose ps ts hil HI.out.wf.up (by rw [HF.out]; exact hls)
        rw [HF.out, ← HK.out] at hMS
        have MS := Lib.hid hMS
        clear hMS
        obtain ⟨z, hz⟩ : ∃ z, ps.getD k 0 = z := ⟨_, rfl⟩
        obtain ⟨y, hy⟩ : ∃ y, ts.getD k 0 = y := ⟨_, rfl⟩
        rw [hz] at PK MS
        rw [hy] at TK MS
        have hz2 : z ≤ 65535 := by rw [← hz]; exact PA.out.1 k
        clear hz hy
        go_wp2_with fail
        refine LO.out.mono ?_
        rintro e5 w5 ⟨rfl, b5⟩
        have B5 := Lib.hid b5
        have P5 := Lib.hid ((((PA.out.but HB1.out.1 (fun h0 bb off e hc => SS.out.1 h0 bb off e (by rw [hc]; exact HI.out.Sc))).below B4.out).but HB.out SS.out.1).below b5)
        have T5 := Lib.hid ((((TA.out.but HB1.out.1 (fun h0 bb off e hc => SS.out.2 h0 bb off e (by rw [hc]; exact HI.out.Sc))).below B4.out).but HB.out SS.out.2).below b5)
        have CR := Lib.hid (fileCrash_any e w5 (FE.out.below b5) BS.out.1 z hz2 y BS.out.2.1)
        clear b5 LO
        go_wp2_with fail
        refine (PK.out _ P5.out).mono ?_
        rintro e6 w6 ⟨rfl, rfl⟩
        go_wp2_with fail
        refine (TK.out _ T5.out).mono ?_
        rintro e6 w6 ⟨rfl, rfl⟩
        go_wp2_with fail
        refine CR.out.mono ?_
        rintro e6 w6 ⟨rfl, v', ho, hf6, hb6⟩
        have W6 := crash_file (II.out.isc.below B5.out) EF.out.1 z y ho hf6 hb6
        rw [EF.out.2.2] at W6
        obtain ⟨C6, S6, hI6, hB6, hF6⟩ := (II.out.below B5.out).went W6 (by
          rw [← MS.out.1]
          exact HI.out.wf.mid ps ts (i + 1))
        have I6 := Lib.hid hI6
        have B6 := Lib.hid (show But S w4 w6 from (HB.out.on B5.out).trans hB6 fun b hb => FR.out b hb)
        have F6 := Lib.hid (show ∀ b, S6 b → S b ∨ w4.heap.size ≤ b from fun b hb => by
          rcases hF6 b hb with h1 | h1
          · exact FR.out b h1
          · have := HB.out.size
            have := B5.out.size
            exact .inr (by omega))
        clear W6 ho hf6 hb6 hI6 hB6 hF6 CR PK TK
        go_wp2_with fail
        go_roundw
        case rel => exact ⟨i + 1, k + 1, C6, S6, by go_num, by go_num, by omega, MS.out.2.symm, by rw [MS.out.1]; exact I6.out, B6.out, F6.out⟩
        case measure => simp [intOf]; omega
      · have hgt : ((e.bs.length - e.s : Nat) : Int) ≤ 0 := by have := UU.out; omega
        have hMS := Disk.mid_safe ps ts hil (by rw [HF.out]; exact hls)
        have MS := Lib.hid hMS
        clear hMS
        go_wp2_with fail
        refine LO.out.mono ?_
        rintro e5 w5 ⟨rfl, b5⟩
        have B5 := Lib.hid b5
        clear b5 LO
        go_wp2_with fail
        go_roundw
        case rel => exact ⟨i + 1, k, C', S', rfl, by go_num, by omega, by rw [MS.out.2]; exact HK.out, by rw [MS.out.1]; exact II.out.below B5.out, HB.out.on B5.out, FR.out⟩
        case measure => simp [intOf]; omega
    · obtain rfl : i = nL := by omega
      have hm : mid ps ts i d.L = crashL ps ts 0 d.L := by rw [← HnL.out, Disk.mid_all]
      have HMM := Lib.hid hm
      clear hm
      go_wp2_with fail
      go_ret
      have hI := II.out
      rw [HMM.out] at hI
      refine ⟨rfl, S', ⟨c, m, C', hI⟩, ?_, fun b hb => ?_⟩
      · have h1 : But S w w4 := (HB1.out.1.sub (fun b hb => by subst hb; exact HI.out.Sc)).on B4.out
        exact h1.trans HB.out fun b hb => .inl hb
      · rcases FR.out b hb with h1 | h1
        · exact .inl h1
        · have := B4.out.size
          have := HB1.out.2
          exact .inr (by omega)
end Go.Proofs.Ythnfpkbpakffgaa
