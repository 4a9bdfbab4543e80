/- Truncate. -/
import Derived.Test.YthnfpkbpakffgaaC7
namespace Go.Proofs.Ythnfpkbpakffgaa
open Go.RowKit Go.Maps Go.Sort Go.Shelf
open Disk (Nm Fl DS Up ins del upd fnd okName okByte used Wf stepR stepD fileR truncR truncD truncG badSize)
set_option maxRecDepth 100000 in
set_option maxHeartbeats 1000000 in
theorem Truncate_any {w : World} {p : Nat} {d : DS} {S : Nat → Prop} (h0 : IsD w p d S) (s : ByteArray) (n : Int) :
    Calls Try.prog 51 #[.pointer (some ⟨p, 0, none⟩), .string s, .int .i64 n] w fun r w' => r = .returned (.int .i64 (truncR (nmOf s) n d)) ∧ WroteD w p S (truncD (nmOf s) n d) w' := by
  obtain ⟨c, m, C, h⟩ := h0
  have b1 : Below w.heap.size w (w.alloc (.cells #[.int .i64 n] 3)) := (Below.refl _ _).alloc (Nat.le_refl _) _
  have x1 : (w.alloc (.cells #[.int .i64 n] 3)).cell? ⟨w.heap.size, 0, none⟩ = some (.int .i64 n) := cell_new _ _ _
  have s1 : (w.alloc (.cells #[.int .i64 n] 3)).heap.size = w.heap.size + 1 := by simp
  obtain ⟨W1, hW1⟩ : ∃ W1, w.alloc (.cells #[.int .i64 n] 3) = W1 := ⟨_, rfl⟩
  rw [hW1] at b1 x1 s1
  have HB1 := Lib.hid b1
  have h1 := h.below b1
  have HS1 := Lib.hid s1
  have X1 := Lib.hid x1
  clear b1 s1 x1
  by_cases hr : fileR (nmOf s) d = 0
  · obtain ⟨x, hx, hxn, F0⟩ := file_ok h1 s hr
    have F := Lib.hid F0
    have H1 := Lib.hid h1
    have HX := Lib.hid (And.intro hx hxn)
    have HR := Lib.hid hr
    have HI := Lib.hid h
    have BS := Lib.hid (bs_le h hx)
    have FN := Lib.hid (show fnd Fl.nm (nmOf s) d.L = some x.fl by rw [fnd_ent h.L, ← hxn, h.isc.up.fnd hx]; rfl)
    clear F0 h1 hx hxn hr h
    go_enter Try.func51, Try.ntmps51
    go_wp2_with fail
    try rw [hW1]
    refine F.out.mono ?_
    rintro r1 w1 ⟨rfl, b1⟩
    have BB1 := Lib.hid b1
    clear b1 F hW1
    have b3 : Below w1.heap.size w1 (w1.alloc (.cells #[.pointer (some ⟨x.k, 0, none⟩)] 71)) := (Below.refl _ _).alloc (Nat.le_refl _) _
    have x3 : (w1.alloc (.cells #[.pointer (some ⟨x.k, 0, none⟩)] 71)).cell? ⟨w1.heap.size, 0, none⟩ = some (.pointer (some ⟨x.k, 0, none⟩)) := cell_new _ _ _
    have s3 : (w1.alloc (.cells #[.pointer (some ⟨x.k, 0, none⟩)] 71)).heap.size = w1.heap.size + 1 := by simp
    go_upto_region 4 with fail
    obtain ⟨W3, hW3⟩ : ∃ W3, w1.alloc (.cells #[.pointer (some ⟨x.k, 0, none⟩)] 71) = W3 := ⟨_, rfl⟩
    rw [hW3] at b3 x3 s3
    try rw [hW3]
    clear hW3
    have hb13 : Below W1.heap.size W1 W3 := below_then BB1.out b3
    have hlt1 : w.heap.size < W1.heap.size := by have := HS1.out; omega
    have BX := Lib.hid (show Box2 W3 w1.heap.size w.heap.size (.pointer (some ⟨x.k, 0, none⟩)) (.int .i64 n) from ⟨x3, (hb13.cell (p := ⟨w.heap.size, 0, none⟩) hlt1).trans X1.out, by omega, Nat.lt_of_lt_of_le hlt1 hb13.size⟩)
    have H3 := Lib.hid (H1.out.below hb13)
    have HB3 := Lib.hid (below_then HB1.out hb13)
    have L13 := Lib.hid (show w.heap.size ≤ w1.heap.size from Nat.le_of_lt (Nat.lt_of_lt_of_le hlt1 BB1.out.size))
    clear b3 x3 s3 hb13 hlt1
    obtain ⟨A, cap, hv, hA, hz, hcap⟩ := own_slice (H3.out.isc.files x HX.out.1).own
    have k0 : W3.cell? ⟨x.k, 0, none⟩ = some (.slice A x.bs.length cap) := by rw [← hv]; exact (H3.out.isc.files x HX.out.1).c0
    have z1 := BX.out.1
    have z2 := BX.out.2.1
    clear hv hA hz hcap
    by_cases hneg : n < 0
    · have HO := Lib.hid (show truncR (nmOf s) n d = 1 ∧ truncD (nmOf s) n d = d by
        have hn0 : ¬ fileR (nmOf s) d ≠ 0 := by simp [HR.out]
        have hb : badSize (nmOf s) n d := .inl hneg
        exact ⟨by unfold truncR; rw [if_neg hn0, if_pos hb], by unfold truncD; rw [if_neg hn0, if_pos hb]⟩)
      have hng : decide (n < 0) = true := by simpa using hneg
      go_quiet (fail)
      go_wp2_with fail
      go_ret
      rw [HO.out.1, HO.out.2]
      exact ⟨rfl, .same ⟨c, m, C, HI.out⟩ (below_drewN' HB3.out _)⟩
    · have hng : decide (n < 0) = false := by simpa using hneg
      obtain ⟨j, rfl⟩ := Int.eq_ofNat_of_zero_le (by omega : 0 ≤ n)
      by_cases hbig : x.bs.length < j
      · have HO := Lib.hid (show truncR (nmOf s) (j : Int) d = 1 ∧ truncD (nmOf s) (j : Int) d = d by
          have hn0 : ¬ fileR (nmOf s) d ≠ 0 := by simp [HR.out]
          have hb : badSize (nmOf s) (j : Int) d := .inr fun f hf => by
            rw [FN.out] at hf
            cases hf
            show (x.bs.length : Int) < _
            omega
          exact ⟨by unfold truncR; rw [if_neg hn0, if_pos hb], by unfold truncD; rw [if_neg hn0, if_pos hb]⟩)
        have hlt : (x.bs.length : Int) < (j : Int) := by omega
        go_quiet (fail)
        go_wp2_with fail
        go_ret
        rw [HO.out.1, HO.out.2]
        exact ⟨rfl, .same ⟨c, m, C, HI.out⟩ (below_drewN' HB3.out _)⟩
      · have HO := Lib.hid (show truncR (nmOf s) (j : Int) d = stepR d ∧ truncD (nmOf s) (j : Int) d = stepD d (truncG (nmOf s) j) by
          have hn0 : ¬ fileR (nmOf s) d ≠ 0 := by simp [HR.out]
          have hb : ¬ badSize (nmOf s) (j : Int) d := fun hb => by
            rcases hb with hb | hb
            · omega
            · have := hb _ FN.out
              simp only at this
              omega
          refine ⟨by unfold truncR; rw [if_neg hn0, if_neg hb], ?_⟩
          unfold truncD
          rw [if_neg hn0, if_neg hb]
          rfl)
        have hle : (j : Int) ≤ (x.bs.length : Int) := by omega
        have ST := Lib.hid (fun W (hb4 : Below W3.heap.size W3 W) => step_any (H3.out.below hb4) 70 #[] #[.pointer (some ⟨w1.heap.size, 0, none⟩), .pointer (some ⟨w.heap.size, 0, none⟩)] (truncG (nmOf s) j) (enters_of Try.func70 (by kernel_rfl) rfl) (HI.out.wf.truncc _ _) (fun w5 fu hb hi _ => by
          have hcl : c < w.heap.size := HI.out.cont.lt
          have hL := L13.out
          rw [← HX.out.2]
          exact trunc_step hi HX.out.1 BS.out.1 BS.out.2.1 j (by omega) w1.heap.size w.heap.size ((BX.out.below hb4).but hb (by omega) (by omega))))
        go_quiet (fail)
        have hb4 := below_drewN' (Below.refl W3.heap.size W3)
        have p0 := fun q => (H3.out.below (hb4 q)).ptr
        have STD := Lib.hid (fun q => ST.out _ (hb4 q))
        clear hb4 hbig ST
        go_wp2_with fail
        refine (STD.out _).mono ?_
        rintro r w' ⟨rfl, hw⟩
        have HW := Lib.hid hw
        clear hw
        go_wp2_with fail
        go_ret
        rw [HO.out.1, HO.out.2]
        exact ⟨rfl, HW.out.of_below (below_drewN' HB3.out _)⟩
  · have F := Lib.hid (file_err h1 s hr)
    have e1 : truncR (nmOf s) n d = fileR (nmOf s) d := by unfold truncR; rw [if_pos hr]
    have e2 : truncD (nmOf s) n d = d := by unfold truncD; rw [if_pos hr]
    rw [e1, e2]
    obtain ⟨r, hr'⟩ : ∃ r, fileR (nmOf s) d = r := ⟨_, rfl⟩
    rw [hr'] at F hr ⊢
    have hne : (r == 0) = false := by simpa using hr
    have H := Lib.hid h1
    clear hr hr' h e1 e2 h1
    go_enter Try.func51, Try.ntmps51
    go_wp2_with fail
    try rw [hW1]
    refine F.out.mono ?_
    rintro e1 w1 ⟨rfl, b1⟩
    have B1 := Lib.hid b1
    clear b1 F hW1
    go_wp2_with fail
    go_ret
    exact ⟨rfl, (WroteD.same ⟨c, m, C, H.out⟩ (B1.out.alloc B1.out.size _)).of_below HB1.out⟩
end Go.Proofs.Ythnfpkbpakffgaa
