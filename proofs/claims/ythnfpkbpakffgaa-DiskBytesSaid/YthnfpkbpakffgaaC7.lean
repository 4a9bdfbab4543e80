/- Append. -/
import Derived.Test.YthnfpkbpakffgaaC6
namespace Go.Proofs.Ythnfpkbpakffgaa
open Go.RowKit Go.Maps Go.Sort Go.Shelf
open Disk (Nm Fl DS Up ins del upd fnd okName okByte used Wf stepR stepD fileR appendR appendD appendG)
theorem At.but {T : Nat → Prop} {w w' : World} {A : Option Addr} {l : List UInt8} (h : At w A l) (hb : But T w w') (hn : 0 < l.length → ∀ bb off, A = some ⟨bb, off, none⟩ → ¬ T bb) : At w' A l := fun h0 => by
  obtain ⟨b, off, e, hl, hc⟩ := h h0
  exact ⟨b, off, e, Nat.lt_of_lt_of_le hl hb.size, fun i hi => (hb.cell b (off + i) hl (hn h0 b off e)).trans (hc i hi)⟩
set_option maxRecDepth 100000 in
set_option maxHeartbeats 1000000 in
theorem Append_any {w : World} {p : Nat} {d : DS} {S : Nat → Prop} (h0 : IsD w p d S) (s : ByteArray) (A : Option Addr) (n cap : Nat) (b : List UInt8) (hA : At w A b) (hn : b.length = n) (hz : A = none → cap = 0) (hmax : n ≤ maxLen) (hS : 0 < b.length → ∀ bb off, A = some ⟨bb, off, none⟩ → ¬ S bb) :
    Calls Try.prog 14 #[.pointer (some ⟨p, 0, none⟩), .string s, .slice A n cap] w fun r w' => r = .returned (.int .i64 (appendR (nmOf s) b d)) ∧ WroteD w p S (appendD (nmOf s) b d) w' := by
  obtain ⟨c, m, C, h⟩ := h0
  unfold maxLen at hmax
  have HM := Lib.hid hmax
  have HSS := Lib.hid hS
  clear hmax hS
  have b1 : Below w.heap.size w (w.alloc (.cells #[.slice A n cap] 32)) := (Below.refl _ _).alloc (Nat.le_refl _) _
  have x1 : (w.alloc (.cells #[.slice A n cap] 32)).cell? ⟨w.heap.size, 0, none⟩ = some (.slice A n cap) := cell_new _ _ _
  have s1 : (w.alloc (.cells #[.slice A n cap] 32)).heap.size = w.heap.size + 1 := by simp
  obtain ⟨W1, hW1⟩ : ∃ W1, w.alloc (.cells #[.slice A n cap] 32) = W1 := ⟨_, rfl⟩
  rw [hW1] at b1 x1 s1
  have HB1 := Lib.hid b1
  have h1 := h.below b1
  have hA1 := Lib.hid (hA.below b1)
  have HS1 := Lib.hid s1
  have X1 := Lib.hid x1
  clear b1 s1 x1 hA
  by_cases hr : fileR (nmOf s) d = 0
  · obtain ⟨x, hx, hxn, F0⟩ := file_ok h1 s hr
    have F := Lib.hid F0
    have H1 := Lib.hid h1
    have HX := Lib.hid (And.intro hx hxn)
    have HR := Lib.hid hr
    have HNn := Lib.hid hn
    have HI := Lib.hid h
    clear F0 h1 hx hxn hn hr h
    go_enter Try.func14, Try.ntmps14
    go_wp2_with fail
    try rw [hW1]
    refine F.out.mono ?_
    rintro r1 w1 ⟨rfl, b1⟩
    have BB1 := Lib.hid b1
    clear b1 F hW1
    have b3 : Below w1.heap.size w1 (w1.alloc (.cells #[.pointer (some ⟨x.k, 0, none⟩)] 71)) := (Below.refl _ _).alloc (Nat.le_refl _) _
    have x3 : (w1.alloc (.cells #[.pointer (some ⟨x.k, 0, none⟩)] 71)).cell? ⟨w1.heap.size, 0, none⟩ = some (.pointer (some ⟨x.k, 0, none⟩)) := cell_new _ _ _
    have s3 : (w1.alloc (.cells #[.pointer (some ⟨x.k, 0, none⟩)] 71)).heap.size = w1.heap.size + 1 := by simp
    go_upto_region 4 with fail
    obtain ⟨W3, hW3⟩ : ∃ W3, w1.alloc (.cells #[.pointer (some ⟨x.k, 0, none⟩)] 71) = W3 := ⟨_, rfl⟩
    rw [hW3] at b3 x3 s3
    try rw [hW3]
    clear hW3
    have hb13 : Below W1.heap.size W1 W3 := below_then BB1.out b3
    have hlt1 : w.heap.size < W1.heap.size := by have := HS1.out; omega
    have BX := Lib.hid (show Box2 W3 w1.heap.size w.heap.size (.pointer (some ⟨x.k, 0, none⟩)) (.slice A n cap) from ⟨x3, (hb13.cell (p := ⟨w.heap.size, 0, none⟩) hlt1).trans X1.out, by omega, Nat.lt_of_lt_of_le hlt1 hb13.size⟩)
    have H3 := Lib.hid (H1.out.below hb13)
    have HB3 := Lib.hid (below_then HB1.out hb13)
    have HA3 := Lib.hid (hA1.out.below hb13)
    have L13 := Lib.hid (show w.heap.size ≤ w1.heap.size from Nat.le_of_lt (Nat.lt_of_lt_of_le hlt1 BB1.out.size))
    clear b3 x3 s3 hb13 hlt1
    have K0 := Lib.hid (fun (w' : World) (hb : Below W3.heap.size W3 w') => (⟨(BX.out.below hb).2.1, (H3.out.below hb).ptr, (H3.out.below hb).cont.c1⟩ : w'.cell? ⟨w.heap.size, 0, none⟩ = some (.slice A n cap) ∧ w'.cell? ⟨p, 0, none⟩ = some (.pointer (some ⟨c, 0, none⟩)) ∧ w'.cell? ⟨c, 1, none⟩ = some (.int .i64 d.q)))
    have U := Lib.hid (fun W (hb : Below W3.heap.size W3 W) => used_any (H3.out.below hb))
    obtain ⟨T, hT⟩ : ∃ T, used d.L = T := ⟨_, rfl⟩
    have hT2 : T ≤ 4194304 := by rw [← hT]; exact HI.out.wf.use
    have hq0 := HI.out.wf.q0
    have hq1 := HI.out.wf.q1
    rw [hT] at U
    have HT := Lib.hid hT
    have hw1 : IntKind.i64.wrap (d.q - (T : Int)) = d.q - (T : Int) := IntWalk.i64_in _ (by omega)
    have hqT : ∃ u : Int, d.q - (T : Int) = u := ⟨_, rfl⟩
    clear hT
    go_region_held3 (fun w' => w'.cell? ⟨w.heap.size, 0, none⟩ = some (.slice A n cap) ∧ w'.cell? ⟨p, 0, none⟩ = some (.pointer (some ⟨c, 0, none⟩)) ∧ w'.cell? ⟨c, 1, none⟩ = some (.int .i64 d.q)) (first
        | exact K0.out _ (Below.refl _ _).drew
        | exact K0.out _ HU1.out
        | fail) (first
      | (go_at_call 38; (with_reducible refine (U.out _ (Below.refl _ _).drew).mono ?_); rintro e1 w4 ⟨rfl, b4⟩; have HU1 := Lib.hid (show Below W3.heap.size W3 w4 from (Below.refl _ _).drew.trans b4); clear b4)
      | fail)
    have BW4 := Lib.hid (show Below w.heap.size w w4 from below_then HB3.out HU1.out)
    by_cases hfull : d.q - (T : Int) < (n : Int)
    · have HO := Lib.hid (show appendR (nmOf s) b d = 7 ∧ appendD (nmOf s) b d = d by
        have hc : d.q - used d.L < b.length := by rw [HNn.out, HT.out]; exact hfull
        have hn0 : ¬ fileR (nmOf s) d ≠ 0 := by simp [HR.out]
        exact ⟨by unfold appendR; rw [if_neg hn0, if_pos hc], by unfold appendD; rw [if_neg hn0, if_pos hc]⟩)
      go_wp2_with fail
      go_ret
      rw [HO.out.1, HO.out.2]
      exact ⟨rfl, .same ⟨c, m, C, HI.out⟩ BW4.out⟩
    · have hc : ¬ d.q - used d.L < b.length := by rw [HNn.out, HT.out]; exact hfull
      have HO := Lib.hid (show appendR (nmOf s) b d = stepR d ∧ appendD (nmOf s) b d = stepD d (appendG (nmOf s) b) by
        have hn0 : ¬ fileR (nmOf s) d ≠ 0 := by simp [HR.out]
        exact ⟨by unfold appendR; rw [if_neg hn0, if_neg hc], by unfold appendD; rw [if_neg hn0, if_neg hc]⟩)
      have hnn : n ≤ 4194304 := by omega
      have H4 := Lib.hid (H3.out.below HU1.out)
      have ST := Lib.hid (step_any H4.out 39 #[] #[.pointer (some ⟨w1.heap.size, 0, none⟩), .pointer (some ⟨w.heap.size, 0, none⟩)] (appendG (nmOf s) b) (enters_of Try.func39 (by kernel_rfl) rfl) (HI.out.wf.appendd _ _ hc) (fun w5 fu hb hi _ => by
        have hcl : c < w.heap.size := HI.out.cont.lt
        have hL := L13.out
        have hne : ∀ y, w.heap.size ≤ y → ¬ x.has y := fun y hy hxy => by
          have := HI.out.isc.lt (b := y) (.inr ⟨x, HX.out.1, hxy⟩)
          omega
        rw [← HX.out.2]
        have hsz : W3.heap.size ≤ w4.heap.size := HU1.out.size
        have hA5 : At w5 A b := (HA3.out.below HU1.out).but hb fun h0 bb off e hbc => HSS.out h0 bb off e (by rw [hbc]; exact HI.out.Sc)
        exact append_step hi HX.out.1 (bs_le HI.out HX.out.1).2.1 w1.heap.size w.heap.size A n cap b HNn.out (by rw [HNn.out]; exact hnn) hA5 hz ((BX.out.below HU1.out).but hb (by omega) (by omega)) (hne _ (by omega)) (hne _ (Nat.le_refl _))))
      have p0 := H4.out.ptr
      have hle : (n : Int) ≤ d.q - (T : Int) := by omega
      clear hc hfull
      go_wp2_with fail
      refine ST.out.mono ?_
      rintro r w' ⟨rfl, hw⟩
      have HW := Lib.hid hw
      clear hw ST
      go_wp2_with fail
      go_ret
      rw [HO.out.1, HO.out.2]
      exact ⟨rfl, HW.out.of_below BW4.out⟩
  · have F := Lib.hid (file_err h1 s hr)
    have e1 : appendR (nmOf s) b d = fileR (nmOf s) d := by unfold appendR; rw [if_pos hr]
    have e2 : appendD (nmOf s) b d = d := by unfold appendD; rw [if_pos hr]
    rw [e1, e2]
    obtain ⟨r, hr'⟩ : ∃ r, fileR (nmOf s) d = r := ⟨_, rfl⟩
    rw [hr'] at F hr ⊢
    have hne : (r == 0) = false := by simpa using hr
    have H := Lib.hid h1
    clear hr hr' h e1 e2 h1 hn
    go_enter Try.func14, Try.ntmps14
    go_wp2_with fail
    try rw [hW1]
    refine F.out.mono ?_
    rintro e1 w1 ⟨rfl, b1⟩
    have B1 := Lib.hid b1
    clear b1 F hW1
    go_wp2_with fail
    go_ret
    exact ⟨rfl, (WroteD.same ⟨c, m, C, H.out⟩ (B1.out.alloc B1.out.size _)).of_below HB1.out⟩
end Go.Proofs.Ythnfpkbpakffgaa
