/- Rename. -/
import Derived.Test.YthnfpkbpakffgaaC8
namespace Go.Proofs.Ythnfpkbpakffgaa
open Go.RowKit Go.Maps Go.Sort Go.Shelf
open Disk (Nm Fl DS Up ins del upd fnd okName okByte used Wf stepR stepD fileR renameR renameD renameG)
theorem usable_two (off : Bool) (s t : ByteArray) : usableR off [s, t] = if off = true then 8 else if okName (nmOf s) = false ∨ okName (nmOf t) = false then 1 else 0 := by
  unfold usableR
  cases off with
  | true => rfl
  | false =>
    cases e1 : okName (nmOf s) <;> cases e2 : okName (nmOf t) <;> simp [e1, e2]
set_option maxRecDepth 100000 in
set_option maxHeartbeats 1000000 in
theorem Rename_any {w : World} {p : Nat} {d : DS} {S : Nat → Prop} (h0 : IsD w p d S) (s t : ByteArray) :
    Calls Try.prog 27 #[.pointer (some ⟨p, 0, none⟩), .string s, .string t] w fun r w' => r = .returned (.int .i64 (renameR (nmOf s) (nmOf t) d)) ∧ WroteD w p S (renameD (nmOf s) (nmOf t) d) w' := by
  obtain ⟨c, m, C, h⟩ := h0
  have b1 : Below w.heap.size w (w.alloc (.cells #[.string s] 9)) := (Below.refl _ _).alloc (Nat.le_refl _) _
  have x1 : (w.alloc (.cells #[.string s] 9)).cell? ⟨w.heap.size, 0, none⟩ = some (.string s) := cell_new _ _ _
  have s1 : (w.alloc (.cells #[.string s] 9)).heap.size = w.heap.size + 1 := by simp
  obtain ⟨W1, hW1⟩ : ∃ W1, w.alloc (.cells #[.string s] 9) = W1 := ⟨_, rfl⟩
  rw [hW1] at b1 x1 s1
  have b2 : Below W1.heap.size W1 (W1.alloc (.cells #[.string t] 9)) := (Below.refl _ _).alloc (Nat.le_refl _) _
  have x2 : (W1.alloc (.cells #[.string t] 9)).cell? ⟨W1.heap.size, 0, none⟩ = some (.string t) := cell_new _ _ _
  have s2 : (W1.alloc (.cells #[.string t] 9)).heap.size = W1.heap.size + 1 := by simp
  obtain ⟨W2, hW2⟩ : ∃ W2, W1.alloc (.cells #[.string t] 9) = W2 := ⟨_, rfl⟩
  rw [hW2] at b2 x2 s2
  have y2 : W2.cell? ⟨w.heap.size, 0, none⟩ = some (.string s) := (b2.cell (p := ⟨w.heap.size, 0, none⟩) (by show w.heap.size < W1.heap.size; omega)).trans x1
  have b3 : Below W2.heap.size W2 (W2.alloc (.cells #[.string s, .string t] 9)) := (Below.refl _ _).alloc (Nat.le_refl _) _
  have a3 := nat_two W2 s t
  obtain ⟨W3, hW3⟩ : ∃ W3, W2.alloc (.cells #[.string s, .string t] 9) = W3 := ⟨_, rfl⟩
  rw [hW3] at b3 a3
  have BX0 : Box2 W2 w.heap.size W1.heap.size (.string s) (.string t) := ⟨y2, x2, by omega, by omega⟩
  have BX := Lib.hid (BX0.below b3)
  have L1 := Lib.hid (show w.heap.size ≤ W1.heap.size by omega)
  have HB3 := Lib.hid (below_then (below_then b1 b2) b3)
  have i3 := h.below HB3.out
  have U : Calls Try.prog 33 #[.pointer (some ⟨p, 0, none⟩), .slice (some ⟨W2.heap.size, 0, none⟩) 2 2] W3 fun e w' => e = .returned (.int .i64 (usableR d.off [s, t])) ∧ W3 = w' := usable_any p c d.off W3 i3.ptr i3.cont.c3 (some ⟨W2.heap.size, 0, none⟩) 2 [s, t] a3 (by simp [maxLen])
  rw [usable_two] at U
  have HU := Lib.hid U
  have H3 := Lib.hid i3
  have z1 := BX.out.1
  have z2 := BX.out.2.1
  clear U a3 b3 b2 b1 i3 s1 s2 BX0
  by_cases hon : d.off = false ∧ ¬ (okName (nmOf s) = false ∨ okName (nmOf t) = false)
  · obtain ⟨ho, hk0⟩ := hon
    have ho' : ¬ d.off = true := by simp [ho]
    have hks : okName (nmOf s) = true := by
      cases e : okName (nmOf s) with
      | false => exact absurd (.inl e) hk0
      | true => rfl
    have hkt : okName (nmOf t) = true := by
      cases e : okName (nmOf t) with
      | false => exact absurd (.inr e) hk0
      | true => rfl
    rw [if_neg ho', if_neg hk0] at HU
    by_cases hr : fileR (nmOf s) d = 0
    · obtain ⟨x, hx, hxn, F0⟩ := file_ok H3.out s hr
      have F := Lib.hid F0
      have hfn : fnd Fl.nm (nmOf s) d.L = some x.fl := by rw [fnd_ent h.L, ← hxn, h.isc.up.fnd hx]; rfl
      have hfn' : ¬ fnd Fl.nm (nmOf s) d.L = none := by rw [hfn]; simp
      have HO := Lib.hid (show renameR (nmOf s) (nmOf t) d = stepR d ∧ renameD (nmOf s) (nmOf t) d = stepD d (renameG (nmOf s) (nmOf t)) from ⟨by unfold renameR; rw [if_neg ho', if_neg hk0, if_neg hfn'], by unfold renameD; rw [if_neg ho', if_neg hk0, if_neg hfn']⟩)
      have HX := Lib.hid (And.intro hx (And.intro hxn (And.intro hks hkt)))
      have HI := Lib.hid h
      have HF := Lib.hid hfn
      clear F0 hx hxn hr h hfn hfn' hks hkt hk0 ho' ho
      go_enter Try.func27, Try.ntmps27
      go_wp2_with fail
      try rw [hW1]
      try rw [hW2]
      try rw [hW3]
      refine HU.out.mono ?_
      rintro e1 w1 ⟨rfl, rfl⟩
      clear HU hW1 hW2 hW3 x1 x2 y2
      go_wp2_with fail
      refine F.out.mono ?_
      rintro e1 w4 ⟨rfl, b4⟩
      have B4 := Lib.hid b4
      have H4 := Lib.hid (H3.out.below b4)
      have BX4 := Lib.hid (BX.out.below b4)
      have b5 : Below w4.heap.size w4 (w4.alloc (.cells #[.pointer (some ⟨x.k, 0, none⟩)] 71)) := (Below.refl _ _).alloc (Nat.le_refl _) _
      have x5 : (w4.alloc (.cells #[.pointer (some ⟨x.k, 0, none⟩)] 71)).cell? ⟨w4.heap.size, 0, none⟩ = some (.pointer (some ⟨x.k, 0, none⟩)) := cell_new _ _ _
      have s5 : (w4.alloc (.cells #[.pointer (some ⟨x.k, 0, none⟩)] 71)).heap.size = w4.heap.size + 1 := by simp
      clear F b4 z1 z2
      go_upto_region 7 with fail
      obtain ⟨W5, hW5⟩ : ∃ W5, w4.alloc (.cells #[.pointer (some ⟨x.k, 0, none⟩)] 71) = W5 := ⟨_, rfl⟩
      rw [hW5] at b5 x5 s5
      try rw [hW5]
      have S5 := Lib.hid s5
      clear hW5 s5
      have H5 := Lib.hid (H4.out.below b5)
      have p0 := H5.out.ptr
      have p1 := H5.out.cont.c0
      have b6 : Below W5.heap.size W5 (W5.alloc (.cells #[.map (some m)] 61)) := (Below.refl _ _).alloc (Nat.le_refl _) _
      have x6 : (W5.alloc (.cells #[.map (some m)] 61)).cell? ⟨W5.heap.size, 0, none⟩ = some (.map (some m)) := cell_new _ _ _
      have s6 : (W5.alloc (.cells #[.map (some m)] 61)).heap.size = W5.heap.size + 1 := by simp
      go_upto_region 8 with fail
      obtain ⟨W6, hW6⟩ : ∃ W6, W5.alloc (.cells #[.map (some m)] 61) = W6 := ⟨_, rfl⟩
      rw [hW6] at b6 x6 s6
      try rw [hW6]
      have s5 := S5.out
      clear hW6 p0 p1
      have H6 := Lib.hid (H5.out.below b6)
      have BX6 := (BX4.out.below b5).below b6
      have y5 : W6.cell? ⟨w4.heap.size, 0, none⟩ = some (.pointer (some ⟨x.k, 0, none⟩)) := (b6.cell (p := ⟨w4.heap.size, 0, none⟩) (by show w4.heap.size < W5.heap.size; omega)).trans x5
      have hw4 : w.heap.size ≤ w4.heap.size := Nat.le_trans HB3.out.size B4.out.size
      have P := Lib.hid (And.intro (show Box2 W6 W5.heap.size w.heap.size (.map (some m)) (.string s) from ⟨x6, BX6.1, by omega, BX6.2.2.1⟩) (And.intro (show Box2 W6 w4.heap.size W1.heap.size (.pointer (some ⟨x.k, 0, none⟩)) (.string t) from ⟨y5, BX6.2.1, by omega, BX6.2.2.2⟩) (show w.heap.size ≤ w4.heap.size ∧ w.heap.size ≤ W5.heap.size from ⟨hw4, by omega⟩)))
      have HB6 := Lib.hid (below_then (below_then (below_then HB3.out B4.out) b5) b6)
      have ST := Lib.hid (step_any H6.out 62 #[] #[.pointer (some ⟨W5.heap.size, 0, none⟩), .pointer (some ⟨w.heap.size, 0, none⟩), .pointer (some ⟨w4.heap.size, 0, none⟩), .pointer (some ⟨W1.heap.size, 0, none⟩)] (renameG (nmOf s) (nmOf t)) (enters_of Try.func62 (by kernel_rfl) rfl) (HI.out.wf.renamee HX.out.2.2.2 HF.out) (fun w7 fu hb hi _ => by
        have hcl : c < w.heap.size := HI.out.cont.lt
        have hml : m < w.heap.size := HI.out.isc.map.lt
        have hL := L1.out
        obtain ⟨g1, g2, g3, g4⟩ := P.out
        have hlen : C.length ≤ 512 := by
          have := HI.out.wf.many
          rw [← HI.out.L, List.length_map] at this
          exact this
        exact rename_step hi hlen HX.out.1 W5.heap.size w.heap.size w4.heap.size W1.heap.size s t HX.out.2.1 (g1.but hb (by omega) (by omega)) (g2.but hb (by omega) (by omega)) (by omega) (by omega) (by omega) (by omega) HX.out.2.2.1 HX.out.2.2.2))
      have p0 := H6.out.ptr
      clear b5 x5 s5 b6 x6 s6 BX6 y5 hw4
      go_wp2_with fail
      with_reducible refine ST.out.mono ?_
      rintro r w' ⟨rfl, hw⟩
      have HW := Lib.hid hw
      clear hw ST
      go_wp2_with fail
      go_ret
      rw [HO.out.1, HO.out.2]
      exact ⟨rfl, HW.out.of_below HB6.out⟩
    · have F := Lib.hid (file_err H3.out s hr)
      have h6 : fileR (nmOf s) d = 6 ∧ fnd Fl.nm (nmOf s) d.L = none := by
        have hf := fileR_on ho hks
        rw [hf] at hr ⊢
        by_cases hc : fnd Fl.nm (nmOf s) d.L = none
        · rw [if_pos hc]; exact ⟨rfl, hc⟩
        · rw [if_neg hc] at hr; exact absurd rfl hr
      have HO := Lib.hid (show renameR (nmOf s) (nmOf t) d = 6 ∧ renameD (nmOf s) (nmOf t) d = d from ⟨by unfold renameR; rw [if_neg ho', if_neg hk0, if_pos h6.2], by unfold renameD; rw [if_neg ho', if_neg hk0, if_pos h6.2]⟩)
      rw [h6.1] at F
      have HI := Lib.hid h
      clear hr h6 h hks hkt hk0 ho' ho
      go_enter Try.func27, Try.ntmps27
      go_wp2_with fail
      try rw [hW1]
      try rw [hW2]
      try rw [hW3]
      refine HU.out.mono ?_
      rintro e1 w1 ⟨rfl, rfl⟩
      clear HU hW1 hW2 hW3 x1 x2 y2
      go_wp2_with fail
      refine F.out.mono ?_
      rintro e1 w4 ⟨rfl, b4⟩
      have B4 := Lib.hid b4
      clear F b4 z1 z2
      go_wp2_with fail
      go_ret
      rw [HO.out.1, HO.out.2]
      exact ⟨rfl, .same ⟨c, m, C, HI.out⟩ (below_then HB3.out ((B4.out.alloc B4.out.size _)))⟩
  · have hu : (if d.off = true then (8 : Int) else if okName (nmOf s) = false ∨ okName (nmOf t) = false then 1 else 0) = renameR (nmOf s) (nmOf t) d ∧ renameR (nmOf s) (nmOf t) d ≠ 0 ∧ renameD (nmOf s) (nmOf t) d = d := by
      unfold renameR renameD
      by_cases ho : d.off = true
      · rw [if_pos ho, if_pos ho, if_pos ho]; exact ⟨rfl, by omega, rfl⟩
      · have hk : okName (nmOf s) = false ∨ okName (nmOf t) = false := by
          have ho' : d.off = false := by simpa using ho
          exact Decidable.byContradiction fun hc => hon ⟨ho', hc⟩
        rw [if_neg ho, if_neg ho, if_neg ho, if_pos hk, if_pos hk, if_pos hk]
        exact ⟨rfl, by omega, rfl⟩
    rw [hu.1] at HU
    obtain ⟨r, hr'⟩ : ∃ r, renameR (nmOf s) (nmOf t) d = r := ⟨_, rfl⟩
    have hne0 := hu.2.1
    rw [hr'] at HU hne0 ⊢
    rw [hu.2.2]
    have hne : (r == 0) = false := by simpa using hne0
    clear hu hon hr' hne0
    have HI := Lib.hid h
    clear h
    go_enter Try.func27, Try.ntmps27
    go_wp2_with fail
    try rw [hW1]
    try rw [hW2]
    try rw [hW3]
    refine HU.out.mono ?_
    rintro e1 w1 ⟨rfl, rfl⟩
    clear HU hW1 hW2 hW3 x1 x2 y2
    go_wp2_with fail
    go_ret
    exact ⟨rfl, .same ⟨c, m, C, HI.out⟩ HB3.out⟩
end Go.Proofs.Ythnfpkbpakffgaa
