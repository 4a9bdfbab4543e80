/- Create. -/
import Derived.Test.YthnfpkbpakffgaaC4
namespace Go.Proofs.Ythnfpkbpakffgaa
open Go.RowKit Go.Maps Go.Sort Go.Shelf
open Disk (Nm Fl DS Up ins del upd fnd okName okByte used Wf stepR stepD createR createD createG)
set_option maxRecDepth 100000 in
theorem Create_any {w : World} {p : Nat} {d : DS} {S : Nat → Prop} (h0 : IsD w p d S) (s : ByteArray) :
    Calls Try.prog 13 #[.pointer (some ⟨p, 0, none⟩), .string s] w fun r w' => r = .returned (.int .i64 (createR (nmOf s) d)) ∧ WroteD w p S (createD (nmOf s) d) w' := by
  obtain ⟨c, m, C, h⟩ := h0
  have b1 : Below w.heap.size w (w.alloc (.cells #[.string s] 9)) := (Below.refl _ _).alloc (Nat.le_refl _) _
  have x1 : (w.alloc (.cells #[.string s] 9)).cell? ⟨w.heap.size, 0, none⟩ = some (.string s) := cell_new _ _ _
  have s1 : (w.alloc (.cells #[.string s] 9)).heap.size = w.heap.size + 1 := by simp
  obtain ⟨W1, hW1⟩ : ∃ W1, w.alloc (.cells #[.string s] 9) = W1 := ⟨_, rfl⟩
  rw [hW1] at b1 x1 s1
  have b2 : Below W1.heap.size W1 (W1.alloc (.cells #[.string s] 9)) := (Below.refl _ _).alloc (Nat.le_refl _) _
  have a2 := nat_one W1 s
  obtain ⟨W2, hW2⟩ : ∃ W2, W1.alloc (.cells #[.string s] 9) = W2 := ⟨_, rfl⟩
  rw [hW2] at b2 a2
  have HB2 := Lib.hid (below_then b1 b2)
  have i2 := h.below HB2.out
  have x2 : W2.cell? ⟨w.heap.size, 0, none⟩ = some (.string s) := (b2.cell (p := ⟨w.heap.size, 0, none⟩) (by show w.heap.size < W1.heap.size; omega)).trans x1
  have U : Calls Try.prog 33 #[.pointer (some ⟨p, 0, none⟩), .slice (some ⟨W1.heap.size, 0, none⟩) 1 1] W2 fun e w' => e = .returned (.int .i64 (usableR d.off [s])) ∧ W2 = w' := usable_any p c d.off W2 i2.ptr i2.cont.c3 (some ⟨W1.heap.size, 0, none⟩) 1 [s] a2 (by simp [maxLen])
  have HU := Lib.hid U
  have HI := Lib.hid i2
  have X2 := Lib.hid (And.intro x2 (show w.heap.size < W2.heap.size by have := b2.size; omega))
  have HS1 := Lib.hid s1
  clear U b2 a2 b1 i2 s1 x2
  by_cases hon : d.off = false ∧ okName (nmOf s) = true
  · obtain ⟨ho, hk⟩ := hon
    have hu : usableR d.off [s] = 0 := by rw [ho]; simp [usableR, hk]
    rw [hu] at HU
    have q0 := HI.out.ptr
    have q1 := HI.out.cont.c0
    clear hu
    go_enter Try.func13, Try.ntmps13
    go_wp2_with fail
    try rw [hW1]
    try rw [hW2]
    refine HU.out.mono ?_
    rintro e1 w1 ⟨rfl, rfl⟩
    clear HU hW1 hW2 x1
    have b3 : Below W2.heap.size W2 (W2.alloc (.cells #[.map (some m)] 61)) := (Below.refl _ _).alloc (Nat.le_refl _) _
    have x3 : (W2.alloc (.cells #[.map (some m)] 61)).cell? ⟨W2.heap.size, 0, none⟩ = some (.map (some m)) := cell_new _ _ _
    have s3 : (W2.alloc (.cells #[.map (some m)] 61)).heap.size = W2.heap.size + 1 := by simp
    go_upto_region 5 with fail
    obtain ⟨W3, hW3⟩ : ∃ W3, W2.alloc (.cells #[.map (some m)] 61) = W3 := ⟨_, rfl⟩
    rw [hW3] at b3 x3 s3
    try rw [hW3]
    clear hW3 q0 q1
    have HB3 := Lib.hid (below_then HB2.out b3)
    have H3 := Lib.hid (HI.out.below b3)
    have y3 : W3.cell? ⟨w.heap.size, 0, none⟩ = some (.string s) := (b3.cell (p := ⟨w.heap.size, 0, none⟩) X2.out.2).trans X2.out.1
    have BX := Lib.hid (show Box2 W3 W2.heap.size w.heap.size (.map (some m)) (.string s) from ⟨x3, y3, by omega, by have := X2.out.2; omega⟩)
    have L1 := Lib.hid (show w.heap.size < W2.heap.size from X2.out.2)
    have lk := H3.out.isc.map.lookup s (okName_max hk)
    clear b3 s3
    by_cases hp : ∃ e ∈ C, e.nm = nmOf s
    · obtain ⟨e, he, hen⟩ := hp
      have hf : fnd Fl.nm (nmOf s) d.L ≠ none := by rw [fnd_ent h.L, ← hen, h.isc.up.fnd he]; simp
      have hr : createR (nmOf s) d = 9 := by unfold createR; rw [if_neg (by simp [ho]), if_neg (by simp [hk]), if_pos hf]
      have hd : createD (nmOf s) d = d := by unfold createD; rw [if_neg (by simp [ho]), if_neg (by simp [hk]), if_pos hf]
      have HO := Lib.hid (And.intro hr hd)
      rw [← hen, look_ent H3.out.isc.up he] at lk
      have lk' : (Instr.lookup 61 (.map (some m)) (.string s) false).run Try.prog W3 = .ok (.pointer (some ⟨e.k, 0, none⟩)) W3 := lk
      clear lk hf hr hd he hen h ho hk
      go_wp2_with fail
      go_ret
      rw [HO.out.1, HO.out.2]
      exact ⟨rfl, (WroteD.same ⟨c, m, C, H3.out⟩ (Below.refl _ _)).of_below HB3.out⟩
    · have hnone : ∀ e ∈ C, e.nm ≠ nmOf s := fun e he hen => hp ⟨e, he, hen⟩
      have hf : fnd Fl.nm (nmOf s) d.L = none := by
        rw [fnd_ent h.L, Option.map_eq_none_iff]
        cases e : fnd Ent.nm (nmOf s) C with
        | none => rfl
        | some a => exact absurd (Disk.fnd_some e).2 (hnone a (Disk.fnd_some e).1)
      rw [look_none hnone] at lk
      have lk' : (Instr.lookup 61 (.map (some m)) (.string s) false).run Try.prog W3 = .ok (.pointer none) W3 := lk
      clear lk
      have hlen := H3.out.isc.map.len 3
      have hlC : (C.map nk).length = d.L.length := by rw [← h.L]; simp
      rw [hlC] at hlen
      have HN := Lib.hid hnone
      have HLC := Lib.hid (show C.length = d.L.length by rw [← hlC]; simp)
      by_cases h512 : 512 ≤ d.L.length
      · have hr : createR (nmOf s) d = 7 := by unfold createR; rw [if_neg (by simp [ho]), if_neg (by simp [hk]), if_neg (by simp [hf]), if_pos h512]
        have hd : createD (nmOf s) d = d := by unfold createD; rw [if_neg (by simp [ho]), if_neg (by simp [hk]), if_neg (by simp [hf]), if_pos h512]
        have HO := Lib.hid (And.intro hr hd)
        have h5 : (512 : Int) ≤ (d.L.length : Int) := by omega
        clear hf hr hd h ho hk hnone hp hlC h512
        generalize d.L.length = n at *
        go_wp2_with fail
        go_ret
        rw [HO.out.1, HO.out.2]
        exact ⟨rfl, (WroteD.same ⟨c, m, C, H3.out⟩ (Below.refl _ _)).of_below HB3.out⟩
      · have hr : createR (nmOf s) d = stepR d := by unfold createR; rw [if_neg (by simp [ho]), if_neg (by simp [hk]), if_neg (by simp [hf]), if_neg h512]
        have hd : createD (nmOf s) d = stepD d (createG (nmOf s)) := by unfold createD; rw [if_neg (by simp [ho]), if_neg (by simp [hk]), if_neg (by simp [hf]), if_neg h512]
        have HO := Lib.hid (And.intro hr hd)
        have h5 : (d.L.length : Int) < 512 := by omega
        have ST := Lib.hid (step_any H3.out 35 #[] #[.pointer (some ⟨W2.heap.size, 0, none⟩), .pointer (some ⟨w.heap.size, 0, none⟩)] (createG (nmOf s)) (enters_of Try.func35 (by kernel_rfl) rfl) (h.wf.create hk hf h512) (fun w1 fu hb hi _ => by
          have hcl : c < w.heap.size := h.cont.lt
          have hml : m < w.heap.size := h.isc.map.lt
          have hL1 := L1.out
          exact create_step hi (by have := HLC.out; omega) W2.heap.size w.heap.size s (BX.out.but hb (by omega) (by omega)) (by omega) (by omega) hk HN.out))
        have p0 := H3.out.ptr
        clear hf hr hd h ho hk hnone hp hlC h512
        generalize d.L.length = n at *
        go_wp2_with fail
        refine ST.out.mono ?_
        rintro r w' ⟨rfl, hw⟩
        have HW := Lib.hid hw
        clear hw ST
        go_wp2_with fail
        go_ret
        rw [HO.out.1, HO.out.2]
        exact ⟨rfl, HW.out.of_below HB3.out⟩
  · have hu : usableR d.off [s] = createR (nmOf s) d ∧ createR (nmOf s) d ≠ 0 ∧ createD (nmOf s) d = d := by
      unfold usableR createR createD
      by_cases ho : d.off = true
      · rw [if_pos ho, if_pos ho, if_pos ho]; exact ⟨rfl, by omega, rfl⟩
      · have hk : okName (nmOf s) = false := by
          have ho' : d.off = false := by simpa using ho
          cases e : okName (nmOf s) with
          | false => rfl
          | true => exact absurd ⟨ho', e⟩ hon
        rw [if_neg ho, if_neg ho, if_neg ho, if_pos hk, if_pos hk, if_neg (by simp [hk])]
        exact ⟨rfl, by omega, rfl⟩
    rw [hu.1] at HU
    obtain ⟨r, hr'⟩ : ∃ r, createR (nmOf s) d = r := ⟨_, rfl⟩
    have hne0 := hu.2.1
    rw [hr'] at HU hne0 ⊢
    rw [hu.2.2]
    have hne : (r == 0) = false := by simpa using hne0
    clear hu hon hr' h hne0
    go_enter Try.func13, Try.ntmps13
    go_wp2_with fail
    try rw [hW1]
    try rw [hW2]
    refine HU.out.mono ?_
    rintro e1 w1 ⟨rfl, rfl⟩
    clear HU hW1 hW2 x1
    go_wp2_with fail
    go_ret
    exact ⟨rfl, (WroteD.same ⟨c, m, C, HI.out⟩ (Below.refl _ _)).of_below HB2.out⟩
end Go.Proofs.Ythnfpkbpakffgaa
