/- What a disk tells of its files. -/
import Derived.Test.YthnfpkbpakffgaaB5
import Derived.Test.YthnfpkbpakffgaaS1
namespace Go.Proofs.Ythnfpkbpakffgaa
open Go.RowKit Go.Maps Go.Sort Go.Shelf
open Disk (Nm Fl DS Up ins del upd fnd okName okByte used Wf fileR)
theorem nat_one (w : World) (s : ByteArray) : NAt (w.alloc (.cells #[.string s] 9)) (some ⟨w.heap.size, 0, none⟩) [s] := fun _ => by
  refine ⟨w.heap.size, 0, rfl, by simp, fun i hi => ?_⟩
  have h0 : i = 0 := by simp at hi; omega
  subst h0
  exact cell_new _ _ _
theorem nat_two (w : World) (s t : ByteArray) : NAt (w.alloc (.cells #[.string s, .string t] 9)) (some ⟨w.heap.size, 0, none⟩) [s, t] := fun _ => by
  refine ⟨w.heap.size, 0, rfl, by simp, fun i hi => ?_⟩
  have h0 : i = 0 ∨ i = 1 := by simp at hi; omega
  rcases h0 with rfl | rfl
  · show (w.alloc (.cells #[.string s, .string t] 9)).cell? ⟨w.heap.size, 0, none⟩ = _
    go_simp
  · show (w.alloc (.cells #[.string s, .string t] 9)).cell? ⟨w.heap.size, 1, none⟩ = _
    go_simp
theorem fileR_on {x : Nm} {d : DS} (h1 : d.off = false) (h2 : okName x = true) : fileR x d = if fnd Fl.nm x d.L = none then 6 else 0 := by
  unfold fileR
  rw [if_neg (by simp [h1]), if_neg (by simp [h2])]
theorem fileR_ok {x : Nm} {d : DS} (h : fileR x d = 0) : d.off = false ∧ okName x = true ∧ ∃ f, fnd Fl.nm x d.L = some f := by
  unfold fileR at h
  by_cases h1 : d.off = true
  · rw [if_pos h1] at h; omega
  · rw [if_neg h1] at h
    by_cases h2 : okName x = false
    · rw [if_pos h2] at h; omega
    · rw [if_neg h2] at h
      by_cases h3 : fnd Fl.nm x d.L = none
      · rw [if_pos h3] at h; omega
      · exact ⟨by simpa using h1, by simpa using h2, Option.ne_none_iff_exists'.1 h3⟩
theorem look_ent {C : List Ent} {e : Ent} (hu : Up Ent.nm C) (he : e ∈ C) : look e.nm (C.map nk) = some e.k := by
  have h := Disk.map_fnd (f := Ent.nm) (h := Prod.fst) (r := nk) (fun _ => rfl) e.nm C
  rw [hu.fnd he] at h
  unfold look
  rw [← h]
  rfl
theorem look_none {C : List Ent} {x : Nm} (hn : ∀ e ∈ C, e.nm ≠ x) : look x (C.map nk) = none := by
  cases h : look x (C.map nk) with
  | none => rfl
  | some k =>
    have := look_isSome.1 (by rw [h]; rfl : (look x (C.map nk)).isSome = true)
    rw [List.map_map] at this
    obtain ⟨e, he, h1⟩ := List.mem_map.1 this
    exact absurd h1 (hn e he)
theorem fnd_ent {C : List Ent} {L : List Fl} (hL : C.map Ent.fl = L) (x : Nm) : fnd Fl.nm x L = (fnd Ent.nm x C).map Ent.fl := by
  rw [← hL]
  exact (Disk.map_fnd (f := Ent.nm) (h := Fl.nm) (r := Ent.fl) (fun _ => rfl) x C).symm
set_option maxRecDepth 100000 in
/-- A disk's file, or why there is none. -/
theorem file_err {w : World} {p c m : Nat} {C : List Ent} {d : DS} {S : Nat → Prop} (h : InD w p c m C d S) (s : ByteArray) (hr : fileR (nmOf s) d ≠ 0) :
    Calls Try.prog 37 #[.pointer (some ⟨p, 0, none⟩), .string s] w fun e w' => e = .returned (.tuple #[.pointer none, .int .i64 (fileR (nmOf s) d)]) ∧ Below w.heap.size w w' := by
  have bA : Below w.heap.size w (w.alloc (.cells #[.string s] 9)) := (Below.refl _ _).alloc (Nat.le_refl _) _
  have h1 := h.below bA
  have U := usable_any p c d.off _ h1.ptr h1.cont.c3 (some ⟨w.heap.size, 0, none⟩) 1 [s] (nat_one w s) (by simp [maxLen])
  have n1 : Calls Try.prog 33 #[.pointer (some ⟨p, 0, none⟩), .slice (some ⟨w.heap.size, 0, none⟩) 1 1] (w.alloc (.cells #[.string s] 9)) fun e w' => e = .returned (.int .i64 (usableR d.off [s])) ∧ w.alloc (.cells #[.string s] 9) = w' := U
  clear U
  obtain ⟨W, hW⟩ : ∃ W, w.alloc (.cells #[.string s] 9) = W := ⟨_, rfl⟩
  have HB := Lib.hid bA
  have HI := Lib.hid h1
  rw [hW] at n1 HB HI
  clear bA h1
  by_cases hon : d.off = false ∧ okName (nmOf s) = true
  · obtain ⟨ho, hk⟩ := hon
    have hu : usableR d.off [s] = 0 := by rw [ho]; simp [usableR, hk]
    rw [hu] at n1
    have hf := fileR_on ho hk
    have hnone : fnd Fl.nm (nmOf s) d.L = none := by
      rw [hf] at hr
      exact Decidable.byContradiction fun hc => hr (by rw [if_neg hc])
    have hf6 : fileR (nmOf s) d = 6 := by rw [hf, if_pos hnone]
    have hnoE : ∀ e ∈ C, e.nm ≠ nmOf s := by
      rw [fnd_ent h.L, Option.map_eq_none_iff] at hnone
      exact Disk.fnd_none hnone
    have lk : (Instr.lookup 61 (.map (some m)) (.string s) false).run Try.prog W = .ok (.pointer none) W := by
      have := HI.out.isc.map.lookup s (okName_max hk)
      rw [look_none hnoE] at this
      exact this
    rw [hf6]
    have q0 := HI.out.ptr
    have q1 := HI.out.cont.c0
    clear hr hf hf6 hnone hnoE hu ho hk h
    go_enter Try.func37, Try.ntmps37
    go_wp2_with fail
    try rw [hW]
    refine n1.mono ?_
    rintro e1 w1 ⟨rfl, rfl⟩
    clear hW n1
    go_wp2_with fail
    go_ret2
    exact ⟨rfl, HB.out⟩
  · have hu : usableR d.off [s] = fileR (nmOf s) d ∧ fileR (nmOf s) d ≠ 0 := by
      unfold usableR fileR
      by_cases ho : d.off = true
      · rw [if_pos ho, if_pos ho]; exact ⟨rfl, by omega⟩
      · have hk : okName (nmOf s) = false := by
          have ho' : d.off = false := by simpa using ho
          cases e : okName (nmOf s) with
          | false => rfl
          | true => exact absurd ⟨ho', e⟩ hon
        rw [if_neg ho, if_neg ho, if_pos hk, if_neg (by simp [hk])]
        exact ⟨rfl, by omega⟩
    rw [hu.1] at n1
    obtain ⟨r, hr'⟩ : ∃ r, fileR (nmOf s) d = r := ⟨_, rfl⟩
    rw [hr'] at n1 hr ⊢
    have hne : (r == 0) = false := by simpa using hr
    clear hu hon hr hr' h
    go_enter Try.func37, Try.ntmps37
    go_wp2_with fail
    try rw [hW]
    refine n1.mono ?_
    rintro e1 w1 ⟨rfl, rfl⟩
    clear hW n1
    go_wp2_with fail
    go_ret2
    exact ⟨rfl, HB.out⟩
set_option maxRecDepth 100000 in
theorem file_ok {w : World} {p c m : Nat} {C : List Ent} {d : DS} {S : Nat → Prop} (h : InD w p c m C d S) (s : ByteArray) (hr : fileR (nmOf s) d = 0) :
    ∃ x ∈ C, x.nm = nmOf s ∧ Calls Try.prog 37 #[.pointer (some ⟨p, 0, none⟩), .string s] w fun e w' => e = .returned (.tuple #[.pointer (some ⟨x.k, 0, none⟩), .int .i64 0]) ∧ Below w.heap.size w w' := by
  obtain ⟨ho, hk, f, hf⟩ := fileR_ok hr
  rw [fnd_ent h.L] at hf
  obtain ⟨x, hx, _⟩ := Option.map_eq_some_iff.1 hf
  obtain ⟨hxC, hxn⟩ := Disk.fnd_some hx
  refine ⟨x, hxC, hxn, ?_⟩
  have bA : Below w.heap.size w (w.alloc (.cells #[.string s] 9)) := (Below.refl _ _).alloc (Nat.le_refl _) _
  have h1 := h.below bA
  have U := usable_any p c d.off _ h1.ptr h1.cont.c3 (some ⟨w.heap.size, 0, none⟩) 1 [s] (nat_one w s) (by simp [maxLen])
  have n1 : Calls Try.prog 33 #[.pointer (some ⟨p, 0, none⟩), .slice (some ⟨w.heap.size, 0, none⟩) 1 1] (w.alloc (.cells #[.string s] 9)) fun e w' => e = .returned (.int .i64 (usableR d.off [s])) ∧ w.alloc (.cells #[.string s] 9) = w' := U
  clear U
  obtain ⟨W, hW⟩ : ∃ W, w.alloc (.cells #[.string s] 9) = W := ⟨_, rfl⟩
  have HB := Lib.hid bA
  have HI := Lib.hid h1
  rw [hW] at n1 HB HI
  clear bA h1
  have hu : usableR d.off [s] = 0 := by rw [ho]; simp [usableR, hk]
  rw [hu] at n1
  have lk : (Instr.lookup 61 (.map (some m)) (.string s) false).run Try.prog W = .ok (.pointer (some ⟨x.k, 0, none⟩)) W := by
    have := HI.out.isc.map.lookup s (okName_max hk)
    rw [← hxn, look_ent HI.out.isc.up hxC] at this
    exact this
  have q0 := HI.out.ptr
  have q1 := HI.out.cont.c0
  clear hf hx hr hu ho hk h hxn
  go_enter Try.func37, Try.ntmps37
  go_wp2_with fail
  try rw [hW]
  refine n1.mono ?_
  rintro e1 w1 ⟨rfl, rfl⟩
  clear hW n1
  go_wp2_with fail
  go_ret2
  exact ⟨rfl, HB.out⟩
end Go.Proofs.Ythnfpkbpakffgaa
