/- What a call leaves of the files and of the fuse, in plain terms. -/
import Derived.Test.YthnfpkbpakffgaaE1
namespace Go.Proofs.Ythnfpkbpakffgaa
open Disk (Nm Fl DS Up ins del upd fnd okName okByte used Wf fileR createR createD appendR appendD syncR syncD renameR renameD truncR truncD removeR removeD quotaR quotaD fuseR fuseD crashD crashL stepR stepD badSize)
/-- What one of the six steps may answer, and leave. -/
def StepOk (d : DS) (r : Int) (e : DS) : Prop := (d.off = true ∧ r = 8 ∧ e = d) ∨ (d.off = false ∧ r ≠ 0 ∧ r ≠ 8 ∧ e = d) ∨ (d.off = false ∧ ∃ g, r = stepR d ∧ e = stepD d g)
theorem fileR_cases (x : Nm) (d : DS) : (d.off = true ∧ fileR x d = 8) ∨ (d.off = false ∧ (fileR x d = 1 ∨ fileR x d = 6)) ∨ (d.off = false ∧ fileR x d = 0) := by
  unfold fileR
  cases h : d.off with
  | true => exact .inl ⟨rfl, by simp⟩
  | false =>
    refine .inr ?_
    rw [if_neg (by simp)]
    by_cases h2 : okName x = false
    · rw [if_pos h2]; exact .inl ⟨rfl, .inl rfl⟩
    · rw [if_neg h2]
      by_cases h3 : fnd Fl.nm x d.L = none
      · rw [if_pos h3]; exact .inl ⟨rfl, .inr rfl⟩
      · rw [if_neg h3]; exact .inr ⟨rfl, rfl⟩
theorem step_create (x : Nm) (d : DS) : StepOk d (createR x d) (createD x d) := by
  unfold createR createD StepOk
  by_cases h : d.off = true
  · rw [if_pos h, if_pos h]; exact .inl ⟨h, rfl, rfl⟩
  · have h' : d.off = false := by simpa using h
    rw [if_neg h, if_neg h]
    refine .inr ?_
    by_cases h2 : okName x = false
    · rw [if_pos h2, if_pos h2]; exact .inl ⟨h', by omega, by omega, rfl⟩
    · rw [if_neg h2, if_neg h2]
      by_cases h3 : fnd Fl.nm x d.L ≠ none
      · rw [if_pos h3, if_pos h3]; exact .inl ⟨h', by omega, by omega, rfl⟩
      · rw [if_neg h3, if_neg h3]
        by_cases h4 : 512 ≤ d.L.length
        · rw [if_pos h4, if_pos h4]; exact .inl ⟨h', by omega, by omega, rfl⟩
        · rw [if_neg h4, if_neg h4]; exact .inr ⟨h', _, rfl, rfl⟩
theorem step_file (x : Nm) (d : DS) (c : Prop) [Decidable c] (r1 : Int) (h1 : r1 ≠ 0) (h8 : r1 ≠ 8) (g : List Fl → List Fl) :
    StepOk d (if fileR x d ≠ 0 then fileR x d else if c then r1 else stepR d) (if fileR x d ≠ 0 then d else if c then d else stepD d g) := by
  rcases fileR_cases x d with ⟨h, e⟩ | ⟨h, e⟩ | ⟨h, e⟩
  · have hn : fileR x d ≠ 0 := by omega
    rw [if_pos hn, if_pos hn]; exact .inl ⟨h, e, rfl⟩
  · have hn : fileR x d ≠ 0 := by omega
    rw [if_pos hn, if_pos hn]; exact .inr (.inl ⟨h, hn, by omega, rfl⟩)
  · have hn : ¬ fileR x d ≠ 0 := by omega
    rw [if_neg hn, if_neg hn]
    by_cases hc : c
    · rw [if_pos hc, if_pos hc]; exact .inr (.inl ⟨h, h1, h8, rfl⟩)
    · rw [if_neg hc, if_neg hc]; exact .inr (.inr ⟨h, g, rfl, rfl⟩)
theorem step_append (x : Nm) (b : List UInt8) (d : DS) : StepOk d (appendR x b d) (appendD x b d) := step_file x d _ 7 (by omega) (by omega) _
theorem step_trunc (x : Nm) (n : Int) (d : DS) : StepOk d (truncR x n d) (truncD x n d) := step_file x d _ 1 (by omega) (by omega) _
theorem step_plain (x : Nm) (d : DS) (g : List Fl → List Fl) : StepOk d (if fileR x d ≠ 0 then fileR x d else stepR d) (if fileR x d ≠ 0 then d else stepD d g) := by
  have := step_file x d False 1 (by omega) (by omega) g
  simpa using this
theorem step_sync (x : Nm) (d : DS) : StepOk d (syncR x d) (syncD x d) := step_plain x d _
theorem step_remove (x : Nm) (d : DS) : StepOk d (removeR x d) (removeD x d) := step_plain x d _
theorem step_rename (x y : Nm) (d : DS) : StepOk d (renameR x y d) (renameD x y d) := by
  unfold renameR renameD StepOk
  by_cases h : d.off = true
  · rw [if_pos h, if_pos h]; exact .inl ⟨h, rfl, rfl⟩
  · have h' : d.off = false := by simpa using h
    rw [if_neg h, if_neg h]
    refine .inr ?_
    by_cases h2 : okName x = false ∨ okName y = false
    · rw [if_pos h2, if_pos h2]; exact .inl ⟨h', by omega, by omega, rfl⟩
    · rw [if_neg h2, if_neg h2]
      by_cases h3 : fnd Fl.nm x d.L = none
      · rw [if_pos h3, if_pos h3]; exact .inl ⟨h', by omega, by omega, rfl⟩
      · rw [if_neg h3, if_neg h3]; exact .inr ⟨h', _, rfl, rfl⟩
theorem run_step (o : Opp) (d : DS) (h0 : 0 ≤ o.what) (h6 : o.what ≤ 6) : StepOk d (runR o d) (runD o d) := by
  have : o.what = 0 ∨ (o.what = 1 ∨ o.what = 2) ∨ o.what = 3 ∨ o.what = 4 ∨ o.what = 5 ∨ o.what = 6 := by omega
  rcases this with h | h | h | h | h | h
  · have e1 : runR o d = createR (nmOf o.nm) d := by simp [runR, h]
    have e2 : runD o d = createD (nmOf o.nm) d := by simp [runD, h]
    rw [e1, e2]; exact step_create _ _
  · have h9 : ¬ o.what = 0 := by omega
    have e1 : runR o d = appendR (nmOf o.nm) o.b d := by unfold runR; rw [if_neg h9, if_pos h]
    have e2 : runD o d = appendD (nmOf o.nm) o.b d := by unfold runD; rw [if_neg h9, if_pos h]
    rw [e1, e2]; exact step_append _ _ _
  · have e1 : runR o d = syncR (nmOf o.nm) d := by simp [runR, h]
    have e2 : runD o d = syncD (nmOf o.nm) d := by simp [runD, h]
    rw [e1, e2]; exact step_sync _ _
  · have e1 : runR o d = renameR (nmOf o.nm) (nmOf o.tn) d := by simp [runR, h]
    have e2 : runD o d = renameD (nmOf o.nm) (nmOf o.tn) d := by simp [runD, h]
    rw [e1, e2]; exact step_rename _ _ _
  · have e1 : runR o d = truncR (nmOf o.nm) o.n d := by simp [runR, h]
    have e2 : runD o d = truncD (nmOf o.nm) o.n d := by simp [runD, h]
    rw [e1, e2]; exact step_trunc _ _ _
  · have e1 : runR o d = removeR (nmOf o.nm) d := by simp [runR, h]
    have e2 : runD o d = removeD (nmOf o.nm) d := by simp [runD, h]
    rw [e1, e2]; exact step_remove _ _
/-- How the law's own number follows the fuse. -/
def follow (what n : Int) (on : Bool) (r fu : Int) : Int :=
  if what = 8 ∧ r = 0 then n else if (0 ≤ what ∧ what ≤ 6) ∧ on = true ∧ r = 8 then -1 else if (0 ≤ what ∧ what ≤ 6) ∧ r = 0 then (if 0 < fu then fu - 1 else fu)
  else if ¬ (0 ≤ what ∧ what ≤ 6) ∧ what ≠ 7 ∧ what ≠ 8 then -1 else fu
theorem runD_fuse (o : Opp) (d : DS) : (runD o d).fu = follow o.what o.n (!d.off) (runR o d) d.fu := by
  unfold follow
  by_cases hs : 0 ≤ o.what ∧ o.what ≤ 6
  · have h8 : ¬ (o.what = 8 ∧ runR o d = 0) := by omega
    rw [if_neg h8]
    rcases run_step o d hs.1 hs.2 with ⟨h, e1, e2⟩ | ⟨h, e1, e3, e2⟩ | ⟨h, g, e1, e2⟩
    · rw [if_neg (by simp [h]), if_neg (by omega), if_neg (by simp [hs]), e2]
    · rw [if_neg (by omega), if_neg (by omega), if_neg (by simp [hs]), e2]
    · rw [e2]
      by_cases h0 : d.fu = 0
      · have hr : runR o d = 8 := by rw [e1]; unfold stepR; rw [if_pos h0]
        rw [if_pos ⟨hs, by simp [h], hr⟩]
        unfold stepD
        rw [if_pos h0]
      · have hr : runR o d = 0 := by rw [e1]; unfold stepR; rw [if_neg h0]
        rw [if_neg (by omega), if_pos ⟨hs, hr⟩]
        unfold stepD
        rw [if_neg h0]
  · have n0 : o.what ≠ 0 := by omega
    have n12 : ¬ (o.what = 1 ∨ o.what = 2) := by omega
    have n3 : o.what ≠ 3 := by omega
    have n4 : o.what ≠ 4 := by omega
    have n5 : o.what ≠ 5 := by omega
    have n6 : o.what ≠ 6 := by omega
    by_cases h7 : o.what = 7
    · have e2 : runD o d = quotaD o.n d := by simp [runD, h7]
      rw [if_neg (by omega), if_neg (by simp [h7]), if_neg (by simp [h7]), if_neg (by simp [h7]), e2]
      unfold quotaD
      split <;> rfl
    · by_cases h8 : o.what = 8
      · have e1 : runR o d = fuseR o.n d := by simp [runR, h8]
        have e2 : runD o d = fuseD o.n d := by simp [runD, h8]
        rw [e1, e2]
        unfold fuseR fuseD
        by_cases ho : d.off = true
        · rw [if_pos ho, if_pos ho, if_neg (by omega), if_neg (by simp [h8]), if_neg (by simp [h8]), if_neg (by simp [h8])]
        · rw [if_neg ho, if_neg ho]
          by_cases hn : o.n < -1
          · rw [if_pos hn, if_pos hn, if_neg (by omega), if_neg (by simp [h8]), if_neg (by simp [h8]), if_neg (by simp [h8])]
          · rw [if_neg hn, if_neg hn, if_pos ⟨h8, rfl⟩]
      · have e2 : runD o d = crashD o.ps o.b d := by unfold runD; rw [if_neg n0, if_neg n12, if_neg n3, if_neg n4, if_neg n5, if_neg n6, if_neg h7, if_neg h8]
        rw [if_neg (by omega), if_neg (by simp [hs]), if_neg (by simp [hs]), if_pos ⟨hs, h7, h8⟩, e2]
        rfl
theorem runD_err (o : Opp) (d : DS) (h : runR o d ≠ 0) : (runD o d).L = d.L := by
  by_cases hs : 0 ≤ o.what ∧ o.what ≤ 6
  · rcases run_step o d hs.1 hs.2 with ⟨_, e1, e2⟩ | ⟨_, e1, e3, e2⟩ | ⟨_, g, e1, e2⟩
    · rw [e2]
    · rw [e2]
    · rw [e2]
      unfold stepD
      by_cases h0 : d.fu = 0
      · rw [if_pos h0]
      · exact absurd (by rw [e1]; unfold stepR; rw [if_neg h0]) h
  · have n0 : o.what ≠ 0 := by omega
    have n12 : ¬ (o.what = 1 ∨ o.what = 2) := by omega
    have n3 : o.what ≠ 3 := by omega
    have n4 : o.what ≠ 4 := by omega
    have n5 : o.what ≠ 5 := by omega
    have n6 : o.what ≠ 6 := by omega
    by_cases h7 : o.what = 7
    · have e2 : runD o d = quotaD o.n d := by simp [runD, h7]
      rw [e2]
      unfold quotaD
      split <;> rfl
    · by_cases h8 : o.what = 8
      · have e2 : runD o d = fuseD o.n d := by simp [runD, h8]
        rw [e2]
        unfold fuseD
        split
        · rfl
        · split <;> rfl
      · exact absurd (by unfold runR; rw [if_neg n0, if_neg n12, if_neg n3, if_neg n4, if_neg n5, if_neg n6, if_neg h7, if_neg h8]) h
/-- The two tests that the law makes of the fuse. -/
theorem run_burnt (o : Opp) (d : DS) (hs : 0 ≤ o.what ∧ o.what ≤ 6) (hon : d.off = false) (hr : runR o d = 8) : d.fu = 0 := by
  rcases run_step o d hs.1 hs.2 with ⟨h, e1, e2⟩ | ⟨h, e1, e3, e2⟩ | ⟨h, g, e1, e2⟩
  · rw [hon] at h; cases h
  · exact absurd hr e3
  · rw [e1] at hr
    unfold stepR at hr
    by_cases h0 : d.fu = 0
    · exact h0
    · rw [if_neg h0] at hr; omega
theorem run_kept (o : Opp) (d : DS) (hs : 0 ≤ o.what ∧ o.what ≤ 6) (hr : runR o d = 0) : d.fu ≠ 0 := by
  rcases run_step o d hs.1 hs.2 with ⟨h, e1, e2⟩ | ⟨h, e1, e3, e2⟩ | ⟨h, g, e1, e2⟩
  · omega
  · exact absurd hr e1
  · rw [e1] at hr
    unfold stepR at hr
    intro h0
    rw [if_pos h0] at hr
    omega
end Go.Proofs.Ythnfpkbpakffgaa
