/- The calls, among several disks. -/
import Derived.Test.YthnfpkbpakffgaaD3
namespace Go.Proofs.Ythnfpkbpakffgaa
open Go.RowKit Go.Maps Go.Sort Go.Shelf
open Disk (Nm Fl DS Up ins del upd fnd okName okByte used Wf fileR createR createD appendR appendD syncR syncD renameR renameD truncR truncD removeR removeD quotaR quotaD fuseR fuseD crashD)
section
variable {w : World} {ds : List (Nat × DS)} {K : Nat → Prop} {i p : Nat} {d : DS}
/-- What a call makes of one disk among several. -/
def Turned (w : World) (ds : List (Nat × DS)) (K : Nat → Prop) (i p : Nat) (d : DS) (w' : World) : Prop := Many w' (ds.set i (p, d)) K ∧ Kept K w w'
theorem kCreate (h : Many w ds K) (hi : ds[i]? = some (p, d)) (s : ByteArray) : Calls Try.prog 13 #[.pointer (some ⟨p, 0, none⟩), .string s] w fun r w' => r = .returned (.int .i64 (createR (nmOf s) d)) ∧ Turned w ds K i p (createD (nmOf s) d) w' := by
  obtain ⟨S, h1, h2, h3⟩ := h.wrote hi
  exact (Create_any h1 s).mono fun r w' ⟨e, hw⟩ => ⟨e, h3 _ _ hw⟩
theorem kAppend (h : Many w ds K) (hi : ds[i]? = some (p, d)) (s : ByteArray) (A : Option Addr) (n cap : Nat) (b : List UInt8) (hA : At w A b) (hn : b.length = n) (hz : A = none → cap = 0) (hmax : n ≤ maxLen) (hK : 0 < b.length → ∀ bb off, A = some ⟨bb, off, none⟩ → K bb) :
    Calls Try.prog 14 #[.pointer (some ⟨p, 0, none⟩), .string s, .slice A n cap] w fun r w' => r = .returned (.int .i64 (appendR (nmOf s) b d)) ∧ Turned w ds K i p (appendD (nmOf s) b d) w' := by
  obtain ⟨S, h1, h2, h3⟩ := h.wrote hi
  exact (Append_any h1 s A n cap b hA hn hz hmax fun h0 bb off e => h2 bb (hK h0 bb off e)).mono fun r w' ⟨e, hw⟩ => ⟨e, h3 _ _ hw⟩
theorem kSync (h : Many w ds K) (hi : ds[i]? = some (p, d)) (s : ByteArray) : Calls Try.prog 15 #[.pointer (some ⟨p, 0, none⟩), .string s] w fun r w' => r = .returned (.int .i64 (syncR (nmOf s) d)) ∧ Turned w ds K i p (syncD (nmOf s) d) w' := by
  obtain ⟨S, h1, h2, h3⟩ := h.wrote hi
  exact (Sync_any h1 s).mono fun r w' ⟨e, hw⟩ => ⟨e, h3 _ _ hw⟩
theorem kRename (h : Many w ds K) (hi : ds[i]? = some (p, d)) (s t : ByteArray) : Calls Try.prog 27 #[.pointer (some ⟨p, 0, none⟩), .string s, .string t] w fun r w' => r = .returned (.int .i64 (renameR (nmOf s) (nmOf t) d)) ∧ Turned w ds K i p (renameD (nmOf s) (nmOf t) d) w' := by
  obtain ⟨S, h1, h2, h3⟩ := h.wrote hi
  exact (Rename_any h1 s t).mono fun r w' ⟨e, hw⟩ => ⟨e, h3 _ _ hw⟩
theorem kTruncate (h : Many w ds K) (hi : ds[i]? = some (p, d)) (s : ByteArray) (n : Int) : Calls Try.prog 51 #[.pointer (some ⟨p, 0, none⟩), .string s, .int .i64 n] w fun r w' => r = .returned (.int .i64 (truncR (nmOf s) n d)) ∧ Turned w ds K i p (truncD (nmOf s) n d) w' := by
  obtain ⟨S, h1, h2, h3⟩ := h.wrote hi
  exact (Truncate_any h1 s n).mono fun r w' ⟨e, hw⟩ => ⟨e, h3 _ _ hw⟩
theorem kRemove (h : Many w ds K) (hi : ds[i]? = some (p, d)) (s : ByteArray) : Calls Try.prog 16 #[.pointer (some ⟨p, 0, none⟩), .string s] w fun r w' => r = .returned (.int .i64 (removeR (nmOf s) d)) ∧ Turned w ds K i p (removeD (nmOf s) d) w' := by
  obtain ⟨S, h1, h2, h3⟩ := h.wrote hi
  exact (Remove_any h1 s).mono fun r w' ⟨e, hw⟩ => ⟨e, h3 _ _ hw⟩
theorem kQuota (h : Many w ds K) (hi : ds[i]? = some (p, d)) (n : Int) : Calls Try.prog 54 #[.pointer (some ⟨p, 0, none⟩), .int .i64 n] w fun r w' => r = .returned (.int .i64 (quotaR n)) ∧ Turned w ds K i p (quotaD n d) w' := by
  obtain ⟨S, h1, h2, h3⟩ := h.wrote hi
  exact (Quota_any h1 n).mono fun r w' ⟨e, hw⟩ => ⟨e, h3 _ _ hw⟩
theorem kFuse (h : Many w ds K) (hi : ds[i]? = some (p, d)) (n : Int) (hn : n ≤ 9223372036854775807) : Calls Try.prog 30 #[.pointer (some ⟨p, 0, none⟩), .int .i64 n] w fun r w' => r = .returned (.int .i64 (fuseR n d)) ∧ Turned w ds K i p (fuseD n d) w' := by
  obtain ⟨S, h1, h2, h3⟩ := h.wrote hi
  exact (Fuse_any h1 n hn).mono fun r w' ⟨e, hw⟩ => ⟨e, h3 _ _ hw⟩
theorem kCrash (h : Many w ds K) (hi : ds[i]? = some (p, d)) (A : Option Addr) (n cap : Nat) (ps : List Nat) (hA : PAt w A ps) (hn : ps.length = n) (hm : n ≤ maxLen) (hK : 0 < ps.length → ∀ bb off, A = some ⟨bb, off, none⟩ → K bb)
    (A' : Option Addr) (n' cap' : Nat) (ts : List UInt8) (hA' : At w A' ts) (hn' : ts.length = n') (hm' : n' ≤ maxLen) (hK' : 0 < ts.length → ∀ bb off, A' = some ⟨bb, off, none⟩ → K bb) :
    Calls Try.prog 17 #[.pointer (some ⟨p, 0, none⟩), .slice A n cap, .slice A' n' cap'] w fun r w' => r = .returned (.int .i64 0) ∧ Turned w ds K i p (crashD ps ts d) w' := by
  obtain ⟨S, h1, h2, h3⟩ := h.wrote hi
  exact (Crash_any h1 A n cap ps hA hn hm (fun h0 bb off e => h2 bb (hK h0 bb off e)) A' n' cap' ts hA' hn' hm' fun h0 bb off e => h2 bb (hK' h0 bb off e)).mono fun r w' ⟨e, hw⟩ => ⟨e, h3 _ _ hw⟩
theorem kCopy (h : Many w ds K) (hi : ds[i]? = some (p, d)) : Calls Try.prog 12 #[.pointer (some ⟨p, 0, none⟩)] w fun r w' => ∃ q, r = .returned (.pointer (some ⟨q, 0, none⟩)) ∧ Many w' (ds ++ [(q, d)]) K ∧ Below w.heap.size w w' := by
  obtain ⟨S, h1, _⟩ := h.isD hi
  exact (Copy_any h1).mono fun r w' ⟨q, T, e, g1, g2, g3⟩ => ⟨q, e, h.add g3 g1 g2, g3⟩
theorem kOn (h : Many w ds K) (hi : ds[i]? = some (p, d)) : Calls Try.prog 23 #[.pointer (some ⟨p, 0, none⟩)] w fun r w' => r = .returned (.bool (!d.off)) ∧ w = w' := by
  obtain ⟨S, ⟨c, m, C, h1⟩, _⟩ := h.isD hi
  exact On_any p c d.off w h1.ptr h1.cont.c3
theorem kUsed (h : Many w ds K) (hi : ds[i]? = some (p, d)) : Calls Try.prog 26 #[.pointer (some ⟨p, 0, none⟩)] w fun r w' => r = .returned (.int .i64 (if d.off = true then 0 else used d.L : Nat)) ∧ Below w.heap.size w w' := by
  obtain ⟨S, h1, _⟩ := h.isD hi
  exact Used_any h1
theorem kNames (h : Many w ds K) (hi : ds[i]? = some (p, d)) : Calls Try.prog 24 #[.pointer (some ⟨p, 0, none⟩)] w fun e w' => ∃ v, e = .returned v ∧ w'.ownsRow w.heap.size 9 1 v (if d.off = true then [] else d.L.map Fl.nm).length ((if d.off = true then [] else d.L.map Fl.nm).map encStr) ∧ Below w.heap.size w w' := by
  obtain ⟨S, h1, _⟩ := h.isD hi
  exact Names_any h1
/-- What Read gives of a file: its bytes, or none and an error. -/
def readB (x : Nm) (d : DS) : List UInt8 := if fileR x d = 0 then match fnd Fl.nm x d.L with | some f => f.bs | none => [] else []
def safeN (x : Nm) (d : DS) : Nat := if fileR x d = 0 then match fnd Fl.nm x d.L with | some f => f.s | none => 0 else 0
theorem readB_len {x : Nm} {d : DS} (h : Wf d) : (readB x d).length ≤ 4194304 ∧ safeN x d ≤ (readB x d).length := by
  unfold readB safeN
  by_cases h0 : fileR x d = 0
  · rw [if_pos h0, if_pos h0]
    cases e : fnd Fl.nm x d.L with
    | none => exact ⟨Nat.zero_le _, Nat.le_refl _⟩
    | some f =>
      have hm := (Disk.fnd_some e).1
      exact ⟨Nat.le_trans (Disk.used_mem hm) h.use, h.safe f hm⟩
  · rw [if_neg h0, if_neg h0]; exact ⟨Nat.zero_le _, Nat.le_refl _⟩
theorem kRead (h : Many w ds K) (hi : ds[i]? = some (p, d)) (s : ByteArray) : Calls Try.prog 20 #[.pointer (some ⟨p, 0, none⟩), .string s] w fun e w' => ∃ v, e = .returned (.tuple #[v, .int .i64 (fileR (nmOf s) d)]) ∧ w'.ownsRow w.heap.size 5 1 v (readB (nmOf s) d).length (cellsB (readB (nmOf s) d)) ∧ Below w.heap.size w w' := by
  obtain ⟨S, h1, _⟩ := h.isD hi
  by_cases hr : fileR (nmOf s) d = 0
  · obtain ⟨_, _, f, hf⟩ := fileR_ok hr
    refine (Read_ok h1 s f hr hf).mono fun e w' ⟨v, e1, e2, e3⟩ => ⟨v, by rw [hr]; exact e1, ?_, e3⟩
    unfold readB
    rw [if_pos hr, hf]
    exact e2
  · refine (Read_err h1 s hr).mono fun e w' ⟨e1, e3⟩ => ⟨_, e1, ?_, e3⟩
    unfold readB
    rw [if_neg hr]
    exact ⟨rfl, .inl ⟨rfl, rfl⟩⟩
theorem kSafe (h : Many w ds K) (hi : ds[i]? = some (p, d)) (s : ByteArray) : Calls Try.prog 25 #[.pointer (some ⟨p, 0, none⟩), .string s] w fun e w' => e = .returned (.tuple #[.int .i64 (safeN (nmOf s) d), .int .i64 (fileR (nmOf s) d)]) ∧ Below w.heap.size w w' := by
  obtain ⟨S, h1, _⟩ := h.isD hi
  by_cases hr : fileR (nmOf s) d = 0
  · obtain ⟨_, _, f, hf⟩ := fileR_ok hr
    refine (Safe_ok h1 s f hr hf).mono fun e w' ⟨e1, e3⟩ => ⟨?_, e3⟩
    unfold safeN
    rw [if_pos hr, hf, hr]
    exact e1
  · refine (Safe_err h1 s hr).mono fun e w' ⟨e1, e3⟩ => ⟨?_, e3⟩
    unfold safeN
    rw [if_neg hr]
    exact e1
end
end Go.Proofs.Ythnfpkbpakffgaa
