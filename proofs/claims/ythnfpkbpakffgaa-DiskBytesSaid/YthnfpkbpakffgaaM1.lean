/- A crash, file by file, in plain terms; slices of bytes cut. -/
import Derived.Test.YthnfpkbpakffgaaE2
namespace Go.Proofs.Ythnfpkbpakffgaa
open Go.RowKit
open Disk (Nm Fl DS Up fnd used Wf fileR crashB crashF crashL crashD turnLast turnLast_length)
/-- What a file may be behind a crash. -/
def Crashed (f g : Fl) : Prop := g.nm = f.nm ∧ g.s = g.bs.length ∧ f.s ≤ g.bs.length ∧ g.bs.length ≤ f.bs.length ∧ g.bs.take f.s = f.bs.take f.s ∧ (f.s < g.bs.length → g.bs.take (g.bs.length - 1) = f.bs.take (g.bs.length - 1))
theorem take_turn (t : UInt8) (b : List UInt8) (n : Nat) (h : n ≤ b.length - 1) : (turnLast t b).take n = b.take n := by
  unfold turnLast
  rw [List.take_append_of_le_length (by rw [List.length_take]; omega), List.take_take, Nat.min_eq_left h]
theorem crashF_ok (p : Nat) (t : UInt8) (f : Fl) (h : f.s ≤ f.bs.length) : Crashed f (crashF p t f) := by
  unfold Crashed crashF crashB
  obtain ⟨r, hr⟩ : ∃ r, p % (f.bs.length - f.s + 1) = r := ⟨_, rfl⟩
  have hm : r < f.bs.length - f.s + 1 := by rw [← hr]; exact Nat.mod_lt _ (by omega)
  rw [hr]
  by_cases h0 : 0 < r
  · rw [if_pos h0]
    have hl : (turnLast t (f.bs.take (f.s + r))).length = f.s + r := by rw [turnLast_length, List.length_take]; omega
    have hl2 : (f.bs.take (f.s + r)).length = f.s + r := by rw [List.length_take]; omega
    refine ⟨rfl, rfl, ?_, ?_, ?_, fun _ => ?_⟩
    · show _ ≤ (turnLast t (f.bs.take (f.s + r))).length
      omega
    · show (turnLast t (f.bs.take (f.s + r))).length ≤ _
      omega
    · show (turnLast t (f.bs.take (f.s + r))).take f.s = _
      rw [take_turn _ _ _ (by omega), List.take_take, Nat.min_eq_left (by omega)]
    · show (turnLast t (f.bs.take (f.s + r))).take ((turnLast t (f.bs.take (f.s + r))).length - 1) = f.bs.take ((turnLast t (f.bs.take (f.s + r))).length - 1)
      rw [hl, take_turn _ _ _ (by omega), List.take_take, Nat.min_eq_left (by omega)]
  · rw [if_neg h0]
    have hl2 : (f.bs.take f.s).length = f.s := by rw [List.length_take]; omega
    refine ⟨rfl, rfl, ?_, ?_, ?_, fun hh => ?_⟩
    · show _ ≤ (f.bs.take f.s).length
      omega
    · show (f.bs.take f.s).length ≤ _
      omega
    · show (f.bs.take f.s).take f.s = _
      rw [List.take_take, Nat.min_self]
    · have : f.s < (f.bs.take f.s).length := hh
      omega
theorem same_ok (f : Fl) (h : f.s = f.bs.length) : Crashed f f := ⟨rfl, h, by omega, Nat.le_refl _, rfl, fun _ => rfl⟩
theorem crash_get (ps : List Nat) (ts : List UInt8) (L : List Fl) : ∀ k, (∀ f ∈ L, f.s ≤ f.bs.length) → ∀ (i : Nat) (f : Fl), L[i]? = some f → ∃ g, (crashL ps ts k L)[i]? = some g ∧ Crashed f g := by
  induction L with
  | nil => intro k _ i f h; simp at h
  | cons x L ih =>
    intro k hs i f h
    have hx := hs x (by simp)
    have ht := fun k => ih k fun g hg => hs g (by simp [hg])
    unfold crashL
    cases i with
    | zero =>
      obtain rfl : x = f := by simpa using h
      split
      · exact ⟨_, rfl, crashF_ok _ _ _ hx⟩
      · exact ⟨_, rfl, same_ok _ (by omega)⟩
    | succ i =>
      have h' : L[i]? = some f := by simpa using h
      split
      · obtain ⟨g, e, hc⟩ := ht (k + 1) i f h'
        exact ⟨g, by simpa using e, hc⟩
      · obtain ⟨g, e, hc⟩ := ht k i f h'
        exact ⟨g, by simpa using e, hc⟩
theorem crash_none (L : List Fl) : ∀ k, (∀ f ∈ L, f.s ≤ f.bs.length) → ∀ (i : Nat) (f : Fl), L[i]? = some f → ∃ g, (crashL [] [] k L)[i]? = some g ∧ g.nm = f.nm ∧ g.bs = f.bs.take f.s ∧ g.s = f.s := by
  induction L with
  | nil => intro k _ i f h; simp at h
  | cons x L ih =>
    intro k hs i f h
    have hx := hs x (by simp)
    have ht := fun k => ih k fun g hg => hs g (by simp [hg])
    unfold crashL
    cases i with
    | zero =>
      obtain rfl : x = f := by simpa using h
      split
      · refine ⟨_, rfl, rfl, ?_, ?_⟩
        · show crashB (([] : List Nat).getD k 0) (([] : List UInt8).getD k 0) x = _
          unfold crashB
          simp
        · show (crashB (([] : List Nat).getD k 0) (([] : List UInt8).getD k 0) x).length = _
          unfold crashB
          simp
          omega
      · exact ⟨x, rfl, rfl, by rw [List.take_of_length_le (by omega)], rfl⟩
    | succ i =>
      have h' : L[i]? = some f := by simpa using h
      split
      · obtain ⟨g, e, hc⟩ := ht (k + 1) i f h'
        exact ⟨g, by simpa using e, hc⟩
      · obtain ⟨g, e, hc⟩ := ht k i f h'
        exact ⟨g, by simpa using e, hc⟩
theorem crash_again (ps : List Nat) (ts : List UInt8) (L : List Fl) : ∀ k, (∀ f ∈ L, f.s = f.bs.length) → crashL ps ts k L = L := by
  induction L with
  | nil => intro k _; rfl
  | cons x L ih =>
    intro k hs
    unfold crashL
    have hx := hs x (by simp)
    rw [if_neg (by omega), ih k fun g hg => hs g (by simp [hg])]
/-- What stood before the crash, and what stands behind it. -/
def Rel (live : Bool) (f g : Fl) : Prop := g.nm = f.nm ∧ g.s = g.bs.length ∧ f.s ≤ f.bs.length ∧ f.s ≤ g.bs.length ∧ g.bs.take f.s = f.bs.take f.s ∧ (live = true → g.bs.length ≤ f.bs.length ∧ (f.s < g.bs.length → g.bs.take (g.bs.length - 1) = f.bs.take (g.bs.length - 1)))
/-- The copy as it was looked at: without power, what a crash leaves that keeps nothing. -/
def wasD (d : DS) : DS := if d.off = true then crashD [] [] d else d
theorem wasD_off (d : DS) : (wasD d).off = false := by
  unfold wasD
  split
  · rfl
  · rename_i h; simpa using h
theorem wasD_names (d : DS) : (wasD d).L.map Fl.nm = d.L.map Fl.nm := by
  unfold wasD
  split
  · exact Disk.crashL_names [] [] d.L 0
  · rfl
theorem rel_at {d : DS} (hw : Wf d) (ps : List Nat) (ts : List UInt8) {i : Nat} {f : Fl} (hi : (wasD d).L[i]? = some f) : ∃ g, (crashD ps ts d).L[i]? = some g ∧ Rel (!d.off) f g := by
  have hlen : (wasD d).L.length = d.L.length := by have := congrArg List.length (wasD_names d); simpa using this
  obtain ⟨hlt, _⟩ := List.getElem?_eq_some_iff.1 hi
  obtain ⟨x, hx⟩ : ∃ x, d.L[i]? = some x := ⟨_, List.getElem?_eq_getElem (by omega)⟩
  have hxs := hw.safe x (List.mem_of_getElem? hx)
  obtain ⟨g, hg, c1, c2, c3, c4, c5, c6⟩ := crash_get ps ts d.L 0 hw.safe i x hx
  refine ⟨g, hg, ?_⟩
  unfold wasD at hi
  by_cases ho : d.off = true
  · rw [if_pos ho] at hi
    obtain ⟨y, hy, n1, n2, n3⟩ := crash_none d.L 0 hw.safe i x hx
    have e : f = y := Option.some.inj (hi.symm.trans hy)
    subst e
    refine ⟨by rw [c1, n1], c2, ?_, by omega, ?_, fun hl => ?_⟩
    · rw [n2, n3, List.length_take]; omega
    · rw [n2, n3, List.take_take, Nat.min_self]; exact c5
    · rw [ho] at hl; cases hl
  · rw [if_neg ho] at hi
    have e : f = x := Option.some.inj (hi.symm.trans hx)
    subst e
    exact ⟨c1, c2, hxs, c3, c5, fun _ => ⟨c4, c6⟩⟩
theorem look_at {d : DS} (hw : Wf d) (ho : d.off = false) {i : Nat} {f : Fl} (hi : d.L[i]? = some f) : fileR f.nm d = 0 ∧ readB f.nm d = f.bs ∧ safeN f.nm d = f.s := by
  have hm := List.mem_of_getElem? hi
  have h0 := fileR_mem hw ho hm
  refine ⟨h0, ?_, ?_⟩
  · unfold readB; rw [if_pos h0, hw.up.fnd hm]
  · unfold safeN; rw [if_pos h0, hw.up.fnd hm]
/-- From what stands before the last byte: the bytes behind those that were safe. -/
theorem mid_same {a b : List UInt8} {n : Nat} (h : b.take (b.length - 1) = a.take (b.length - 1)) : (b.drop n).take (b.length - 1 - n) = (a.drop n).take (b.length - 1 - n) := by
  rw [List.take_drop, List.take_drop]
  by_cases hn : n ≤ b.length - 1
  · rw [show n + (b.length - 1 - n) = b.length - 1 by omega, h]
  · rw [show n + (b.length - 1 - n) = n by omega]
    rw [List.drop_eq_nil_of_le (by rw [List.length_take]; omega), List.drop_eq_nil_of_le (by rw [List.length_take]; omega)]
theorem at_part {w : World} {A : Option Addr} {l : List UInt8} (h : At w A l) (lo m : Nat) : At w (A.map (·.add (lo * 1))) ((l.drop lo).take m) := fun h0 => by
  have hl : lo < l.length := by
    rcases Nat.lt_or_ge lo l.length with h1 | h1
    · exact h1
    · rw [List.drop_eq_nil_of_le h1] at h0; simp at h0
  obtain ⟨b, off, rfl, hb, hc⟩ := h (by omega)
  refine ⟨b, off + lo, by simp only [Option.map_some]; rw [add_plain, Nat.mul_one], hb, fun i hi => ?_⟩
  have hi' : i < m ∧ lo + i < l.length := by rw [List.length_take, List.length_drop] at hi; omega
  rw [Nat.add_assoc, hc (lo + i) hi'.2]
  congr 2
  rw [List.getD_eq_getElem?_getD, List.getD_eq_getElem?_getD, List.getElem?_take_of_lt hi'.1, List.getElem?_drop]
theorem size8 (W : World) : (sizeOf (Try.prog.elem 32)).run Try.prog W = .ok 1 W := by kernel_rfl
set_option maxRecDepth 100000 in
theorem reslice {w : World} {A : Option Addr} {l : List UInt8} {c lo hi : Nat} (hA : At w A l) (hc : l.length ≤ c) (h1 : lo ≤ hi) (h2 : hi ≤ l.length) :
    ∃ (A' : Option Addr) (c' : Nat), (∀ W, (Instr.slice 32 (.slice A l.length c) (some (.int .i64 lo)) (some (.int .i64 hi)) none).run Try.prog W = .ok (.slice A' (hi - lo) c') W) ∧ At w A' ((l.drop lo).take (hi - lo)) ∧ ((l.drop lo).take (hi - lo)).length = hi - lo := by
  refine ⟨if c = lo then A else A.map (·.add (lo * 1)), c - lo, fun W => ?_, ?_, by rw [List.length_take, List.length_drop]; omega⟩
  · rw [run_slice_lh W 32 A l.length c Try.underlying32 .i64 .i64 (lo : Int) (hi : Int) (by omega) (by omega) (by omega), size8]
    simp only [Result.andThen, sliced, Int.toNat_natCast]
  · split
    · intro h0
      rw [List.drop_eq_nil_of_le (by omega)] at h0
      simp at h0
    · exact at_part hA lo _
set_option maxRecDepth 100000 in
theorem reslice0 {w : World} {A : Option Addr} {l : List UInt8} {c hi : Nat} (hA : At w A l) (hc : l.length ≤ c) (h2 : hi ≤ l.length) :
    ∃ (A' : Option Addr) (c' : Nat), (∀ W, (Instr.slice 32 (.slice A l.length c) none (some (.int .i64 hi)) none).run Try.prog W = .ok (.slice A' hi c') W) ∧ At w A' (l.take hi) ∧ (l.take hi).length = hi := by
  refine ⟨if c = 0 then A else A.map (·.add (0 * 1)), c, fun W => ?_, ?_, by rw [List.length_take]; omega⟩
  · rw [run_slice_h W 32 A l.length c Try.underlying32 .i64 (hi : Int) (by omega) (by omega), size8]
    simp only [Result.andThen, sliced, Int.toNat_natCast, Nat.sub_zero]
  · split
    · intro h0
      rw [List.length_take] at h0
      omega
    · have := at_part hA 0 hi
      rwa [List.drop_zero] at this
end Go.Proofs.Ythnfpkbpakffgaa
