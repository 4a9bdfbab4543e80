/- DiskBytes: a disk of two files; rows of bytes that came in. -/
import Derived.Test.YthnfpkbpakffgaaM1
import Derived.BigQuiet
namespace Go.Proofs.Ythnfpkbpakffgaa
open Go.RowKit
open Disk (Nm Fl DS Up ins del upd fnd okName used Wf fileR newD createR createD appendR appendD syncR syncD renameR renameD stepR stepD)
def xn (j : Nat) : Nm := [97, UInt8.ofNat (48 + j)]
theorem ten {P : Nat → Prop} (h : P 0 ∧ P 1 ∧ P 2 ∧ P 3 ∧ P 4 ∧ P 5 ∧ P 6 ∧ P 7 ∧ P 8 ∧ P 9) (j : Nat) (hj : j < 10) : P j := by
  obtain ⟨h0, h1, h2, h3, h4, h5, h6, h7, h8, h9⟩ := h
  have : j = 0 ∨ j = 1 ∨ j = 2 ∨ j = 3 ∨ j = 4 ∨ j = 5 ∨ j = 6 ∨ j = 7 ∨ j = 8 ∨ j = 9 := by omega
  rcases this with rfl | rfl | rfl | rfl | rfl | rfl | rfl | rfl | rfl | rfl <;> assumption
theorem xn_ok : ∀ j, j < 10 → okName (xn j) = true := ten (P := fun j => okName (xn j) = true) (by refine ⟨?_, ?_, ?_, ?_, ?_, ?_, ?_, ?_, ?_, ?_⟩ <;> kernel_rfl)
theorem xn_lt : ∀ j, j < 10 → xn j < ([122] : Nm) := ten (P := fun j => xn j < ([122] : Nm)) (by refine ⟨?_, ?_, ?_, ?_, ?_, ?_, ?_, ?_, ?_, ?_⟩ <;> decide)
theorem xn_ne (j : Nat) : xn j ≠ ([122] : Nm) := by intro h; simp [xn] at h
theorem zn_ok : okName ([122] : Nm) = true := by kernel_rfl
def DB (j : Nat) (W : List UInt8) (s : Nat) (O : List UInt8) : DS := ⟨[⟨xn j, W, s⟩, ⟨[122], O, 0⟩], 400, -1, false⟩
theorem db_fnd (j : Nat) (W : List UInt8) (s : Nat) (O : List UInt8) : fnd Fl.nm (xn j) (DB j W s O).L = some ⟨xn j, W, s⟩ := by simp [fnd, DB]
theorem db_file {j : Nat} (hj : j < 10) (W : List UInt8) (s : Nat) (O : List UInt8) : fileR (xn j) (DB j W s O) = 0 := by
  unfold fileR
  rw [db_fnd, if_neg (by simp [DB]), if_neg (by simp [xn_ok j hj]), if_neg (by simp)]
theorem db_read {j : Nat} (hj : j < 10) (W : List UInt8) (s : Nat) (O : List UInt8) : readB (xn j) (DB j W s O) = W := by
  unfold readB
  rw [if_pos (db_file hj W s O), db_fnd]
theorem db_used (j : Nat) (W : List UInt8) (s : Nat) (O : List UInt8) : used (DB j W s O).L = W.length + O.length := by simp [DB, used]
theorem db_step (j : Nat) (W : List UInt8) (s : Nat) (O : List UInt8) : stepR (DB j W s O) = 0 := by unfold stepR DB; simp
theorem db_stepD (j : Nat) (W : List UInt8) (s : Nat) (O : List UInt8) (g : List Fl → List Fl) : stepD (DB j W s O) g = ⟨g [⟨xn j, W, s⟩, ⟨[122], O, 0⟩], 400, -1, false⟩ := by unfold stepD DB; simp
theorem db_app {j : Nat} (hj : j < 10) (W : List UInt8) (s : Nat) (O b : List UInt8) : appendR (xn j) b (DB j W s O) = (if W.length + O.length + b.length ≤ 400 then 0 else 7) ∧ appendD (xn j) b (DB j W s O) = (if W.length + O.length + b.length ≤ 400 then DB j (W ++ b) s O else DB j W s O) := by
  have hn : ¬ (fileR (xn j) (DB j W s O) ≠ 0) := by simp [db_file hj]
  unfold appendR appendD
  rw [if_neg hn, if_neg hn, db_used, db_step, db_stepD]
  have hq : (DB j W s O).q = 400 := rfl
  rw [hq]
  by_cases h : W.length + O.length + b.length ≤ 400
  · have hc : ¬ ((400 : Int) - ((W.length + O.length : Nat) : Int) < (b.length : Int)) := by omega
    rw [if_neg hc, if_neg hc, if_pos h, if_pos h]
    exact ⟨rfl, by simp [Disk.appendG, upd, Disk.appendF, DB, (xn_ne j).symm]⟩
  · have hc : (400 : Int) - ((W.length + O.length : Nat) : Int) < (b.length : Int) := by omega
    rw [if_pos hc, if_pos hc, if_neg h, if_neg h]
    exact ⟨rfl, rfl⟩
theorem db_sync {j : Nat} (hj : j < 10) (W : List UInt8) (s : Nat) (O : List UInt8) : syncR (xn j) (DB j W s O) = 0 ∧ syncD (xn j) (DB j W s O) = DB j W W.length O := by
  have hn : ¬ (fileR (xn j) (DB j W s O) ≠ 0) := by simp [db_file hj]
  unfold syncR syncD
  rw [if_neg hn, if_neg hn, db_step, db_stepD]
  exact ⟨rfl, by simp [Disk.syncG, upd, Disk.syncF, DB, (xn_ne j).symm]⟩
theorem db_ren {j k : Nat} (hj : j < 10) (hk : k < 10) (W : List UInt8) (s : Nat) (O : List UInt8) : renameR (xn j) (xn k) (DB j W s O) = 0 ∧ renameD (xn j) (xn k) (DB j W s O) = DB k W s O := by
  unfold renameR renameD
  have ho : (DB j W s O).off = false := rfl
  have h1 : ¬ (false = true) := by simp
  have h2 : ¬ (okName (xn j) = false ∨ okName (xn k) = false) := by simp [xn_ok j hj, xn_ok k hk]
  have h3 : ¬ ((some ⟨xn j, W, s⟩ : Option Fl) = none) := by simp
  rw [ho, if_neg h1, if_neg h1, if_neg h2, if_neg h2, db_fnd, if_neg h3, if_neg h3, db_step, db_stepD]
  refine ⟨rfl, ?_⟩
  have hf : fnd Fl.nm (xn j) [⟨xn j, W, s⟩, ⟨[122], O, 0⟩] = some (⟨xn j, W, s⟩ : Fl) := by simp [fnd]
  unfold Disk.renameG
  rw [hf]
  have hd : del Fl.nm (xn k) (del Fl.nm (xn j) [⟨xn j, W, s⟩, ⟨[122], O, 0⟩]) = [(⟨[122], O, 0⟩ : Fl)] := by simp [del, (xn_ne j).symm, (xn_ne k).symm]
  simp only [hd]
  unfold ins
  rw [if_pos (show xn k < ([122] : Nm) from xn_lt k hk)]
  rfl
theorem first_1 : createR (nmOf ⟨#[97, 48]⟩) (newD 400) = 0 ∧ createR (nmOf ⟨#[122]⟩) (createD (nmOf ⟨#[97, 48]⟩) (newD 400)) = 0 ∧ createD (nmOf ⟨#[122]⟩) (createD (nmOf ⟨#[97, 48]⟩) (newD 400)) = DB 0 [] 0 [] := by refine ⟨?_, ?_, ?_⟩ <;> kernel_rfl
theorem first_2 (b : List UInt8) : appendR (nmOf ⟨#[122]⟩) b (DB 0 [] 0 []) = (if b.length ≤ 400 then 0 else 7) ∧ appendD (nmOf ⟨#[122]⟩) b (DB 0 [] 0 []) = (if b.length ≤ 400 then DB 0 [] 0 b else DB 0 [] 0 []) := by
  have hn : nmOf ⟨#[122]⟩ = ([122] : Nm) := rfl
  have hf : fileR ([122] : Nm) (DB 0 [] 0 []) = 0 := by kernel_rfl
  have hn2 : ¬ (fileR ([122] : Nm) (DB 0 [] 0 []) ≠ 0) := by simp [hf]
  rw [hn]
  unfold appendR appendD
  rw [if_neg hn2, if_neg hn2, db_used, db_step, db_stepD]
  have hq : (DB 0 [] 0 []).q = 400 := rfl
  have hl : ([] : List UInt8).length + ([] : List UInt8).length = 0 := rfl
  rw [hq, hl]
  by_cases h : b.length ≤ 400
  · have hc : ¬ ((400 : Int) - ((0 : Nat) : Int) < (b.length : Int)) := by omega
    rw [if_neg hc, if_neg hc, if_pos h, if_pos h]
    exact ⟨rfl, by simp [Disk.appendG, upd, Disk.appendF, DB, xn_ne 0]⟩
  · have hc : (400 : Int) - ((0 : Nat) : Int) < (b.length : Int) := by omega
    rw [if_pos hc, if_pos hc, if_neg h, if_neg h]
    exact ⟨rfl, rfl⟩
theorem nm_x0 : nmB (xn 0) = ⟨#[97, 48]⟩ := rfl
/-- A row of rows of bytes in memory. -/
def LAt (w : World) (A : Option Addr) (n : Nat) (f : Nat → Option Addr × Nat × List UInt8) : Prop := 0 < n → ∃ b off, A = some ⟨b, off, none⟩ ∧ b < w.heap.size ∧ ∀ i, i < n → w.cell? ⟨b, off + i, none⟩ = some (.slice (f i).1 (f i).2.2.length (f i).2.1) ∧ At w (f i).1 (f i).2.2 ∧ ((f i).1 = none → (f i).2.1 = 0) ∧ (f i).2.2.length ≤ 140737488355328
theorem Many.grown {w w' : World} {ds : List (Nat × DS)} {K K' T : Nat → Prop} (h : Many w ds K) (hb : But T w w') (ht : ∀ b, T b → K b) (hk : ∀ b, K' b → K b ∨ (w.heap.size ≤ b ∧ b < w'.heap.size)) : Many w' ds K' := by
  obtain ⟨O, h1, h2⟩ := h
  refine ⟨fun b => if b < w.heap.size then O b else none, fun i p d hi => ?_, fun b hb' => ?_⟩
  · have hd := h1 i p d hi
    have hd2 : IsD w' p d (fun b => O b = some i) := hd.but hb fun b hb' hT => by
      have h3 := (h2 b (ht b hT)).1
      have h4 : O b = some i := hb'
      rw [h3] at h4
      cases h4
    refine hd2.mono (fun b hb' => ?_) (fun b hb' => ?_)
    · show (if b < w.heap.size then O b else none) = some i
      rw [if_pos (hd.lt b hb')]
      exact hb'
    · have hb2 : (if b < w.heap.size then O b else none) = some i := hb'
      by_cases hlt : b < w.heap.size
      · exact Nat.lt_of_lt_of_le hlt hb.size
      · rw [if_neg hlt] at hb2; cases hb2
  · show (if b < w.heap.size then O b else none) = none ∧ _
    rcases hk b hb' with h | ⟨h, h3⟩
    · rw [if_pos (h2 b h).2]
      exact ⟨(h2 b h).1, Nat.lt_of_lt_of_le (h2 b h).2 hb.size⟩
    · rw [if_neg (by omega)]
      exact ⟨rfl, h3⟩
end Go.Proofs.Ythnfpkbpakffgaa
