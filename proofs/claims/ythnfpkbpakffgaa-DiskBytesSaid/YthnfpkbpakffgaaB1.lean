/- Files in memory: what package disk does to one file. -/
import Derived.Test.YthnfpkbpakffgaaB0
import Derived.Laws.OwnMore
namespace Go.Proofs.Ythnfpkbpakffgaa
open Go.RowKit Go.Maps
open Disk (Nm Fl DS Up ins del upd fnd okName okByte used Wf)
theorem retb {a b : Bool} (h : a = b) : Ending.returned (.bool a) = .returned (.bool b) := by rw [h]
theorem byte_le (c : UInt8) : 0 ≤ (c.toNat : Int) ∧ (c.toNat : Int) ≤ 255 := by have := c.toNat_lt; omega
/-- A name's byte. -/
theorem okByte_iff (c : UInt8) : okByte c = true ↔ ((97 ≤ (c.toNat : Int) ∧ (c.toNat : Int) ≤ 122) ∨ (48 ≤ (c.toNat : Int) ∧ (c.toNat : Int) ≤ 57) ∨ (c.toNat : Int) = 45 ∨ (c.toNat : Int) = 46) := by
  have e1 : ∀ k : UInt8, (c == k) = true ↔ (c.toNat : Int) = k.toNat := fun k => by
    rw [beq_iff_eq]
    constructor
    · rintro rfl; rfl
    · intro h; exact UInt8.toNat_inj.1 (by omega)
  unfold okByte
  simp only [Bool.or_eq_true, Bool.and_eq_true, decide_eq_true_eq, e1, UInt8.le_iff_toNat_le]
  simp
  omega
theorem mayInName_any (c : UInt8) (w : World) : Calls Try.prog 29 #[.int .u8 c.toNat] w fun e w' => e = .returned (.bool (okByte c)) ∧ w = w' := by
  have hb : okByte c = decide ((97 ≤ (c.toNat : Int) ∧ (c.toNat : Int) ≤ 122) ∨ (48 ≤ (c.toNat : Int) ∧ (c.toNat : Int) ≤ 57) ∨ (c.toNat : Int) = 45 ∨ (c.toNat : Int) = 46) := by
    rw [Bool.eq_iff_iff, okByte_iff]; simp
  rw [hb]
  clear hb
  obtain ⟨h0, h1⟩ := byte_le c
  generalize (c.toNat : Int) = n at *
  have H : ∀ b : Bool, decide ((97 ≤ n ∧ n ≤ 122) ∨ (48 ≤ n ∧ n ≤ 57) ∨ n = 45 ∨ n = 46) = b → Calls Try.prog 29 #[.int .u8 n] w fun e w' => e = .returned (.bool b) ∧ w = w' := by
    intro b hb
    have HB := Lib.hid hb
    clear hb
    go_enter Try.func29, Try.ntmps29
    go_wp2
    all_goals (go_ret; refine ⟨retb ?_, rfl⟩; rw [← HB.out]; rw [Bool.eq_iff_iff]; simp; try omega)
  exact H _ rfl
theorem mayQuota_any (n : Int) (w : World) : Calls Try.prog 28 #[.int .i64 n] w fun e w' => e = .returned (.bool (decide (0 ≤ n ∧ n ≤ 4194304))) ∧ w = w' := by
  have H : ∀ b : Bool, decide (0 ≤ n ∧ n ≤ 4194304) = b → Calls Try.prog 28 #[.int .i64 n] w fun e w' => e = .returned (.bool b) ∧ w = w' := by
    intro b hb
    have HB := Lib.hid hb
    clear hb
    go_enter Try.func28, Try.ntmps28
    go_wp2
    all_goals (go_ret; refine ⟨retb ?_, rfl⟩; rw [← HB.out]; rw [Bool.eq_iff_iff]; simp; try omega)
  exact H _ rfl
theorem str_at (s : ByteArray) (i : Nat) (h : i < (nmOf s).length) : i < s.size ∧ s[i]'(by rw [size_nm]; exact h) = (nmOf s)[i] := by
  refine ⟨by rw [size_nm]; exact h, ?_⟩
  simp [nmOf, ByteArray.getElem_eq_getElem_data]
set_option maxRecDepth 100000 in
set_option maxHeartbeats 1000000 in
theorem Name_any (s : ByteArray) (w : World) : Calls Try.prog 9 #[.string s] w fun e w' => e = .returned (.bool (okName (nmOf s))) ∧ w = w' := by
  have hl := size_nm s
  by_cases h0 : s.size = 0
  · have hok : okName (nmOf s) = false := by unfold okName; rw [← hl, h0]; rfl
    rw [hok]
    have h0' : ((s.size : Int) == 0) = true := by rw [h0]; rfl
    clear h0 hl hok
    go_enter Try.func9, Try.ntmps9
    go_wp2
    go_ret
    exact ⟨rfl, rfl⟩
  · by_cases h32 : 32 < s.size
    · have hok : okName (nmOf s) = false := by
        unfold okName
        rw [← hl]
        have : decide (s.size ≤ 32) = false := by simpa using h32
        rw [this]
        simp
      rw [hok]
      have h0' : ((s.size : Int) == 0) = false := by simpa using h0
      have h32' : (32 : Int) < s.size := by omega
      clear h0 hl hok h32
      go_enter Try.func9, Try.ntmps9
      go_wp2
      go_ret
      exact ⟨rfl, rfl⟩
    · have h0' : ((s.size : Int) == 0) = false := by simpa using h0
      have h32' : (s.size : Int) ≤ 32 := by omega
      have hok : okName (nmOf s) = (nmOf s).all okByte := by
        unfold okName
        rw [← hl]
        have h1 : decide (s.size ≤ 32) = true := by simpa using h32
        have h2 : decide (1 ≤ s.size) = true := by simp; omega
        rw [h1, h2]
        simp
      obtain ⟨b0, hb0⟩ : ∃ b, (nmOf s).all okByte = b := ⟨_, rfl⟩
      rw [hok, hb0]
      have HB := Lib.hid hb0
      have HL := Lib.hid hl
      clear h0 hl hok h32 hb0
      go_enter Try.func9, Try.ntmps9
      go_wp2_with fail
      go_loop [14] (fun v => ∃ i : Nat, v = .int .i64 i ∧ i ≤ s.size ∧ ((nmOf s).take i).all okByte = true) (fun v => s.size - (intOf v).toNat)
      case atStart => exact ⟨0, rfl, Nat.zero_le _, rfl⟩
      case round =>
        obtain ⟨i, rfl, hi, hall⟩ := hrel
        have HA := Lib.hid hall
        clear hall
        by_cases hlt : i < s.size
        · have hin : i < (nmOf s).length := by have := HL.out; omega
          obtain ⟨_, hat⟩ := str_at s i hin
          have HS := Lib.hid hat
          have HT := Lib.hid (show (nmOf s).take (i + 1) = (nmOf s).take i ++ [s[i]] by rw [List.take_succ_eq_append_getElem hin, hat])
          clear hat
          go_wp2_with fail
          refine (mayInName_any _ _).mono ?_
          rintro e1 w1 ⟨rfl, rfl⟩
          by_cases hb : okByte s[i] = true
          · rw [hb]
            go_wp2_with fail
            go_round
            case rel => exact ⟨i + 1, by go_num, by omega, by rw [HT.out, List.all_append, HA.out]; simp [hb]⟩
            case measure => simp [intOf]; omega
          · have hb' : okByte s[i] = false := by simpa using hb
            rw [hb']
            have HR := Lib.hid (show (nmOf s).all okByte = false by
              rw [List.all_eq_false]
              exact ⟨(nmOf s)[i], List.getElem_mem _, by rw [← HS.out]; simpa using hb'⟩)
            clear hb hb'
            go_wp2_with fail
            go_ret
            exact ⟨retb (HR.out.symm.trans HB.out), rfl⟩
        · obtain rfl : i = s.size := by omega
          have HR := Lib.hid (show (nmOf s).all okByte = true by
            have := HA.out
            rwa [List.take_of_length_le (by have := HL.out; omega)] at this)
          clear HA
          go_wp2_with fail
          go_ret
          exact ⟨retb (HR.out.symm.trans HB.out), rfl⟩
end Go.Proofs.Ythnfpkbpakffgaa
