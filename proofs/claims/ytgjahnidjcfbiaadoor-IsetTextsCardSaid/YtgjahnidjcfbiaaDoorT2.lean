/- The document's num; its Text. -/
import Derived.Test.YtgjahnidjcfbiaaDoorT1
import Derived.IntWalk
namespace Go.Proofs.YtgjahnidjcfbiaaDoor
open Go.RowKit Go.Shelf Go.Lib
open Iset (nf has NF Res Wide textL textsL textP dec endT pre KL)
theorem conv_one (x : Int) (c : UInt8) (hx : x = (c.toNat : Int)) (w : World) : (convert 50 9 (.slice (some ⟨w.heap.size, 0, none⟩) 1 1)).run Tryd.prog (w.alloc (.cells #[.int .u8 x] 5)) = .ok (.string ⟨#[c]⟩) (w.alloc (.cells #[.int .u8 x] 5)) := by
  subst hx
  exact run_convert_bytes_back (w.alloc (.cells #[.int .u8 (c.toNat : Int)] 5)) _ _ _ ⟨w.heap.size, 0, none⟩ 1 [c] Tryd.underlying50 Tryd.underlying5 Tryd.underlying9 (fun j hj => by
    match j, hj with
    | 0, _ => rw [add_plain]; go_simp)
theorem digit_facts (m : Nat) : ∃ d : Nat, d < 10 ∧ (m : Int) % 10 = (d : Int) ∧ m % 10 = d ∧ (48 + (d : Int)) = ((UInt8.ofNat (48 + d)).toNat : Int) := by
  refine ⟨m % 10, Nat.mod_lt _ (by omega), by omega, rfl, ?_⟩
  rw [Iset.dig_num _ (Nat.mod_lt _ (by omega))]
  omega
set_option maxRecDepth 100000 in
set_option maxHeartbeats 4000000 in
theorem docNum_any (n : Nat) (hn : (n : Int) < 18446744073709551616) (w : World) :
    Calls Tryd.prog 33 #[.int .u64 n] w fun e w' => ∃ r : ByteArray, e = .returned (.string r) ∧ r.data.toList = decDigits n ∧ Below w.heap.size w w' := by
  have HP := Lib.hid (Iset.pre_start n)
  have HLN : Hid ((decDigits n).length ≤ 20) := Lib.hid (by have := dec_len (n : Int) (by omega) hn; rwa [dec, Int.toNat_natCast] at this)
  obtain ⟨d, hd, hr, he, hc⟩ := digit_facts n
  rw [he] at HP
  obtain ⟨c, hcc⟩ : ∃ c : UInt8, UInt8.ofNat (48 + d) = c := ⟨_, rfl⟩
  rw [hcc] at HP hc
  have HC := Lib.hid (conv_one (48 + (d : Int)) _ hc w)
  have w1 : IntKind.u64.wrap (48 + (d : Int)) = 48 + (d : Int) := by rw [IntWalk.u64_in]; constructor <;> omega
  have w2 : IntKind.u8.wrap (48 + (d : Int)) = 48 + (d : Int) := by rw [IntWalk.u8_in]; constructor <;> omega
  have hcv := HC.out
  have HW := Lib.hid (fun (x : Nat) (hx : x ≤ n) => (by rw [IntWalk.u64_in]; omega : IntKind.u64.wrap (x : Int) = (x : Int)))
  clear hc he hcc hn
  go_enter Tryd.func33, Tryd.ntmps33
  go_wp2_with fail
  clear hcv hr w1 w2 hd
  go_loopw [0, 3] (fun a s wr => ∃ (m : Nat) (r : ByteArray), a = .int .u64 m ∧ s = .string r ∧ pre m ++ r.data.toList = decDigits n ∧ m ≤ n ∧ Below w.heap.size w wr) (fun a _ _ => (intOf a).toNat)
  case atStart => exact ⟨n, _, rfl, rfl, HP.out.symm, Nat.le_refl _, (Below.refl _ _).alloc (Nat.le_refl _) _⟩
  case round =>
    obtain ⟨m, r, rfl, rfl, hp, hm, hb⟩ := hrel
    have HR := Lib.hid hp
    have HB := Lib.hid hb
    have hs := hb.size
    have hrs : r.size ≤ 20 := by
      have h1 := HLN.out
      rw [← hp, List.length_append] at h1
      have : r.data.toList.length = r.size := by simp
      omega
    clear hp hb
    by_cases hlt : m < 10
    · have HZ := Lib.hid (show r.data.toList = decDigits n by rw [← HR.out, Iset.pre_small hlt, List.nil_append])
      go_wp2
      go_ret
      exact ⟨_, rfl, HZ.out, HB.out⟩
    · have HN := Lib.hid (Iset.pre_next hlt)
      obtain ⟨m2, hm2⟩ : ∃ x : Nat, m / 10 = x := ⟨_, rfl⟩
      have hq : (m : Int) / 10 = (m2 : Int) := by omega
      have hlt2 : m2 < m := by omega
      obtain ⟨d2, hd2, hr2, he2, hc2⟩ := digit_facts m2
      rw [hm2, he2] at HN
      obtain ⟨c2, hcc2⟩ : ∃ c : UInt8, UInt8.ofNat (48 + d2) = c := ⟨_, rfl⟩
      rw [hcc2] at HN hc2
      have HC2 := Lib.hid (conv_one (48 + (d2 : Int)) _ hc2 wr)
      have w3 : IntKind.u64.wrap (48 + (d2 : Int)) = 48 + (d2 : Int) := by rw [IntWalk.u64_in]; constructor <;> omega
      have w4 : IntKind.u8.wrap (48 + (d2 : Int)) = 48 + (d2 : Int) := by rw [IntWalk.u8_in]; constructor <;> omega
      have hcv2 := HC2.out
      have w5 := HW.out m2 (by omega)
      have hr3 : (m2 : Int).tmod 10 = (d2 : Int) := by rw [Int.tmod_eq_emod_of_nonneg (by omega)]; exact hr2
      clear hc2 he2 hm2 hcc2
      go_wp2
      exact ⟨⟨m2, _, rfl, rfl, by rw [← HR.out, HN.out]; simp, by omega, HB.out.alloc hs _⟩, by simp [intOf]; omega⟩
end Go.Proofs.YtgjahnidjcfbiaaDoor
