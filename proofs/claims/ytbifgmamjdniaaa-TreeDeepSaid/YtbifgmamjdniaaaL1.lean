/- TreeDeep's walk. -/
import Derived.Test.YtbifgmamjdniaaaC9
namespace Go.Proofs.Ytbifgmamjdniaaa
open Go.RowKit Go.Maps
open Itree (E T dep endT bs ord sz nodes lean rotL rotR bal ins del hasT first AVL Srt eachL over)
theorem tmod_ok (x : Int) : 0 ≤ (IntKind.u64.wrap x).tmod 1024 ∧ (IntKind.u64.wrap x).tmod 1024 ≤ 1023 := by
  rw [IntKind.wrap_u64]
  have h : 0 ≤ x % 18446744073709551616 := Int.emod_nonneg _ (by decide)
  rw [Int.tmod_eq_emod_of_nonneg h]
  omega
theorem At_any (i mx ad : Int) (b1 b2 : Nat) (w : World) (c1 : w.cell? ⟨b1, 0, none⟩ = some (.int .u16 mx)) (c2 : w.cell? ⟨b2, 0, none⟩ = some (.int .u16 ad)) :
    Calls Try.prog 32 #[.int .i64 i, .pointer (some ⟨b1, 0, none⟩), .pointer (some ⟨b2, 0, none⟩)] w fun e w' => (∃ z, e = .returned (.int .u64 z) ∧ 0 ≤ z ∧ z ≤ 1023) ∧ w = w' := by
  go_enter Try.func32, Try.ntmps32
  go_wp2
  go_ret
  exact ⟨⟨_, rfl, (tmod_ok _).1, (tmod_ok _).2⟩, rfl⟩
/-- The entry of a key. -/
abbrev ek (k : Int) : E := ⟨k, k + 3, 1⟩
def FitD (L : List E) (K : List Int) : Prop := K.Nodup ∧ K.length = L.length ∧ ∀ k, k ∈ K ↔ ek k ∈ L
theorem ne_len {α : Type} [DecidableEq α] (x : α) (L : List α) (hL : L.Nodup) : (L.filter fun y => decide (y ≠ x)).length + (if x ∈ L then 1 else 0) = L.length := by
  induction L with
  | nil => rfl
  | cons z L ih =>
    obtain ⟨h4, h5⟩ := List.nodup_cons.1 hL
    have := ih h5
    by_cases e : z = x
    · subst e
      simp [h4] at this ⊢
      omega
    · have e' : ¬ x = z := fun h => e h.symm
      simp [e, e'] at this ⊢
      omega
theorem srt_nodup {L : List E} (h : Srt L) : L.Nodup := by
  refine List.Pairwise.imp ?_ h
  rintro a b hab rfl
  exact Itree.lt_irrefl a hab
theorem ek_may (z : Int) (h0 : 0 ≤ z) (h1 : z ≤ 1023) : mayB (ek z).a (ek z).b = true := by
  simp only [mayB, Bool.and_eq_true, decide_eq_true_eq]
  omega
theorem insD {L : List E} {K : List Int} (h : FitD L K) (z : Int) (h0 : 0 ≤ z) (h1 : z ≤ 1023) : insR (ek z) L = (if z ∈ K then 9 else 0) ∧ FitD (insL (ek z) L) (addK z K) := by
  obtain ⟨a, b, c⟩ := h
  unfold insR insL addK
  rw [ek_may z h0 h1]
  by_cases hz : z ∈ K
  · have hm := (c z).1 hz
    simp only [Bool.true_eq_false, if_false, if_pos hm, if_pos hz]
    exact ⟨trivial, a, b, c⟩
  · have hm : ¬ ek z ∈ L := fun h => hz ((c z).2 h)
    simp only [Bool.true_eq_false, if_false, if_neg hm, if_neg hz]
    refine ⟨trivial, List.nodup_cons.2 ⟨hz, a⟩, by rw [put_len, List.length_cons, b], fun k => ?_⟩
    rw [put_mem, List.mem_cons, c k]
    simp [ek]
theorem delD {L : List E} {K : List Int} (h : FitD L K) (hs : Srt L) (z : Int) : delR (ek z) L = (if z ∈ K then 0 else 6) ∧ FitD (delL (ek z) L) (K.filter fun y => decide (y ≠ z)) := by
  obtain ⟨a, b, c⟩ := h
  have l1 := ne_len z K a
  have l2 := ne_len (ek z) L (srt_nodup hs)
  unfold delR delL
  by_cases hz : z ∈ K
  · have hm := (c z).1 hz
    rw [if_pos hz] at l1 ⊢
    rw [if_pos hm] at l2 ⊢
    refine ⟨rfl, a.filter _, by omega, fun k => ?_⟩
    rw [List.mem_filter, List.mem_filter, c k]
    simp [ek]
  · have hm : ¬ ek z ∈ L := fun h => hz ((c z).2 h)
    rw [if_neg hz] at l1 ⊢
    rw [if_neg hm] at l2 ⊢
    refine ⟨rfl, a.filter _, by omega, fun k => ?_⟩
    rw [List.mem_filter, List.mem_filter, c k]
    simp [ek]
theorem TM.srt {A : KK Int} {w0 w : World} {q bm n : Nat} {L : List E} {K : List Int} (h : TM A w0 w q bm n L K) : Srt L := by
  obtain ⟨R, h1, _⟩ := h
  exact h1.srt
set_option maxRecDepth 100000 in
set_option maxHeartbeats 4000000 in
theorem Deep_walk (n mx ad : Int) (hn : 0 ≤ n ∧ n ≤ 65535) (w : World) : Calls Try.prog 5 #[.int .u16 n, .int .u16 mx, .int .u16 ad] w fun e w' => e = .returned (.bool true) ∧ Below w.heap.size w w' := by
  obtain ⟨m, hm, hm2⟩ : ∃ m : Nat, (wrap64 n).tmod 600 = (m : Int) ∧ m < 600 := by
    have e : wrap64 n = n := by unfold wrap64; omega
    rw [e, Int.tmod_eq_emod_of_nonneg hn.1]
    exact ⟨(n % 600).toNat, by omega, by omega⟩
  have c1 : ((w.alloc (.cells #[.int .u16 mx] 63)).alloc (.cells #[.int .u16 ad] 63)).cell? ⟨w.heap.size, 0, none⟩ = some (.int .u16 mx) := by go_simp
  have c2 : ((w.alloc (.cells #[.int .u16 mx] 63)).alloc (.cells #[.int .u16 ad] 63)).cell? ⟨w.heap.size + 1, 0, none⟩ = some (.int .u16 ad) := by go_simp
  obtain ⟨W, hW⟩ : ∃ W, (w.alloc (.cells #[.int .u16 mx] 63)).alloc (.cells #[.int .u16 ad] 63) = W := ⟨_, rfl⟩
  have l1 : w.heap.size + 1 < W.heap.size := by rw [← hW]; simp
  have B0 := Lib.hid (show Below w.heap.size w W by rw [← hW]; exact ((Below.refl _ _).alloc (Nat.le_refl _) _).alloc (by simp) _)
  rw [hW] at c1 c2
  have C1 := Lib.hid (And.intro c1 (And.intro c2 l1))
  clear c1 c2 l1 hn
  go_enter Try.func5, Try.ntmps5
  go_upto_region 1 with fail
  try rw [hW]
  clear hW
  go_wp2_with fail
  refine (cNew _).mono ?_
  rintro e0 w0 ⟨q, R, rfl, t0, b0, f0⟩
  have T0 := Lib.hid (tmNew kkU W w0 b0 q R t0 f0)
  clear t0 b0 f0 hm
  have hmm := @run_makeMap Try.prog
  go_wp2_with fail
  go_loopw [24] (fun v wr => ∃ (i : Nat) (L : List E) (K : List Int), v = .int .i64 i ∧ i ≤ m ∧ TM kkU W wr q w0.heap.size i L K ∧ FitD L K ∧ L.length ≤ i) (fun v _ => m - (intOf v).toNat)
  case atStart => exact ⟨0, [], [], rfl, by omega, T0.out, ⟨List.nodup_nil, rfl, by simp⟩, Nat.le_refl _⟩
  case round =>
    obtain ⟨i, L, K, rfl, hi, ht, hf, hl⟩ := hrel
    have T1 := Lib.hid ht
    have F1 := Lib.hid hf
    have HL := Lib.hid hl
    clear ht hf hl hmm T0
    by_cases hlt : i < m
    · obtain ⟨x1, x2, x3⟩ := C1.out
      have c1 := (T1.out.since.cell (p := ⟨w.heap.size, 0, none⟩) (by show w.heap.size < W.heap.size; omega)).trans x1
      have c2 := (T1.out.since.cell (p := ⟨w.heap.size + 1, 0, none⟩) x3).trans x2
      clear x1 x2 x3
      go_wp2_with fail
      refine (At_any _ _ _ _ _ _ c1 c2).mono ?_
      rintro e1 w1 ⟨⟨z, rfl, hz0, hz1⟩, rfl⟩
      clear c1 c2
      have hw3 : IntKind.u64.wrap (z + 3) = z + 3 := by rw [IntKind.wrap_u64]; omega
      go_wp2_with fail
      refine (P_any _ _ _).mono ?_
      rintro e2 w2 ⟨rfl, b2⟩
      have T2 := Lib.hid (T1.out.below b2)
      obtain ⟨r1, r2⟩ := insD F1.out z hz0 hz1
      have F2 := Lib.hid r2
      have R1 := Lib.hid r1
      clear b2 T1 F1 r1 r2
      go_wp2_with fail
      refine (tmInsert (ek z) T2.out hz0 (by have := HL.out; omega)).mono ?_
      rintro e3 w3 ⟨rfl, t3⟩
      rw [R1.out]
      have T3 := Lib.hid t3
      clear t3 T2 R1
      by_cases hz : z ∈ K
      · rw [if_pos hz]
        have lk : (Instr.lookup 65 (.map (some w0.heap.size)) (.int .u64 z) false).run Try.prog w3 = .ok (.int .i64 1) w3 := by
          have := MapS.look T3.out.map z ⟨hz0, by omega⟩
          rw [if_pos hz] at this
          exact this
        obtain ⟨w4, hput0, m4, g4⟩ := MapS.put T3.out.map z ⟨hz0, by omega⟩ (by unfold maxLen; omega)
        have hput : (Instr.mapUpdate 65 (.map (some w0.heap.size)) (.int .u64 z) (.int .i64 1)).run Try.prog w3 = .ok () w4 := hput0
        have T4 := Lib.hid (T3.out.turned m4 g4)
        have HL2 := Lib.hid (Nat.le_trans (insL_len (ek z) L) (Nat.succ_le_succ HL.out))
        clear m4 g4 T3 hput0
        go_wp2_with fail
        refine (tmDepth T4.out (by have := HL2.out; omega)).mono ?_
        rintro e5 w5 ⟨d, rfl, hd, rfl⟩
        have HD := Lib.hid hd
        clear hd
        go_wp2_with fail
        refine (tmLen T4.out).mono ?_
        rintro e6 w6 ⟨rfl, rfl⟩
        go_wp2_with fail
        refine (deep_any _ _ HD.out _).mono ?_
        rintro e7 w7 ⟨rfl, rfl⟩
        go_wp2_with fail
        go_roundw
        case rel => exact ⟨i + 1, _, _, by go_num, by omega, T4.out, F2.out, HL2.out⟩
        case measure => simp [intOf]; omega
      · rw [if_neg hz]
        have lk : (Instr.lookup 65 (.map (some w0.heap.size)) (.int .u64 z) false).run Try.prog w3 = .ok (.int .i64 0) w3 := by
          have := MapS.look T3.out.map z ⟨hz0, by omega⟩
          rw [if_neg hz] at this
          exact this
        obtain ⟨w4, hput0, m4, g4⟩ := MapS.put T3.out.map z ⟨hz0, by omega⟩ (by unfold maxLen; omega)
        have hput : (Instr.mapUpdate 65 (.map (some w0.heap.size)) (.int .u64 z) (.int .i64 1)).run Try.prog w3 = .ok () w4 := hput0
        have T4 := Lib.hid (T3.out.turned m4 g4)
        have HL2 := Lib.hid (Nat.le_trans (insL_len (ek z) L) (Nat.succ_le_succ HL.out))
        clear m4 g4 T3 hput0
        go_wp2_with fail
        refine (tmDepth T4.out (by have := HL2.out; omega)).mono ?_
        rintro e5 w5 ⟨d, rfl, hd, rfl⟩
        have HD := Lib.hid hd
        clear hd
        go_wp2_with fail
        refine (tmLen T4.out).mono ?_
        rintro e6 w6 ⟨rfl, rfl⟩
        go_wp2_with fail
        refine (deep_any _ _ HD.out _).mono ?_
        rintro e7 w7 ⟨rfl, rfl⟩
        go_wp2_with fail
        go_roundw
        case rel => exact ⟨i + 1, _, _, by go_num, by omega, T4.out, F2.out, HL2.out⟩
        case measure => simp [intOf]; omega
    · obtain rfl : i = m := by omega
      go_wp2_with fail
      go_loopw [53] (fun v wr => ∃ (j : Nat) (L : List E) (K : List Int), v = .int .i64 j ∧ j ≤ i ∧ TM kkU W wr q w0.heap.size i L K ∧ FitD L K ∧ L.length ≤ i) (fun v _ => i - (intOf v).toNat)
      case atStart => exact ⟨0, L, K, rfl, by omega, T1.out, F1.out, HL.out⟩
      case round =>
        clear T1 F1 HL
        obtain ⟨j, L, K, rfl, hj, ht, hf, hl⟩ := hrel
        have T1 := Lib.hid ht
        have F1 := Lib.hid hf
        have HL := Lib.hid hl
        clear ht hf hl
        by_cases hlt2 : j < i
        · by_cases h3 : (j : Int) % 3 = 0
          · have h3' : ((j : Int) % 3 != 0) = false := by simp [h3]
            clear h3
            obtain ⟨x1, x2, x3⟩ := C1.out
            have c1 := (T1.out.since.cell (p := ⟨w.heap.size, 0, none⟩) (by show w.heap.size < W.heap.size; omega)).trans x1
            have c2 := (T1.out.since.cell (p := ⟨w.heap.size + 1, 0, none⟩) x3).trans x2
            clear x1 x2 x3
            go_wp2_with fail
            refine (At_any _ _ _ _ _ _ c1 c2).mono ?_
            rintro e1 w1 ⟨⟨z, rfl, hz0, hz1⟩, rfl⟩
            clear c1 c2 h3'
            have hw3 : IntKind.u64.wrap (z + 3) = z + 3 := by rw [IntKind.wrap_u64]; omega
            go_wp2_with fail
            refine (P_any _ _ _).mono ?_
            rintro e2 w2 ⟨rfl, b2⟩
            have T2 := Lib.hid (T1.out.below b2)
            obtain ⟨r1, r2⟩ := delD F1.out T1.out.srt z
            have F2 := Lib.hid r2
            have R1 := Lib.hid r1
            have FF := F1
            have HL2 := Lib.hid (Nat.le_trans (delL_len (ek z) L) HL.out)
            clear b2 T1 F1 r1 r2
            go_wp2_with fail
            refine (tmDelete (ek z) T2.out (by have := HL.out; omega)).mono ?_
            rintro e3 w3 ⟨rfl, t3⟩
            rw [R1.out]
            have T3 := Lib.hid t3
            clear t3 T2 R1 HL
            by_cases hz : z ∈ K
            · rw [if_pos hz]
              have lk : (Instr.lookup 65 (.map (some w0.heap.size)) (.int .u64 z) false).run Try.prog w3 = .ok (.int .i64 1) w3 := by
                have := MapS.look T3.out.map z ⟨hz0, by omega⟩
                rw [if_pos hz] at this
                exact this
              go_wp2_with fail
              refine (tmDepth T3.out (by have := HL2.out; omega)).mono ?_
              rintro e5 w5 ⟨d, rfl, hd, rfl⟩
              have HD := Lib.hid hd
              clear hd lk
              go_wp2_with fail
              refine (tmLen T3.out).mono ?_
              rintro e6 w6 ⟨rfl, rfl⟩
              go_wp2_with fail
              refine (deep_any _ _ HD.out _).mono ?_
              rintro e7 w7 ⟨rfl, rfl⟩
              obtain ⟨w4, hdrop0, m4, g4⟩ := MapS.drop T3.out.map FF.out.1 z ⟨hz0, by omega⟩ 0
              have hdrop : (Builtin.delete_ #[65, 30] 0 #[.map (some w0.heap.size), .int .u64 z]).run Try.prog w3 = .ok (.tuple #[]) w4 := hdrop0
              have T4 := Lib.hid (T3.out.turned m4 g4)
              clear m4 g4 T3 hdrop0 FF
              go_wp2_with fail
              go_roundw
              case rel => exact ⟨j + 1, _, _, by go_num, by omega, T4.out, F2.out, HL2.out⟩
              case measure => simp [intOf]; omega
            · rw [if_neg hz]
              have lk : (Instr.lookup 65 (.map (some w0.heap.size)) (.int .u64 z) false).run Try.prog w3 = .ok (.int .i64 0) w3 := by
                have := MapS.look T3.out.map z ⟨hz0, by omega⟩
                rw [if_neg hz] at this
                exact this
              go_wp2_with fail
              refine (tmDepth T3.out (by have := HL2.out; omega)).mono ?_
              rintro e5 w5 ⟨d, rfl, hd, rfl⟩
              have HD := Lib.hid hd
              clear hd lk
              go_wp2_with fail
              refine (tmLen T3.out).mono ?_
              rintro e6 w6 ⟨rfl, rfl⟩
              go_wp2_with fail
              refine (deep_any _ _ HD.out _).mono ?_
              rintro e7 w7 ⟨rfl, rfl⟩
              obtain ⟨w4, hdrop0, m4, g4⟩ := MapS.drop T3.out.map FF.out.1 z ⟨hz0, by omega⟩ 0
              have hdrop : (Builtin.delete_ #[65, 30] 0 #[.map (some w0.heap.size), .int .u64 z]).run Try.prog w3 = .ok (.tuple #[]) w4 := hdrop0
              have T4 := Lib.hid (T3.out.turned m4 g4)
              clear m4 g4 T3 hdrop0 FF
              go_wp2_with fail
              go_roundw
              case rel => exact ⟨j + 1, _, _, by go_num, by omega, T4.out, F2.out, HL2.out⟩
              case measure => simp [intOf]; omega
          · have h3' : ((j : Int) % 3 != 0) = true := by simpa using h3
            clear h3
            go_wp2_with fail
            go_roundw
            case rel => exact ⟨j + 1, _, _, by go_num, by omega, T1.out, F1.out, HL.out⟩
            case measure => simp [intOf]; omega
        · go_wp2_with fail
          refine (awake_any _).mono ?_
          rintro e1 w1 ⟨rfl, b1⟩
          have T2 := Lib.hid (T1.out.below b1)
          clear b1 T1
          go_wp2_with fail
          refine (tmLen T2.out).mono ?_
          rintro e2 w2 ⟨rfl, rfl⟩
          have hlen : (Builtin.len_ #[65] 3 #[.map (some w0.heap.size)]).run Try.prog w1 = .ok (.int .i64 K.length) w1 := MapS.len T2.out.map _
          rw [F1.out.2.1] at hlen
          go_wp2_with fail
          go_ret
          exact ⟨rfl, B0.out.trans (T2.out.since.mono B0.out.size)⟩
end Go.Proofs.Ytbifgmamjdniaaa
