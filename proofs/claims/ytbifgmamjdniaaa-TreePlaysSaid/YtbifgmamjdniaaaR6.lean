/- TreePlays' walk. -/
import Derived.Test.YtbifgmamjdniaaaR5
import Derived.Deep.CutBlock
namespace Go.Proofs.Ytbifgmamjdniaaa
open Go.RowKit
open Itree (E T dep endT bs ord sz nodes lean rotL rotR bal ins del hasT first AVL Srt eachL over)
/-- What is to be done, in memory. -/
def AAt (w : World) (A : Option Addr) (n : Nat) (f : Nat → Int × E) : Prop := 0 < n → ∃ b off, A = some ⟨b, off, none⟩ ∧ b < w.heap.size ∧ ∀ i, i < n → w.cell? ⟨b, off + i * 4, none⟩ = some (.int .i64 (f i).1) ∧ w.cell? ⟨b, off + i * 4 + 1, none⟩ = some (.int .u64 (f i).2.a) ∧ w.cell? ⟨b, off + i * 4 + 2, none⟩ = some (.int .u64 (f i).2.b) ∧ w.cell? ⟨b, off + i * 4 + 3, none⟩ = some (.int .u64 (f i).2.n) ∧ 0 ≤ (f i).2.a ∧ 0 ≤ (f i).2.n ∧ (f i).2.n ≤ 18446744073709551615
theorem AAt.below {w w' : World} {A : Option Addr} {n : Nat} {f : Nat → Int × E} (h : AAt w A n f) (hb : Below w.heap.size w w') : AAt w' A n f := fun h0 => by
  obtain ⟨b, off, e, hl, hc⟩ := h h0
  refine ⟨b, off, e, Nat.lt_of_lt_of_le hl hb.size, fun i hi => ?_⟩
  obtain ⟨c0, c1, c2, c3, c4⟩ := hc i hi
  exact ⟨(hb.cell (p := ⟨b, off + i * 4, none⟩) hl).trans c0, (hb.cell (p := ⟨b, off + i * 4 + 1, none⟩) hl).trans c1, (hb.cell (p := ⟨b, off + i * 4 + 2, none⟩) hl).trans c2, (hb.cell (p := ⟨b, off + i * 4 + 3, none⟩) hl).trans c3, c4⟩
theorem Same_eq (va vb : Value) (L : List E) (w : World) (ha : IsE w va L) (hb : IsE w vb L) (hl : L.length ≤ 4000000000000) :
    Calls Try.prog 13 #[va, vb] w fun e w' => e = .returned (.bool true) ∧ Below w.heap.size w w' := by
  refine (Same_any va vb L L w ha hb hl hl).mono ?_
  rintro e w' ⟨rfl, h⟩
  exact ⟨by simp [sameE], h⟩
set_option maxRecDepth 100000 in
set_option maxHeartbeats 4000000 in
theorem Plays_walk (A : Option Addr) (n c : Nat) (f : Nat → Int × E) (W : World) (hA : AAt W A n f) : Calls Try.prog 3 #[.slice A n c] W fun e w' => e = .returned (.bool true) ∧ Below W.heap.size W w' := by
  have HA := Lib.hid hA
  clear hA
  go_enter Try.func3, Try.ntmps3
  go_wp2_with fail
  refine (awake_any _).mono ?_
  rintro e0 w0 ⟨rfl, b0⟩
  have B0 := Lib.hid b0
  clear b0
  go_wp2_with fail
  refine (cNew _).mono ?_
  rintro e1 w1 ⟨q, R, rfl, t1, b1, f1⟩
  obtain ⟨V, hV⟩ : ∃ V, w1.alloc (.cells #[.slice none 0 0] 29) = V := ⟨_, rfl⟩
  have P0 := Lib.hid (Pair.new (B0.out.trans (b1.mono B0.out.size)) t1 (fun k hk => Nat.le_trans B0.out.size (f1 k hk)) hV.symm)
  clear t1 b1 f1
  go_wp2_with fail
  try rw [hV]
  clear hV
  generalize w1.heap.size = g at *
  go_loopw [3, 15] (fun v u wr => ∃ (i q : Nat) (L : List E), v = .pointer (some ⟨q, 0, none⟩) ∧ u = .int .i64 i ∧ i ≤ n ∧ i ≤ 300 ∧ L.length ≤ i ∧ Pair W wr q g L) (fun _ u _ => n - (intOf u).toNat)
  case atStart => exact ⟨0, q, [], rfl, rfl, Nat.zero_le _, Nat.zero_le _, Nat.le_refl _, P0.out⟩
  case round =>
    clear P0
    obtain ⟨i, q, L, rfl, rfl, hi, hi3, hl, hp⟩ := hrel
    have PP := Lib.hid hp
    have HL := Lib.hid hl
    clear hp hl
    by_cases hin : i < n
    · obtain ⟨b, off, rfl, hb, hc⟩ := (HA.out.below PP.out.since) (by omega)
      obtain ⟨z0, z1, z2, z3, z4⟩ := hc i hin
      obtain ⟨wh, hwh⟩ : ∃ y, (f i).1 = y := ⟨_, rfl⟩
      obtain ⟨x, hx⟩ : ∃ y, (f i).2 = y := ⟨_, rfl⟩
      rw [hwh] at z0
      rw [hx] at z1 z2 z3 z4
      have X0 := Lib.hid z4
      have i0 : (i : Int) < (n : Int) := by omega
      have i1 : (0 : Int) ≤ (i : Int) := by omega
      clear hc hb hwh hx z4
      by_cases h300 : i = 300
      · subst h300
        have HF := Lib.hid (PP.out.since.trans ((Below.refl wr.heap.size wr).alloc (Nat.le_refl _) (.cells #[.int .i64 wh, .int .u64 x.a, .int .u64 x.b, .int .u64 x.n] 34) |>.mono PP.out.since.size))
        go_wp2
        go_ret
        exact ⟨rfl, HF.out⟩
      · have e1 : ((i : Int) == 300) = false := by simp; omega
        have e2 : ¬ (i : Int) = 300 := by omega
        have e3 : IntKind.i64.wrap ((i : Int) + 1) = (i : Int) + 1 := IntWalk.i64_in _ (by omega)
        go_upto_region 7 with fail
        obtain ⟨X, hX⟩ : ∃ X, wr.alloc (.cells #[.int .i64 wh, .int .u64 x.a, .int .u64 x.b, .int .u64 x.n] 34) = X := ⟨_, rfl⟩
        have TX := Lib.hid (Pair.two PP.out hX.symm)
        try rw [hX]
        generalize wr.heap.size = h at *
        clear hX PP
        obtain ⟨x0, x1, x2, x3⟩ := TX.out.cells
        clear z0 z1 z2 z3
        go_upto_block 2 with fail
        go_cut [3, 7] from 22 to 94 (fun v _ w' => ∃ (q' : Nat) (L' : List E), v = .pointer (some ⟨q', 0, none⟩) ∧ L'.length ≤ L.length + 1 ∧ Two W w' q' g h L' L' wh x)
        case first =>
          have hL := HL.out
          by_cases h0 : wh = 0
          · subst h0
            go_upto_region 10 with fail
            have TD := Lib.hid (TX.out.below (Below.refl _ _).drew)
            clear x0 x1 x2 x3
            go_region_held3 (fun w' => w'.cell? ⟨h, 0, none⟩ = some (.int .i64 0) ∧ w'.cell? ⟨h, 1, none⟩ = some (.int .u64 x.a) ∧ w'.cell? ⟨h, 2, none⟩ = some (.int .u64 x.b) ∧ w'.cell? ⟨h, 3, none⟩ = some (.int .u64 x.n)) (first | exact TD.out.cells | exact T2.out.cells | exact T1.out.cells) (first
              | (go_at_call 9; (go_split_ands; (with_reducible refine (twIns TD.out X0.out.1 (by omega)).mono ?_); rintro e1 w1 ⟨rfl, t1⟩; have T1 := Lib.hid t1; clear t1))
              | (go_at_call 10; (go_split_ands; (with_reducible refine (twRefIns T1.out TX.out.srt (by omega)).mono ?_); rintro e2 w2 ⟨rfl, t2⟩; have T2 := Lib.hid t2; clear t2 T1))
              | fail)
            all_goals (
              go_wp2
              go_meet
              exact ⟨q, _, rfl, insL_len x L, T2.out⟩)
          by_cases h1 : wh = 1
          · subst h1
            go_upto_region 13 with fail
            have TD := Lib.hid (TX.out.below (Below.refl _ _).drew)
            clear x0 x1 x2 x3
            go_region_held3 (fun w' => w'.cell? ⟨h, 0, none⟩ = some (.int .i64 1) ∧ w'.cell? ⟨h, 1, none⟩ = some (.int .u64 x.a) ∧ w'.cell? ⟨h, 2, none⟩ = some (.int .u64 x.b) ∧ w'.cell? ⟨h, 3, none⟩ = some (.int .u64 x.n)) (first | exact TD.out.cells | exact T2.out.cells | exact T1.out.cells) (first
              | (go_at_call 11; (go_split_ands; (with_reducible refine (twDel TD.out (by omega)).mono ?_); rintro e1 w1 ⟨rfl, t1⟩; have T1 := Lib.hid t1; clear t1))
              | (go_at_call 12; (go_split_ands; (with_reducible refine (twRefDel T1.out (by omega)).mono ?_); rintro e2 w2 ⟨rfl, t2⟩; have T2 := Lib.hid t2; clear t2 T1))
              | fail)
            all_goals (
              go_wp2
              go_meet
              exact ⟨q, _, rfl, Nat.le_succ_of_le (delL_len x L), T2.out⟩)
          by_cases h2 : wh = 2
          · subst h2
            go_upto_region 16 with fail
            have TD := Lib.hid (TX.out.below (Below.refl _ _).drew)
            have FL := Lib.hid (show (L.filter fun e => hasB e.a e.b x.n).length ≤ 4000000000000 from Nat.le_trans (List.length_filter_le _ _) (by omega))
            clear x0 x1 x2 x3
            go_region_held3 (fun w' => w'.cell? ⟨h, 0, none⟩ = some (.int .i64 2) ∧ w'.cell? ⟨h, 1, none⟩ = some (.int .u64 x.a) ∧ w'.cell? ⟨h, 2, none⟩ = some (.int .u64 x.b) ∧ w'.cell? ⟨h, 3, none⟩ = some (.int .u64 x.n)) (first | exact TD.out.cells | exact T3.out.cells | exact T2.out.cells | exact T1.out.cells) (first
              | (go_at_call 14; (go_split_ands; (with_reducible refine (twStab x.n X0.out.2 TD.out (by omega)).mono ?_); rintro e1 w1 ⟨v1, rfl, o1, b1⟩; have T1 := Lib.hid (TD.out.below b1); have O1 := Lib.hid o1; clear b1 o1))
              | (go_at_call 15; (go_split_ands; (with_reducible refine (twRefStab x.n T1.out (by omega)).mono ?_); rintro e2 w2 ⟨v2, rfl, o2, b2⟩; have T2 := Lib.hid (T1.out.below b2); have O2 := Lib.hid o2; have O3 := Lib.hid (O1.out.below b2); clear b2 o2 T1 O1))
              | (go_at_call 13; (go_split_ands; (with_reducible refine (Same_eq _ _ _ _ O3.out O2.out FL.out).mono ?_); rintro e3 w3 ⟨rfl, b3⟩; have T3 := Lib.hid (T2.out.below b3); clear b3 T2))
              | fail)
            all_goals (
              go_wp2
              go_meet
              exact ⟨q, _, rfl, Nat.le_succ _, T3.out⟩)
          by_cases h3 : wh = 3
          · subst h3
            go_upto_region 19 with fail
            have TD := Lib.hid (TX.out.below (Below.refl _ _).drew)
            have FL := Lib.hid (show (L.filter fun e => meetB e.a e.b x.a x.b).length ≤ 4000000000000 from Nat.le_trans (List.length_filter_le _ _) (by omega))
            clear x0 x1 x2 x3
            go_region_held3 (fun w' => w'.cell? ⟨h, 0, none⟩ = some (.int .i64 3) ∧ w'.cell? ⟨h, 1, none⟩ = some (.int .u64 x.a) ∧ w'.cell? ⟨h, 2, none⟩ = some (.int .u64 x.b) ∧ w'.cell? ⟨h, 3, none⟩ = some (.int .u64 x.n)) (first | exact TD.out.cells | exact T3.out.cells | exact T2.out.cells | exact T1.out.cells) (first
              | (go_at_call 16; (go_split_ands; (with_reducible refine (twOverlap x.a x.b TD.out (by omega)).mono ?_); rintro e1 w1 ⟨v1, rfl, o1, b1⟩; have T1 := Lib.hid (TD.out.below b1); have O1 := Lib.hid o1; clear b1 o1))
              | (go_at_call 17; (go_split_ands; (with_reducible refine (twRefOverlap x.a x.b T1.out (by omega)).mono ?_); rintro e2 w2 ⟨v2, rfl, o2, b2⟩; have T2 := Lib.hid (T1.out.below b2); have O2 := Lib.hid o2; have O3 := Lib.hid (O1.out.below b2); clear b2 o2 T1 O1))
              | (go_at_call 13; (go_split_ands; (with_reducible refine (Same_eq _ _ _ _ O3.out O2.out FL.out).mono ?_); rintro e3 w3 ⟨rfl, b3⟩; have T3 := Lib.hid (T2.out.below b3); clear b3 T2))
              | fail)
            all_goals (
              go_wp2
              go_meet
              exact ⟨q, _, rfl, Nat.le_succ _, T3.out⟩)
          by_cases h4 : wh = 4
          · subst h4
            go_wp2_with fail
            refine (twCopy TX.out).mono ?_
            rintro e1 w1 ⟨q', rfl, t1⟩
            have T1 := Lib.hid t1
            clear t1 x0 x1 x2 x3 TX
            go_upto_region 24 with fail
            have TD := Lib.hid (T1.out.below (Below.refl _ _).drew)
            clear T1
            go_region_held3 (fun w' => w'.cell? ⟨h, 0, none⟩ = some (.int .i64 4) ∧ w'.cell? ⟨h, 1, none⟩ = some (.int .u64 x.a) ∧ w'.cell? ⟨h, 2, none⟩ = some (.int .u64 x.b) ∧ w'.cell? ⟨h, 3, none⟩ = some (.int .u64 x.n)) (first | exact TD.out.two.cells | exact T3.out.two.cells | exact T2.out.two.cells) (first
              | (go_at_call 19; (go_split_ands; (with_reducible refine (P_any _ _ _).mono ?_); rintro e2 w2 ⟨rfl, b2⟩; have T2 := Lib.hid (TD.out.below b2); clear b2))
              | (go_at_call 9; (go_split_ands; (refine (thIns ⟨0, 1, IntKind.u64.wrap (x.n + 1)⟩ T2.out (Int.le_refl 0) (by omega)).mono ?_); rintro e3 w3 ⟨rfl, t3⟩; have T3 := Lib.hid t3; clear t3 T2))
              | fail)
            all_goals (
              obtain ⟨x0, x1, x2, x3⟩ := T3.out.two.cells
              have hL2 := insL_len ⟨0, 1, IntKind.u64.wrap (x.n + 1)⟩ L
              go_wp2_with fail
              refine (thDel x T3.out (by omega)).mono ?_
              rintro e4 w4 ⟨rfl, t4⟩
              have T4 := Lib.hid t4
              clear t4 x0 x1 x2 x3
              go_wp2
              go_meet
              exact ⟨q', _, rfl, Nat.le_succ _, T4.out.two⟩)
          have f0 : (wh == 0) = false := by simpa using h0
          have f1 : (wh == 1) = false := by simpa using h1
          have f2 : (wh == 2) = false := by simpa using h2
          have f3 : (wh == 3) = false := by simpa using h3
          have f4 : (wh == 4) = false := by simpa using h4
          clear h0 h1 h2 h3 h4
          go_wp2
          go_meet
          exact ⟨q, _, rfl, Nat.le_succ _, TX.out⟩
        case rest =>
          obtain ⟨q', L', rfl, hl', t'⟩ := hcut
          have TX := Lib.hid t'
          have hL := HL.out
          have LL := Lib.hid hl'
          clear t' hl'
          go_upto_region 26 with fail
          obtain ⟨A2, c2, g0, ea, gl⟩ := TX.out.val
          have TD := Lib.hid (TX.out.below (Below.refl _ _).drew)
          have EA := Lib.hid (show IsE wc (.slice A2 L'.length c2) L' from ⟨A2, c2, rfl, ea⟩)
          have GC := Lib.hid (fun (w' : World) (hb : Below wc.heap.size wc w') => (hb.cell (p := ⟨g, 0, none⟩) gl).trans g0)
          have L8 := Lib.hid (show L'.length ≤ 800 by have := LL.out; omega)
          clear ea gl
          go_region_held3 (fun w' => w'.cell? ⟨g, 0, none⟩ = some (.slice A2 L'.length c2)) (first | exact GC.out _ (Below.refl _ _).drew | exact GC.out _ B2.out | exact GC.out _ B1.out) (first
            | (go_at_call 20; (go_split_ands; (with_reducible refine (twAll TD.out L8.out).mono ?_); rintro e1 w1 ⟨v1, rfl, o1, b1⟩; have T1 := Lib.hid (TD.out.below b1); have O1 := Lib.hid o1; have B1 := Lib.hid (show Below wc.heap.size wc w1 from (Below.refl _ _).drew.trans b1); clear b1 o1))
            | (go_at_call 13; (go_split_ands; (with_reducible refine (Same_eq _ _ _ _ O1.out (EA.out.below B1.out) (Nat.le_trans L8.out (by decide))).mono ?_); rintro e2 w2 ⟨rfl, b2⟩; have T2 := Lib.hid (T1.out.below b2); have B2 := Lib.hid (show Below wc.heap.size wc w2 from B1.out.trans (b2.mono B1.out.size)); clear b2 T1 O1 B1))
            | (go_at_call 21; (go_split_ands; (with_reducible refine (twLen T2.out).mono ?_); rintro e3 w3 ⟨rfl, rfl⟩))
            | (go_at_call 23; (go_split_ands; (with_reducible refine (twDepth T2.out L8.out).mono ?_); rintro e4 w4 ⟨d, rfl, hd, rfl⟩; have HD := Lib.hid hd; clear hd))
            | (go_at_call 22; (go_split_ands; (with_reducible refine (deep_any _ _ HD.out _).mono ?_); rintro e5 w5 ⟨rfl, rfl⟩))
            | fail)
          all_goals (
            go_wp2_with fail
            go_roundw
            case rel => exact ⟨i + 1, q', L', rfl, by go_num, by omega, by omega, by have := LL.out; omega, T2.out.pair⟩
            case measure => simp [intOf]; omega)
    · obtain rfl : i = n := by omega
      go_wp2
      go_ret
      exact ⟨rfl, PP.out.since⟩
end Go.Proofs.Ytbifgmamjdniaaa
