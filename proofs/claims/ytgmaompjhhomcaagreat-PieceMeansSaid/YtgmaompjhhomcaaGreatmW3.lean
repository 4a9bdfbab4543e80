/- PieceMeans' walk. -/
import Derived.Test.YtgmaompjhhomcaaGreatmG51
namespace Go.Proofs.YtgmaompjhhomcaaGreat
open Go.RowKit
section
set_option maxRecDepth 100000
set_option maxHeartbeats 40000000
theorem Bx.put5 {W : World} {g : Nat} {C : Array Value} (h : Bx W g C) (hC : C.size = 5) (x0 x1 x2 x3 x4 : Value) : Bx (((((W.setCell ⟨g, 0, none⟩ x0).setCell ⟨g, 1, none⟩ x1).setCell ⟨g, 2, none⟩ x2).setCell ⟨g, 3, none⟩ x3).setCell ⟨g, 4, none⟩ x4) g #[x0, x1, x2, x3, x4] := by
  obtain ⟨s0, s1, s2, s3, s4⟩ := set5 W g x0 x1 x2 x3 x4 C hC h.c
  refine ⟨by simpa [World.setCell] using h.lt, fun j => ?_, fun j => by simp only [World.frozen?_setCell]; exact h.fr j⟩
  match j with
  | 0 => exact s0
  | 1 => exact s1
  | 2 => exact s2
  | 3 => exact s3
  | 4 => exact s4
  | j + 5 =>
    have o : ∀ (w : World) (i : Nat) (x : Value), i < 5 → (w.setCell ⟨g, i, none⟩ x).cell? ⟨g, j + 5, none⟩ = w.cell? ⟨g, j + 5, none⟩ := fun w i x h => World.cell?_setCell_other _ _ _ _ (by intro e; simp only [Addr.mk.injEq] at e; omega)
    rw [o _ 4 _ (by omega), o _ 3 _ (by omega), o _ 2 _ (by omega), o _ 1 _ (by omega), o _ 0 _ (by omega), h.c]
    rw [Array.getElem?_eq_none (by omega), Array.getElem?_eq_none (by simp)]
theorem meansAt_put {D R : List Pie} (h : PutsR D R) (t : Int) : meansAt R t = lastV D t := by
  unfold meansAt
  rw [if_pos h.line, h.means]
theorem like_self (k : Int) (b : Bool) (n : Int) (f : Nat) (s : ByteArray) (w : World) : Calls Tryz.prog 23 #[vagg k b n f s, vagg k b n f s] w fun e w' => e = .returned (.bool true) ∧ Below w.heap.size w w' :=
  (Like_any k b n f s k b n f s w).mono fun _ _ h => by
    rw [show likeV k b n f s k b n f s = true by simp [likeV]] at h
    exact h
theorem Means_walk (v : Value) (ps : List Pie) (sv : Value) (U : List Int) (w : World) (h : SL w v ps) (hw : ∀ p ∈ ps, p.v.wide) (hn : ∀ p ∈ ps, 0 ≤ p.a ∧ 0 ≤ p.b) (hu : InU w sv U) (hul : U.length ≤ maxLen) :
    Calls Tryz.prog 4 #[v, sv] w fun e w' => e = .returned (.bool true) ∧ Below w.heap.size w w' := by
  have CB := Lib.hid (fun W (hb : Below w.heap.size w W) => built_any2 v ps W (h.below hb) hw hn)
  have CK := Lib.hid (fun W => wakes_any W)
  have HU := Lib.hid hu
  have HUL := Lib.hid hul
  have hsf := store_float
  obtain ⟨A, c, rfl, _⟩ := h
  clear hw hn hu hul
  go_enter Tryz.func4, Tryz.ntmps4
  go_upto_region 4 with (first
    | (go_at_call 31; (with_reducible refine (CB.out _ (Below.refl _ _)).mono ?_); rintro e w1 ⟨ux, ud, R, D, rfl, ho, ht, hr, hg, hd, hb⟩; have HO1 := Lib.hid ho.at; have HT1 := Lib.hid ht.at; have HR := Lib.hid hr; have HG := Lib.hid hg; have HD := Lib.hid hd; have K1 := Lib.hid hb; clear ho ht hr hg hd hb)
    | (go_at_call 30; (with_reducible refine (CK.out _).mono ?_); rintro e w2 ⟨rfl, hb⟩; have K2 := Lib.hid hb; clear hb))
  have B2 := Lib.hid (K1.out.trans (K2.out.mono K1.out.size))
  have OX := Lib.hid (HO1.out.below K2.out)
  have OD := Lib.hid (HT1.out.below K2.out)
  have HU2 := Lib.hid (HU.out.below B2.out)
  obtain ⟨AD, cD, rfl, hAD, _⟩ := OD.out
  have HAD := Lib.hid hAD
  clear hAD OD
  clear HU HO1 HT1 K1 K2 CB CK
  go_cut [8] from 32 to 38 (fun u wc => ∃ Al, Se.OwnU w2.heap.size wc u Al ∧ Al.length ≤ 22 ∧ Below w2.heap.size w2 wc)
  case first =>
    have A0 := Lib.hid (show Below w2.heap.size w2 (w2.alloc (.cells #[.int .u64 0, .int .u64 1099511627775] 23)) from (Below.refl _ _).alloc (Nat.le_refl _) _)
    have O0 := Lib.hid (show Se.OwnU w2.heap.size (w2.alloc (.cells #[.int .u64 0, .int .u64 1099511627775] 23)) (.slice (some ⟨w2.heap.size, 0, none⟩) 2 2) [0, 1099511627775] from ownU_new w2 w2.heap.size [0, 1099511627775] 2 rfl (Nat.le_refl _) (by unfold maxLen; omega))
    have HUA := Lib.hid (HU2.out.below A0.out)
    rcases HUA.out with ⟨rfl, rfl⟩ | ⟨adr, cu, rfl, hnc, _, _, hcl⟩
    · obtain ⟨i0, hi, hz0, hz1, hz2⟩ := info_parts Se.infoU
      go_wp2_with (at_builtin; refine wpList_append_own_none rfl (.tmp 32) (.tmp 37) 44 rfl w2.heap.size 23 i0 1 Tryz.underlying44 hi _ _ _ rfl O0.out rfl ?_)
      go_meet
      exact ⟨_, O0.out, by simp, A0.out⟩
    · have E1 := Lib.hid (show (min (U.length : Int) 20).toNat = (U.take 20).length from by rw [List.length_take]; omega)
      have E2 := Lib.hid (show (min (U.length : Int) 20).toNat ≤ cu from by omega)
      have E3 : Hid (∀ i (h : i < (U.take 20).length), (w2.alloc (.cells #[.int .u64 0, .int .u64 1099511627775] 23)).cell? (adr.add i) = some (.int .u64 (U.take 20)[i])) := Lib.hid fun i hi => by
        rw [List.getElem_take]
        exact hcl i (by rw [List.length_take] at hi; omega)
      have b0 : (0 : Int) ≤ min (U.length : Int) 20 := by omega
      have b1 : min (U.length : Int) 20 ≤ (cu : Int) := by omega
      have b2 : min (U.length : Int) 20 ≤ (U.length : Int) := by omega
      clear hnc hcl
      go_wp2_with (at_builtin; refine wpList_appV rfl (.tmp 32) (.tmp 37) rfl w2.heap.size _ [0, 1099511627775] (U.take 20) rfl O0.out _ E1.out adr cu rfl E2.out E3.out (by simp; omega) (by simp) ?_; intro v3 w3 ho _ hb; have O3 := Lib.hid ho; have K3 := Lib.hid hb; clear ho hb)
      go_meet
      exact ⟨_, O3.out, by simp; omega, A0.out.trans (K3.out.mono (Nat.le_refl _))⟩
  case rest =>
    obtain ⟨Al, ho, hl, hb⟩ := hcut
    have OA := Lib.hid ho
    have LA := Lib.hid hl
    have KA := Lib.hid hb
    clear ho hl hb HU2
    go_upto_block 0 with fail
    go_cut [8] from 9 to 66 (fun u wd => ∃ Al, Se.OwnU w2.heap.size wd u Al ∧ Al.length ≤ 200 ∧ Below w2.heap.size w2 wd)
    case first =>
      go_wp2
      go_loopw [8, 9] (fun u i wr => ∃ (k : Nat) (Al : List Int), k ≤ D.length ∧ i = .int .i64 k ∧ Se.OwnU w2.heap.size wr u Al ∧ Al.length ≤ 22 + 3 * k ∧ Below w2.heap.size w2 wr) (fun _ i _ => D.length - (intOf i).toNat)
      case atStart => exact ⟨0, Al, Nat.zero_le _, rfl, OA.out, by have := LA.out; omega, KA.out⟩
      case round =>
        clear OA LA KA
        obtain ⟨k, Al, hk, rfl, ho, hl, hb⟩ := hrel
        have OA := Lib.hid ho
        have LA := Lib.hid hl
        have KA := Lib.hid hb
        clear ho hl hb
        by_cases hlt : k < D.length
        · obtain ⟨g, off, rfl, lg, cg⟩ := (HAD.out.below KA.out) (by omega)
          have r := cg k hlt
          have GX := Lib.hid (HG.out D[k] (List.getElem_mem hlt))
          have i0 : (k : Int) < (D.length : Int) := by omega
          have i1 : (0 : Int) ≤ (k : Int) := by omega
          clear cg
          obtain ⟨x, hx⟩ : ∃ x, D[k] = x := ⟨_, rfl⟩
          rw [hx] at r GX
          clear hx
          obtain ⟨a, b, ⟨kk, vb, n, f, s⟩⟩ := x
          have r0 : wr.cell? ⟨g, off + k * 7, none⟩ = some (.int .u64 a) := r 0 _ rfl
          have r1 : wr.cell? ⟨g, off + k * 7 + 1, none⟩ = some (.int .u64 b) := r 1 _ rfl
          have hb1 : 1 ≤ b := by have := GX.out.1.1.1; have := GX.out.2.2.1; simp only at *; omega
          have hb2 : b ≤ 1099511627776 := GX.out.1.1.2
          clear r
          go_upto_region 8 with fail
          have OB := Lib.hid (show Se.OwnU w2.heap.size (wr.alloc (.cells #[.int .u64 a, .int .u64 (IntKind.u64.wrap (b - 1)), .int .u64 b] 23)).drew u8 Al from World.ownsRow.drew (OA.out.alloc (.cells #[.int .u64 a, .int .u64 (IntKind.u64.wrap (b - 1)), .int .u64 b] 23)))
          have KB := Lib.hid ((KA.out.alloc KA.out.size (.cells #[.int .u64 a, .int .u64 (IntKind.u64.wrap (b - 1)), .int .u64 b] 23)).drew)
          have NB := Lib.hid ((Bx.new wr #[.int .u64 a, .int .u64 (IntKind.u64.wrap (b - 1)), .int .u64 b] 23).below (Below.refl _ _).drew)
          have N0 := Lib.hid (show (wr.alloc (.cells #[.int .u64 a, .int .u64 (IntKind.u64.wrap (b - 1)), .int .u64 b] 23)).drew.cell? ⟨wr.heap.size, 0, none⟩ = some (.int .u64 a) from NB.out.c 0)
          have N1 := Lib.hid (show (wr.alloc (.cells #[.int .u64 a, .int .u64 (IntKind.u64.wrap (b - 1)), .int .u64 b] 23)).drew.cell? ⟨wr.heap.size, 1, none⟩ = some (.int .u64 (IntKind.u64.wrap (b - 1))) from NB.out.c 1)
          have N2 := Lib.hid (show (wr.alloc (.cells #[.int .u64 a, .int .u64 (IntKind.u64.wrap (b - 1)), .int .u64 b] 23)).drew.cell? ⟨wr.heap.size, 2, none⟩ = some (.int .u64 b) from NB.out.c 2)
          have LE : Hid (Al.length + 3 ≤ 1000000000000) := Lib.hid (by have := LA.out; have := HD.out; omega)
          have ZB : Hid (w2.heap.size ≤ (wr.alloc (.cells #[.int .u64 a, .int .u64 (IntKind.u64.wrap (b - 1)), .int .u64 b] 23)).drew.heap.size) := Lib.hid (by have := KA.out.size; simp; omega)
          go_region_law (first
            | ((with_reducible refine step_appV rfl (.tmp 45) (.tmp 65) rfl w2.heap.size u8 Al (by simp [Act.eval]) OB.out wr.heap.size a (IntKind.u64.wrap (b - 1)) b (by simp [Act.eval]) N0.out N1.out N2.out LE.out ZB.out ?_); intro v4 w4 ho4 hb4; have O4 := Lib.hid ho4; have K4 := Lib.hid (KB.out.trans hb4); clear ho4 hb4)
            | fail)
          all_goals
            go_wp2
            exact ⟨⟨k + 1, Al ++ [a, IntKind.u64.wrap (b - 1), b], by omega, by go_num, O4.out, by have := LA.out; simp; omega, K4.out⟩, by simp [intOf]; omega⟩
        · obtain rfl : k = D.length := by omega
          go_wp2_with fail
          go_meet
          exact ⟨Al, OA.out, by have := LA.out; have := HD.out; omega, KA.out⟩
    case rest =>
      obtain ⟨Al, ho, hl, hb⟩ := hcut
      have LA := Lib.hid hl
      have KA := Lib.hid hb
      have OXd := Lib.hid (OX.out.below hb)
      have HAD := Lib.hid (HAD.out.below hb)
      obtain ⟨AA, cA, rfl, _, _, hal⟩ := ho.at
      have HAL := Lib.hid hal
      clear ho hl hb hal OA
      go_wp2_with fail
      go_loopw [10] (fun i wr => ∃ m : Nat, m ≤ Al.length ∧ i = .int .i64 m ∧ Below wc.heap.size wc wr) (fun i _ => Al.length - (intOf i).toNat)
      case atStart => exact ⟨0, Nat.zero_le _, rfl, Below.refl _ _⟩
      case round =>
        as_aux_lemma =>
          obtain ⟨m, hm, rfl, hb⟩ := hrel
          have KM := Lib.hid hb
          clear hb
          by_cases hlt : m < Al.length
          · obtain ⟨gA, oA, rfl, lgA, hcA⟩ := HAL.out (by omega)
            have HT := Lib.hid (hcA m hlt)
            have LGA := Lib.hid lgA
            have m0 : (m : Int) < (Al.length : Int) := by omega
            have m1 : (0 : Int) ≤ (m : Int) := by omega
            clear hcA lgA
            obtain ⟨t, ht⟩ : ∃ t, Al[m] = t := ⟨_, rfl⟩
            rw [ht] at HT
            clear ht
            go_upto_block 4 with fail
            have X0 := Lib.hid (Bx.new wr #[.int .i64 0, .bool false, .int .i64 0, .float .f64 0, .string ⟨#[]⟩] 28)
            have K0 := Lib.hid (KM.out.alloc KM.out.size (.cells #[.int .i64 0, .bool false, .int .i64 0, .float .f64 0, .string ⟨#[]⟩] 28))
            have ZP := Lib.hid KM.out.size
            obtain ⟨W, hW⟩ : ∃ W, wr.alloc (.cells #[.int .i64 0, .bool false, .int .i64 0, .float .f64 0, .string ⟨#[]⟩] 28) = W := ⟨_, rfl⟩
            rw [hW] at X0 K0
            try rw [hW]
            clear hW
            obtain ⟨pw, hpw⟩ : ∃ p, wr.heap.size = p := ⟨_, rfl⟩
            rw [hpw] at X0 ZP
            try rw [hpw]
            clear hpw
            go_wp2_with fail
            go_loopw [12] (fun i wq => ∃ k : Nat, k ≤ D.length ∧ i = .int .i64 k ∧ Bx wq pw (VP.cells (lastV (D.take k) t)) ∧ Below wc.heap.size wc wq) (fun i _ => D.length - (intOf i).toNat)
            case atStart => exact ⟨0, Nat.zero_le _, rfl, X0.out, K0.out⟩
            case round =>
              as_aux_lemma =>
                clear X0 K0
                obtain ⟨k, hk, rfl, hx, hb⟩ := hrel
                have XK := Lib.hid hx
                have KK := Lib.hid hb
                clear hx hb
                by_cases hlk : k < D.length
                · obtain ⟨g, off, rfl, lg, cg⟩ := (HAD.out.below KK.out) (by omega)
                  have r := cg k hlk
                  have HS := Lib.hid (lastV_snoc (D.take k) D[k] t)
                  rw [← List.take_succ_eq_append_getElem hlk] at HS
                  have i0 : (k : Int) < (D.length : Int) := by omega
                  have i1 : (0 : Int) ≤ (k : Int) := by omega
                  clear cg
                  obtain ⟨x, hx⟩ : ∃ x, D[k] = x := ⟨_, rfl⟩
                  rw [hx] at r HS
                  clear hx
                  obtain ⟨a, b, ⟨kk, vb, n, f, s⟩⟩ := x
                  have RR := Lib.hid r
                  have LG := Lib.hid lg
                  clear r lg
                  have K0 : Hid (∀ w', Below wr.heap.size wr w' → w'.cell? ⟨g, off + k * 7, none⟩ = some (.int .u64 a) ∧ w'.cell? ⟨g, off + k * 7 + 1, none⟩ = some (.int .u64 b) ∧ w'.cell? ⟨gA, oA + m, none⟩ = some (.int .u64 t)) := Lib.hid fun w' hb => by
                    have on : ∀ j v, (Pie.cells ⟨a, b, ⟨kk, vb, n, f, s⟩⟩).toList[j]? = some v → w'.cell? ⟨g, off + k * 7 + j, none⟩ = some v := fun j v hv => (hb.cell (p := ⟨g, off + k * 7 + j, none⟩) LG.out).trans (RR.out j v hv)
                    exact ⟨on 0 _ rfl, on 1 _ rfl, ((KK.out.trans (hb.mono KK.out.size)).cell (p := ⟨gA, oA + m, none⟩) LGA.out).trans HT.out⟩
                  have KD := Lib.hid (KK.out.drew)
                  have XD := Lib.hid (XK.out.below (Below.refl _ _).drew)
                  by_cases ca : a ≤ t
                  · by_cases cb : t < b
                    · have HS1 := Lib.hid (HS.out.1 ⟨ca, cb⟩)
                      have r2 : wr.cell? ⟨g, off + k * 7 + 2, none⟩ = some (.int .i64 kk) := RR.out 2 _ rfl
                      have r3 : wr.cell? ⟨g, off + k * 7 + 3, none⟩ = some (.bool vb) := RR.out 3 _ rfl
                      have r4 : wr.cell? ⟨g, off + k * 7 + 4, none⟩ = some (.int .i64 n) := RR.out 4 _ rfl
                      have r5 : wr.cell? ⟨g, off + k * 7 + 5, none⟩ = some (.float .f64 f) := RR.out 5 _ rfl
                      have r6 : wr.cell? ⟨g, off + k * 7 + 6, none⟩ = some (.string s) := RR.out 6 _ rfl
                      obtain ⟨L, hL⟩ : ∃ L, lastV (D.take k) t = L := ⟨_, rfl⟩
                      rw [hL] at XD
                      clear hL HS XK
                      obtain ⟨lk, lb, ln, lf, ls⟩ := L
                      have XD : Hid (Bx wr.drew pw #[.int .i64 lk, .bool lb, .int .i64 ln, .float .f64 lf, .string ls]) := XD
                      have x0 : ∀ j, wr.cell? ⟨pw, j, none⟩ = #[Value.int .i64 lk, .bool lb, .int .i64 ln, .float .f64 lf, .string ls][j]? := XD.out.c
                      have x1 : ∀ j, wr.frozen? ⟨pw, j, none⟩ = false := XD.out.fr
                      go_upto_region 16 with fail
                      go_region_held3 (fun w' => w'.cell? ⟨g, off + k * 7, none⟩ = some (.int .u64 a) ∧ w'.cell? ⟨g, off + k * 7 + 1, none⟩ = some (.int .u64 b) ∧ w'.cell? ⟨gA, oA + m, none⟩ = some (.int .u64 t)) (exact K0.out _ (Below.refl _ _).drew) (fail)
                      go_wp2_with fail
                      have XN := XD.out.put5 rfl (.int .i64 kk) (.bool vb) (.int .i64 n) (.float .f64 f) (.string s)
                      exact ⟨⟨k + 1, by omega, by go_num, by rw [HS1.out]; exact XN, set5_below _ _ _ _ _ _ ZP.out KD.out⟩, by simp [intOf]; omega⟩
                    · have HS1 := Lib.hid (HS.out.2 fun h => cb h.2)
                      have cb2 : decide (t < b) = false := by simpa using cb
                      go_upto_region 16 with fail
                      go_region_held3 (fun w' => w'.cell? ⟨g, off + k * 7, none⟩ = some (.int .u64 a) ∧ w'.cell? ⟨g, off + k * 7 + 1, none⟩ = some (.int .u64 b) ∧ w'.cell? ⟨gA, oA + m, none⟩ = some (.int .u64 t)) (exact K0.out _ (Below.refl _ _).drew) (fail)
                      go_wp2_with fail
                      exact ⟨⟨k + 1, by omega, by go_num, by rw [HS1.out]; exact XD.out, KD.out⟩, by simp [intOf]; omega⟩
                  · have HS1 := Lib.hid (HS.out.2 fun h => ca h.1)
                    have ca3 : t < a := by omega
                    have cq : decide (a ≤ t) = false := by simpa using ca
                    have q0 : wr.cell? ⟨g, off + k * 7, none⟩ = some (.int .u64 a) := (K0.out _ (Below.refl _ _)).1
                    have q2 : wr.cell? ⟨gA, oA + m, none⟩ = some (.int .u64 t) := (K0.out _ (Below.refl _ _)).2.2
                    clear ca
                    go_upto_region 16 with fail
                    go_quiet (fail)
                    go_wp2_with fail
                    exact ⟨⟨k + 1, by omega, by go_num, by rw [HS1.out]; exact XK.out.below (bel_drewN nq (Below.refl _ _)), bel_drewN nq KK.out⟩, by simp [intOf]; omega⟩
                · obtain rfl : k = D.length := by omega
                  rw [List.take_length] at XK
                  have CA := Lib.hid (fun W (hb : Below wc.heap.size wc W) => At_any ux R t W (OXd.out.below hb) (line_w HR.out.line) (by have := HR.out.len; have := HD.out; omega))
                  rw [meansAt_put HR.out] at CA
                  obtain ⟨L, hL⟩ : ∃ L, lastV D t = L := ⟨_, rfl⟩
                  rw [hL] at CA XK
                  clear hL
                  obtain ⟨lk, lb, ln, lf, ls⟩ := L
                  have CL := Lib.hid (like_self lk lb ln lf ls)
                  have K0 : Hid (∀ w', Below wr.heap.size wr w' → w'.cell? ⟨gA, oA + m, none⟩ = some (.int .u64 t) ∧ (∀ j, w'.cell? ⟨pw, j, none⟩ = #[Value.int .i64 lk, .bool lb, .int .i64 ln, .float .f64 lf, .string ls][j]?)) := Lib.hid fun w' hb => ⟨((KK.out.trans (hb.mono KK.out.size)).cell (p := ⟨gA, oA + m, none⟩) LGA.out).trans HT.out, (XK.out.below hb).c⟩
                  have KD := Lib.hid (KK.out.drew)
                  go_upto_region 18 with fail
                  go_region_held3 (fun w' => w'.cell? ⟨gA, oA + m, none⟩ = some (.int .u64 t) ∧ (∀ j, w'.cell? ⟨pw, j, none⟩ = #[Value.int .i64 lk, .bool lb, .int .i64 ln, .float .f64 lf, .string ls][j]?)) (first
                    | exact K0.out _ (Below.refl _ _).drew
                    | exact K0.out _ HV2.out
                    | exact K0.out _ HV1.out
                    | fail) (first
                    | (go_at_call 24; (with_reducible refine (CA.out _ KD.out).mono ?_); rintro e v1 ⟨rfl, hb⟩; have HV1 := Lib.hid (show Below wr.heap.size wr v1 from (Below.refl _ _).drew.trans hb); clear hb)
                    | (go_at_call 23; (with_reducible refine (CL.out _).mono ?_); rintro e v2 ⟨rfl, hb⟩; have HV2 := Lib.hid (show Below wr.heap.size wr v2 from HV1.out.trans (hb.mono HV1.out.size)); clear hb)
                    | fail)
                  have KE := Lib.hid (KK.out.trans (HV2.out.mono KK.out.size))
                  have la := LA.out
                  go_wp2_with fail
                  exact ⟨⟨m + 1, by omega, by go_num, KE.out⟩, by simp [intOf]; omega⟩
          · obtain rfl : m = Al.length := by omega
            obtain ⟨w9, rfl⟩ : ∃ x : World, x = wc := ⟨_, rfl⟩
            go_wp2_with fail
            go_loopw [13, 14, 15] (fun y cv i wr => ∃ (n : Nat) (Y : List Pie) (C : List (Int × Int)), n ≤ D.length ∧ i = .int .i64 ((D.length : Int) - 1 - n) ∧ OwnL w9.heap.size wr y Y ∧ Se.OwnP w9.heap.size wr cv C ∧ Back (D.drop (D.length - n)) Y C ∧ Below w9.heap.size w9 wr) (fun _ _ i _ => (intOf i + 1).toNat)
            case atStart => exact ⟨0, [], [], Nat.zero_le _, by have := HD.out; go_num, OwnL.nil _ _, Se.OwnP.nil _ _, by rw [Nat.sub_zero, List.drop_length]; exact Back.nil, KM.out⟩
            case round =>
              as_aux_lemma =>
                clear KM HAL
                obtain ⟨n, Y, C, hn, rfl, hoy, hoc, hbk, hb⟩ := hrel
                have OY := Lib.hid hoy
                have OC := Lib.hid hoc
                have BK := Lib.hid hbk
                have KQ := Lib.hid hb
                clear hoy hoc hbk hb
                by_cases hlt : n < D.length
                · obtain ⟨k, hk0⟩ : ∃ k, k = D.length - 1 - n := ⟨_, rfl⟩
                  have hk : k < D.length := by omega
                  have hki : (D.length : Int) - 1 - n = (k : Int) := by omega
                  have HDR : Hid (D.drop (D.length - (n + 1)) = D[k] :: D.drop (D.length - n)) := Lib.hid (by
                    rw [show D.length - n = k + 1 by omega, show D.length - (n + 1) = k by omega]
                    exact List.drop_eq_getElem_cons hk)
                  rw [hki]
                  obtain ⟨g, off, rfl, lg, cg⟩ := (HAD.out.below KQ.out) (by omega)
                  have r := cg k hk
                  have GX := Lib.hid (HG.out D[k] (List.getElem_mem hk))
                  have i0 : (k : Int) < (D.length : Int) := by omega
                  have i1 : (0 : Int) ≤ (k : Int) := by omega
                  clear cg
                  obtain ⟨x, hx⟩ : ∃ x, D[k] = x := ⟨_, rfl⟩
                  rw [hx] at r GX HDR
                  clear hx
                  have RR := Lib.hid r
                  have LG := Lib.hid lg
                  have HKI := Lib.hid hki
                  clear r hki hk0
                  have BL : Hid ((D.drop (D.length - n)).length ≤ 30) := Lib.hid (by have := HD.out; simp; omega)
                  have CM := Lib.hid (fun W v (hv : Se.IsP W v [(x.a, x.b)]) (hc : Se.IsP W u14 C) => Se.Minus_any v u14 [(x.a, x.b)] C W hv hc (fun p h => by rw [List.mem_singleton] at h; subst h; exact GX.out.2.2) BK.out.wide (by simp) (by have := BK.out.lenC; have := BL.out; omega))
                  obtain ⟨a, b, ⟨kk, vb, nn, f, s⟩⟩ := x
                  have r0 : wr.cell? ⟨g, off + k * 7, none⟩ = some (.int .u64 a) := RR.out 0 _ rfl
                  have r1 : wr.cell? ⟨g, off + k * 7 + 1, none⟩ = some (.int .u64 b) := RR.out 1 _ rfl
                  simp only at CM
                  have P1 := Lib.hid (show Se.IsP (wr.alloc (.cells #[.int .u64 a, .int .u64 b] 25)) (.slice (some ⟨wr.heap.size, 0, none⟩) 1 1) [(a, b)] from isP_new wr [(a, b)] 25 1 1 rfl)
                  have P2 := Lib.hid (OC.out.at.below ((Below.refl _ _).alloc (Nat.le_refl _) (.cells #[.int .u64 a, .int .u64 b] 25)))
                  have B0 := Lib.hid ((Below.refl wr.heap.size wr).alloc (Nat.le_refl _) (.cells #[.int .u64 a, .int .u64 b] 25))
                  go_upto_region 26 with (first
                    | (go_at_call 32; (with_reducible refine (CM.out _ _ P1.out P2.out).mono ?_); rintro e w3 ⟨uf, F, rfl, hr, ho, hb⟩; have HF := Lib.hid hr; have OF := Lib.hid ho; have B3 := Lib.hid (B0.out.trans (hb.mono B0.out.size)); clear hr ho hb))
                  have AF := Lib.hid OF.out.at
                  obtain ⟨AFA, cF, rfl, hAF⟩ := AF.out
                  have HAF := Lib.hid hAF
                  clear hAF AF r0 r1 P1 P2 B0 CM
                  have OC3 := Lib.hid (OC.out.below B3.out)
                  have OY3 := Lib.hid (OY.out.below B3.out)
                  have KQ3 := Lib.hid (KQ.out.trans (B3.out.mono KQ.out.size))
                  have RR3 : Hid (∀ j v, (Pie.cells ⟨a, b, ⟨kk, vb, nn, f, s⟩⟩).toList[j]? = some v → w3.cell? ⟨g, off + k * 7 + j, none⟩ = some v) := Lib.hid fun j v hv => (B3.out.cell (p := ⟨g, off + k * 7 + j, none⟩) LG.out).trans (RR.out j v hv)
                  have LG3 := Lib.hid (Nat.lt_of_lt_of_le LG.out B3.out.size)
                  have FL : Hid (F.length ≤ 40) := Lib.hid (by have := HF.out.len; have := BK.out.lenC; have := BL.out; simp only [List.length_cons, List.length_nil] at *; omega)
                  clear RR LG OC OY B3
                  go_upto_block 8 with fail
                  go_cut [13, 17, 18, 19] from 133 to 155 (fun y _ _ _ wd => ∃ Z, OwnL w9.heap.size wd y Z ∧ Mid ⟨a, b, ⟨kk, vb, nn, f, s⟩⟩ Y Z F F.length ∧ Below w3.heap.size w3 wd)
                  case first =>
                    as_aux_lemma =>
                      go_wp2_with fail
                      go_loopw [13, 17] (fun y i wq => ∃ (q : Nat) (Z : List Pie), q ≤ F.length ∧ i = .int .i64 q ∧ OwnL w9.heap.size wq y Z ∧ Mid ⟨a, b, ⟨kk, vb, nn, f, s⟩⟩ Y Z F q ∧ Below w3.heap.size w3 wq) (fun _ i _ => F.length - (intOf i).toNat)
                      case atStart => exact ⟨0, Y, Nat.zero_le _, rfl, OY3.out, Mid.start BK.out.line, Below.refl _ _⟩
                      case round =>
                        as_aux_lemma =>
                          clear OY3
                          obtain ⟨q, Z, hq, rfl, hoz, hmz, hb⟩ := hrel
                          have OZ := Lib.hid hoz
                          have MZ := Lib.hid hmz
                          have KZ := Lib.hid hb
                          clear hoz hmz hb
                          by_cases hlq : q < F.length
                          · obtain ⟨gF, oF, rfl, lgF, hcF⟩ := (HAF.out.below KZ.out) (by omega)
                            have hf := hcF q hlq
                            have q0 : (q : Int) < (F.length : Int) := by omega
                            have q1 : (0 : Int) ≤ (q : Int) := by omega
                            have FM := Lib.hid ((Se.Iset.mayP_iff _).1 (HF.out.nf.may F[q] (List.getElem_mem hlq)))
                            have MN := Lib.hid (fun S (hs : Pl.SetR okV VP.none Z F[q].1 F[q].2 ⟨kk, vb, nn, f, s⟩ S) => MZ.out.next hlq FM.out hs)
                            obtain ⟨y, hy⟩ : ∃ y, F[q] = y := ⟨_, rfl⟩
                            rw [hy] at hf FM MN
                            clear hy hcF
                            obtain ⟨c, d⟩ := y
                            try simp only at hf FM MN
                            have CS := Lib.hid (fun W (hb : Below wr.heap.size wr W) => Set_ok u13 Z c d ⟨kk, vb, nn, f, s⟩ W ((OZ.out.below hb).at) (line_w MZ.out.line) MZ.out.line FM.out GX.out.1.2 GX.out.2.1 (by have := MZ.out.len; have := BK.out.lenY; have := BL.out; have := FL.out; omega))
                            try simp only at CS
                            have K0 : Hid (∀ w', Below wr.heap.size wr w' → w'.cell? ⟨gF, oF + q * 2, none⟩ = some (.int .u64 c) ∧ w'.cell? ⟨gF, oF + q * 2 + 1, none⟩ = some (.int .u64 d) ∧ w'.cell? ⟨g, off + k * 7 + 2, none⟩ = some (.int .i64 kk) ∧ w'.cell? ⟨g, off + k * 7 + 3, none⟩ = some (.bool vb) ∧ w'.cell? ⟨g, off + k * 7 + 4, none⟩ = some (.int .i64 nn) ∧ w'.cell? ⟨g, off + k * 7 + 5, none⟩ = some (.float .f64 f) ∧ w'.cell? ⟨g, off + k * 7 + 6, none⟩ = some (.string s)) := Lib.hid fun w' hb => by
                              have on : ∀ j v, (Pie.cells ⟨a, b, ⟨kk, vb, nn, f, s⟩⟩).toList[j]? = some v → w'.cell? ⟨g, off + k * 7 + j, none⟩ = some v := fun j v hv => ((KZ.out.trans (hb.mono KZ.out.size)).cell (p := ⟨g, off + k * 7 + j, none⟩) LG3.out).trans (RR3.out j v hv)
                              exact ⟨(hb.cell (p := ⟨gF, oF + q * 2, none⟩) lgF).trans hf.1, (hb.cell (p := ⟨gF, oF + q * 2 + 1, none⟩) lgF).trans hf.2, on 2 _ rfl, on 3 _ rfl, on 4 _ rfl, on 5 _ rfl, on 6 _ rfl⟩
                            clear hf
                            go_upto_region 29 with fail
                            go_region_held3 (fun w' => w'.cell? ⟨gF, oF + q * 2, none⟩ = some (.int .u64 c) ∧ w'.cell? ⟨gF, oF + q * 2 + 1, none⟩ = some (.int .u64 d) ∧ w'.cell? ⟨g, off + k * 7 + 2, none⟩ = some (.int .i64 kk) ∧ w'.cell? ⟨g, off + k * 7 + 3, none⟩ = some (.bool vb) ∧ w'.cell? ⟨g, off + k * 7 + 4, none⟩ = some (.int .i64 nn) ∧ w'.cell? ⟨g, off + k * 7 + 5, none⟩ = some (.float .f64 f) ∧ w'.cell? ⟨g, off + k * 7 + 6, none⟩ = some (.string s)) (first
                              | exact K0.out _ (Below.refl _ _).drew
                              | exact K0.out _ HU1.out
                              | fail) (first
                              | (go_at_call 11; (refine (CS.out _ (Below.refl _ _).drew).mono ?_); rintro e1 w4 ⟨u4, S4, rfl, ho4, hs4, b4⟩; have HO4 := Lib.hid ho4; have HS4 := Lib.hid hs4; have HU1 := Lib.hid (show Below wr.heap.size wr w4 from (Below.refl _ _).drew.trans b4); clear b4 ho4 hs4)
                              | fail)
                            have fl := FL.out
                            go_wp2_with fail
                            have hz : w9.heap.size ≤ wr.drew.heap.size := Nat.le_trans KQ3.out.size KZ.out.size
                            exact ⟨⟨q + 1, S4, by omega, by go_num, HO4.out.mono hz, MN.out S4 HS4.out, KZ.out.trans (HU1.out.mono KZ.out.size)⟩, by simp [intOf]; omega⟩
                          · obtain rfl : q = F.length := by omega
                            go_wp2_with fail
                            go_meet
                            exact ⟨Z, OZ.out, MZ.out, KZ.out⟩
                  case rest =>
                    as_aux_lemma =>
                      obtain ⟨Z, hoz, hmz, hb⟩ := hcut
                      have OZ := Lib.hid hoz
                      have MD := Lib.hid (hmz.done BK.out GX.out.1 GX.out.2.2 BL.out HF.out)
                      have KD := Lib.hid (KQ3.out.trans (hb.mono KQ3.out.size))
                      have OC4 := Lib.hid (OC3.out.below hb)
                      have RR4 : Hid (∀ j v, (Pie.cells ⟨a, b, ⟨kk, vb, nn, f, s⟩⟩).toList[j]? = some v → wc.cell? ⟨g, off + k * 7 + j, none⟩ = some v) := Lib.hid fun j v hv => (hb.cell (p := ⟨g, off + k * 7 + j, none⟩) LG3.out).trans (RR3.out j v hv)
                      have c0 : wc.cell? ⟨g, off + k * 7, none⟩ = some (.int .u64 a) := RR4.out 0 _ rfl
                      have c1 : wc.cell? ⟨g, off + k * 7 + 1, none⟩ = some (.int .u64 b) := RR4.out 1 _ rfl
                      have OC5 := Lib.hid (OC4.out.alloc (.cells #[.int .u64 a, .int .u64 b] 25))
                      have OZ5 := Lib.hid (OZ.out.alloc (.cells #[.int .u64 a, .int .u64 b] 25))
                      have hlC : C.length ≤ 1000000000000 := by have := BK.out.lenC; have := BL.out; omega
                      have hsz : w9.heap.size ≤ wc.heap.size := KD.out.size
                      have NB := Lib.hid (Bx.new wc #[.int .u64 a, .int .u64 b] 25)
                      have k2 : IntKind.i64.wrap ((k : Int) - 1) = (k : Int) - 1 := by rw [IntKind.wrap_i64]; omega
                      clear hoz hmz hb
                      go_wp2_with (at_builtin; refine wpList_appP2 rfl (.tmp 156) (.tmp 162) rfl w9.heap.size _ C rfl OC5.out wc.heap.size a b rfl (NB.out.c 0) (NB.out.c 1) hlC (by simp; omega) ?_; intro v6 w6 ho6 hg6 hb6; have T6 := Lib.hid ho6; have G6 := Lib.hid hg6; have B6 := Lib.hid hb6; clear ho6 hg6 hb6)
                      have OZ6 : Hid (OwnL w9.heap.size w6 u13 Z) := Lib.hid (World.ownsRow.kept OZ5.out G6.out (apart_LP OZ5.out OC5.out))
                      exact ⟨⟨n + 1, Z, C ++ [(a, b)], by omega, by have := HKI.out; congr 1; omega, OZ6.out, T6.out, by rw [HDR.out]; exact MD.out, (KD.out.alloc KD.out.size _).trans B6.out⟩, by first | (simp [intOf]; done) | (simp [intOf]; omega)⟩
                · obtain rfl : n = D.length := by omega
                  have RY : Hid (R = Y) := Lib.hid (Back.last HR.out (by
                    have := BK.out
                    rwa [Nat.sub_self, List.drop_zero] at this))
                  have e0 : ((D.length : Int) - 1 - (D.length : Int)) = -1 := by omega
                  rw [e0]
                  have LR : Hid (R.length ≤ 60) := Lib.hid (by have := HR.out.len; have := HD.out; omega)
                  have RW : Hid (∀ p ∈ R, p.v.wide ∧ p.v.may) := Lib.hid fun p hp => ⟨(HR.out.line.good p hp).2.2.1, (HR.out.line.good p hp).2.2.2.1⟩
                  have CT1 := Lib.hid (theirs_any ux R wr (OXd.out.below KQ.out) (by have := LR.out; omega))
                  have CT2 := Lib.hid (fun W (hb : Below wr.heap.size wr W) => theirs_any u13 Y W (OY.out.at.below hb) (by have := LR.out; rw [RY.out] at this; omega))
                  have CS := Lib.hid (fun W va vb (ha : SL W va R) (hb : SL W vb Y) => (refPSame_any va vb R Y W ha hb RW.out (by rw [← RY.out]; exact RW.out)).mono fun _ _ h => h.yes RY.out)
                  clear HAD e0
                  go_wp2_with (first
                    | (go_at_call 16; (with_reducible refine (CT1.out).mono ?_); rintro e w4 ⟨ua, rfl, ho, hb⟩; have OA4 := Lib.hid ho; have K4 := Lib.hid hb; clear ho hb)
                    | (go_at_call 16; (with_reducible refine (CT2.out _ K4.out).mono ?_); rintro e w5 ⟨ub, rfl, ho, hb⟩; have OB5 := Lib.hid ho; have K5 := Lib.hid hb; have OA5 := Lib.hid (OA4.out.below hb); clear ho hb)
                    | (go_at_call 15; (with_reducible refine (CS.out _ _ _ OA5.out.at OB5.out.at).mono ?_); rintro e w6 ⟨rfl, hb⟩; have K6 := Lib.hid hb; clear hb)
                    | fail)
                  go_ret
                  have B3 := KQ.out.trans (K4.out.mono KQ.out.size)
                  have B4 := B3.trans (K5.out.mono B3.size)
                  have B5 := B4.trans (K6.out.mono B4.size)
                  have B6 := KA.out.trans (B5.mono KA.out.size)
                  exact ⟨rfl, B2.out.trans (B6.mono B2.out.size)⟩
end
end Go.Proofs.YtgmaompjhhomcaaGreat

