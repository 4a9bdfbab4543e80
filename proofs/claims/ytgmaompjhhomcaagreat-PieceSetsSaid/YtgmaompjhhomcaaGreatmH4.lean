/- The law's lines of whole numbers, and whether pieces are these. -/
import Derived.Test.YtgmaompjhhomcaaGreatmH2
namespace Go.Proofs.YtgmaompjhhomcaaGreat
open Go.RowKit
/-- A slice of whole numbers. -/
def UL (w : World) (v : Value) (U : List Int) : Prop := ∃ A c, v = .slice A U.length c ∧ (0 < U.length → ∃ b off, A = some ⟨b, off, none⟩ ∧ b < w.heap.size ∧ ∀ i (h : i < U.length), w.cell? ⟨b, off + i, none⟩ = some (.int .u64 U[i]))
theorem UL.below {w w' : World} {v : Value} {U : List Int} (h : UL w v U) (hb : Below w.heap.size w w') : UL w' v U := by
  obtain ⟨A, c, e, hA⟩ := h
  refine ⟨A, c, e, fun h0 => ?_⟩
  obtain ⟨g, off, e, hl, hc⟩ := hA h0
  exact ⟨g, off, e, Nat.lt_of_lt_of_le hl hb.size, fun i hi => (hb.cell (p := ⟨g, off + i, none⟩) hl).trans (hc i hi)⟩
abbrev T3 := Int × Int × Int
def flat3 (T : List T3) : List Int := T.flatMap fun t => [t.1, t.2.1, t.2.2]
def line3 (T : List T3) : List Pie := T.map fun t => ⟨t.1, t.2.1, numV t.2.2⟩
theorem flat3_length (T : List T3) : (flat3 T).length = T.length * 3 := by
  induction T with
  | nil => rfl
  | cons t T ih =>
    have e : flat3 (t :: T) = t.1 :: t.2.1 :: t.2.2 :: flat3 T := by simp [flat3]
    rw [e, List.length_cons, List.length_cons, List.length_cons, ih, List.length_cons]
    omega
theorem flat3_get (T : List T3) (k : Nat) (h : k < T.length) : (flat3 T)[k * 3]? = some T[k].1 ∧ (flat3 T)[k * 3 + 1]? = some T[k].2.1 ∧ (flat3 T)[k * 3 + 2]? = some T[k].2.2 := by
  induction T generalizing k with
  | nil => simp at h
  | cons t T ih =>
    have e : flat3 (t :: T) = t.1 :: t.2.1 :: t.2.2 :: flat3 T := by simp [flat3]
    rw [e]
    cases k with
    | zero => simp
    | succ k =>
      have := ih k (by simpa using h)
      rw [show (k + 1) * 3 = k * 3 + 1 + 1 + 1 by omega]
      simpa using this
theorem line3_wide (T : List T3) (h : ∀ t ∈ T, fits t.2.2) : ∀ x ∈ line3 T, x.v.wide ∧ x.v.may := fun x hx => by
  obtain ⟨t, ht, rfl⟩ := List.mem_map.1 hx
  refine ⟨?_, numV_may _⟩
  unfold VP.wide WideV numV
  exact ⟨by unfold fits; simp, h t ht, by simp, by simp⟩
section
set_option maxRecDepth 100000
set_option maxHeartbeats 8000000
theorem line_any (v : Value) (T : List T3) (w : World) (h : UL w v (flat3 T)) (hl : T.length ≤ 1000) (hT : ∀ t ∈ T, 0 ≤ t.2.2 ∧ t.2.2 ≤ 1000) :
    Calls Tryz.prog 126 #[v] w fun e w' => ∃ u, e = .returned u ∧ OwnL w.heap.size w' u (line3 T) ∧ Below w.heap.size w w' := by
  obtain ⟨A, c, rfl, hA⟩ := h
  have HA := Lib.hid (fun W (hb : Below w.heap.size w W) (h0 : 0 < (flat3 T).length) => (show ∃ b off, A = some ⟨b, off, none⟩ ∧ b < W.heap.size ∧ ∀ i (h : i < (flat3 T).length), W.cell? ⟨b, off + i, none⟩ = some (.int .u64 (flat3 T)[i]) by
    obtain ⟨g, off, e, hl, hc⟩ := hA h0
    exact ⟨g, off, e, Nat.lt_of_lt_of_le hl hb.size, fun i hi => (hb.cell (p := ⟨g, off + i, none⟩) hl).trans (hc i hi)⟩))
  have HT := Lib.hid hT
  have hfl := flat3_length T
  clear hA hT
  have hsf := store_float
  rw [hfl]
  go_enter Tryz.func126, Tryz.ntmps126
  go_wp2
  go_loopw [3, 4] (fun u i wr => ∃ k K : Nat, k ≤ T.length ∧ K = k * 3 ∧ i = .int .i64 K ∧ OwnL w.heap.size wr u (line3 (T.take k)) ∧ Below w.heap.size w wr) (fun _ i _ => T.length * 3 - (intOf i).toNat)
  case atStart => exact ⟨0, 0, Nat.zero_le _, rfl, rfl, by simpa [line3] using OwnL.nil _ _, Below.refl _ _⟩
  case round =>
    obtain ⟨k, K, hk, hK, rfl, ho, hb⟩ := hrel
    have HO := Lib.hid ho
    have HB := Lib.hid hb
    clear ho hb
    by_cases hlt : k < T.length
    · obtain ⟨g, off, rfl, lg, cg⟩ := HA.out wr HB.out (by omega)
      obtain ⟨f0, f1, f2⟩ := flat3_get T k hlt
      have c0 := cg (k * 3) (by omega)
      have c1 := cg (k * 3 + 1) (by omega)
      have c2 := cg (k * 3 + 2) (by omega)
      rw [List.getElem?_eq_getElem (by omega)] at f0 f1 f2
      injection f0 with f0
      injection f1 with f1
      injection f2 with f2
      rw [f0, ← hK] at c0
      rw [f1, ← hK] at c1
      rw [f2, ← hK] at c2
      have ht := HT.out T[k] (List.getElem_mem hlt)
      have HTK := Lib.hid (show line3 (T.take (k + 1)) = line3 (T.take k) ++ [⟨T[k].1, T[k].2.1, numV T[k].2.2⟩] by
        unfold line3; rw [List.take_succ_eq_append_getElem hlt, List.map_append]; rfl)
      have HLN := Lib.hid (show (line3 (T.take k)).length + 1 ≤ 1000000000000 by
        unfold line3; rw [List.length_map, List.length_take]; omega)
      clear f0 f1 f2 cg
      generalize T[k].1 = ta at *
      generalize T[k].2.1 = tb at *
      generalize T[k].2.2 = tc at *
      generalize line3 (T.take k) = M at *
      have CN := Lib.hid (fun W => Number_any tc W)
      have i0 : (K : Int) + 2 < (T.length : Int) * 3 := by omega
      have i1 : (0 : Int) ≤ (K : Int) := by omega
      have i2 : (K : Int) < (T.length : Int) * 3 := by omega
      have i3 : (K : Int) + 1 < (T.length : Int) * 3 := by omega
      have w1 : IntKind.i64.wrap ((K : Int) + 1) = (K : Int) + 1 := by rw [IntKind.wrap_i64]; omega
      have w2 : IntKind.i64.wrap ((K : Int) + 2) = (K : Int) + 2 := by rw [IntKind.wrap_i64]; omega
      have w3 : IntKind.i64.wrap tc = tc := by rw [IntKind.wrap_i64]; omega
      have n1 : ((K : Int) + 1).toNat = K + 1 := by omega
      have n2 : ((K : Int) + 2).toNat = K + 2 := by omega
      have j1 : (0 : Int) ≤ (K : Int) + 1 := by omega
      have j2 : (0 : Int) ≤ (K : Int) + 2 := by omega
      have HKK := Lib.hid hK
      clear hK
      have hsz := HB.out.size
      have K0 : Hid (∀ w', Below wr.heap.size wr w' → w'.cell? ⟨g, off + K, none⟩ = some (.int .u64 ta) ∧ w'.cell? ⟨g, off + (K + 1), none⟩ = some (.int .u64 tb) ∧ w'.cell? ⟨g, off + (K + 2), none⟩ = some (.int .u64 tc)) := Lib.hid fun w' hb =>
        ⟨(hb.cell (p := ⟨g, off + K, none⟩) lg).trans c0, (hb.cell (p := ⟨g, off + (K + 1), none⟩) lg).trans c1, (hb.cell (p := ⟨g, off + (K + 2), none⟩) lg).trans c2⟩
      clear c0 c1 c2
      go_upto_region 5 with fail
      obtain ⟨c0, c1, c2⟩ := K0.out wr (Below.refl _ _)
      go_region_law (first
        | ((with_reducible refine step_appL rfl (.tmp 12) (.tmp 31) rfl w.heap.size u3 M (by simp [Act.eval]) O4.out w4.heap.size ⟨ta, tb, numV tc⟩ (by simp [Act.eval]) R4.out HLN.out Z4.out ?_); intro u6 w6 h2 h3 h4; have O6 := Lib.hid h2; have B6 := Lib.hid ((HB.out.trans (B4.out.mono hsz)).alloc (Nat.le_trans hsz B4.out.size) (.cells (Pie.cells ⟨ta, tb, numV tc⟩) 43) |>.grown h3 Z4.out fun q e => (HO.out.ownLt q e).1); clear h2 h3 h4)
        | (go_simp; go_at_call 84; (refine (CN.out _).mono ?_); rintro e w4 ⟨rfl, hb0⟩; have hb : Below wr.heap.size wr w4 := (Below.refl _ _).drew.trans hb0; have B4 := Lib.hid hb; obtain ⟨d0, d1, d2⟩ := K0.out w4 hb; have O4 := Lib.hid ((HO.out.below hb).alloc (.cells (Pie.cells ⟨ta, tb, numV tc⟩) 43)); have R4 := Lib.hid (Bx.range (Bx.new w4 (Pie.cells ⟨ta, tb, numV tc⟩) 43)); have Z4 := Lib.hid (show w.heap.size ≤ (w4.alloc (.cells (Pie.cells ⟨ta, tb, numV tc⟩) 43)).heap.size from Nat.le_trans hsz (Nat.le_trans hb.size (by simp))); clear hb hb0))
      all_goals
        go_wp2
        exact ⟨⟨k + 1, K + 3, by omega, by have := HKK.out; omega, by go_num, by rw [HTK.out]; exact O6.out, B6.out⟩, by have := HKK.out; simp [intOf]; omega⟩
    · obtain rfl : k = T.length := by omega
      rw [List.take_length] at HO
      have w2 : IntKind.i64.wrap ((K : Int) + 2) = (K : Int) + 2 := by rw [IntKind.wrap_i64]; omega
      have i0 : decide ((K : Int) + 2 < (T.length : Int) * 3) = false := by simp; omega
      have i1 : ¬ ((K : Int) + 2 < (T.length : Int) * 3) := by omega
      clear hK
      go_wp2
      go_ret
      exact ⟨_, rfl, HO.out, HB.out⟩
/-- Whether pieces are these whole numbers'. -/
theorem like_any (v tv : Value) (l : List Pie) (T : List T3) (w : World) (h : SL w v l) (ht : UL w tv (flat3 T)) (hl : l.length ≤ 1000000000) (hw : ∀ x ∈ l, x.v.wide ∧ x.v.may) (hT : T.length ≤ 1000) (hT2 : ∀ t ∈ T, 0 ≤ t.2.2 ∧ t.2.2 ≤ 1000) :
    Calls Tryz.prog 85 #[v, tv] w (Says (l = line3 T) w) := by
  have hTw : ∀ x ∈ line3 T, x.v.wide ∧ x.v.may := line3_wide T fun t ht => by
    have := hT2 t ht
    unfold fits
    omega
  have hTl : (line3 T).length ≤ 1000000000 := by unfold line3; rw [List.length_map]; omega
  have C1 := Lib.hid (theirs_any v l w h hl)
  have C2 := Lib.hid (fun W (hb : Below w.heap.size w W) => line_any tv T W (ht.below hb) hT hT2)
  have C3 := Lib.hid (fun W u (hu : SL W u (line3 T)) => theirs_any u (line3 T) W hu hTl)
  have C4 := Lib.hid (fun W u u2 (hu : SL W u l) (hu2 : SL W u2 (line3 T)) => refPSame_any u u2 l (line3 T) W hu hu2 hw hTw)
  clear h ht hw hTw hT2
  go_enter Tryz.func85, Tryz.ntmps85
  go_wp2_with fail
  refine (C1.out).mono ?_
  rintro e w1 ⟨u1, rfl, ho1, hb1⟩
  have O1 := Lib.hid ho1
  have B1 := Lib.hid hb1
  clear ho1 hb1
  go_wp2_with fail
  refine (C2.out _ B1.out).mono ?_
  rintro e w2 ⟨u2, rfl, ho2, hb2⟩
  have O2 := Lib.hid ho2
  have B2 := Lib.hid hb2
  clear ho2 hb2
  go_wp2_with fail
  refine (C3.out _ _ O2.out.at).mono ?_
  rintro e w3 ⟨u3, rfl, ho3, hb3⟩
  have O3 := Lib.hid ho3
  have B3 := Lib.hid hb3
  clear ho3 hb3
  go_wp2_with fail
  refine (C4.out _ _ _ ((O1.out.below B2.out).below B3.out).at O3.out.at).mono ?_
  rintro e w4 ⟨c, rfl, hc, hb4⟩
  have HC := Lib.hid hc
  have B4 := Lib.hid hb4
  clear hc hb4
  go_wp2
  go_ret
  have e1 := B1.out.trans (B2.out.mono B1.out.size)
  have e2 := e1.trans (B3.out.mono e1.size)
  exact ⟨c, rfl, HC.out, e2.trans (B4.out.mono e2.size)⟩
end
end Go.Proofs.YtgmaompjhhomcaaGreat

