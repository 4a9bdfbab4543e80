/- A value in new memory; whether one piece may follow another. -/
/- Whether pieces are a line. -/
import Derived.Test.YtmolpogehgeebaaGreatbV6b
namespace Go.Proofs.YtmolpogehgeebaaGreat
open Go.RowKit
section
set_option maxRecDepth 100000
set_option maxHeartbeats 2000000
theorem slClone_any (s : ByteArray) (w : World) (h1 : s.size ≤ 1000) :
    Calls Tryz.prog 147 #[.string s] w fun e w' => e = .returned (.string s) ∧ Below w.heap.size w w' := by
  by_cases h0 : 0 < s.size
  · exact strClone_any s w h0 h1
  · obtain rfl : s = ByteArray.empty := by
      obtain ⟨d⟩ := s
      have : d = #[] := Array.eq_empty_of_size_eq_zero (by simpa [ByteArray.size] using h0)
      subst this; rfl
    clear h0 h1
    go_enter Tryz.func147, Tryz.ntmps147
    go_wp2
    go_ret
    exact ⟨rfl, Below.refl _ _⟩
theorem strsClone_any (s : ByteArray) (w : World) (h1 : s.size ≤ 1000) :
    Calls Tryz.prog 80 #[.string s] w fun e w' => e = .returned (.string s) ∧ Below w.heap.size w w' := by
  have C := Lib.hid (fun W => slClone_any s W h1)
  clear h1
  go_enter Tryz.func80, Tryz.ntmps80
  go_wp2_with (go_at_call 147; (with_reducible refine (C.out _).mono ?_); rintro e w1 ⟨rfl, hb⟩)
  go_ret
  exact ⟨rfl, hb⟩
theorem clone_any (v : VP) (hs : v.s.size ≤ 1000) (w : World) :
    Calls Tryz.prog 171 #[v.val] w fun e w' => e = .returned v.val ∧ Below w.heap.size w w' := by
  have C := Lib.hid (fun W => strsClone_any v.s W hs)
  obtain ⟨k, b, n, f, s⟩ := v
  simp only at C
  clear hs
  have hsf := store_float
  go_enter Tryz.func171, Tryz.ntmps171
  go_upto_region 1 with fail
  have X0 := Lib.hid ((Bx.new w #[.int .i64 k, .bool b, .int .i64 n, .float .f64 f, .string s] 31).below ((Below.refl _ _).alloc (Nat.le_refl _) (.cells #[.int .i64 0, .bool false, .int .i64 0, .float .f64 0, .string ⟨#[]⟩] 31)))
  have Y0 := Lib.hid (Bx.new (w.alloc (.cells #[.int .i64 k, .bool b, .int .i64 n, .float .f64 f, .string s] 31)) #[.int .i64 0, .bool false, .int .i64 0, .float .f64 0, .string ⟨#[]⟩] 31)
  have B0 := Lib.hid (((Below.refl w.heap.size w).alloc (Nat.le_refl _) (.cells #[.int .i64 k, .bool b, .int .i64 n, .float .f64 f, .string s] 31)).alloc (by simp) (.cells #[.int .i64 0, .bool false, .int .i64 0, .float .f64 0, .string ⟨#[]⟩] 31))
  go_wp2_with (go_at_call 80; (with_reducible refine (C.out _).mono ?_); rintro e w1 ⟨rfl, hb⟩; have x0 := (X0.out.below hb).c; have x1 := (X0.out.below hb).fr; have y0 := (Y0.out.below hb).c; have y1 := (Y0.out.below hb).fr; have B1 := Lib.hid (B0.out.trans (hb.mono B0.out.size)); clear hb; rw [show (w.alloc (.cells #[.int .i64 k, .bool b, .int .i64 n, .float .f64 f, .string s] 31)).heap.size = w.heap.size + 1 by simp] at y0 y1)
  obtain ⟨s0, s1, s2, s3, s4⟩ := set5 (w1.setCell ⟨w.heap.size, 4, none⟩ (.string s)) (w.heap.size + 1) (.int .i64 k) (.bool b) (.int .i64 n) (.float .f64 f) (.string s) _ rfl (fun j => (World.cell?_setCell_other _ _ _ _ (by intro e; simp only [Addr.mk.injEq] at e; omega)).trans (y0 j))
  refine bodyPost_ret (v := vagg k b n f s) (by simp [results, Tryz.results171, go_sem, s0, s1, s2, s3, s4]) rfl ?_
  exact ⟨rfl, set5_below _ _ _ _ _ _ (by omega) (B1.out.setCell (p := ⟨w.heap.size, 4, none⟩) (Nat.le_refl _) _)⟩
/-- Whether y may stand behind x. -/
theorem follows_any (x y : Pie) (hx : x.v.wide) (hy : y.v.wide) (mx : x.v.may) (my : y.v.may) (w : World) :
    Calls Tryz.prog 207 #[Pie.val x, Pie.val y] w (Says (Pl.follows x y) w) := by
  have CS := Lib.hid (fun W => valSame_any x.v y.v hx hy mx my W)
  have HN : Hid (∀ c : Bool, x.b = y.a → (c = true ↔ x.v = y.v) → ((!c) = true ↔ Pl.follows x y)) := Lib.hid fun c h hc => by
    unfold Pl.follows
    rw [Bool.not_eq_true', ← Bool.not_eq_true, hc]
    constructor
    · exact fun g => .inr ⟨h, g⟩
    · rintro (g | g)
      · omega
      · exact g.2
  have HL : Hid (¬ x.b = y.a → (decide (x.b < y.a) = true ↔ Pl.follows x y)) := Lib.hid fun h => by
    unfold Pl.follows
    simp [h]
  clear hx hy mx my
  obtain ⟨a, b, ⟨k, vb, n, f, s⟩⟩ := x
  obtain ⟨a', b', ⟨k', vb', n', f', s'⟩⟩ := y
  simp only at CS HN HL
  have hsf := store_float
  have HB := Lib.hid (((Below.refl w.heap.size w).alloc (Nat.le_refl _) (.cells #[.int .u64 a, .int .u64 b, .int .i64 k, .bool vb, .int .i64 n, .float .f64 f, .string s] 148)).alloc (by simp) (.cells #[.int .u64 a', .int .u64 b', .int .i64 k', .bool vb', .int .i64 n', .float .f64 f', .string s'] 148))
  by_cases h : b = a'
  · have HN2 := Lib.hid (fun c hc => HN.out c h hc)
    subst h
    clear HN HL
    go_enter Tryz.func207, Tryz.ntmps207
    go_wp2_with (go_at_call 31; (with_reducible refine (CS.out _).mono ?_); rintro e w1 ⟨c, rfl, hc, hb⟩; have HC := Lib.hid hc; have B1 := Lib.hid (HB.out.trans (hb.mono HB.out.size)); clear hc hb)
    go_ret
    exact ⟨!c, rfl, HN2.out c HC.out, B1.out⟩
  · have HL2 := Lib.hid (HL.out h)
    have t0 : (b == a') = false := by simpa using h
    clear HN HL h
    go_enter Tryz.func207, Tryz.ntmps207
    go_wp2
    go_ret
    exact ⟨_, rfl, HL2.out, HB.out⟩
end
end Go.Proofs.YtmolpogehgeebaaGreat


namespace Go.Proofs.YtmolpogehgeebaaGreat
open Go.RowKit
namespace Pl
theorem chain_get {V : Type} : ∀ {l : List (PC V)}, Chain l → ∀ i (h : i + 1 < l.length), follows l[i] l[i + 1]
  | [], _, _, h => by simp at h
  | [_], _, _, h => by simp at h
  | _ :: _ :: _, hc, 0, _ => hc.1
  | _ :: y :: l, hc, i + 1, h => chain_get (l := y :: l) hc.2 i (by simpa using h)
theorem Line.more {V : Type} {ok : V → Prop} {l : List (PC V)} {k : Nat} (h : Line ok (l.take k)) (hk : k < l.length) (hm : may ok l[k]) (hf : ∀ i (h : i + 1 = k), follows l[i] l[k]) : Line ok (l.take (k + 1)) := by
  rw [List.take_succ_eq_append_getElem hk]
  refine ⟨fun x hx => ?_, ?_⟩
  · rcases List.mem_append.1 hx with hx | hx
    · exact h.good x hx
    · simp only [List.mem_singleton] at hx
      subst hx; exact hm
  · cases k with
    | zero => trivial
    | succ i =>
      have hc := h.chain
      rw [List.take_succ_eq_append_getElem (by omega)] at hc ⊢
      exact chain_snoc _ _ _ hc (hf i rfl)
theorem Line.not_may {V : Type} {ok : V → Prop} {l : List (PC V)} {k : Nat} (hk : k < l.length) (hm : ¬ may ok l[k]) : ¬ Line ok l := fun h => hm (h.good _ (List.getElem_mem hk))
theorem Line.not_follows {V : Type} {ok : V → Prop} {l : List (PC V)} {i : Nat} (hk : i + 1 < l.length) (hm : ¬ follows l[i] l[i + 1]) : ¬ Line ok l := fun h => hm (chain_get h.chain i hk)
end Pl
section
set_option maxRecDepth 100000
set_option maxHeartbeats 4000000
theorem perMay_says (a b : Int) (w : World) : Calls Tryz.prog 95 #[.agg #[.int .u64 a, .int .u64 b]] w (Says (a < b ∧ b ≤ 1099511627776) w) :=
  (Se.May_any a b w).mono fun _ _ ⟨e, hb⟩ => ⟨_, e, by unfold Se.mayB; simp, hb⟩
theorem Is_any (v : Value) (l : List Pie) (w : World) (h : SL w v l) (hw : ∀ x ∈ l, x.v.wide) :
    Calls Tryz.prog 162 #[v] w (Says (Pl.Line okV l) w) := by
  obtain ⟨A, c, rfl, hA, hm⟩ := h
  have HA := Lib.hid hA
  have HW := Lib.hid hw
  clear hA hw
  have hsf := store_float
  go_enter Tryz.func162, Tryz.ntmps162
  go_wp2
  go_loopw [7] (fun i wr => ∃ k : Nat, k ≤ l.length ∧ i = .int .i64 k ∧ Pl.Line okV (l.take k) ∧ Below w.heap.size w wr) (fun i _ => l.length - (intOf i).toNat)
  case atStart => exact ⟨0, Nat.zero_le _, rfl, by simpa using Pl.Line.nil okV, Below.refl _ _⟩
  case round =>
    obtain ⟨k, hk, rfl, hp, hb⟩ := hrel
    have HP := Lib.hid hp
    have HB := Lib.hid hb
    clear hp hb
    by_cases hlt : k < l.length
    · obtain ⟨g, off, rfl, lg, cg⟩ := (HA.out.below HB.out) (by omega)
      have r := cg k hlt
      have WX := Lib.hid (HW.out l[k] (List.getElem_mem hlt))
      have HM := Lib.hid (Pl.Line.more HP.out hlt)
      have HN := Lib.hid (Pl.Line.not_may (ok := okV) hlt)
      have CG := Lib.hid (And.intro lg cg)
      have i0 : (k : Int) < (l.length : Int) := by omega
      have i1 : (0 : Int) ≤ (k : Int) := by omega
      clear cg
      obtain ⟨x, hx⟩ : ∃ x, l[k] = x := ⟨_, rfl⟩
      rw [hx] at r WX HM HN
      have HX := Lib.hid hx
      clear hx
      have CS := Lib.hid (fun W => settable_any x.v WX.out W)
      have CM := Lib.hid (fun W => perMay_says x.a x.b W)
      obtain ⟨a, b, ⟨kk, vb, n, f, s⟩⟩ := x
      simp only at CS CM
      go_upto_region 4 with (refine wpList_load_mid rfl 148 (.tmp 10) rfl g (off + k * 7) rfl _ _ r Tryz.underlying148 rfl rowL ?_)
      have X0 := Lib.hid (Bx.new wr (Pie.cells ⟨a, b, ⟨kk, vb, n, f, s⟩⟩) 148)
      have HB0 := Lib.hid (HB.out.trans (((Below.refl wr.heap.size wr).alloc (Nat.le_refl _) (.cells (Pie.cells ⟨a, b, ⟨kk, vb, n, f, s⟩⟩) 148)).mono HB.out.size))
      have HG0 := Lib.hid ((Below.refl wr.heap.size wr).alloc (Nat.le_refl _) (.cells (Pie.cells ⟨a, b, ⟨kk, vb, n, f, s⟩⟩) 148))
      obtain ⟨W, hW⟩ : ∃ W, wr.alloc (.cells (Pie.cells ⟨a, b, ⟨kk, vb, n, f, s⟩⟩) 148) = W := ⟨_, rfl⟩
      rw [hW] at X0 HB0 HG0 ⊢
      clear hW
      have x0 := X0.out.c
      have x1 := X0.out.fr
      by_cases hk0 : kk = 0
      · have HN0 := Lib.hid (HN.out fun h => h.2.2.2.2.1 hk0)
        have t0 : (kk == 0) = true := by simpa using hk0
        clear hk0
        go_wp2_with (first
          | (go_at_call 95; (with_reducible refine (CM.out _).mono ?_); rintro e w1 ⟨c1, rfl, hc1, hb⟩; have HC1 := Lib.hid hc1; have X1 := Lib.hid (X0.out.below hb); have HB1 := Lib.hid (HB0.out.trans (hb.mono HB0.out.size)); have HG1 := Lib.hid (HG0.out.trans (hb.mono HG0.out.size)); clear hb hc1 x0 x1; have x0 := X1.out.c; have x1 := X1.out.fr; cases c1)
          | (go_at_call 206; (with_reducible refine (CS.out _).mono ?_); rintro e w2 ⟨c2, rfl, hc2, hb⟩; have HC2 := Lib.hid hc2; have X2 := Lib.hid (X1.out.below hb); have HB2 := Lib.hid (HB1.out.trans (hb.mono HB1.out.size)); have HG2 := Lib.hid (HG1.out.trans (hb.mono HG1.out.size)); clear hb hc2 x0 x1; have x0 := X2.out.c; have x1 := X2.out.fr; cases c2)
          | fail)
        · go_ret
          exact ⟨false, rfl, by simp [HN0.out], HB1.out⟩
        · go_ret
          exact ⟨false, rfl, by simp [HN0.out], HB2.out⟩
        · go_ret
          exact ⟨false, rfl, by simp [HN0.out], HB2.out⟩
      · have HK0 := Lib.hid hk0
        have t0 : (kk == 0) = false := by simpa using hk0
        clear hk0
        go_wp2_with (first
          | (go_at_call 95; (with_reducible refine (CM.out _).mono ?_); rintro e w1 ⟨c1, rfl, hc1, hb⟩; have HC1 := Lib.hid hc1; have X1 := Lib.hid (X0.out.below hb); have HB1 := Lib.hid (HB0.out.trans (hb.mono HB0.out.size)); have HG1 := Lib.hid (HG0.out.trans (hb.mono HG0.out.size)); clear hb hc1 x0 x1; have x0 := X1.out.c; have x1 := X1.out.fr; cases c1)
          | (go_at_call 206; (with_reducible refine (CS.out _).mono ?_); rintro e w2 ⟨c2, rfl, hc2, hb⟩; have HC2 := Lib.hid hc2; have X2 := Lib.hid (X1.out.below hb); have HB2 := Lib.hid (HB1.out.trans (hb.mono HB1.out.size)); have HG2 := Lib.hid (HG1.out.trans (hb.mono HG1.out.size)); clear hb hc2 x0 x1; have x0 := X2.out.c; have x1 := X2.out.fr; cases c2)
          | fail)
        · go_ret
          exact ⟨false, rfl, by have := HN.out (fun h => by have h' := HC1.out.2 ⟨h.1, h.2.1⟩; cases h'); simp [this], HB1.out⟩
        · go_ret
          exact ⟨false, rfl, by have := HN.out (fun h => by have h' := HC2.out.2 h.2.2.set; cases h'); simp [this], HB2.out⟩
        · have MX : Hid (Pl.may okV ⟨a, b, ⟨kk, vb, n, f, s⟩⟩) := Lib.hid (by
            have h1 := HC1.out.1 (by simp)
            exact ⟨h1.1, h1.2, set_ok (HC2.out.1 (by simp)) WX.out HK0.out⟩)
          clear HN HC1 HC2 CS CM X0 X1 HB0 HB1 HG0 HG1
          cases k with
          | zero =>
            have HM0 := Lib.hid (HM.out MX.out (fun i h => by omega))
            go_quiet (fail)
            go_wp2
            exact ⟨⟨1, by omega, by go_num, HM0.out, bel_drewN nq HB2.out⟩, by simp [intOf]; omega⟩
          | succ i =>
            have hi : i < l.length := by omega
            have WY := Lib.hid (HW.out l[i] (List.getElem_mem hi))
            have rq := CG.out.2 i hi
            have HF : Hid (Pl.follows l[i] ⟨a, b, ⟨kk, vb, n, f, s⟩⟩ → Pl.Line okV (l.take (i + 1 + 1))) := Lib.hid fun h => HM.out MX.out (fun j hj => by
              have : j = i := by omega
              subst this; exact h)
            have HNF : Hid (¬ Pl.follows l[i] ⟨a, b, ⟨kk, vb, n, f, s⟩⟩ → ¬ Pl.Line okV l) := Lib.hid fun h => Pl.Line.not_follows (ok := okV) hlt (by rw [HX.out]; exact h)
            have MY : Hid (l[i].v.may) := Lib.hid (HP.out.good l[i] (List.mem_take_iff_getElem.2 ⟨i, by omega, rfl⟩)).2.2.2.1
            obtain ⟨y, hy⟩ : ∃ y, l[i] = y := ⟨_, rfl⟩
            rw [hy] at WY rq HF HNF MY
            clear hy
            have CF := Lib.hid (fun W => follows_any y ⟨a, b, ⟨kk, vb, n, f, s⟩⟩ WY.out WX.out MY.out MX.out.2.2.2.1 W)
            obtain ⟨a', b', ⟨k', vb', n', f', s'⟩⟩ := y
            have K0 : Hid (∀ w', Below w2.heap.size w2 w' → (∀ j, w'.cell? ⟨wr.heap.size, j, none⟩ = (Pie.cells ⟨a, b, ⟨kk, vb, n, f, s⟩⟩)[j]?) ∧ w'.cell? ⟨g, off + i * 7, none⟩ = some (.int .u64 a') ∧ w'.cell? ⟨g, off + i * 7 + 1, none⟩ = some (.int .u64 b') ∧ w'.cell? ⟨g, off + i * 7 + 2, none⟩ = some (.int .i64 k') ∧ w'.cell? ⟨g, off + i * 7 + 3, none⟩ = some (.bool vb') ∧ w'.cell? ⟨g, off + i * 7 + 4, none⟩ = some (.int .i64 n') ∧ w'.cell? ⟨g, off + i * 7 + 5, none⟩ = some (.float .f64 f') ∧ w'.cell? ⟨g, off + i * 7 + 6, none⟩ = some (.string s')) := Lib.hid fun w' hb => by
              have on : ∀ j v, (Pie.cells ⟨a', b', ⟨k', vb', n', f', s'⟩⟩).toList[j]? = some v → w'.cell? ⟨g, off + i * 7 + j, none⟩ = some v := fun j v hv =>
                (hb.cell (p := ⟨g, off + i * 7 + j, none⟩) (Nat.lt_of_lt_of_le lg HG2.out.size)).trans ((HG2.out.cell (p := ⟨g, off + i * 7 + j, none⟩) lg).trans (rq j v hv))
              exact ⟨(X2.out.below hb).c, on 0 _ rfl, on 1 _ rfl, on 2 _ rfl, on 3 _ rfl, on 4 _ rfl, on 5 _ rfl, on 6 _ rfl⟩
            clear rq HM CG x0 x1
            obtain ⟨K, hK⟩ : ∃ K : Int, K = ((i + 1 : Nat) : Int) := ⟨_, rfl⟩
            rw [← hK] at i0 i1 ⊢
            have k1 : (0 : Int) < K := by omega
            have k2 : IntKind.i64.wrap (K - 1) = (i : Int) := by rw [IntKind.wrap_i64]; omega
            have k3 : (i : Int) < (l.length : Int) := by omega
            have k4 : (0 : Int) ≤ (i : Int) := by omega
            have HKK := Lib.hid hK
            clear hK
            go_region_held3 (fun w' => (∀ j, w'.cell? ⟨wr.heap.size, j, none⟩ = (Pie.cells ⟨a, b, ⟨kk, vb, n, f, s⟩⟩)[j]?) ∧ w'.cell? ⟨g, off + i * 7, none⟩ = some (.int .u64 a') ∧ w'.cell? ⟨g, off + i * 7 + 1, none⟩ = some (.int .u64 b') ∧ w'.cell? ⟨g, off + i * 7 + 2, none⟩ = some (.int .i64 k') ∧ w'.cell? ⟨g, off + i * 7 + 3, none⟩ = some (.bool vb') ∧ w'.cell? ⟨g, off + i * 7 + 4, none⟩ = some (.int .i64 n') ∧ w'.cell? ⟨g, off + i * 7 + 5, none⟩ = some (.float .f64 f') ∧ w'.cell? ⟨g, off + i * 7 + 6, none⟩ = some (.string s')) (first
                | exact K0.out _ (Below.refl _ _).drew
                | exact K0.out _ HU1.out
                | fail) (first
              | (go_at_call 207; (with_reducible refine (CF.out _).mono ?_); rintro e1 w4 ⟨c4, rfl, hc4, b4⟩; have HC4 := Lib.hid hc4; have HU1 := Lib.hid (show Below w2.heap.size w2 w4 from (Below.refl _ _).drew.trans b4); clear b4 hc4)
              | fail)
            have B4 := Lib.hid (HB2.out.trans (HU1.out.mono HB2.out.size))
            cases c4
            · go_wp2
              go_ret
              exact ⟨false, rfl, by have := HNF.out (fun h => by have h' := HC4.out.2 h; simp at h'); simp [this], B4.out⟩
            · go_wp2
              exact ⟨⟨i + 1 + 1, by omega, by have := HKK.out; go_num, HF.out (HC4.out.1 (by simp)), B4.out⟩, by have := HKK.out; simp [intOf]; omega⟩
    · have HE : Hid (Pl.Line okV l) := Lib.hid (by
        have h := HP.out
        rwa [List.take_of_length_le (by omega)] at h)
      clear HP
      go_wp2
      go_ret
      exact ⟨true, rfl, by simp [HE.out], HB.out⟩
end
end Go.Proofs.YtmolpogehgeebaaGreat


