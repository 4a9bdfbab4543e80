/- What a line means at an instant: the library's search of the first that is so, and At. -/
import Derived.Test.YtgmaompjhhomcaaGreatmG47
import Derived.Test.YtgmaompjhhomcaaGreatmB11
namespace Go.Proofs.YtgmaompjhhomcaaGreat
open Go.RowKit
/-- The first place that is so, or none. -/
def FirstAt (l : List Pie) (t : Int) (w : World) (e : Ending) (w' : World) : Prop :=
  ((e = .returned (.int .i64 (-1)) ∧ ∀ x ∈ l, Se.hasB x.a x.b t = false) ∨ ∃ (k : Nat) (hk : k < l.length), e = .returned (.int .i64 k) ∧ Se.hasB l[k].a l[k].b t = true) ∧ Below w.heap.size w w'
open Classical in
/-- What At answers. -/
noncomputable def meansAt (l : List Pie) (t : Int) : VP := if Pl.Line okV l then Pl.means VP.none l t else VP.none
theorem hasB_iff (a b t : Int) : Se.hasB a b t = true ↔ (a < b ∧ b ≤ 1099511627776) ∧ a ≤ t ∧ t < b := by
  unfold Se.hasB Se.mayB
  simp [and_assoc]
theorem meansAt_no {l : List Pie} {t : Int} (h : ∀ x ∈ l, Se.hasB x.a x.b t = false) : meansAt l t = VP.none := by
  unfold meansAt
  split
  · rename_i hL
    refine Pl.means_none _ _ _ fun x hx hh => ?_
    have := h x hx
    rw [(hasB_iff _ _ _).2 ⟨⟨(hL.good x hx).1, (hL.good x hx).2.1⟩, hh⟩] at this
    cases this
  · rfl
theorem meansAt_bad {l : List Pie} (t : Int) (h : ¬ Pl.Line okV l) : meansAt l t = VP.none := by
  unfold meansAt
  rw [if_neg h]
theorem meansAt_yes {l : List Pie} {t : Int} {k : Nat} (hL : Pl.Line okV l) (hk : k < l.length) (h : Se.hasB l[k].a l[k].b t = true) : meansAt l t = l[k].v := by
  unfold meansAt
  rw [if_pos hL]
  have := (hasB_iff _ _ _).1 h
  exact Pl.means_at _ hL.par (List.getElem_mem hk) this.2.1 this.2.2
section
set_option maxRecDepth 100000
set_option maxHeartbeats 8000000
theorem At1_any (x : Pie) (t : Int) (q : Nat) (w : World) (h : Bx w q #[.int .u64 t]) : Calls Tryz.prog 78 #[Pie.val x, .pointer (some ⟨q, 0, none⟩)] w fun e w' => e = .returned (.bool (Se.hasB x.a x.b t)) ∧ Below w.heap.size w w' := by
  have C := Lib.hid (fun W => Se.Has_any x.a x.b t W)
  obtain ⟨a, b, ⟨k, vb, n, f, s⟩⟩ := x
  simp only at C
  generalize Se.hasB a b t = r at *
  have hsf := store_float
  have X0 := Lib.hid (h.below ((Below.refl w.heap.size w).alloc (Nat.le_refl _) (.cells (Pie.cells ⟨a, b, ⟨k, vb, n, f, s⟩⟩) 43)))
  have x0 := X0.out.c 0
  have hq := h.lt
  clear h
  go_enter Tryz.func78, Tryz.ntmps78
  go_wp2_with (go_at_call 50; (with_reducible refine (C.out _).mono ?_); rintro e w1 ⟨rfl, hb⟩)
  go_ret
  exact ⟨rfl, ((Below.refl w.heap.size w).alloc (Nat.le_refl _) _).trans (hb.mono (by simp))⟩
theorem Index_any (v : Value) (l : List Pie) (t : Int) (q : Nat) (w : World) (h : SL w v l) (hq : Bx w q #[.int .u64 t]) (hl : l.length ≤ 1000000000000) :
    Calls Tryz.prog 77 #[v, .func (.func 78) #[] #[.pointer (some ⟨q, 0, none⟩)]] w (FirstAt l t w) := by
  obtain ⟨A, c, rfl, hA, hm⟩ := h
  have HA := Lib.hid hA
  have HQ := Lib.hid hq
  clear hA hq
  have hsf := store_float
  go_enter Tryz.func77, Tryz.ntmps77
  go_wp2
  go_loopw [8] (fun i wr => ∃ k : Nat, k ≤ l.length ∧ i = .int .i64 k ∧ (∀ j (hj : j < l.length), j < k → Se.hasB l[j].a l[j].b t = false) ∧ Below w.heap.size w wr) (fun i _ => l.length - (intOf i).toNat)
  case atStart => exact ⟨0, Nat.zero_le _, rfl, by omega, Below.refl _ _⟩
  case round =>
    obtain ⟨k, hk, rfl, hp, hb⟩ := hrel
    have HP := Lib.hid hp
    have HB := Lib.hid hb
    clear hp hb
    by_cases hlt : k < l.length
    · obtain ⟨g, off, rfl, lg, cg⟩ := (HA.out.below HB.out) (by omega)
      have r := cg k hlt
      have i0 : (k : Int) < (l.length : Int) := by omega
      have i1 : (0 : Int) ≤ (k : Int) := by omega
      clear cg
      obtain ⟨x, hx⟩ : ∃ x, l[k] = x := ⟨_, rfl⟩
      rw [hx] at r
      have HX := Lib.hid hx
      clear hx
      have CA := Lib.hid (fun W (hb : Below wr.heap.size wr W) => At1_any x t q W ((HQ.out.below HB.out).below hb))
      obtain ⟨a, b, ⟨kk, vb, n, f, s⟩⟩ := x
      simp only at CA
      generalize hc : Se.hasB a b t = cc at CA
      have HC := Lib.hid hc
      clear hc
      cases cc
      · go_wp2_with (first
          | (refine wpList_load_mid rfl 43 (.tmp 14) rfl g (off + k * 7) rfl _ _ r Tryz.underlying43 rfl rowL ?_)
          | (go_at_call 78; (with_reducible refine (CA.out _ (Below.refl _ _)).mono ?_); rintro e w1 ⟨rfl, hb⟩; have HB1 := Lib.hid (HB.out.trans (hb.mono HB.out.size)); clear hb)
          | fail)
        exact ⟨⟨k + 1, hlt, by go_num, fun j hj hjk => by
          by_cases hjk' : j < k
          · exact HP.out j hj hjk'
          · obtain rfl : j = k := by omega
            rw [HX.out]; exact HC.out, HB1.out⟩, by simp [intOf]; omega⟩
      · go_wp2_with (first
          | (refine wpList_load_mid rfl 43 (.tmp 14) rfl g (off + k * 7) rfl _ _ r Tryz.underlying43 rfl rowL ?_)
          | (go_at_call 78; (with_reducible refine (CA.out _ (Below.refl _ _)).mono ?_); rintro e w1 ⟨rfl, hb⟩; have HB1 := Lib.hid (HB.out.trans (hb.mono HB.out.size)); clear hb)
          | fail)
        go_ret
        exact ⟨.inr ⟨k, hlt, rfl, by rw [HX.out]; exact HC.out⟩, HB1.out⟩
    · obtain rfl : k = l.length := by omega
      go_wp2
      go_ret
      exact ⟨.inl ⟨rfl, fun x hx => by
        obtain ⟨j, hj, rfl⟩ := List.getElem_of_mem hx
        exact HP.out j hj hj⟩, HB.out⟩
theorem At_any (v : Value) (l : List Pie) (t : Int) (w : World) (h : SL w v l) (hw : ∀ x ∈ l, x.v.wide) (hl : l.length ≤ 1000000000000) :
    Calls Tryz.prog 24 #[v, .int .u64 t] w fun e w' => e = .returned (meansAt l t).val ∧ Below w.heap.size w w' := by
  have CI := Lib.hid (fun W q (hb : Below w.heap.size w W) (hx : Bx W q #[.int .u64 t]) => Index_any v l t q W (h.below hb) hx hl)
  have CY := Lib.hid (fun W (hb : Below w.heap.size w W) => Is_any v l W (h.below hb) hw)
  obtain ⟨A, c, rfl, hA, hm⟩ := h
  have HA := Lib.hid hA
  clear hA hw
  have hsf := store_float
  have Q0 := Lib.hid ((Bx.new w #[.int .u64 t] 23).below ((Below.refl _ _).alloc (Nat.le_refl _) (.cells #[.int .i64 0, .bool false, .int .i64 0, .float .f64 0, .string ⟨#[]⟩] 28)))
  have Y0 := Lib.hid (Bx.new (w.alloc (.cells #[.int .u64 t] 23)) #[.int .i64 0, .bool false, .int .i64 0, .float .f64 0, .string ⟨#[]⟩] 28)
  rw [show (w.alloc (.cells #[.int .u64 t] 23)).heap.size = w.heap.size + 1 by simp] at Y0
  have HB0 := Lib.hid (((Below.refl w.heap.size w).alloc (Nat.le_refl _) (.cells #[.int .u64 t] 23)).alloc (by simp) (.cells #[.int .i64 0, .bool false, .int .i64 0, .float .f64 0, .string ⟨#[]⟩] 28))
  go_enter Tryz.func24, Tryz.ntmps24
  go_upto_region 1 with fail
  obtain ⟨W0, hW0⟩ : ∃ W, (w.alloc (.cells #[.int .u64 t] 23)).alloc (.cells #[.int .i64 0, .bool false, .int .i64 0, .float .f64 0, .string ⟨#[]⟩] 28) = W := ⟨_, rfl⟩
  rw [hW0] at Q0 Y0 HB0
  try rw [hW0]
  clear hW0
  go_wp2_with fail
  refine (CI.out _ _ HB0.out Q0.out).mono ?_
  rintro e w1 ⟨hi, hb⟩
  have B1 := Lib.hid (HB0.out.trans (hb.mono HB0.out.size))
  have Y1 := Lib.hid (Y0.out.below hb)
  clear hb
  rcases hi with ⟨rfl, hno⟩ | ⟨k, hk, rfl, hyes⟩
  · have HN := Lib.hid (meansAt_no hno)
    have y0 := Y1.out.c
    have y1 := Y1.out.fr
    clear hno
    go_wp2_with fail
    obtain ⟨s0, s1, s2, s3, s4⟩ := set5 w1 (w.heap.size + 1) (.int .i64 0) (.bool false) (.int .i64 0) (.float .f64 0) (.string ⟨#[]⟩) _ rfl y0
    refine bodyPost_ret (v := vagg 0 false 0 0 ⟨#[]⟩) (by simp [results, Tryz.results24, go_sem, s0, s1, s2, s3, s4]) rfl ?_
    exact ⟨by rw [HN.out]; rfl, set5_below _ _ _ _ _ _ (by omega) B1.out⟩
  · have i0 : (k : Int) < (l.length : Int) := by omega
    have i1 : (0 : Int) ≤ (k : Int) := by omega
    have i2 : ¬ (k : Int) < 0 := by omega
    have HK := Lib.hid hk
    have HY := Lib.hid hyes
    clear hyes
    go_wp2_with fail
    refine (CY.out _ B1.out).mono ?_
    rintro e w2 ⟨cc, rfl, hc, hb⟩
    have B2 := Lib.hid (B1.out.trans (hb.mono B1.out.size))
    have Y2 := Lib.hid (Y1.out.below hb)
    clear hb
    have y0 := Y2.out.c
    have y1 := Y2.out.fr
    cases cc
    · have HN := Lib.hid (meansAt_bad (l := l) t fun h => by simpa using hc.2 h)
      clear hc
      go_wp2_with fail
      obtain ⟨s0, s1, s2, s3, s4⟩ := set5 w2 (w.heap.size + 1) (.int .i64 0) (.bool false) (.int .i64 0) (.float .f64 0) (.string ⟨#[]⟩) _ rfl y0
      refine bodyPost_ret (v := vagg 0 false 0 0 ⟨#[]⟩) (by simp [results, Tryz.results24, go_sem, s0, s1, s2, s3, s4]) rfl ?_
      exact ⟨by rw [HN.out]; rfl, set5_below _ _ _ _ _ _ (by omega) B2.out⟩
    · have HN := Lib.hid (meansAt_yes (hc.1 rfl) HK.out HY.out)
      have ok := Lib.hid (hc.1 rfl)
      obtain ⟨g, off, rfl, lg, cg⟩ := (HA.out.below B2.out) (by omega)
      have r := cg k HK.out
      have CL := Lib.hid (fun W => clone_any (l[k]'HK.out).v (may_size (ok.out.good _ (List.getElem_mem HK.out)).2.2.2.1) W)
      clear cg hc
      generalize l[k]'HK.out = x at r HN CL
      obtain ⟨a, b, ⟨kk, vb, n, f, s⟩⟩ := x
      have r2 : w2.cell? ⟨g, off + k * 7 + 2, none⟩ = some (.int .i64 kk) := r 2 _ rfl
      have r3 : w2.cell? ⟨g, off + k * 7 + 3, none⟩ = some (.bool vb) := r 3 _ rfl
      have r4 : w2.cell? ⟨g, off + k * 7 + 4, none⟩ = some (.int .i64 n) := r 4 _ rfl
      have r5 : w2.cell? ⟨g, off + k * 7 + 5, none⟩ = some (.float .f64 f) := r 5 _ rfl
      have r6 : w2.cell? ⟨g, off + k * 7 + 6, none⟩ = some (.string s) := r 6 _ rfl
      clear r
      go_wp2_with (go_at_call 64; (with_reducible refine (CL.out _).mono ?_); rintro e w3 ⟨rfl, hb⟩; have B3 := Lib.hid (B2.out.trans (hb.mono B2.out.size)); clear y0 y1; have y0 := (Y2.out.below hb).c; have y1 := (Y2.out.below hb).fr)
      obtain ⟨s0, s1, s2, s3, s4⟩ := set5 w3 (w.heap.size + 1) (.int .i64 kk) (.bool vb) (.int .i64 n) (.float .f64 f) (.string s) _ rfl y0
      refine bodyPost_ret (v := vagg kk vb n f s) (by simp [results, Tryz.results24, go_sem, s0, s1, s2, s3, s4]) rfl ?_
      exact ⟨by rw [HN.out], set5_below _ _ _ _ _ _ (by omega) B3.out⟩
end
end Go.Proofs.YtgmaompjhhomcaaGreat

