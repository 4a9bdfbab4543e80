/- The document's Mark and Strip. -/
import Derived.Test.YtbmhgmigcgeooaaDoorP6
import Derived.Test.YtbmhgmigcgeooaaDoorK1
namespace Go.Proofs.YtbmhgmigcgeooaaDoor
open Go.RowKit
set_option maxRecDepth 100000 in
set_option maxHeartbeats 1000000 in
theorem refMark_any (A : Option Addr) (l : List UInt8) (n cap : Nat) (w : World) (hA : At w A l) (hz : A = none → cap = 0) (hm : l.length + 4 ≤ 140737488355328) (hn : l.length = n) :
    Calls Tryd.prog 24 #[.slice A n cap] w fun e w' => ∃ v, e = .returned v ∧ Own1 w.heap.size w' v (markL l) ∧ Below w.heap.size w w' := by
  subst hn
  have C := Lib.hid (refSum_any A l l.length cap w hA (by omega) rfl)
  have HA := Lib.hid hA
  have HZ := Lib.hid hz
  have HS := Lib.hid (cells_sumB (moreV 0#32 l))
  have hs := (moreV 0#32 l).isLt
  clear hA hz
  go_enter Tryd.func24, Tryd.ntmps24
  go_wp2_with (first
    | (go_at_call 31; ((refine (C.out).mono ?_); rintro e w' ⟨rfl, rfl⟩))
    | (at_builtin; refine wpList_app _ rfl (.tmp 7) (.tmp 8) rfl w.heap.size (.slice none 0 0) [] rfl (Own1.nil _ _) A l.length cap l rfl HA.out HZ.out rfl (by simp; omega) (Nat.le_refl _) w (Below.refl _ _) ?_; intro v1 w1 ho1 hb1 _ _; have O1 : Hid (Own1 w.heap.size w1 v1 l) := ho1; have B1 := Lib.hid hb1; clear ho1 hb1)
    | (at_builtin; refine wpList_app _ rfl (.tmp 10) (.tmp 22) rfl w.heap.size v1 l rfl (O1.out.alloc _) _ 4 4 (sumB (moreV 0#32 l)) rfl (at_four _ HS.out) (fun h => by cases h) rfl (by rw [sumB_length]; omega) (by have := B1.out.size; simp; omega) w (B1.out.alloc B1.out.size _) ?_; intro v2 w2 ho2 hb2 _ _))
  go_ret
  exact ⟨v2, rfl, ho2, hb2⟩
/-- What the document's Strip gives back. -/
def StripsR (w : World) (l : List UInt8) (e : Ending) (w' : World) : Prop :=
  ∃ A cap, e = .returned (.tuple #[.slice A (stripL l).length cap, .int .i64 (stripE l : Nat)]) ∧ At w' A (stripL l) ∧ Below w.heap.size w w'
theorem StripsR.short {w : World} {l : List UInt8} (h : l.length < 4) : StripsR w l (.returned (.tuple #[.slice none 0 0, .int .i64 4])) w := by
  obtain ⟨A, cap, h1, _, h3, _, h5⟩ := Strips.short (w := w) h
  exact ⟨A, cap, h1, h3, h5⟩
theorem StripsR.sum {w w' : World} {l : List UInt8} (h : ¬ l.length < 4) (hs : markL (l.take (l.length - 4)) ≠ l) (hb : Below w.heap.size w w') : StripsR w l (.returned (.tuple #[.slice none 0 0, .int .i64 21])) w' := by
  obtain ⟨A, cap, h1, _, h3, _, h5⟩ := Strips.sum h hs hb
  exact ⟨A, cap, h1, h3, h5⟩
theorem StripsR.ok {w w' : World} {l : List UInt8} {A : Option Addr} {n c : Nat} (h : ¬ l.length < 4) (hs : markL (l.take (l.length - 4)) = l) (hn : n = l.length - 4) (hA : At w' A (l.take (l.length - 4))) (hb : Below w.heap.size w w') : StripsR w l (.returned (.tuple #[.slice A n c, .int .i64 0])) w' := by
  have e : stripE l = 0 := by unfold stripE; rw [if_neg h, if_pos hs]
  have e2 : stripL l = l.take (l.length - 4) := by unfold stripL; rw [e]; rfl
  refine ⟨A, c, ?_, by rw [e2]; exact hA, hb⟩
  rw [e, e2, List.length_take]
  subst hn
  rw [show min (l.length - 4) l.length = l.length - 4 by omega]
  rfl
theorem own_conv {base : Nat} {w : World} {v : Value} {l : List UInt8} (h : Own1 base w v l) : (convert 22 9 v).run Tryd.prog w = .ok (.string ⟨l.toArray⟩) w := by
  obtain ⟨A, c, rfl, _, _, hA⟩ := h.at
  exact conv_text w A l c hA
set_option maxRecDepth 100000 in
set_option maxHeartbeats 2000000 in
theorem refStrip_short (A : Option Addr) (l : List UInt8) (cap : Nat) (w : World) (h4 : l.length < 4) :
    Calls Tryd.prog 34 #[.slice A l.length cap] w (StripsR w l) := by
  have i1 : (l.length : Int) < 4 := by omega
  go_enter Tryd.func34, Tryd.ntmps34
  go_wp2
  go_ret2
  exact StripsR.short h4
set_option maxRecDepth 100000 in
set_option maxHeartbeats 2000000 in
theorem refStrip_long (b off : Nat) (l : List UInt8) (cap : Nat) (w : World) (hA : At w (some ⟨b, off, none⟩) l) (hc : l.length ≤ cap) (hm : l.length ≤ 140737488355328) (h4 : ¬ l.length < 4) :
    Calls Tryd.prog 34 #[.slice (some ⟨b, off, none⟩) l.length cap] w (StripsR w l) := by
  have HA := Lib.hid hA
  obtain ⟨k, hk⟩ : ∃ k, l.length - 4 = k := ⟨_, rfl⟩
  have hT : (l.take k).length = k := by rw [List.length_take]; omega
  have i1 : ¬ (l.length : Int) < 4 := by omega
  have i2 : ((l.length : Int) - 4).toNat = k := by omega
  have i6 : IntKind.i64.wrap ((l.length : Int) - 4) = (l.length : Int) - 4 := IntWalk.i64_in _ (by omega)
  have i4 : (0 : Int) ≤ (l.length : Int) - 4 := by omega
  have i5 : (l.length : Int) - 4 ≤ (cap : Int) := by omega
  clear hA
  go_enter Tryd.func34, Tryd.ntmps34
  go_upto_region 5 with (at_builtin; refine wpList_app _ rfl (.tmp 8) (.tmp 13) rfl w.heap.size (.slice none 0 0) [] rfl (Own1.nil _ _) (some ⟨b, off, none⟩) k cap (l.take k) rfl (take_at k HA.out) (fun h => by cases h) hT (by rw [hT]; simp; omega) (Nat.le_refl _) w (Below.refl _ _) ?_; intro v1 w1 ho1 hb1 _ _; have O1 : Hid (Own1 w.heap.size w1 v1 (l.take k)) := ho1; have B1 := Lib.hid hb1; clear ho1 hb1)
  obtain ⟨F, cf, rfl, hzF, hcF, hF⟩ := O1.out.at
  rw [hT] at hcF ⊢
  have hF1 := Lib.hid hF
  have hZ1 := Lib.hid hzF
  have EQ : l.length - 4 = k := hk
  by_cases hs : markL (l.take k) = l
  · have c2 := fun wk (hb : Below w1.heap.size w1 wk) => refMark_any F (l.take k) k cf wk (hF1.out.below hb) hZ1.out (by rw [hT]; omega) hT
    rw [hs] at c2
    have C2 := Lib.hid c2
    have K0 := Lib.hid (fun wk (hb : Below w1.heap.size w1 wk) => (⟨hb, conv_text wk (some ⟨b, off, none⟩) l cap ((HA.out.below B1.out).below hb)⟩ : Below w1.heap.size w1 wk ∧ (convert 22 9 (.slice (some ⟨b, off, none⟩) l.length cap)).run Tryd.prog wk = .ok (.string ⟨l.toArray⟩) wk))
    have HK : Hid (∀ w', At w' F (l.take k) → Below w.heap.size w w' → StripsR w l (.returned (.tuple #[.slice F k cf, .int .i64 0])) w') := Lib.hid fun w' h1 h2 => StripsR.ok h4 (by rw [hk]; exact hs) hk.symm (by rw [hk]; exact h1) h2
    clear c2 hs hF hzF
    refine wp_region_held_drew (S := (fun wk => Below w1.heap.size w1 wk ∧ (convert 22 9 (.slice (some ⟨b, off, none⟩) l.length cap)).run Tryd.prog wk = .ok (.string ⟨l.toArray⟩) wk)) (by kernel_rfl) (K0.out _ (Below.refl _ _).drew) (fun hHeld => ?_)
    refine take_in (i := 0) (v := ?_) (some 15) rfl rfl (by kernel_rfl) (by kernel_rfl) (by kernel_rfl) (fun _ _ _ h => h) (Or.inl ⟨by rfl, ?_⟩) (by assumption) ?_
    rotate_left
    · (intro w hSw; (try dsimp only at hSw); (try go_split_ands); go_simp; try with_reducible rfl)
    try simp only [Act.put, List.setIfInBounds_toArray, List.set_cons_zero, List.set_cons_succ]
    refine take_in (i := 3) (v := ?_) (some 18) rfl rfl (by kernel_rfl) (by kernel_rfl) (by kernel_rfl) (fun _ _ _ h => h) (Or.inl ⟨by rfl, ?_⟩) (by assumption) ?_
    rotate_left
    · (intro w hSw; (try dsimp only at hSw); (try go_split_ands); go_simp; try with_reducible rfl)
    try simp only [Act.put, List.setIfInBounds_toArray, List.set_cons_zero, List.set_cons_succ]
    refine take_in (i := 4) (v := ?_) (some 19) rfl rfl (by kernel_rfl) (by kernel_rfl) (by kernel_rfl) (fun _ _ _ h => h) (Or.inl ⟨by rfl, ?_⟩) (by assumption) ?_
    rotate_left
    · (intro w hSw; (try dsimp only at hSw); (try go_split_ands); go_simp; try with_reducible rfl)
    try simp only [Act.put, List.setIfInBounds_toArray, List.set_cons_zero, List.set_cons_succ]
    refine wpAnyH_ready (rs := [1]) (by kernel_rfl) (by simp) ?_
    refine AllReadyH.cons rfl (fun K hK => ?_) AllReadyH.nil
    go_simp
    refine (C2.out _ hHeld.1).mono ?_
    rintro e w2 ⟨v2, rfl, ho2, hb2⟩
    have hv2 := own_conv ho2
    replace hb2 := hHeld.1.trans (hb2.mono hHeld.1.size)
    clear ho2
    go_wp2_with fail
    refine hK.out _ _ (K0.out _ hb2) (fun hHeld => ?_)
    clear hK K
    try simp only [Act.put, List.setIfInBounds_toArray, List.set_cons_zero, List.set_cons_succ]
    refine wpAnyH_ready (rs := [2]) (by kernel_rfl) (by simp) ?_
    refine AllReadyH.cons rfl (fun K hK => ?_) AllReadyH.nil
    go_simp
    refine hK.out _ _ (hHeld) (fun hHeld => ?_)
    clear hK K
    try simp only [Act.put, List.setIfInBounds_toArray, List.set_cons_zero, List.set_cons_succ]
    refine take_in (i := 5) (v := ?_) (some 20) rfl rfl (by kernel_rfl) (by kernel_rfl) (by kernel_rfl) (fun _ _ _ h => h) (Or.inl ⟨by rfl, ?_⟩) (by assumption) ?_
    rotate_left
    · (intro w hSw; (try dsimp only at hSw); (try go_split_ands); go_simp; try with_reducible rfl)
    try simp only [Act.put, List.setIfInBounds_toArray, List.set_cons_zero, List.set_cons_succ]
    refine wpAnyH_done (by kernel_rfl) ?_ _
    go_wp2
    go_ret2
    exact HK.out _ (hF1.out.below hHeld.1) (B1.out.trans (Below.mono hHeld.1 B1.out.size))
  · have c2 := fun wk (hb : Below w1.heap.size w1 wk) => refMark_any F (l.take k) k cf wk (hF1.out.below hb) hZ1.out (by rw [hT]; omega) hT
    have HK : Hid (∀ w', Below w.heap.size w w' → StripsR w l (.returned (.tuple #[.slice none 0 0, .int .i64 21])) w') := Lib.hid fun w' h2 => StripsR.sum h4 (by rw [hk]; exact hs) h2
    obtain ⟨M, hM⟩ : ∃ M, markL (l.take k) = M := ⟨_, rfl⟩
    rw [hM] at c2 hs
    have hne : (M == l) = false := by simpa using hs
    have C2 := Lib.hid c2
    have K0 := Lib.hid (fun wk (hb : Below w1.heap.size w1 wk) => (⟨hb, conv_text wk (some ⟨b, off, none⟩) l cap ((HA.out.below B1.out).below hb)⟩ : Below w1.heap.size w1 wk ∧ (convert 22 9 (.slice (some ⟨b, off, none⟩) l.length cap)).run Tryd.prog wk = .ok (.string ⟨l.toArray⟩) wk))
    clear c2 hs hF hzF hM
    refine wp_region_held_drew (S := (fun wk => Below w1.heap.size w1 wk ∧ (convert 22 9 (.slice (some ⟨b, off, none⟩) l.length cap)).run Tryd.prog wk = .ok (.string ⟨l.toArray⟩) wk)) (by kernel_rfl) (K0.out _ (Below.refl _ _).drew) (fun hHeld => ?_)
    refine take_in (i := 0) (v := ?_) (some 15) rfl rfl (by kernel_rfl) (by kernel_rfl) (by kernel_rfl) (fun _ _ _ h => h) (Or.inl ⟨by rfl, ?_⟩) (by assumption) ?_
    rotate_left
    · (intro w hSw; (try dsimp only at hSw); (try go_split_ands); go_simp; try with_reducible rfl)
    try simp only [Act.put, List.setIfInBounds_toArray, List.set_cons_zero, List.set_cons_succ]
    refine take_in (i := 3) (v := ?_) (some 18) rfl rfl (by kernel_rfl) (by kernel_rfl) (by kernel_rfl) (fun _ _ _ h => h) (Or.inl ⟨by rfl, ?_⟩) (by assumption) ?_
    rotate_left
    · (intro w hSw; (try dsimp only at hSw); (try go_split_ands); go_simp; try with_reducible rfl)
    try simp only [Act.put, List.setIfInBounds_toArray, List.set_cons_zero, List.set_cons_succ]
    refine take_in (i := 4) (v := ?_) (some 19) rfl rfl (by kernel_rfl) (by kernel_rfl) (by kernel_rfl) (fun _ _ _ h => h) (Or.inl ⟨by rfl, ?_⟩) (by assumption) ?_
    rotate_left
    · (intro w hSw; (try dsimp only at hSw); (try go_split_ands); go_simp; try with_reducible rfl)
    try simp only [Act.put, List.setIfInBounds_toArray, List.set_cons_zero, List.set_cons_succ]
    refine wpAnyH_ready (rs := [1]) (by kernel_rfl) (by simp) ?_
    refine AllReadyH.cons rfl (fun K hK => ?_) AllReadyH.nil
    go_simp
    refine (C2.out _ hHeld.1).mono ?_
    rintro e w2 ⟨v2, rfl, ho2, hb2⟩
    have hv2 := own_conv ho2
    replace hb2 := hHeld.1.trans (hb2.mono hHeld.1.size)
    clear ho2
    go_wp2_with fail
    refine hK.out _ _ (K0.out _ hb2) (fun hHeld => ?_)
    clear hK K
    try simp only [Act.put, List.setIfInBounds_toArray, List.set_cons_zero, List.set_cons_succ]
    refine wpAnyH_ready (rs := [2]) (by kernel_rfl) (by simp) ?_
    refine AllReadyH.cons rfl (fun K hK => ?_) AllReadyH.nil
    go_simp
    refine hK.out _ _ (hHeld) (fun hHeld => ?_)
    clear hK K
    try simp only [Act.put, List.setIfInBounds_toArray, List.set_cons_zero, List.set_cons_succ]
    refine take_in (i := 5) (v := ?_) (some 20) rfl rfl (by kernel_rfl) (by kernel_rfl) (by kernel_rfl) (fun _ _ _ h => h) (Or.inl ⟨by rfl, ?_⟩) (by assumption) ?_
    rotate_left
    · (intro w hSw; (try dsimp only at hSw); (try go_split_ands); go_simp; try with_reducible rfl)
    try simp only [Act.put, List.setIfInBounds_toArray, List.set_cons_zero, List.set_cons_succ]
    refine wpAnyH_done (by kernel_rfl) ?_ _
    go_wp2
    go_ret2
    exact HK.out _ (B1.out.trans (Below.mono hHeld.1 B1.out.size))
theorem refStrip_any (A : Option Addr) (l : List UInt8) (cap : Nat) (w : World) (hA : At w A l) (hc : l.length ≤ cap) (hm : l.length ≤ 140737488355328) :
    Calls Tryd.prog 34 #[.slice A l.length cap] w (StripsR w l) := by
  by_cases h4 : l.length < 4
  · exact refStrip_short A l cap w h4
  · obtain ⟨b, off, rfl, _, _⟩ := hA (by omega)
    exact refStrip_long b off l cap w hA hc hm h4
end Go.Proofs.YtbmhgmigcgeooaaDoor
