/- Has and Size. -/
import Derived.Test.YtgjahnidjcfbiaaGreatDoorLY
import Derived.Test.YtgjahnidjcfbiaaGreatDoorJ8
namespace Go.Proofs.YtgjahnidjcfbiaaGreatDoor
open Go.RowKit Go.Shelf Go.Lib
open Iset (nf has NF Res Wide sumL)
theorem hasPred (t : Int) (B : Nat) (w : World) (hB : B < w.heap.size) (hcell : w.cell? ⟨B, 0, none⟩ = some (.int .u64 t)) :
    PredBelow Tryz.prog 33 #[.pointer (some ⟨B, 0, none⟩)] (fun x => .agg (encP x).toArray) (fun x => Iset.hasP x t) w := fun W x hb => by
  have hc : W.cell? ⟨B, 0, none⟩ = some (.int .u64 t) := (hb.cell (p := ⟨B, 0, none⟩) hB).trans hcell
  have hBW : B < W.heap.size := Nat.lt_of_lt_of_le hB hb.size
  have hne : B ≠ W.heap.size := by omega
  have HH := Lib.hid (Has_any x.1 x.2 t)
  have HE := Lib.hid (show hasB x.1 x.2 t = Iset.hasP x t from rfl)
  have HB := Lib.hid hb
  clear hb
  show Calls Tryz.prog 33 #[.agg #[.int .u64 x.1, .int .u64 x.2], .pointer (some ⟨B, 0, none⟩)] W _
  go_enter Tryz.func33, Tryz.ntmps33
  go_wp2_with fail
  refine (HH.out _).mono ?_
  rintro e w1 ⟨rfl, hb1⟩
  go_wp2
  go_ret
  exact ⟨by rw [← HE.out]; rfl, (HB.out.alloc HB.out.size _).trans (hb1.mono (by have := HB.out.size; simp; omega))⟩
theorem ContainsP_none (A : Option Addr) (c : Nat) (g : Nat) (lb : Array Value) (w : World) :
    Calls Tryz.prog 32 #[.slice A 0 c, .func (.func g) #[] lb] w fun e w' => e = .returned (.bool false) ∧ w = w' := by
  go_enter Tryz.func32, Tryz.ntmps32
  go_wp2
  go_rounds 1
  go_wp2
  go_ret
  exact ⟨rfl, rfl⟩
theorem ContainsP_any (va : Value) (a : List (Int × Int)) (t : Int) (B : Nat) (w : World) (hB : B < w.heap.size) (hcell : w.cell? ⟨B, 0, none⟩ = some (.int .u64 t)) (ha : IsP w va a) (la : a.length ≤ 1000000000000) :
    Calls Tryz.prog 32 #[va, .func (.func 33) #[] #[.pointer (some ⟨B, 0, none⟩)]] w fun e w' => e = .returned (.bool (has a t)) ∧ Below w.heap.size w w' := by
  obtain ⟨A, c, rfl, hA⟩ := ha
  rcases Nat.eq_zero_or_pos a.length with h0 | h0
  · obtain rfl := List.eq_nil_of_length_eq_zero h0
    exact (ContainsP_none A c _ _ w).mono fun e w' ⟨he, hw⟩ => ⟨he, hw ▸ Below.refl _ _⟩
  · obtain ⟨b, off, rfl, hb, hc⟩ := hA h0
    have eg : ∀ args w, (callFunc 33 args).run Tryz.prog w = .ok (.enter 33 args) w := enters_of Tryz.func33 (by kernel_rfl) rfl
    refine (AnyQ.slices_ContainsFunc Tryz.containsP 2 Tryz.isAgg29 Tryz.sizeOf29 encP (fun _ => rfl) (fun x => Iset.hasP x t) 33 #[.pointer (some ⟨B, 0, none⟩)] eg b off a.length c a w (hasPred t B w hB hcell) (Nat.le_refl _) (by omega) hb (fun j hj i v hi => ?_)).mono fun e w' ⟨he, hw⟩ => ⟨by rw [he, List.take_length]; rfl, hw⟩
    have h1 := hc j hj
    rw [getElem!_pos a j hj] at hi
    generalize a[j] = y at hi h1
    match i, hi with
    | 0, hi => simp [encP] at hi; rw [← hi]; exact h1.1
    | 1, hi => simp [encP] at hi; rw [← hi]; exact h1.2
    | i + 2, hi => simp [encP] at hi
theorem HasI_any (va : Value) (a : List (Int × Int)) (t : Int) (w : World) (ha : IsP w va a) (la : a.length ≤ 1000000000000) :
    Calls Tryz.prog 17 #[va, .int .u64 t] w fun e w' => e = .returned (.bool (has a t)) ∧ Below w.heap.size w w' := by
  have hb1 : Below w.heap.size w (w.alloc (.cells #[.int .u64 t] 23)) := (Below.refl _ _).alloc (Nat.le_refl _) _
  have H := Lib.hid (ContainsP_any va a t w.heap.size (w.alloc (.cells #[.int .u64 t] 23)) (by simp) (by simp [World.cell?_alloc_new]) (ha.below hb1) la)
  have HB := Lib.hid hb1
  clear hb1 ha la
  go_enter Tryz.func17, Tryz.ntmps17
  go_wp2_with fail
  refine (H.out).mono ?_
  rintro e w1 ⟨rfl, hb⟩
  go_wp2
  go_ret
  exact ⟨rfl, HB.out.trans (hb.mono (by simp))⟩
theorem sum_succ (V : List (Int × Int)) (k : Nat) (h : k < V.length) : sumL (V.take (k + 1)) = sumL (V.take k) + (V[k].2 - V[k].1) := by
  rw [List.take_succ_eq_append_getElem h, Iset.sumL_append]
  simp [sumL]
set_option maxRecDepth 100000 in
set_option maxHeartbeats 4000000 in
theorem Size_any (v : Value) (L : List (Int × Int)) (w : World) (hv : IsP w v L) (hw : Wide L) (hl : L.length ≤ 1000000000000) :
    Calls Tryz.prog 22 #[v] w fun e w' => e = .returned (.int .u64 (Iset.size L)) ∧ Below w.heap.size w w' := by
  have hvl := Iset.nf_length L
  have HS := Lib.hid (Of_any v L w hv hl)
  have HT := Lib.hid (fun k => Iset.sum_take (nf L) (Iset.nf_nf L) (Iset.nf_wide hw) k)
  have HW := Lib.hid (Iset.nf_wide hw)
  have HM := Lib.hid (fun p hp => (Iset.mayP_iff p).1 ((Iset.nf_nf L).may p hp))
  have HN := Lib.hid (show Iset.size L = sumL (nf L) from rfl)
  generalize nf L = V at *
  have HU := Lib.hid (sum_succ V)
  clear hv hw
  go_enter Tryz.func22, Tryz.ntmps22
  go_wp2_with fail
  refine (HS.out).mono ?_
  rintro e w1 ⟨v1, rfl, ho1, hb1⟩
  obtain ⟨A, c, rfl, hA⟩ := ho1.at
  have HA := Lib.hid hA
  have HB1 := Lib.hid hb1
  clear ho1 hA hb1
  go_wp2
  go_loopw [3, 9] (fun s i wr => ∃ k : Nat, k ≤ V.length ∧ i = .int .i64 k ∧ s = .int .u64 (sumL (V.take k)) ∧ Below w1.heap.size w1 wr) (fun _ i _ => V.length - (intOf i).toNat)
  case atStart => exact ⟨0, by omega, rfl, rfl, Below.refl _ _⟩
  case round =>
    obtain ⟨k, hk, rfl, rfl, hb⟩ := hrel
    by_cases hlt : k < V.length
    · have h1 := HT.out k
      have h2 := HT.out (k + 1)
      rw [HU.out k hlt] at h2
      have h3 := HW.out V[k] (List.getElem_mem hlt)
      have h4 := HM.out V[k] (List.getElem_mem hlt)
      have HK := Lib.hid (HU.out k hlt)
      generalize sumL (V.take k) = s at *
      obtain ⟨b, off, rfl, hbl, hc⟩ := (PAt.below HA.out hb) (by omega)
      obtain ⟨c0, c1⟩ := hc k hlt
      clear hc
      generalize V[k].1 = p at *
      generalize V[k].2 = q at *
      obtain ⟨h5, h6⟩ := h1
      obtain ⟨h7, h8⟩ := h2
      obtain ⟨h9, h10⟩ := h3
      obtain ⟨h11, h12⟩ := h4
      have h13 : 0 ≤ q - p := by omega
      have hs := hb.size
      have HB := Lib.hid hb
      clear hb
      have X0 := Lib.hid (box_at wr p q 29 wr.heap.size rfl)
      obtain ⟨x0, x1, x2, x3⟩ := X0.out
      go_wp2
      exact ⟨⟨k + 1, by omega, by go_num, by rw [HK.out], HB.out.alloc hs _⟩, by simp [intOf]; omega⟩
    · obtain rfl : k = V.length := by omega
      rw [List.take_length, ← HN.out]
      have HB := Lib.hid hb
      clear hb
      go_wp2
      go_ret
      exact ⟨rfl, HB1.out.trans (HB.out.mono HB1.out.size)⟩
end Go.Proofs.YtgjahnidjcfbiaaGreatDoor
