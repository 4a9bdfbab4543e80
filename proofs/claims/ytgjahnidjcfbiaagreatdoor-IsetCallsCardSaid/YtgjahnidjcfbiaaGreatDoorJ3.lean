/- The periods that may be, in order; the normal form of a list. -/
import Derived.Test.YtgjahnidjcfbiaaGreatDoorJ2
import Derived.Laws.OwnMore
namespace Go.Proofs.YtgjahnidjcfbiaaGreatDoor
open Go.RowKit
open Iset (mayP sortV nf step)
theorem take_may (L : List (Int × Int)) (k : Nat) (h : k < L.length) : (L.take (k + 1)).filter mayP = if mayB (L[k].1) (L[k].2) = true then (L.take k).filter mayP ++ [(L[k].1, L[k].2)] else (L.take k).filter mayP := by
  rw [List.take_succ_eq_append_getElem h, List.filter_append]
  have e : mayB (L[k].1) (L[k].2) = mayP L[k] := rfl
  rw [e]
  by_cases hm : mayP L[k] = true <;> simp [hm]
set_option maxRecDepth 100000 in
set_option maxHeartbeats 2000000 in
theorem sorted_any (v : Value) (L : List (Int × Int)) (w : World) (hv : IsP w v L) (hl : L.length ≤ 1000000000000) :
    Calls Tryz.prog 25 #[v] w fun e w' => ∃ v', e = .returned v' ∧ OwnP w.heap.size w' v' (sortV L) ∧ Below w.heap.size w w' := by
  obtain ⟨A, c, rfl, hA⟩ := hv
  have HA := Lib.hid hA
  have HM := Lib.hid May_any
  have HS := Lib.hid (Sort_own w.heap.size)
  have HT := Lib.hid (take_may L)
  clear hA
  go_enter Tryz.func25, Tryz.ntmps25
  go_wp2
  go_loopw [3, 8] (fun v i wr => ∃ k : Nat, k ≤ L.length ∧ i = .int .i64 k ∧ OwnP w.heap.size wr v ((L.take k).filter mayP) ∧ Below w.heap.size w wr) (fun _ i _ => L.length - (intOf i).toNat)
  case atStart => exact ⟨0, by omega, rfl, OwnP.nil _ _, Below.refl _ _⟩
  case round =>
    obtain ⟨k, hk, rfl, ho, hb⟩ := hrel
    have hlen : ((L.take k).filter mayP).length ≤ L.length := by have h1 := List.length_filter_le mayP (L.take k); rw [List.length_take] at h1; omega
    have HO := Lib.hid ho
    have HB := Lib.hid hb
    clear ho hb
    by_cases hlt : k < L.length
    · obtain ⟨b, off, rfl, hbl, hc⟩ := (PAt.below HA.out HB.out) (by omega)
      obtain ⟨c0, c1⟩ := hc k hlt
      clear hc
      have HK := Lib.hid (HT.out k hlt)
      generalize L[k].1 = p at *
      generalize L[k].2 = q at *
      have hs := HB.out.size
      have X0 := Lib.hid (box_at wr p q 29 wr.heap.size rfl)
      cases hm : mayB p q
      · have HM1 := Lib.hid (hm ▸ HM.out p q)
        rw [hm] at HK
        have HK2 := Lib.hid (show List.filter mayP (L.take (k + 1)) = List.filter mayP (L.take k) by rw [HK.out]; rfl)
        clear HK hm
        obtain ⟨x0, x1, x2, x3⟩ := X0.out
        go_wp2_with (go_at_call 39; ((with_reducible refine (HM1.out _).mono ?_); rintro e w1 ⟨rfl, hb1⟩))
        exact ⟨⟨k + 1, by omega, by go_num, by rw [HK2.out]; exact (HO.out.alloc _).below hb1, (HB.out.alloc hs _).trans (hb1.mono (by simp; omega))⟩, by simp [intOf]; omega⟩
      · have HM1 := Lib.hid (hm ▸ HM.out p q)
        rw [hm] at HK
        have HK2 := Lib.hid (show List.filter mayP (L.take (k + 1)) = List.filter mayP (L.take k) ++ [(p, q)] by rw [HK.out]; rfl)
        clear HK hm
        obtain ⟨x0, x1, x2, x3⟩ := X0.out
        go_wp2_with fail
        refine (HM1.out _).mono ?_
        rintro e w1 ⟨rfl, hb1⟩
        have X1 := Lib.hid (X0.out.below hb1)
        have HO1 := Lib.hid ((HO.out.alloc (.cells #[.int .u64 p, .int .u64 q] 29)).below hb1)
        have HB1 := Lib.hid ((HB.out.alloc hs (.cells #[.int .u64 p, .int .u64 q] 29)).trans (hb1.mono (by simp; omega)))
        clear hb1 x0 x1 x2 x3
        have hs1 := HB1.out.size
        obtain ⟨x0, x1, x2, x3⟩ := X1.out
        go_wp2_with (at_builtin; refine wpList_appP rfl (.tmp 14) (.tmp 16) rfl w.heap.size _ (List.filter mayP (L.take k)) rfl (HO1.out.alloc _) w1.heap.size p q rfl (by go_simp) (by go_simp) (by omega) (by simp; omega) ?_; intro v2 w2 ho2 hb2 _; have HO2 := Lib.hid ho2; have HB2 := Lib.hid ((HB1.out.alloc hs1 (.cells #[.int .u64 p, .int .u64 q] 29)).trans hb2); clear ho2 hb2)
        exact ⟨⟨k + 1, by omega, by go_num, by rw [HK2.out]; exact HO2.out, HB2.out⟩, by simp [intOf]; omega⟩
    · obtain rfl : k = L.length := by omega
      rw [List.take_length] at HO hlen
      have hs := HB.out.size
      go_wp2_with fail
      refine (HS.out _ _ _ HO.out hs (by omega)).mono ?_
      rintro e w1 ⟨rfl, ho1, hb1⟩
      go_wp2
      go_ret
      exact ⟨_, rfl, ho1, HB.out.trans hb1⟩
/-- What the call owns: its block. -/
theorem OwnP.form {base : Nat} {w : World} {v : Value} {L : List (Int × Int)} (h : OwnP base w v L) (hn : 0 < L.length) : ∃ g c, v = .slice (some ⟨g, 0, none⟩) L.length c ∧ base ≤ g ∧ g < w.heap.size ∧ (∀ o, w.frozen? ⟨g, o, none⟩ = false) ∧ ∀ i (h : i < L.length), w.cell? ⟨g, i * 2, none⟩ = some (.int .u64 (L[i].1)) ∧ w.cell? ⟨g, i * 2 + 1, none⟩ = some (.int .u64 (L[i].2)) := by
  have h' := h
  rcases h.2 with ⟨rfl, h0⟩ | ⟨g, cap, cur, rfl, hg, hb, h1, h2, h3, h4⟩
  · omega
  · obtain ⟨A, c, e, k⟩ := h'.at
    obtain ⟨b, off, rfl, hl, hc⟩ := k hn
    injection e with e1 e2 e3
    injection e1 with e1
    injection e1 with e4 e5 e6
    subst e4 e5
    refine ⟨g, cap, rfl, hg, hl, fun o => by simp [World.frozen?, hb], fun i hi => ?_⟩
    have := hc i hi
    rw [Nat.zero_add] at this
    exact this
theorem cellsP_set (s : List (Int × Int)) (q : Int × Int) (z : Int) : (cellsP (s ++ [q])).set (s.length * 2 + 1) (.int .u64 z) = cellsP (s ++ [(q.1, z)]) := by
  rw [cellsP_append, cellsP_append, List.set_append_right _ _ (by rw [cellsP_length]; omega), cellsP_length, show s.length * 2 + 1 - s.length * 2 = 1 by omega]
  rfl
/-- The To of the last one, stored. -/
theorem OwnP.stored {base g c : Nat} {w : World} {s : List (Int × Int)} {q : Int × Int} (h : OwnP base w (.slice (some ⟨g, 0, none⟩) (s.length + 1) c) (s ++ [q])) (z : Int) :
    OwnP base (w.setCell ⟨g, s.length * 2 + 1, none⟩ (.int .u64 z)) (.slice (some ⟨g, 0, none⟩) (s.length + 1) c) (s ++ [(q.1, z)]) := by
  unfold OwnP at *
  rw [List.length_append] at *
  have := World.ownsRow.stored h (s.length * 2 + 1) (.int .u64 z)
  rw [cellsP_set] at this
  exact this.1
end Go.Proofs.YtgjahnidjcfbiaaGreatDoor
