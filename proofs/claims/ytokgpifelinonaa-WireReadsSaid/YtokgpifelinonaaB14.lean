/- Strings read back: takeText. -/
import Derived.Test.YtokgpifelinonaaB13
import Derived.Shelf.Bytes.SlEqualAll
namespace Go.Proofs.Ytokgpifelinonaa
open Go.RowKit
/-- What is answered of a string that is read: its bytes, an error's number, how many bytes went. -/
def scanT (most : Nat) : List UInt8 → List UInt8 → List UInt8 × Nat × Nat
  | _, [] => ([], 4, 0)
  | _, [c] => if c = 0 then ([], 4, 1) else ([], 4, 1)
  | acc, c :: m :: t =>
    if c = 0 then
      if m = 0 then (if most < acc.length then ([], 3, 2) else (acc, 0, 2))
      else if m = 255 then ((scanT most (acc ++ [0]) t).1, (scanT most (acc ++ [0]) t).2.1, (scanT most (acc ++ [0]) t).2.2 + 2)
      else ([], 5, 2)
    else ((scanT most (acc ++ [c]) (m :: t)).1, (scanT most (acc ++ [c]) (m :: t)).2.1, (scanT most (acc ++ [c]) (m :: t)).2.2 + 1)
/-- A piece of it, some bytes on. -/
def scanOn (most i : Nat) (acc L : List UInt8) : List UInt8 × Nat × Nat := ((scanT most acc L).1, (scanT most acc L).2.1, (scanT most acc L).2.2 + i)
theorem scanOn_zero (most : Nat) (acc L : List UInt8) : scanOn most 0 acc L = scanT most acc L := rfl
theorem scanOn_none (most i : Nat) (acc : List UInt8) : scanOn most i acc [] = ([], 4, i) := by simp [scanOn, scanT]
theorem scanOn_byte (most i : Nat) (acc : List UInt8) (c : UInt8) (t : List UInt8) (h : c ≠ 0) : scanOn most i acc (c :: t) = scanOn most (i + 1) (acc ++ [c]) t := by
  cases t with
  | nil => simp [scanOn, scanT, Nat.add_comm]
  | cons m t => simp [scanOn, scanT, h]; omega
theorem scanOn_cut (most i : Nat) (acc : List UInt8) : scanOn most i acc [0] = ([], 4, i + 1) := by simp [scanOn, scanT, Nat.add_comm]
theorem scanOn_long (most i : Nat) (acc t : List UInt8) (h : most < acc.length) : scanOn most i acc (0 :: 0 :: t) = ([], 3, i + 1 + 1) := by simp [scanOn, scanT, h]; omega
theorem scanOn_end (most i : Nat) (acc t : List UInt8) (h : ¬ most < acc.length) : scanOn most i acc (0 :: 0 :: t) = (acc, 0, i + 1 + 1) := by simp [scanOn, scanT, h]; omega
theorem scanOn_form (most i : Nat) (acc : List UInt8) (m : UInt8) (t : List UInt8) (h : m ≠ 0) (h2 : m ≠ 255) : scanOn most i acc (0 :: m :: t) = ([], 5, i + 1 + 1) := by simp [scanOn, scanT, h, h2]; omega
theorem scanOn_inner (most i : Nat) (acc t : List UInt8) : scanOn most i acc (0 :: 255 :: t) = scanOn most (i + 1 + 1) (acc ++ [0]) t := by
  simp [scanOn, scanT]; omega
theorem own_at {w : World} {base n cap : Nat} {P : Option Addr} {acc : List UInt8} (h : w.ownsRow base 5 1 (.slice P n cap) n (cellsB acc)) : At w P acc := by
  intro h0
  have hl : acc.length = n := by have := h.1; rw [cellsB_length] at this; omega
  obtain ⟨g, cap', hv, hb, hlt⟩ := h.form (by omega)
  injection hv with hP
  subst hP
  refine ⟨g, 0, rfl, hlt, fun i hi => ?_⟩
  have hc := h.cells (g := g) rfl i (bv (acc.getD i 0)) (by simp [cellsB, List.getD, hi])
  rw [add_plain] at hc
  exact hc
theorem conv_text (w : World) (A : Option Addr) (l : List UInt8) (c : Nat) (hA : At w A l) : (convert 22 9 (.slice A l.length c)).run Try.prog w = .ok (.string ⟨l.toArray⟩) w := by
  cases A with
  | none =>
    have hl : l = [] := by
      rcases Nat.eq_zero_or_pos l.length with e | e
      · exact List.eq_nil_of_length_eq_zero e
      · obtain ⟨b, off, h, _⟩ := hA e; cases h
    subst hl
    exact run_convert_bytes_nil w _ _ Try.underlying22 Try.underlying5 _ _ _ Try.underlying9
  | some a =>
    refine run_convert_bytes_back w _ _ _ a c l Try.underlying22 Try.underlying5 Try.underlying9 (fun j hj => ?_)
    exact hA.cells j _ (by simp [cellsB, bv, hj])
/-- What the loop of takeText keeps. -/
def ScanInv (w : World) (g k : Nat) (l : List UInt8) (m : Nat) (P : Option Addr) (cap i : Nat) (acc : List UInt8) (wr : World) : Prop :=
  wr.ownsRow w.heap.size 5 1 (.slice P acc.length cap) acc.length (cellsB acc) ∧ Moved w g (k + i) wr ∧ k + i ≤ l.length ∧ acc.length ≤ i ∧ scanT m [] (l.drop k) = scanOn m i acc (l.drop (k + i))
/-- Where the reader in block g stands. -/
def posOf (g : Nat) (w : World) : Nat := (intOf ((w.cell? ⟨g, 1, none⟩).getD undef)).toNat
theorem posOf_eq {w : World} {g k c : Nat} {A : Option Addr} {l : List UInt8} (h : Rd w g k A c l) : posOf g w = k := by
  unfold posOf
  rw [h.c1]
  simp [intOf]
theorem owns_moved {w wr w2 : World} {g j n cap : Nat} {P : Option Addr} {xs : List Value} (h : wr.ownsRow w.heap.size 5 1 (.slice P n cap) n xs) (hg : g < w.heap.size) (hm : Moved wr g j w2) : w2.ownsRow w.heap.size 5 1 (.slice P n cap) n xs := by
  have hgr : wr.grownBy w2 (some g) := ⟨hm.os.1, hm.os.2.1, hm.os.2.2, Moved.size hm, fun b hb hne => Moved.far hm hb (fun e => hne (by rw [e]))⟩
  refine h.kept hgr ?_
  cases hP : Value.ownBlock (.slice P n cap) with
  | none => exact .inl rfl
  | some b =>
    right
    intro e
    injection e with e
    have := (h.lt b hP).1
    omega
theorem ScanInv.step {w wr w2 w3 : World} {g k c m i j cap g' cap' : Nat} {l acc : List UInt8} {A P : Option Addr} {y : UInt8} {x : Int} {o : Obj} (hx : x = (y.toNat : Int))
    (hm : Moved w g (k + i) wr) (hm2 : Moved wr g (k + j) w2) (ho : w2.ownsRow w.heap.size 5 1 (.slice P acc.length cap) acc.length (cellsB acc)) (hs : w.heap.size ≤ w2.heap.size)
    (hown : w3.ownsRow w.heap.size 5 1 (.slice (some ⟨g', 0, none⟩) (acc.length + 1) cap') (acc.length + 1) (cellsB acc ++ [.int .u8 x]))
    (hgr : (w2.alloc o).grownBy w3 (Value.ownBlock (.slice P acc.length cap))) (hj : k + j ≤ l.length) (hij : acc.length + 1 ≤ j) (h : Rd w g k A c l)
    (hsc : scanT m [] (l.drop k) = scanOn m j (acc ++ [y]) (l.drop (k + j))) : ScanInv w g k l m (some ⟨g', 0, none⟩) cap' j (acc ++ [y]) w3 ∧ posOf g w3 = k + j := by
  have hmv : Moved w g (k + j) w3 := (Below.alloc (hm.trans hm2) hs o).grown hgr (Nat.le_trans hs (by simp)) (fun b hb => (ho.lt b hb).1)
  refine ⟨⟨?_, hmv, hj, by simpa using hij, hsc⟩, posOf_eq (h.moved hmv hj)⟩
  rw [cellsB_append, List.length_append, List.length_singleton]
  have e : cellsB [y] = [.int .u8 x] := by rw [hx]; rfl
  rw [e]
  exact hown
set_option maxRecDepth 100000 in
set_option maxHeartbeats 4000000 in
theorem takeText_any (g k c m : Nat) (A : Option Addr) (l : List UInt8) (w : World) (h : Rd w g k A c l) (hm : m ≤ 9223372036854775807) :
    Calls Try.prog 38 #[.pointer (some ⟨g, 0, none⟩), .int .i64 m] w fun e w' => e = .returned (.tuple #[.string ⟨(scanT m [] (l.drop k)).1.toArray⟩, .int .i64 ((scanT m [] (l.drop k)).2.1 : Nat)]) ∧ Moved w g (k + (scanT m [] (l.drop k)).2.2) w' := by
  obtain ⟨i0, hi, hz0, hz1, hz2⟩ := info_parts info8
  have H := Lib.hid h
  have hb := h.2.1
  have HST : Hid (ScanInv w g k l m none 0 0 [] w) := ⟨⟨by simp [cellsB], .inl ⟨rfl, rfl⟩⟩, Moved.stay h (Below.refl _ _), hb.1, Nat.le_refl _, (scanOn_zero _ _ _).symm⟩
  have t0 : (0 : Int) ≤ (m : Int) := by omega
  clear h hm
  go_enter Try.func38, Try.ntmps38
  go_wp2
  go_loopw [6] (fun v wr => ∃ (P : Option Addr) (cap i : Nat) (acc : List UInt8), v = .slice P acc.length cap ∧ ScanInv w g k l m P cap i acc wr) (fun _ wr => l.length - posOf g wr)
  case atStart => exact ⟨none, 0, 0, [], rfl, HST.out⟩
  case round =>
    obtain ⟨P, cap, i, acc, rfl, hI⟩ := hrel
    obtain ⟨ho, hmv, hi1, hi2, hs⟩ := hI
    have hrd := H.out.moved hmv hi1
    have hpos := posOf_eq hrd
    have HO := Lib.hid ho
    have HM := Lib.hid hmv
    have HS := Lib.hid hs
    have HR := Lib.hid hrd
    have HP := Lib.hid hpos
    clear ho hmv hs hrd hpos
    by_cases hlt : k + i < l.length
    · have hA1 : acc.length + 1 ≤ maxLen := by unfold maxLen; omega
      have hA2 : (acc.length + 1) * 1 ≤ 140737488355328 := by omega
      have HG := Lib.hid H.out.lt
      have hC := takeByte_more g (k + i) c A l wr HR.out hlt
      obtain ⟨y, hy⟩ : ∃ y : UInt8, y = l.getD (k + i) 0 := ⟨_, rfl⟩
      rw [drop_more l (k + i) hlt, ← hy] at HS
      rw [← hy] at hC
      clear hy
      by_cases hy0 : y = 0
      · subst hy0
        have C1 : Hid (Calls Try.prog 40 #[.pointer (some ⟨g, 0, none⟩)] wr fun e w' => e = .returned (.tuple #[.int .u8 0, .int .i64 0]) ∧ Moved wr g (k + i + 1) w') := hC
        clear hC
        by_cases hlt2 : k + i + 1 < l.length
        · obtain ⟨z, hz⟩ : ∃ z : UInt8, z = l.getD (k + i + 1) 0 := ⟨_, rfl⟩
          have hC2 : ∀ w2, Moved wr g (k + i + 1) w2 → Calls Try.prog 40 #[.pointer (some ⟨g, 0, none⟩)] w2 fun e w' => e = .returned (.tuple #[.int .u8 (z.toNat : Int), .int .i64 0]) ∧ Moved w2 g (k + i + 1 + 1) w' := by
            intro w2 hm
            rw [hz]
            exact takeByte_more g (k + i + 1) c A l w2 (HR.out.moved hm (by omega)) hlt2
          rw [drop_more l (k + i + 1) hlt2, ← hz] at HS
          clear hz
          by_cases hz0 : z = 0
          · subst hz0
            have C2 : Hid (∀ w2, Moved wr g (k + i + 1) w2 → Calls Try.prog 40 #[.pointer (some ⟨g, 0, none⟩)] w2 fun e w' => e = .returned (.tuple #[.int .u8 0, .int .i64 0]) ∧ Moved w2 g (k + i + 1 + 1) w') := hC2
            clear hC2
            by_cases hlong : m < acc.length
            · rw [scanOn_long m i acc _ hlong] at HS
              go_wp2_with (first | (go_at_call 40; ((with_reducible refine (C1.out).mono ?_); rintro e w2 ⟨rfl, hm⟩; have HM2 := Lib.hid hm; clear hm)) | (go_at_call 40; ((with_reducible refine (C2.out _ HM2.out).mono ?_); rintro e w3 ⟨rfl, hm⟩; have HM3 := Lib.hid (HM2.out.trans hm); clear hm)))
              go_ret2
              rw [HS.out]
              exact ⟨rfl, HM.out.trans HM3.out⟩
            · rw [scanOn_end m i acc _ hlong] at HS
              have tl : decide (m < acc.length) = false := by simp; omega
              have hct := fun w2 hm => conv_text w2 P acc cap (own_at (owns_moved (w2 := w2) (j := k + i + 1 + 1) HO.out HG.out hm))
              have HCT := Lib.hid hct
              clear hct hlong
              go_wp2_with (first | (go_at_call 40; ((with_reducible refine (C1.out).mono ?_); rintro e w2 ⟨rfl, hm⟩; have HM2 := Lib.hid hm; clear hm)) | (go_at_call 40; ((with_reducible refine (C2.out _ HM2.out).mono ?_); rintro e w3 ⟨rfl, hm⟩; have HM3 := Lib.hid (HM2.out.trans hm); have hct := HCT.out _ HM3.out; clear hm)))
              go_ret2
              rw [HS.out]
              exact ⟨rfl, HM.out.trans HM3.out⟩
          · by_cases hz1' : z = 255
            · subst hz1'
              have C2 : Hid (∀ w2, Moved wr g (k + i + 1) w2 → Calls Try.prog 40 #[.pointer (some ⟨g, 0, none⟩)] w2 fun e w' => e = .returned (.tuple #[.int .u8 255, .int .i64 0]) ∧ Moved w2 g (k + i + 1 + 1) w') := hC2
              rw [scanOn_inner m i acc _] at HS
              clear hC2 hz0
              go_wp2_with (first | (go_at_call 40; ((with_reducible refine (C1.out).mono ?_); rintro e w2 ⟨rfl, hm⟩; have HM2 := Lib.hid hm; clear hm)) | (go_at_call 40; ((with_reducible refine (C2.out _ HM2.out).mono ?_); rintro e w3 ⟨rfl, hm⟩; have HM3 := Lib.hid (HM2.out.trans hm); clear hm)) | (at_builtin; refine wpList_append_lies _ rfl _ _ _ rfl w.heap.size 5 i0 _ 1 1 Try.underlying22 hi hz0 hz1 hz2 rfl (by omega) (.slice P acc.length cap) acc.length (cellsB acc) rfl ((owns_moved HO.out HG.out HM3.out).alloc _) _ 1 1 [.int .u8 0] rfl rfl (cell_one_new _ _ _) (one_cell _ _) (by omega) hA1 hA2 (Nat.le_trans (Nat.le_trans HM.out.size HM3.out.size) (by simp)) _ rfl ?_; intro g' cap' w4 hown hgr _ _; have H4 := Lib.hid hown; have G4 := Lib.hid hgr; clear hown hgr))
              have hst := ScanInv.step (y := 0) (x := 0) (j := i + 1 + 1) (m := m) (l := l) rfl HM.out HM3.out (owns_moved HO.out HG.out HM3.out) (Nat.le_trans HM.out.size HM3.out.size) H4.out G4.out (by omega) (by omega) H.out HS.out
              exact ⟨⟨_, cap', i + 1 + 1, acc ++ [0], by simp, hst.1⟩, by rw [hst.2, HP.out]; omega⟩
            · obtain ⟨x, hx⟩ : ∃ x : Int, x = (z.toNat : Int) := ⟨_, rfl⟩
              have C2 := Lib.hid hC2
              rw [← hx] at C2
              rw [scanOn_form m i acc z _ hz0 hz1'] at HS
              have t1 : (x == 0) = false := by
                simp
                intro e
                exact hz0 (UInt8.toNat_inj.1 (by show z.toNat = 0; omega))
              have t2 : (x != 255) = true := by
                simp
                intro e
                exact hz1' (UInt8.toNat_inj.1 (by show z.toNat = 255; omega))
              clear hC2 hz0 hz1' hx
              go_wp2_with (first | (go_at_call 40; ((with_reducible refine (C1.out).mono ?_); rintro e w2 ⟨rfl, hm⟩; have HM2 := Lib.hid hm; clear hm)) | (go_at_call 40; ((with_reducible refine (C2.out _ HM2.out).mono ?_); rintro e w3 ⟨rfl, hm⟩; have HM3 := Lib.hid (HM2.out.trans hm); clear hm)))
              go_ret2
              rw [HS.out]
              exact ⟨rfl, HM.out.trans HM3.out⟩
        · have C2 : Hid (∀ w2, Moved wr g (k + i + 1) w2 → Calls Try.prog 40 #[.pointer (some ⟨g, 0, none⟩)] w2 fun e w' => e = .returned (.tuple #[.int .u8 0, .int .i64 4]) ∧ Moved w2 g (k + i + 1) w') :=
            fun w2 hm => takeByte_end g (k + i + 1) c A l w2 (HR.out.moved hm (by omega)) (by omega)
          rw [drop_none l (k + i + 1) (by omega), scanOn_cut] at HS
          go_wp2_with (first | (go_at_call 40; ((with_reducible refine (C1.out).mono ?_); rintro e w2 ⟨rfl, hm⟩; have HM2 := Lib.hid hm; clear hm)) | (go_at_call 40; ((with_reducible refine (C2.out _ HM2.out).mono ?_); rintro e w3 ⟨rfl, hm⟩; have HM3 := Lib.hid (HM2.out.trans hm); clear hm)))
          go_ret2
          rw [HS.out]
          exact ⟨rfl, HM.out.trans HM3.out⟩
      · obtain ⟨x, hx⟩ : ∃ x : Int, x = (y.toNat : Int) := ⟨_, rfl⟩
        have C1 := Lib.hid hC
        rw [← hx] at C1
        rw [scanOn_byte m i acc y _ hy0] at HS
        have t1 : (x == 0) = false := by
          simp
          intro e
          exact hy0 (UInt8.toNat_inj.1 (by show y.toNat = 0; omega))
        have HX := Lib.hid hx
        clear hC hy0 hx
        go_wp2_with (first | (go_at_call 40; ((with_reducible refine (C1.out).mono ?_); rintro e w2 ⟨rfl, hm⟩; have HM2 := Lib.hid hm; clear hm)) | (at_builtin; refine wpList_append_lies _ rfl _ _ _ rfl w.heap.size 5 i0 _ 1 1 Try.underlying22 hi hz0 hz1 hz2 rfl (by omega) (.slice P acc.length cap) acc.length (cellsB acc) rfl ((owns_moved HO.out HG.out HM2.out).alloc _) _ 1 1 [.int .u8 x] rfl rfl (cell_one_new _ _ _) (one_cell _ _) (by omega) hA1 hA2 (Nat.le_trans (Nat.le_trans HM.out.size HM2.out.size) (by simp)) _ rfl ?_; intro g' cap' w4 hown hgr _ _; have H4 := Lib.hid hown; have G4 := Lib.hid hgr; clear hown hgr))
        have hst := ScanInv.step (j := i + 1) (m := m) (l := l) HX.out HM.out HM2.out (owns_moved HO.out HG.out HM2.out) (Nat.le_trans HM.out.size HM2.out.size) H4.out G4.out (by omega) (by omega) H.out HS.out
        exact ⟨⟨_, cap', i + 1, acc ++ [y], by simp, hst.1⟩, by rw [hst.2, HP.out]; omega⟩
    · have C := Lib.hid (takeByte_end g (k + i) c A l wr HR.out (by omega))
      rw [drop_none l (k + i) (by omega), scanOn_none] at HS
      go_wp2_with (go_at_call 40; ((with_reducible refine (C.out).mono ?_); rintro e w2 ⟨rfl, hm⟩; have HM2 := Lib.hid hm; clear hm))
      go_ret2
      rw [HS.out]
      exact ⟨rfl, HM.out.trans HM2.out⟩
end Go.Proofs.Ytokgpifelinonaa
