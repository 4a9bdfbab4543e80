/- The document's reader: Text. -/
import Derived.Test.YtokgpifelinonaaR11
import Derived.Test.YtokgpifelinonaaR6
namespace Go.Proofs.Ytokgpifelinonaa
open Go.RowKit
theorem Qd.below {w w' : World} {Q : Nat} {L : List UInt8} (h : Qd w Q L) (hb : Below w.heap.size w w') : Qd w' Q L := by
  obtain ⟨A, c, hc, hlc, hz, hcells⟩ := h.some_
  refine ⟨Nat.lt_of_lt_of_le h.lt hb.size, (hb.frozen (p := ⟨Q, 0, none⟩) h.lt).trans h.free, ⟨A, c, (hb.cell (p := ⟨Q, 0, none⟩) h.lt).trans hc, hlc, hz, fun h0 => ?_⟩, h.short⟩
  obtain ⟨b, off, h1, h2, h3, h4⟩ := hcells h0
  exact ⟨b, off, h1, h2, Nat.lt_of_lt_of_le h3 hb.size, fun i hi => (hb.cell (p := ⟨b, off + i, none⟩) h3).trans (h4 i hi)⟩
/-- What the document's Text leaves behind. -/
def QText (w : World) (Q : Nat) (L : List UInt8) (v : Value) (m : Nat) (e : Ending) (w' : World) : Prop := e = .returned v ∧ ∃ w1, Below w.heap.size w w1 ∧ Qd w' Q (L.drop m) ∧ QSt w1 Q w'
theorem QText.stay {w wr : World} {Q : Nat} {L : List UInt8} {v u : Value} {m : Nat} (h : Qd w Q L) (hb : Below w.heap.size w wr) (hv : v = u) (hm : m = 0) : QText w Q L u m (.returned v) wr := by
  subst hv hm
  exact ⟨rfl, wr, hb, h.below hb, .inl rfl⟩
/-- What the loop of the document's Text keeps. -/
def TxInv (w : World) (L : List UInt8) (m : Nat) (i : Nat) (acc : List UInt8) (v : Value) (wr : World) : Prop :=
  i ≤ L.length ∧ acc.length ≤ i ∧ Own1 w.heap.size wr v acc ∧ Below w.heap.size w wr ∧ scanT m [] L = scanOn m i acc (L.drop i)
theorem conv_set {w wr : World} {Q : Nat} {v : Value} {acc : List UInt8} (hQ : Q < w.heap.size) (h : Own1 w.heap.size wr v acc) : ∃ P c, v = .slice P acc.length c ∧ (∀ u, (convert 22 9 (.slice P acc.length c)).run Try.prog (wr.setCell ⟨Q, 0, none⟩ u) = .ok (.string ⟨acc.toArray⟩) (wr.setCell ⟨Q, 0, none⟩ u)) := by
  obtain ⟨P, c, rfl, hz, hlc, hA⟩ := h.at
  refine ⟨P, c, rfl, fun u => conv_text _ P acc c fun h0 => ?_⟩
  obtain ⟨b, off, hP, hlt, hcell⟩ := hA h0
  subst hP
  have hge : w.heap.size ≤ b := (World.ownsRow.lt h b rfl).1
  exact ⟨b, off, rfl, by simpa [World.setCell] using hlt, fun i hi => by rw [World.cell?_setCell_other _ _ _ _ (fun e => by have := congrArg Addr.block e; simp at this; omega)]; exact hcell i hi⟩
theorem text_err (m : Nat) (L : List UInt8) {a : List UInt8} {e k : Nat} (h : scanT m [] L = (a, e, k)) (he : e ≠ 0) : textE m L = e ∧ textV m L = [] ∧ textM m L = 0 := by
  have hE : textE m L = e := by unfold textE; rw [h]
  exact ⟨hE, by unfold textV; rw [if_neg (by omega)], by unfold textM; rw [if_neg (by omega)]⟩
theorem text_fine (m : Nat) (L : List UInt8) {a : List UInt8} {k : Nat} (h : scanT m [] L = (a, 0, k)) : textE m L = 0 ∧ textV m L = a ∧ textM m L = k := by
  have hE : textE m L = 0 := by unfold textE; rw [h]
  exact ⟨hE, by unfold textV; rw [if_pos hE, h], by unfold textM; rw [if_pos hE, h]⟩
set_option maxRecDepth 100000 in
set_option maxHeartbeats 8000000 in
theorem qText_any (Q m : Nat) (L : List UInt8) (w : World) (h : Qd w Q L) (hm : m ≤ 9223372036854775807) :
    Calls Try.prog 15 #[.pointer (some ⟨Q, 0, none⟩), .int .i64 (m : Int)] w (QText w Q L (.tuple #[.string ⟨(textV m L).toArray⟩, .int .i64 (textE m L : Nat)]) (textM m L)) := by
  have hsh := h.short
  have hQ := h.lt
  have HQ := Lib.hid h
  have t0 : (0 : Int) ≤ (m : Int) := by omega
  have HT : Hid (TxInv w L m 0 [] (.slice none 0 0) w) := Lib.hid ⟨Nat.zero_le _, Nat.le_refl _, Own1.nil _ _, Below.refl _ _, (scanOn_zero _ _ _).symm⟩
  clear h hm
  go_enter Try.func15, Try.ntmps15
  go_wp2
  go_loopw [6, 7] (fun v i wr => ∃ (j : Nat) (acc : List UInt8), i = .int .i64 j ∧ TxInv w L m j acc v wr) (fun _ i _ => L.length - (intOf i).toNat)
  case atStart => exact ⟨0, [], rfl, HT.out⟩
  case round =>
    obtain ⟨i, acc, rfl, hi1, hi2, ho, hb, hs⟩ := hrel
    have hq := HQ.out.below hb
    have hgt := hq.lt
    obtain ⟨A, c, hc, hlc, hz, hcells⟩ := hq.some_
    have hfr := hq.free
    have HQR := Lib.hid hq
    have BW := Lib.hid hb
    have sz := hb.size
    have HS := Lib.hid hs
    have OW := Lib.hid ho
    obtain ⟨P, cp, rfl, hcv⟩ := conv_set hQ ho
    have HCV := Lib.hid hcv
    clear hq hs hb ho hcv HT
    have i1 : (0 : Int) ≤ (i : Int) := by omega
    by_cases hlt : i < L.length
    · obtain ⟨b, off, rfl, hbq, hbl, hcell⟩ := hcells (by omega)
      have i2 : (i : Int) < (L.length : Int) := by omega
      have q := hcell i hlt
      have HCE := Lib.hid hcell
      have HON := Lib.hid (fun k (hk : k ≤ L.length) => HQR.out.on (k := k) hc hlc hk hbq hbl hcell)
      rw [drop_more L i hlt] at HS
      have hbound : acc.length + 1 ≤ 140737488355328 := by omega
      have HB := Lib.hid hbound
      unfold bv at q
      clear hcells hcell hbound
      obtain ⟨y, hy⟩ : ∃ y, L.getD i 0 = y := ⟨_, rfl⟩
      rw [hy] at q HS
      clear hy
      by_cases hy0 : y = 0
      · subst hy0
        replace q : wr.cell? ⟨b, off + i, none⟩ = some (.int .u8 0) := q
        by_cases hlt2 : i + 1 < L.length
        · have i3 : ¬ (L.length : Int) ≤ (i : Int) + 1 := by omega
          have i4 : (i : Int) + 1 < (L.length : Int) := by omega
          have i5 : ((i : Int) + 1).toNat = i + 1 := by omega
          have q2 := HCE.out (i + 1) hlt2
          unfold bv at q2
          rw [drop_more L (i + 1) hlt2] at HS
          obtain ⟨z, hz'⟩ : ∃ z, L.getD (i + 1) 0 = z := ⟨_, rfl⟩
          rw [hz'] at q2 HS
          clear hz'
          by_cases hz0 : z = 0
          · subst hz0
            replace q2 : wr.cell? ⟨b, off + (i + 1), none⟩ = some (.int .u8 0) := q2
            by_cases hlong : m < acc.length
            · have i6 : (m : Int) < (acc.length : Int) := by omega
              have HX := Lib.hid (text_err m L (HS.out.trans (scanOn_long m i acc _ hlong)) (by decide))
              clear HS hlong
              go_wp2
              go_ret2
              exact QText.stay HQ.out BW.out (by rw [HX.out.1, HX.out.2.1]; rfl) HX.out.2.2
            · have i6 : ¬ (m : Int) < (acc.length : Int) := by omega
              have HX := Lib.hid (text_fine m L (HS.out.trans (scanOn_end m i acc _ hlong)))
              have HD := Lib.hid (HON.out (i + 2) (by omega))
              have i7 : (i : Int) + 2 ≤ (L.length : Int) := by omega
              have i8 : (i : Int) + 2 ≤ (c : Int) := by omega
              have i9 : (L.length : Int) ≤ (c : Int) := by omega
              have i10 : ((i : Int) + 2).toNat = i + 2 := by omega
              have i11 : (0 : Int) ≤ (i : Int) + 2 := by omega
              obtain ⟨D, hD⟩ : ∃ D : Option Addr, (if c = i + 2 then some (⟨b, off, none⟩ : Addr) else some ⟨b, off + (i + 2), none⟩) = D := ⟨_, rfl⟩
              rw [hD] at HD
              have hct := HCV.out
              clear HS hlong
              go_wp2
              go_ret2
              exact ⟨by rw [HX.out.1, HX.out.2.1]; rfl, wr, BW.out, by rw [HX.out.2.2]; exact HD.out, .inr ⟨_, rfl⟩⟩
          · by_cases hz1 : z = 255
            · subst hz1
              replace q2 : wr.cell? ⟨b, off + (i + 1), none⟩ = some (.int .u8 255) := q2
              have HS2 := Lib.hid (HS.out.trans (scanOn_inner m i acc _))
              clear HS hz0
              go_wp2_with (at_builtin; refine wpList_app _ rfl (.tmp 54) (.tmp 55) rfl w.heap.size _ acc rfl (OW.out.alloc _) _ 1 1 [0] rfl (at_one _ _ _ rfl) (fun h => by cases h) rfl (by have := HB.out; simp at this ⊢; omega) (by simp; omega) w (below_alloc BW.out sz _) ?_; intro v2 w2 ho2 hb2 _ _)
              exact ⟨⟨i + 2, acc ++ [0], by go_num, by omega, by simp; omega, ho2, hb2, HS2.out⟩, by simp [intOf]; omega⟩
            · have HX := Lib.hid (text_err m L (HS.out.trans (scanOn_form m i acc z _ hz0 hz1)) (by decide))
              obtain ⟨x, hx⟩ : ∃ x : Int, (z.toNat : Int) = x := ⟨_, rfl⟩
              have t1 : (x == 255) = false := by
                simp
                intro e
                exact hz1 (UInt8.toNat_inj.1 (by show z.toNat = 255; omega))
              have t2 : (x != 0) = true := by
                simp
                intro e
                exact hz0 (UInt8.toNat_inj.1 (by show z.toNat = 0; omega))
              rw [hx] at q2
              clear HS hz0 hz1 hx
              go_wp2
              go_ret2
              exact QText.stay HQ.out BW.out (by rw [HX.out.1, HX.out.2.1]; rfl) HX.out.2.2
        · have i3 : (L.length : Int) ≤ (i : Int) + 1 := by omega
          rw [drop_none L (i + 1) (by omega)] at HS
          have HX := Lib.hid (text_err m L (HS.out.trans (scanOn_cut m i acc)) (by decide))
          clear HS
          go_wp2
          go_ret2
          exact QText.stay HQ.out BW.out (by rw [HX.out.1, HX.out.2.1]; rfl) HX.out.2.2
      · have HS2 := Lib.hid (HS.out.trans (scanOn_byte m i acc y _ hy0))
        obtain ⟨x, hx⟩ : ∃ x : Int, (y.toNat : Int) = x := ⟨_, rfl⟩
        have HX := Lib.hid hx
        have t2 : (x != 0) = true := by
          simp
          intro e
          exact hy0 (UInt8.toNat_inj.1 (by show y.toNat = 0; omega))
        rw [hx] at q
        clear HS hy0 hx
        go_wp2_with (at_builtin; refine wpList_app _ rfl (.tmp 25) (.tmp 33) rfl w.heap.size _ acc rfl (OW.out.alloc _) _ 1 1 [y] rfl (at_one _ _ _ HX.out.symm) (fun h => by cases h) rfl (by have := HB.out; simp at this ⊢; omega) (by simp; omega) w (below_alloc BW.out sz _) ?_; intro v2 w2 ho2 hb2 _ _)
        exact ⟨⟨i + 1, acc ++ [y], by go_num, by omega, by simp; omega, ho2, hb2, HS2.out⟩, by simp [intOf]; omega⟩
    · obtain rfl : i = L.length := by omega
      rw [drop_none L L.length rfl] at HS
      have HX := Lib.hid (text_err m L (HS.out.trans (scanOn_none m L.length acc)) (by decide))
      clear HS hcells
      go_wp2
      go_ret2
      exact QText.stay HQ.out BW.out (by rw [HX.out.1, HX.out.2.1]; rfl) HX.out.2.2
end Go.Proofs.Ytokgpifelinonaa
