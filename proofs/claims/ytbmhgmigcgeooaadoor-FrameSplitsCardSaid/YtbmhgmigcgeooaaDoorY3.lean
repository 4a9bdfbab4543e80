/- The document's Split. -/
import Derived.Test.YtbmhgmigcgeooaaDoorY2
import Derived.Test.YtbmhgmigcgeooaaDoorL2
namespace Go.Proofs.YtbmhgmigcgeooaaDoor
open Go.RowKit
/-- The document's frames, in memory. -/
structure RX (base : Nat) (W : World) (v : Value) (L : List Fi) : Prop where
  row : W.ownsRow base 30 2 v L.length (cellsI L)
  body : ∀ y ∈ L, Own1 base W (.slice y.A y.f.l.length y.c) y.f.l
theorem RX.later {base : Nat} {W W' : World} {v : Value} {L : List Fi} (h : RX base W v L) (hb : Below W.heap.size W W') : RX base W' v L :=
  ⟨World.ownsRow.kept h.row (grown_of hb) (by cases hv : v.ownBlock <;> simp), fun y hy => (h.body y hy).below hb⟩
theorem RX.more {base : Nat} {W w1 : World} {v v' : Value} {L : List Fi} {tmp : Obj} {y : Fi} (h : RX base W v L) (hown : w1.ownsRow base 30 2 v' (L.length + 1) (cellsI L ++ [.int .i64 (y.f.k : Int), .slice y.A y.f.l.length y.c])) (hgrow : (W.alloc tmp).grownBy w1 v.ownBlock)
    (hy : Own1 base W (.slice y.A y.f.l.length y.c) y.f.l) (hbs : base ≤ W.heap.size) : RX base w1 v' (L ++ [y]) ∧ Below base W w1 := by
  have hr : ∀ z : Fi, Own1 base W (.slice z.A z.f.l.length z.c) z.f.l → Own1 base w1 (.slice z.A z.f.l.length z.c) z.f.l := fun z hz => World.ownsRow.kept (World.ownsRow.alloc hz tmp) hgrow (row_not_row (World.ownsRow.alloc hz tmp) (h.row.alloc tmp) (by decide))
  refine ⟨⟨by rw [cellsI_append, List.length_append]; exact hown, fun z hz => ?_⟩, ((Below.refl base W).alloc hbs tmp).grown hgrow (by simp; omega) (fun k hk => (World.ownsRow.lt h.row k hk).1)⟩
  rw [List.mem_append, List.mem_singleton] at hz
  rcases hz with hz | rfl
  · exact hr z (h.body z hz)
  · exact hr z hy
/-- How far the bytes have been read. -/
structure RdX (b : List UInt8) (L : List Fi) (k : Nat) : Prop where
  size : k = sizeL (frsI L)
  le : k ≤ b.length
  fr : framesL b = frsI L ++ framesL (b.drop k)
theorem RdX.more {b : List UInt8} {L : List Fi} {k : Nat} (h : RdX b L k) (hn : nextB (b.drop k) = true) {y : Fi} (hy : y.f = frB (b.drop k)) : RdX b (L ++ [y]) (k + (7 + lenB (b.drop k))) := by
  have hl := nextB_len hn
  rw [List.length_drop] at hl
  have hle := h.le
  have e : frsI (L ++ [y]) = frsI L ++ [y.f] := by simp [frsI]
  refine ⟨by rw [e, sizeL_snoc, ← h.size, hy, frB_size hn], by omega, ?_⟩
  rw [h.fr, framesL_yes hn, e, hy, List.drop_drop]
  simp
theorem RdX.done {b : List UInt8} {L : List Fi} {k : Nat} (h : RdX b L k) (hn : nextB (b.drop k) = false) : frsI L = framesL b ∧ k = sizeL (framesL b) := by
  have e : framesL b = frsI L := by rw [h.fr, framesL_no hn, List.append_nil]
  exact ⟨e.symm, by rw [e]; exact h.size⟩
theorem RdX.short {b : List UInt8} {L : List Fi} {k : Nat} (h : RdX b L k) : 7 * L.length ≤ b.length := by
  have h1 := sizeL_ge (frsI L)
  have h2 := h.size
  have h3 := h.le
  have h4 : (frsI L).length = L.length := by simp [frsI]
  omega
theorem infoRX : (Tryd.prog.info? 30).map (fun i => (i.zero, i.size, i.bytes)) = some (some (.agg #[.int .i64 0, .slice none 0 0]), 2, 32) := by kernel_rfl
def RSplits (w : World) (b : List UInt8) (e : Ending) (w' : World) : Prop := ∃ v L, e = .returned (.tuple #[v, .int .i64 (sizeL (framesL b) : Nat)]) ∧ RX w.heap.size w' v L ∧ frsI L = framesL b ∧ Below w.heap.size w w'
theorem RSplits.mk' {w w' : World} {b : List UInt8} {v : Value} {L : List Fi} {k : Nat} (h : RdX b L k) (hn : nextB (b.drop k) = false) (hx : RX w.heap.size w' v L) (hb : Below w.heap.size w w') : RSplits w b (.returned (.tuple #[v, .int .i64 (k : Int)])) w' := by
  obtain ⟨h1, h2⟩ := h.done hn
  exact ⟨v, L, by rw [← h2], hx, h1, hb⟩
set_option maxRecDepth 100000 in
set_option maxHeartbeats 4000000 in
theorem rsplit_some (bb off : Nat) (b : List UInt8) (cap : Nat) (w : World) (hA : At w (some ⟨bb, off, none⟩) b) (hc : b.length ≤ cap) (hm : b.length ≤ 1000000) :
    Calls Tryd.prog 14 #[.slice (some ⟨bb, off, none⟩) b.length cap] w (RSplits w b) := by
  have HA := Lib.hid hA
  have HP : Hid (∀ v (L : List Fi) k w', RdX b L k → nextB (b.drop k) = false → RX w.heap.size w' v L → Below w.heap.size w w' → RSplits w b (.returned (.tuple #[v, .int .i64 (k : Int)])) w') := Lib.hid fun v L k w' => RSplits.mk'
  generalize RSplits w b = Post at *
  obtain ⟨i0, hi, hz0, hz1, hz2⟩ := info_parts infoRX
  clear hA
  go_enter Tryd.func14, Tryd.ntmps14
  go_wp2
  go_loopw [4, 5] (fun v i wr => ∃ (L : List Fi) (k : Nat), i = .int .i64 k ∧ RdX b L k ∧ RX w.heap.size wr v L ∧ Below w.heap.size w wr) (fun _ i _ => b.length - (intOf i).toNat)
  case atStart => exact ⟨[], 0, rfl, ⟨rfl, Nat.zero_le _, rfl⟩, ⟨World.ownsRow_nil _ _ _ _, (fun y hy => by cases hy)⟩, Below.refl _ _⟩
  case round =>
    obtain ⟨L, k, rfl, hR, hX, hb⟩ := hrel
    have hkl := hR.le
    have hsh := hR.short
    obtain ⟨D, hD⟩ : ∃ D : Option Addr, (if cap = k then some ⟨bb, off, none⟩ else some ⟨bb, off + k, none⟩) = D := ⟨_, rfl⟩
    have C := Lib.hid (next_any D (b.drop k) (b.length - k) (cap - k) wr (hD ▸ from_at (HA.out.below hb) hkl hc) (by rw [List.length_drop]; omega) (by rw [List.length_drop]; omega) List.length_drop)
    have i0' : (0 : Int) ≤ (k : Int) := by omega
    have i1 : (k : Int) ≤ (b.length : Int) := by omega
    have i2 : (k : Int) ≤ (cap : Int) := by omega
    have i3 : (b.length : Int) ≤ (cap : Int) := by omega
    have HR := Lib.hid hR
    have HX := Lib.hid hX
    have HB := Lib.hid hb
    clear hR hX hb
    obtain ⟨Pv, cv, hv⟩ := own_slice HX.out.row
    subst hv
    unfold Nexts NextYes at C
    go_upto_region 4 with (first
      | (go_at_call 27; ((with_reducible refine (C.out).mono ?_); rintro e w5 (⟨hy, A6, c6, rfl, ho5, hb5⟩ | ⟨hy, rfl, hb5⟩); all_goals (try unfold noR); all_goals (have HYY := Lib.hid hy; have B5 := Lib.hid hb5; clear hy hb5 hD)))
      | fail)
    · have hfl := frB_len HYY.out
      have HRM := Lib.hid (HR.out.more HYY.out (y := ⟨frB (b.drop k), A6, c6⟩) rfl)
      have HO5 := Lib.hid (show Own1 w.heap.size w5 (.slice A6 (frB (b.drop k)).l.length c6) (frB (b.drop k)).l by rw [hfl]; exact ownsRow_down ho5 HB.out.size)
      have HKK := Lib.hid (show (kindB (b.drop k) : Int) = ((frB (b.drop k)).k : Int) from rfl)
      have hll := nextB_len HYY.out
      rw [List.length_drop] at hll
      rw [HKK.out] 
      rw [← hfl] at hll HRM ⊢
      clear ho5 HYY HKK hfl
      generalize frB (b.drop k) = y at *
      obtain ⟨K, l⟩ := y
      dsimp only at *
      have hne : ((7 : Int) + (l.length : Int) == 0) = false := by simp; omega
      obtain ⟨V, hV⟩ : ∃ V, w5.alloc (.cells #[.int .i64 (K : Int), .slice A6 l.length c6] 30) = V := ⟨_, rfl⟩
      have bV : Below wr.heap.size wr V := by rw [← hV]; exact B5.out.alloc B5.out.size _
      have b5V : Below w5.heap.size w5 V := by rw [← hV]; exact (Below.refl _ _).alloc (Nat.le_refl _) _
      have fV : C2 V w5.heap.size 30 (.int .i64 (K : Int)) (.slice A6 l.length c6) := by rw [← hV]; exact C2.new w5 _ _ _
      have z0 := fV.c0
      have z1 := fV.c1
      rw [hV]
      have HXV := Lib.hid (HX.out.later bV)
      have HOV := Lib.hid (HO5.out.below b5V)
      have HBV := Lib.hid (HB.out.trans (bV.mono HB.out.size))
      have hVs := HBV.out.size
      clear hV bV b5V fV
      go_wp2_with (first
        | (at_builtin; refine wpList_append_own_at _ rfl (.tmp 19) (.tmp 21) 38 rfl w.heap.size 30 i0 _ 2 32 Tryd.underlying38 hi hz0 hz1 hz2 rfl (by decide) _ _ _ rfl (HXV.out.row.alloc _) ⟨V.heap.size, 0, none⟩ 1 1 [.int .i64 (K : Int), .slice A6 l.length c6] rfl rfl (cell_two_new _ _ _ _) (by simp [Value.oneCell']) (by unfold maxLen; omega) (by omega) (by simp; omega) ?_; intro v7 w7 hown7 hgrow7 _ _; have HP7 := Lib.hid (HXV.out.more (y := ⟨⟨K, l⟩, A6, c6⟩) hown7 hgrow7 HOV.out hVs); clear hown7 hgrow7)
        | fail)
      exact ⟨⟨L ++ [⟨⟨K, l⟩, A6, c6⟩], k + (7 + l.length), by go_num, HRM.out, HP7.out.1, HBV.out.trans HP7.out.2⟩, by simp [intOf]; omega⟩
    · have HF := Lib.hid (fun w' h1 h2 => HP.out (.slice Pv L.length cv) L k w' HR.out HYY.out h1 h2)
      have HXA := Lib.hid (fun o => HX.out.later (B5.out.alloc B5.out.size o))
      have HBA := Lib.hid (fun o => HB.out.trans ((B5.out.alloc B5.out.size o).mono HB.out.size))
      go_wp2
      exact HF.out _ (HXA.out _) (HBA.out _)
set_option maxRecDepth 100000 in
set_option maxHeartbeats 1000000 in
theorem rsplit_none (w : World) : Calls Tryd.prog 14 #[.slice none 0 0] w (RSplits w []) := by
  have hN : nextB (([] : List UInt8).drop 0) = false := by decide
  have HP : Hid (∀ v (L : List Fi) k w', RdX [] L k → nextB (([] : List UInt8).drop k) = false → RX w.heap.size w' v L → Below w.heap.size w w' → RSplits w [] (.returned (.tuple #[v, .int .i64 (k : Int)])) w') := Lib.hid fun v L k w' => RSplits.mk'
  have HQ := Lib.hid (fun w' (h : Below w.heap.size w w') => HP.out (.slice none 0 0) [] 0 w' ⟨rfl, Nat.zero_le _, rfl⟩ hN ⟨World.ownsRow_nil _ _ _ _, (fun y hy => by cases hy)⟩ h)
  clear HP hN
  generalize RSplits w [] = Post at *
  have C := Lib.hid (next_short none [] 0 w (by decide))
  go_enter Tryd.func14, Tryd.ntmps14
  go_wp2
  go_loopw [4, 5] (fun v i wr => v = .slice none 0 0 ∧ i = .int .i64 0 ∧ wr = w) (fun _ _ _ => 0)
  case atStart => exact ⟨rfl, rfl, rfl⟩
  case round =>
    obtain ⟨rfl, rfl, rfl⟩ := hrel
    go_upto_region 4 with (first
      | (go_at_call 27; ((refine (C.out).mono ?_); rintro e w5 ⟨rfl, hb5⟩; unfold noR; have B5 := Lib.hid hb5; clear hb5))
      | fail)
    have HBA := Lib.hid (fun o => B5.out.alloc B5.out.size o)
    go_wp2
    exact HQ.out _ (HBA.out _)
theorem rsplit_any (A : Option Addr) (b : List UInt8) (n cap : Nat) (w : World) (hA : At w A b) (hz : A = none → cap = 0) (hs : ∀ ad, A = some ad → ∃ bb off, ad = ⟨bb, off, none⟩) (hc : b.length ≤ cap) (hm : b.length ≤ 1000000) (hn : b.length = n) :
    Calls Tryd.prog 14 #[.slice A n cap] w (RSplits w b) := by
  subst hn
  cases A with
  | none =>
    obtain rfl := hA.none_nil
    obtain rfl := hz rfl
    exact rsplit_none w
  | some ad =>
    obtain ⟨bb, off, rfl⟩ := hs ad rfl
    exact rsplit_some bb off b cap w hA hc hm
end Go.Proofs.YtbmhgmigcgeooaaDoor
