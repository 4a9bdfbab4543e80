/- The digits of a number as package wire puts them: the closure that makes them, put. -/
import Derived.Test.YtokgpifelinonaaB1
import Derived.Maps.AppendAt
namespace Go.Proofs.Ytokgpifelinonaa
open Go.RowKit
theorem next_val (n c : Nat) : Value.int .u8 ((n : Int) / 2 ^ (8 * c) % 256) = bv (UInt8.ofNat (n / 256 ^ c)) := by
  unfold bv
  rw [byte_ofNat, show (256 : Nat) ^ c = 2 ^ (8 * c) by rw [Nat.pow_mul]]
  simp
/-- The digit of n that c digits follow. -/
def db (n c : Nat) : Int := ((UInt8.ofNat (n / 256 ^ c)).toNat : Int)
theorem bv_db (n c : Nat) : bv (UInt8.ofNat (n / 256 ^ c)) = .int .u8 (db n c) := rfl
/-- A cell of one byte, new, as what an append takes in. -/
theorem new_one {w : World} {s : Nat} (x : Value) (t : TypeId) (h : w.heap.size = s) : ∀ ad, some (⟨s, 0, none⟩ : Addr) = some ad → ∀ j u, [x][j]? = some u → (w.alloc (.cells #[x] t)).cell? (ad.add j) = some u := by
  intro ad e
  injection e with e
  subst e
  subst h
  exact cell_one_new w x t
theorem one_cell (k : IntKind) (x : Int) : ∀ u ∈ [Value.int k x], u.oneCell' = true := by simp [Value.oneCell']
theorem retv {a b : Value} (h : a = b) : Ending.returned a = .returned b := by rw [h]
set_option maxRecDepth 100000 in
set_option maxHeartbeats 1000000 in
theorem next_any (c n : Nat) (p q : Addr) (w : World) (hn : n < 2 ^ 64) (hc : c < 8) (hp : w.cell? p = some (.int .i64 ((c : Int) + 1))) (hq : w.cell? q = some (.int .u64 n)) (hpf : w.frozen? p = false) (hne : p.block ≠ q.block) :
    Calls Try.prog 66 #[.pointer (some p), .pointer (some q)] w fun e w' => e = .returned (.int .u8 (db n c)) ∧ w' = w.setCell p (.int .i64 c) := by
  have hq' : ∀ v, (w.setCell p v).cell? q = some (.int .u64 n) := fun v => (World.cell?_setCell_other w p q v (fun e => by subst e; exact hne rfl)).trans hq
  have hp' : ∀ v, (w.setCell p v).cell? p = some v := fun v => World.cell?_setCell_same w p v hp
  have HN := Lib.hid hn
  clear hn hne
  go_enter Try.func66, Try.ntmps66
  go_wp2
  go_ret
  exact ⟨retv ((next_val n c).trans (bv_db n c)), rfl⟩
set_option maxHeartbeats 400000 in
theorem digits_any (n count : Nat) (w : World) :
    Calls Try.prog 59 #[.int .u64 n, .int .i64 count] w fun e w' => e = .returned (.func (Fn.func 66) #[] #[.pointer (some ⟨w.heap.size + 1, 0, none⟩), .pointer (some ⟨w.heap.size, 0, none⟩)]) ∧
      w' = (w.alloc (.cells #[.int .u64 n] 31)).alloc (.cells #[.int .i64 count] 3) := by
  go_enter Try.func59, Try.ntmps59
  go_wp2
  go_ret
  exact ⟨rfl, rfl⟩
theorem grown_set (w : World) (p : Addr) (u : Value) : w.grownBy (w.setCell p u) (some p.block) :=
  ⟨rfl, rfl, rfl, by simp [World.setCell], fun k _ hne => Below.heap_setCell _ _ _ _ (fun e => hne (by rw [e]))⟩
theorem owns_set {w : World} {base g n c m : Nat} {e : TypeId} {size : Nat} {xs : List Value} (h : w.ownsRow base e size (.slice (some ⟨g, 0, none⟩) n c) m xs) {p : Addr} (hp : p.block ≠ g) (u : Value) :
    (w.setCell p u).ownsRow base e size (.slice (some ⟨g, 0, none⟩) n c) m xs :=
  h.kept (grown_set w p u) (.inr (by simpa [Value.ownBlock] using Ne.symm hp))
/-- What the loop of put keeps. -/
def PutInv (base g k cap count n : Nat) (xs : List UInt8) (w : World) (j : Nat) (wr : World) : Prop :=
  wr.ownsRow base 5 1 (.slice (some ⟨g, 0, none⟩) (k + j) cap) (k + j) (cellsB (xs ++ (digs n count).take j)) ∧
  wr.cell? ⟨w.heap.size + 1, 0, none⟩ = some (.int .i64 ((count : Int) - j)) ∧ wr.cell? ⟨w.heap.size, 0, none⟩ = some (.int .u64 n) ∧ wr.frozen? ⟨w.heap.size + 1, 0, none⟩ = false ∧
  Below g w wr ∧ w.heap.size + 2 ≤ wr.heap.size
theorem digs_take (n count j : Nat) (h : j < count) : (digs n count).take (j + 1) = (digs n count).take j ++ [UInt8.ofNat (n / 256 ^ (count - 1 - j))] := by
  rw [List.take_succ_eq_append_getElem (by rw [digs_length]; exact h)]
  congr 2
  induction count generalizing j with
  | zero => omega
  | succ c ih =>
    cases j with
    | zero => simp [digs]
    | succ j =>
      simp only [digs, List.getElem_cons_succ]
      rw [ih j (by omega)]
      congr 3
      omega
theorem PutInv.start {base g k cap count n : Nat} {xs : List UInt8} {w : World} (hg : g < w.heap.size) (h : w.ownsRow base 5 1 (.slice (some ⟨g, 0, none⟩) k cap) k (cellsB xs)) :
    PutInv base g k cap count n xs w 0 ((w.alloc (.cells #[.int .u64 n] 31)).alloc (.cells #[.int .i64 count] 3)) := by
  refine ⟨?_, ?_, ?_, ?_, ?_, ?_⟩
  · simpa using (h.alloc _).alloc _
  · simp
  · rw [World.cell?_alloc_lt _ _ _ (by simp)]
    simp
  · have h := heap_alloc_new (w.alloc (.cells #[.int .u64 n] 31)) (.cells #[.int .i64 count] 3)
    have e : (w.alloc (.cells #[.int .u64 n] 31)).heap.size = w.heap.size + 1 := by simp
    rw [e] at h
    unfold World.frozen?
    simp only []
    rw [h]
    simp
  · exact ((Below.refl _ _).alloc (by omega) _).alloc (by simp; omega) _
  · simp
theorem PutInv.next {base g k cap count n : Nat} {xs : List UInt8} {w wr w2 : World} {j : Nat} {o : Obj} (hg : g < w.heap.size) (hj : j < count) (h : PutInv base g k cap count n xs w j wr)
    (hown : w2.ownsRow base 5 1 (.slice (some ⟨g, 0, none⟩) (k + j + 1) cap) (k + j + 1) (cellsB (xs ++ (digs n count).take j) ++ [.int .u8 (db n (count - 1 - j))]))
    (hgr : ((wr.setCell ⟨w.heap.size + 1, 0, none⟩ (.int .i64 ((count - 1 - j : Nat) : Int))).alloc o).grownBy w2 (some g)) : PutInv base g k cap count n xs w (j + 1) w2 := by
  obtain ⟨h1, h2, h3, h4, h5, h6⟩ := h
  have hs : w.heap.size + 2 ≤ ((wr.setCell ⟨w.heap.size + 1, 0, none⟩ (.int .i64 ((count - 1 - j : Nat) : Int))).alloc o).heap.size := by simp [World.setCell]; omega
  refine ⟨?_, ?_, ?_, ?_, ?_, ?_⟩
  · rw [digs_take n count j hj, ← List.append_assoc, cellsB_append (xs ++ (digs n count).take j)]
    exact hown
  · rw [World.cell?_of_block (hgr.block (w.heap.size + 1) (by omega) (by simp; omega)), World.cell?_alloc_lt _ _ _ (by simp [World.setCell]; omega), World.cell?_setCell_same _ _ _ h2]
    congr 2
    omega
  · rw [World.cell?_of_block (hgr.block w.heap.size (by omega) (by simp; omega)), World.cell?_alloc_lt _ _ _ (by simp [World.setCell]; omega), World.cell?_setCell_other _ _ _ _ (by simp)]
    exact h3
  · rw [World.frozen?_of_block (hgr.block (w.heap.size + 1) (by omega) (by simp; omega)), World.frozen?_alloc_old _ _ _ (by simp [World.setCell]; omega), World.frozen?_setCell]
    exact h4
  · exact ((h5.setCell (by simp; omega) _).alloc (by simp [World.setCell]; omega) _).grown hgr (by omega) (by simp)
  · exact Nat.le_trans hs hgr.size
set_option maxRecDepth 100000 in
set_option maxHeartbeats 1000000 in
theorem put_any (base g k cap count n : Nat) (xs : List UInt8) (w : World) (hn : n < 2 ^ 64) (hc : count ≤ 8) (hg : g < w.heap.size) (hcap : k + count ≤ cap) (hxs : xs.length = k) (hm : k + count ≤ 140737488355328)
    (hown : w.ownsRow base 5 1 (.slice (some ⟨g, 0, none⟩) k cap) k (cellsB xs)) :
    Calls Try.prog 42 #[.slice (some ⟨g, 0, none⟩) k cap, .int .u64 n, .int .i64 count] w fun e w' => e = .returned (.slice (some ⟨g, 0, none⟩) (k + count) cap) ∧
      w'.ownsRow base 5 1 (.slice (some ⟨g, 0, none⟩) (k + count) cap) (k + count) (cellsB (xs ++ digs n count)) ∧ Below g w w' := by
  obtain ⟨i0, hi, hz0, hz1, hz2⟩ := info_parts info8
  have HN := Lib.hid hn
  have HST := Lib.hid (PutInv.start (count := count) (n := n) hg hown)
  have HX := Lib.hid hxs
  clear hn hown hxs
  go_enter Try.func42, Try.ntmps42
  go_wp2_with (go_at_call 59; ((with_reducible refine (digits_any _ _ _).mono ?_); rintro e w' ⟨rfl, rfl⟩))
  go_loopw [0, 12] (fun s i wr => ∃ j : Nat, j ≤ count ∧ i = .int .i64 j ∧ s = .slice (some ⟨g, 0, none⟩) (k + j) cap ∧ PutInv base g k cap count n xs w j wr) (fun _ i _ => count - (intOf i).toNat)
  case atStart => exact ⟨0, Nat.zero_le _, rfl, rfl, HST.out⟩
  case round =>
    obtain ⟨j, hj, rfl, rfl, hI⟩ := hrel
    by_cases hlt : j < count
    · have HI := Lib.hid hI
      obtain ⟨h1, h2, h3, h4, h5, h6⟩ := hI
      have H2 := Lib.hid (show wr.cell? ⟨w.heap.size + 1, 0, none⟩ = some (.int .i64 (((count - 1 - j : Nat) : Int) + 1)) by rw [h2]; congr 2; omega)
      have H1 := Lib.hid h1
      have H3 := Lib.hid h3
      have H4 := Lib.hid h4
      have H6 := Lib.hid h6
      clear h1 h2 h3 h4 h5 h6
      go_wp2_with (first
        | (go_at_call 66; ((with_reducible refine (next_any (count - 1 - j) n _ _ _ HN.out (by omega) H2.out H3.out H4.out (by simp)).mono ?_); rintro e w' ⟨rfl, rfl⟩))
        | (at_builtin; refine wpList_append_fits_any _ rfl _ _ _ rfl base 5 i0 1 Try.underlying22 hi hz1 g (k + j) cap _ rfl ((owns_set H1.out (by simp; omega) _).alloc _) _ 1 1 [.int .u8 (db n (count - 1 - j))] rfl rfl (fun h => by cases h) (new_one _ _ (by simp [World.setCell])) (one_cell _ _) (by omega) ?_; intro w2 hown2 hg2))
      exact ⟨⟨j + 1, by omega, by go_num, by rw [Nat.add_assoc], PutInv.next hg hlt HI.out hown2 hg2⟩, by simp [intOf]; omega⟩
    · obtain rfl : j = count := by omega
      have HI := Lib.hid hI
      clear hI
      go_wp2
      go_ret
      obtain ⟨h1, _, _, _, h5, _⟩ := HI.out
      rw [List.take_of_length_le (by rw [digs_length]; omega)] at h1
      exact ⟨rfl, h1, h5⟩
end Go.Proofs.Ytokgpifelinonaa
