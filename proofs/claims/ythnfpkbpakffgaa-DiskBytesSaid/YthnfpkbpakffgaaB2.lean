/- Files in memory: what package disk does to one file. -/
import Derived.Test.YthnfpkbpakffgaaB1
namespace Go.Proofs.Ythnfpkbpakffgaa
open Go.RowKit Go.Maps
open Disk (Nm Fl DS Up ins del upd fnd okName okByte used Wf)
/-- A file in memory: its name, its block, its slice, its bytes, how many are safe. -/
structure Ent where
  nm : Nm
  k : Nat
  v : Value
  bs : List UInt8
  s : Nat
abbrev Ent.fl (e : Ent) : Fl := ⟨e.nm, e.bs, e.s⟩
def Ent.has (e : Ent) (b : Nat) : Prop := b = e.k ∨ e.v.ownBlock = some b
structure FileAt (w : World) (e : Ent) : Prop where
  c0 : w.cell? ⟨e.k, 0, none⟩ = some e.v
  c1 : w.cell? ⟨e.k, 1, none⟩ = some (.int .i64 e.s)
  fr : ∀ o, w.frozen? ⟨e.k, o, none⟩ = false
  lt : e.k < w.heap.size
  own : w.ownsRow 0 5 1 e.v e.bs.length (cellsB e.bs)
  ne : e.v.ownBlock ≠ some e.k
theorem FileAt.has_lt {w : World} {e : Ent} (h : FileAt w e) {b : Nat} (hb : e.has b) : b < w.heap.size := by
  rcases hb with rfl | hb
  · exact h.lt
  · exact (h.own.lt b hb).2
theorem FileAt.but {S : Nat → Prop} {w w' : World} {e : Ent} (h : FileAt w e) (hb : But S w w') (hn : ∀ b, e.has b → ¬ S b) : FileAt w' e := by
  have hk : ¬ S e.k := hn e.k (.inl rfl)
  exact ⟨(hb.cell e.k 0 h.lt hk).trans h.c0, (hb.cell e.k 1 h.lt hk).trans h.c1, fun o => (hb.frozen e.k o h.lt hk).trans (h.fr o), Nat.lt_of_lt_of_le h.lt hb.size, own_but h.own hb fun b hb => hn b (.inr hb), h.ne⟩
theorem FileAt.below {w w' : World} {e : Ent} (h : FileAt w e) (hb : Below w.heap.size w w') : FileAt w' e := h.but (But.of_below (S := fun _ => False) hb) (fun _ _ h => h)
/-- The shape of a slice that a file holds. -/
theorem own_shape {w : World} {base : Nat} {v : Value} {l : List UInt8} (h : w.ownsRow base 5 1 v l.length (cellsB l)) : (v = .slice none 0 0 ∧ l = []) ∨ ∃ g c, v = .slice (some ⟨g, 0, none⟩) l.length c ∧ l.length ≤ c := by
  rcases h.2 with ⟨h1, h2⟩ | ⟨g, cap, cur, h1, _, _, h4, _⟩
  · exact .inl ⟨h1, List.eq_nil_of_length_eq_zero h2⟩
  · exact .inr ⟨g, cap, h1, h4⟩
theorem own_slice {w : World} {base : Nat} {v : Value} {l : List UInt8} (h : w.ownsRow base 5 1 v l.length (cellsB l)) : ∃ A c, v = .slice A l.length c ∧ At w A l ∧ (A = none → c = 0) ∧ l.length ≤ c := by
  rcases own_shape h with ⟨rfl, rfl⟩ | ⟨g, c, rfl, hc⟩
  · exact ⟨none, 0, rfl, at_nil _ _, fun _ => rfl, Nat.le_refl _⟩
  · exact ⟨_, c, rfl, own_at h, (fun h => by cases h), hc⟩
theorem own_take {w : World} {base : Nat} {A : Option Addr} {n c j : Nat} {l : List UInt8} (h : w.ownsRow base 5 1 (.slice A n c) n (cellsB l)) (hj : j ≤ n) : w.ownsRow base 5 1 (.slice A j c) j (cellsB (l.take j)) := by
  have hl : l.length = n := by have := h.1; rw [cellsB_length] at this; omega
  refine ⟨by rw [cellsB_length, List.length_take]; omega, ?_⟩
  rcases h.2 with ⟨h1, rfl⟩ | ⟨g, cap, cur, h1, h2, h3, h4, h5, h6, h7⟩
  · injection h1 with e1 e2 e3
    subst e1 e3
    obtain rfl : j = 0 := by omega
    exact .inl ⟨rfl, rfl⟩
  · injection h1 with e1 e2 e3
    subst e1 e3
    refine .inr ⟨g, c, cur, rfl, h2, h3, by omega, h5, h6, ?_⟩
    unfold cellsB
    rw [List.map_take]
    show _ = (cellsB l).take j
    rw [← h7, List.take_take, Nat.mul_one, Nat.mul_one, Nat.min_eq_left hj]
theorem set_byte (l : List UInt8) (i : Nat) (t : UInt8) : (cellsB l).set i (bv t) = cellsB (l.set i t) := by
  unfold cellsB
  rw [List.map_set]
theorem loose_any (k : Nat) (A : Option Addr) (n c s : Nat) (w : World) (c0 : w.cell? ⟨k, 0, none⟩ = some (.slice A n c)) (c1 : w.cell? ⟨k, 1, none⟩ = some (.int .i64 s)) (hs : s ≤ n) (hn : n ≤ 4194304) :
    Calls Try.prog 43 #[.pointer (some ⟨k, 0, none⟩)] w fun e w' => e = .returned (.int .i64 ((n - s : Nat) : Int)) ∧ Below w.heap.size w w' := by
  have hw : IntKind.i64.wrap ((n : Int) - (s : Int)) = ((n - s : Nat) : Int) := by rw [IntWalk.i64_in _ (by omega)]; omega
  go_enter Try.func43, Try.ntmps43
  go_wp2_with fail
  go_quiet (fail)
  go_wp2_with fail
  go_ret
  exact ⟨rfl, below_drewN' (Below.refl _ _) _⟩
theorem sync_any (k : Nat) (A : Option Addr) (n c : Nat) (w : World) (v1 : Value) (c0 : w.cell? ⟨k, 0, none⟩ = some (.slice A n c)) (c1 : w.cell? ⟨k, 1, none⟩ = some v1) (f1 : w.frozen? ⟨k, 1, none⟩ = false) :
    Calls Try.prog 40 #[.pointer (some ⟨k, 0, none⟩)] w fun e w' => e = .returned (.tuple #[]) ∧ w' = w.setCell ⟨k, 1, none⟩ (.int .i64 n) := by
  go_enter Try.func40, Try.ntmps40
  go_wp2_with fail
  go_end0
  exact ⟨rfl, rfl⟩
theorem set_i {w : World} {p : Addr} {a b : Int} (h : a = b) : w.setCell p (.int .i64 a) = w.setCell p (.int .i64 b) := by rw [h]
theorem cut_any (k : Nat) (A : Option Addr) (n c s j : Nat) (w : World) (c0 : w.cell? ⟨k, 0, none⟩ = some (.slice A n c)) (c1 : w.cell? ⟨k, 1, none⟩ = some (.int .i64 s)) (fr : ∀ o, w.frozen? ⟨k, o, none⟩ = false)
    (hA : (A = none ∧ n = 0 ∧ c = 0) ∨ ∃ g, A = some ⟨g, 0, none⟩) (hc : n ≤ c) (hj : j ≤ n) (hs : s ≤ n) (hn : n ≤ 4194304) :
    Calls Try.prog 66 #[.pointer (some ⟨k, 0, none⟩), .int .i64 j] w fun e w' => e = .returned (.tuple #[]) ∧ w' = (w.setCell ⟨k, 0, none⟩ (.slice A j c)).setCell ⟨k, 1, none⟩ (.int .i64 ((min s j : Nat) : Int)) := by
  have f0 := fr 0
  have f1 := fr 1
  have hm : min (s : Int) (j : Int) = ((min s j : Nat) : Int) := by omega
  clear fr
  rcases hA with ⟨rfl, rfl, rfl⟩ | ⟨g, rfl⟩
  · obtain rfl : j = 0 := by omega
    obtain rfl : s = 0 := by omega
    go_enter Try.func66, Try.ntmps66
    go_wp2_with fail
    go_end0
    exact ⟨rfl, rfl⟩
  · go_enter Try.func66, Try.ntmps66
    go_wp2_with fail
    all_goals (go_end0; exact ⟨rfl, set_i (by omega)⟩)
theorem element16_any (A : Option Addr) (n c k : Nat) (w : World) (f : Nat → Nat) (hn : n ≤ maxLen) (hk : k ≤ 4194304) (hA : 0 < n → ∃ b off, A = some ⟨b, off, none⟩ ∧ ∀ i, i < n → w.cell? ⟨b, off + i, none⟩ = some (.int .u16 (f i))) :
    Calls Try.prog 45 #[.slice A n c, .int .i64 k] w fun e w' => e = .returned (.int .u16 ((if k < n then f k else 0 : Nat) : Int)) ∧ w = w' := by
  unfold maxLen at hn
  by_cases hlt : k < n
  · obtain ⟨b, off, rfl, hc⟩ := hA (by omega)
    have c0 := hc k hlt
    rw [if_pos hlt]
    clear hc hA
    go_enter Try.func45, Try.ntmps45
    go_wp2_with fail
    go_ret
    exact ⟨rfl, rfl⟩
  · rw [if_neg hlt]
    clear hA
    go_enter Try.func45, Try.ntmps45
    go_wp2_with fail
    go_ret
    exact ⟨rfl, rfl⟩
theorem element8_any (A : Option Addr) (l : List UInt8) (c k : Nat) (w : World) (hn : l.length ≤ maxLen) (hk : k ≤ 4194304) (hA : At w A l) :
    Calls Try.prog 46 #[.slice A l.length c, .int .i64 k] w fun e w' => e = .returned (bv (l.getD k 0)) ∧ w = w' := by
  unfold maxLen at hn
  by_cases hlt : k < l.length
  · obtain ⟨b, off, rfl, _, hc⟩ := hA (by omega)
    have c0 := hc k hlt
    clear hc hA
    obtain ⟨x, hx⟩ : ∃ x, bv (l.getD k 0) = x := ⟨_, rfl⟩
    rw [hx] at c0 ⊢
    clear hx
    generalize l.length = n at *
    go_enter Try.func46, Try.ntmps46
    go_wp2_with fail
    go_ret
    exact ⟨rfl, rfl⟩
  · have hx : bv (l.getD k 0) = .int .u8 0 := by
      rw [List.getD, List.getElem?_eq_none (by omega)]
      rfl
    rw [hx]
    clear hA hx
    generalize l.length = n at *
    go_enter Try.func46, Try.ntmps46
    go_wp2_with fail
    go_ret
    exact ⟨rfl, rfl⟩
end Go.Proofs.Ythnfpkbpakffgaa
