/- Slices of periods that a call builds; placings. -/
import Derived.Test.YtbdlmidkkdmkpaaP6
namespace Go.Proofs.Ytbdlmidkkdmkpaa
open Go.RowKit
def cellsP (L : List (Int × Int)) : List Value := L.flatMap fun p => [.int .u64 p.1, .int .u64 p.2]
theorem cellsP_length (L : List (Int × Int)) : (cellsP L).length = L.length * 2 := by
  induction L with
  | nil => rfl
  | cons x L ih => simp only [cellsP, List.flatMap_cons, List.length_append, List.length_cons, List.length_nil] at *; omega
theorem cellsP_append (A B : List (Int × Int)) : cellsP (A ++ B) = cellsP A ++ cellsP B := by simp [cellsP]
theorem cellsP_get (L : List (Int × Int)) (i : Nat) (h : i < L.length) : (cellsP L)[i * 2]? = some (.int .u64 (L[i].1)) ∧ (cellsP L)[i * 2 + 1]? = some (.int .u64 (L[i].2)) := by
  induction L generalizing i with
  | nil => simp at h
  | cons x L ih =>
    cases i with
    | zero => simp [cellsP]
    | succ i =>
      have := ih i (by simpa using h)
      have e : cellsP (x :: L) = .int .u64 x.1 :: .int .u64 x.2 :: cellsP L := by simp [cellsP]
      rw [e, show (i + 1) * 2 = i * 2 + 1 + 1 by omega]
      simpa using this
/-- A slice that the call owns holds these periods. -/
def OwnP (base : Nat) (w : World) (v : Value) (L : List (Int × Int)) : Prop := w.ownsRow base 24 2 v L.length (cellsP L)
theorem OwnP.nil (base : Nat) (w : World) : OwnP base w (.slice none 0 0) [] := ⟨rfl, .inl ⟨rfl, rfl⟩⟩
theorem OwnP.alloc {base : Nat} {w : World} {v : Value} {L : List (Int × Int)} (h : OwnP base w v L) (o : Obj) : OwnP base (w.alloc o) v L := World.ownsRow.alloc h o
theorem OwnP.below {base : Nat} {w w' : World} {v : Value} {L : List (Int × Int)} (h : OwnP base w v L) (hb : Below w.heap.size w w') : OwnP base w' v L := by
  refine ⟨h.1, ?_⟩
  rcases h.2 with h0 | ⟨g, cap, cur, e, hg, hc, h1, h2, h3, h4⟩
  · exact .inl h0
  · exact .inr ⟨g, cap, cur, e, hg, (hb.block g (Array.getElem?_eq_some_iff.1 hc).1).trans hc, h1, h2, h3, h4⟩
/-- Where the periods of a slice lie. -/
def AtP (w : World) (A : Option Addr) (L : List (Int × Int)) : Prop := 0 < L.length → ∃ g, A = some ⟨g, 0, none⟩ ∧ g < w.heap.size ∧ ∀ i (h : i < L.length), w.cell? ⟨g, i * 2, none⟩ = some (.int .u64 (L[i].1)) ∧ w.cell? ⟨g, i * 2 + 1, none⟩ = some (.int .u64 (L[i].2))
theorem AtP.below {w w' : World} {A : Option Addr} {L : List (Int × Int)} (h : AtP w A L) (hb : Below w.heap.size w w') : AtP w' A L := fun h0 => by
  obtain ⟨g, e, hl, hc⟩ := h h0
  have hs := hb.size
  exact ⟨g, e, by omega, fun i hi => ⟨(hb.cell (p := ⟨g, i * 2, none⟩) hl).trans (hc i hi).1, (hb.cell (p := ⟨g, i * 2 + 1, none⟩) hl).trans (hc i hi).2⟩⟩
theorem OwnP.at {base : Nat} {w : World} {v : Value} {L : List (Int × Int)} (h : OwnP base w v L) : ∃ A c, v = .slice A L.length c ∧ AtP w A L := by
  rcases h.2 with ⟨rfl, h0⟩ | ⟨g, cap, cur, rfl, hg, hb, h1, h2, h3, h4⟩
  · exact ⟨none, 0, by rw [h0], fun e => absurd e (by omega)⟩
  · refine ⟨_, _, rfl, fun _ => ⟨g, rfl, (Array.getElem?_eq_some_iff.1 hb).1, fun i hi => ?_⟩⟩
    have key : ∀ k, k < L.length * 2 → w.cell? ⟨g, k, none⟩ = (cellsP L)[k]? := fun k hk => by
      rw [← h4, List.getElem?_take_of_lt hk, Array.getElem?_toList]
      simp [World.cell?, hb]
    rw [key _ (by omega), key _ (by omega)]
    exact cellsP_get L i hi
theorem infoP : (Try.prog.info? 24).map (fun i => (i.zero, i.size, i.bytes)) = some (some (.agg #[.int .u64 0, .int .u64 0]), 2, 16) := by kernel_rfl
theorem infoI : (Try.prog.info? 3).map (fun i => (i.zero, i.size, i.bytes)) = some (some (.int .i64 0), 1, 8) := by kernel_rfl
theorem add_plain (b off j : Nat) : (⟨b, off, none⟩ : Addr).add j = ⟨b, off + j, none⟩ := by unfold Addr.add; split <;> simp_all
/-- append of one period onto what the call owns. -/
theorem wpList_appP {ops : Array Oper} {rest : List Oper} {o : Oper} {a : Act} {w : World} {Q : Exit → Act → World → Prop} (hgd : o.guard = none) (s x : Operand)
    (ho : o.op = .call { callee := .builtin .append, args := #[s, x], argTypes := #[40, 40] })
    (base : Nat) (v : Value) (L : List (Int × Int)) (hs : a.eval s = v) (hown : OwnP base w v L) (g : Nat) (p q : Int) (hx : a.eval x = .slice (some ⟨g, 0, none⟩) 1 1)
    (hp : w.cell? ⟨g, 0, none⟩ = some (.int .u64 p)) (hq : w.cell? ⟨g, 1, none⟩ = some (.int .u64 q)) (hlen : L.length ≤ 1000) (hbase : base ≤ w.heap.size)
    (h : ∀ v' w', OwnP base w' v' (L ++ [(p, q)]) → Below base w w' → v'.ownBlock ≠ none → wpList Try.prog ops Q rest (a.put o.dst v') w') :
    wpList Try.prog ops Q (o :: rest) a w := by
  obtain ⟨i0, hi, hz0, hz1, hz2⟩ := info_parts infoP
  refine wpList_append_own_at _ hgd s x 40 ho base 24 i0 _ 2 16 Try.underlying40 hi hz0 hz1 hz2 rfl (by omega) v _ _ hs hown ⟨g, 0, none⟩ 1 1 [.int .u64 p, .int .u64 q] hx rfl ?_ ?_ (by unfold maxLen; omega) (by omega) hbase ?_
  · intro j u hj
    rw [add_plain, Nat.zero_add]
    match j, hj with
    | 0, hj => simp at hj; subst hj; exact hp
    | 1, hj => simp at hj; subst hj; exact hq
  · intro u hu
    simp at hu
    rcases hu with rfl | rfl <;> rfl
  · intro v' w' h1 h2 h3 _
    refine h v' w' ?_ ((Below.refl _ _).grown h2 hbase fun k hk => (World.ownsRow.lt hown k hk).1) ?_
    · unfold OwnP
      rw [cellsP_append, List.length_append]
      exact h1
    · intro e
      rcases h1.2 with ⟨e2, e3⟩ | ⟨g', cap, cur, rfl, _⟩
      · omega
      · cases e
/-- The periods that end at n or at one before, the earlier ends first. -/
def plRow (n k : Nat) : List (Int × Int) := (List.range k).map fun (f : Nat) => ((f : Int), (n : Int))
def plAll (n : Nat) : List (Int × Int) := (List.range n).flatMap fun (t : Nat) => plRow t t
theorem plRow_succ (n k : Nat) : plRow n (k + 1) = plRow n k ++ [((k : Int), (n : Int))] := by simp [plRow, List.range_succ]
theorem plAll_succ (n : Nat) : plAll (n + 1) = plAll n ++ plRow n n := by simp [plAll, List.range_succ]
theorem pl_small (n k : Nat) (h : n < 6) (hk : k ≤ n) : (plAll n ++ plRow n k).length ≤ 1000 := by
  have : (plAll n).length ≤ 15 := by
    match n, h with
    | 0, _ | 1, _ | 2, _ | 3, _ | 4, _ | 5, _ => decide
  simp only [List.length_append, plRow, List.length_map, List.length_range]
  omega
set_option maxRecDepth 100000 in
set_option maxHeartbeats 2000000 in
theorem placings_any (w : World) : Calls Try.prog 38 #[] w fun e w' => ∃ v, e = .returned v ∧ OwnP w.heap.size w' v (plAll 6) ∧ Below w.heap.size w w' := by
  go_enter Try.func38, Try.ntmps38
  go_wp2
  go_loopw [1, 4] (fun v t wr => ∃ n : Nat, n ≤ 6 ∧ t = .int .u64 n ∧ OwnP w.heap.size wr v (plAll n) ∧ Below w.heap.size w wr) (fun _ t _ => 6 - (intOf t).toNat)
  case atStart => exact ⟨0, by omega, rfl, OwnP.nil _ _, Below.refl _ _⟩
  case round =>
    obtain ⟨n, hn, rfl, ho, hb⟩ := hrel
    have HO := Lib.hid ho
    have HB := Lib.hid hb
    clear ho hb
    by_cases hlt : n < 6
    · have h0 : (n : Int) < 6 := by omega
      have h1 : (0 : Int) ≤ (n : Int) := by omega
      obtain ⟨wo, rfl⟩ : ∃ wo : World, wo = wr := ⟨_, rfl⟩
      go_wp2
      go_loopw [1, 8] (fun v t wr => ∃ k : Nat, k ≤ n ∧ t = .int .u64 k ∧ OwnP w.heap.size wr v (plAll n ++ plRow n k) ∧ Below w.heap.size w wr) (fun _ t _ => n - (intOf t).toNat)
      case atStart => exact ⟨0, by omega, rfl, by simpa [plRow] using HO.out, HB.out⟩
      case round =>
        obtain ⟨k, hk, rfl, ho2, hb2⟩ := hrel
        have HO2 := Lib.hid ho2
        have HB2 := Lib.hid hb2
        clear ho2 hb2
        by_cases hlt2 : k < n
        · have h2 : (k : Int) < (n : Int) := by omega
          have h3 : (0 : Int) ≤ (k : Int) := by omega
          have hs := HB2.out.size
          go_wp2_with (at_builtin; refine wpList_appP rfl (.tmp 11) (.tmp 15) rfl w.heap.size _ (plAll n ++ plRow n k) rfl (HO2.out.alloc _) wr.heap.size (k : Int) (n : Int) rfl (by go_simp) (by go_simp) (pl_small n k hlt (by omega)) (by simp; omega) ?_; intro v1 w1 ho1 hb1 _; rw [List.append_assoc, ← plRow_succ] at ho1; have HO3 := Lib.hid ho1; have HB3 := Lib.hid ((HB2.out.alloc hs (.cells #[.int .u64 (k : Int), .int .u64 (n : Int)] 24)).trans hb1); clear ho1 hb1)
          exact ⟨⟨k + 1, by omega, by go_num, HO3.out, HB3.out⟩, by simp [intOf]; omega⟩
        · obtain rfl : k = n := by omega
          rw [← plAll_succ] at HO2
          go_wp2
          exact ⟨⟨k + 1, by omega, by go_num, HO2.out, HB2.out⟩, by simp [intOf]; omega⟩
    · obtain rfl : n = 6 := by omega
      go_wp2
      go_ret
      exact ⟨_, rfl, HO.out, HB.out⟩
end Go.Proofs.Ytbdlmidkkdmkpaa
