/- Slices of words; where a set begins and ceases. -/
import Derived.Test.YtgmaompjhhomcaaGreatmG37
namespace Go.Proofs.YtgmaompjhhomcaaGreat.Se
open Go.RowKit
open Iset (nf turns ends)
/-- A slice of words that the call owns. -/
def OwnU (base : Nat) (w : World) (v : Value) (L : List Int) : Prop := w.ownsRow base 23 1 v L.length (L.map (Value.int .u64))
theorem OwnU.nil (base : Nat) (w : World) : OwnU base w (.slice none 0 0) [] := ⟨rfl, .inl ⟨rfl, rfl⟩⟩
theorem OwnU.alloc {base : Nat} {w : World} {v : Value} {L : List Int} (h : OwnU base w v L) (o : Obj) : OwnU base (w.alloc o) v L := World.ownsRow.alloc h o
theorem OwnU.below {base : Nat} {w w' : World} {v : Value} {L : List Int} (h : OwnU base w v L) (hb : Below w.heap.size w w') : OwnU base w' v L := by
  refine ⟨h.1, ?_⟩
  rcases h.2 with h0 | ⟨g, cap, cur, e, hg, hc, h1, h2, h3, h4⟩
  · exact .inl h0
  · exact .inr ⟨g, cap, cur, e, hg, (hb.block g (Array.getElem?_eq_some_iff.1 hc).1).trans hc, h1, h2, h3, h4⟩
theorem OwnU.mono {base base' : Nat} {w : World} {v : Value} {L : List Int} (h : OwnU base w v L) (hb : base' ≤ base) : OwnU base' w v L := by
  refine ⟨h.1, ?_⟩
  rcases h.2 with h0 | ⟨g, cap, cur, e, hg, hc, h1, h2, h3, h4⟩
  · exact .inl h0
  · exact .inr ⟨g, cap, cur, e, by omega, hc, h1, h2, h3, h4⟩
/-- A slice of words. -/
def IsU (w : World) (v : Value) (L : List Int) : Prop := ∃ A c, v = .slice A L.length c ∧ L.length ≤ c ∧ c ≤ maxLen ∧ (0 < L.length → ∃ b off, A = some ⟨b, off, none⟩ ∧ b < w.heap.size ∧ ∀ i (h : i < L.length), w.cell? ⟨b, off + i, none⟩ = some (.int .u64 L[i]))
theorem IsU.below {w w' : World} {v : Value} {L : List Int} (h : IsU w v L) (hb : Below w.heap.size w w') : IsU w' v L := by
  obtain ⟨A, c, e, hc, hm, k⟩ := h
  refine ⟨A, c, e, hc, hm, fun h0 => ?_⟩
  obtain ⟨b, off, e, hl, hcl⟩ := k h0
  have hs := hb.size
  exact ⟨b, off, e, by omega, fun i hi => (hb.cell (p := ⟨b, off + i, none⟩) hl).trans (hcl i hi)⟩
theorem OwnU.at {base : Nat} {w : World} {v : Value} {L : List Int} (h : OwnU base w v L) : IsU w v L := by
  rcases h.2 with ⟨rfl, h0⟩ | ⟨g, cap, cur, rfl, hg, hb, h1, h2, h3, h4⟩
  · exact ⟨none, 0, by rw [h0], by omega, Nat.zero_le _, fun e => absurd e (by omega)⟩
  · refine ⟨_, _, rfl, h1, h2, fun _ => ⟨g, 0, rfl, (Array.getElem?_eq_some_iff.1 hb).1, fun i hi => ?_⟩⟩
    have key : w.cell? ⟨g, i, none⟩ = (L.map (Value.int .u64))[i]? := by
      rw [← h4, List.getElem?_take_of_lt (by omega), Array.getElem?_toList]
      simp [World.cell?, hb]
    rw [Nat.zero_add, key]
    simp [hi]
/-- append of words onto what the call owns. -/
theorem wpList_appU {ops : Array Oper} {rest : List Oper} {o : Oper} {a : Act} {w : World} {Q : Exit → Act → World → Prop} (hgd : o.guard = none) (s x : Operand)
    (ho : o.op = .call { callee := .builtin .append, args := #[s, x], argTypes := #[44, 44] })
    (base : Nat) (v : Value) (L M : List Int) (hs : a.eval s = v) (hown : OwnU base w v L) (n : Nat) (hn : n = M.length) (g off c : Nat) (hx : a.eval x = .slice (some ⟨g, off, none⟩) n c) (hnc : n ≤ c)
    (hcl : ∀ i (h : i < M.length), w.cell? ⟨g, off + i, none⟩ = some (.int .u64 M[i])) (hlen : L.length + M.length ≤ 4000000000000) (hbase : base ≤ w.heap.size)
    (h : ∀ v' w', OwnU base w' v' (L ++ M) → Below base w w' → wpList Tryz.prog ops Q rest (a.put o.dst v') w') :
    wpList Tryz.prog ops Q (o :: rest) a w := by
  obtain ⟨i0, hi, hz0, hz1, hz2⟩ := info_parts infoU
  subst hn
  refine wpList_append_own_at _ hgd s x 44 ho base 23 i0 _ 1 8 Tryz.underlying44 hi hz0 hz1 hz2 rfl (by omega) v _ _ hs hown ⟨g, off, none⟩ M.length c (M.map (Value.int .u64)) hx (by simp) ?_ ?_ (by unfold maxLen; omega) (by omega) hbase ?_
  · intro j u hj
    rw [add_plain]
    rw [List.getElem?_map, Option.map_eq_some_iff] at hj
    obtain ⟨z, hz, rfl⟩ := hj
    obtain ⟨hl, rfl⟩ := List.getElem?_eq_some_iff.1 hz
    exact hcl j hl
  · intro u hu
    rw [List.mem_map] at hu
    obtain ⟨z, _, rfl⟩ := hu
    rfl
  · intro v' w' h1 h2 h3 _
    refine h v' w' ?_ ((Below.refl _ _).grown h2 hbase fun k hk => (World.ownsRow.lt hown k hk).1)
    unfold OwnU
    rw [List.map_append, List.length_append]
    exact h1
theorem ends_take (V : List (Int × Int)) (k : Nat) (h : k < V.length) : ends (V.take (k + 1)) = ends (V.take k) ++ [V[k].1, V[k].2] := by
  rw [List.take_succ_eq_append_getElem h, Iset.ends_snoc]
set_option maxRecDepth 100000 in
set_option maxHeartbeats 4000000 in
theorem ends_any (v : Value) (L : List (Int × Int)) (w : World) (hv : IsP w v L) (hl : L.length ≤ 1000000000000) :
    Calls Tryz.prog 128 #[v] w fun e w' => ∃ v', e = .returned v' ∧ OwnU w.heap.size w' v' (turns (nf L)) ∧ Below w.heap.size w w' := by
  have hvl := Iset.nf_length L
  have HS := Lib.hid (Of_any v L w hv hl)
  have HN := Lib.hid (show turns (nf L) = ends (nf L) ++ [1099511627777] from rfl)
  generalize nf L = V at *
  generalize turns V = T at *
  have HT := Lib.hid (ends_take V)
  have HL := Lib.hid (fun k => Iset.ends_length (V.take k))
  clear hv
  go_enter Tryz.func128, Tryz.ntmps128
  go_wp2_with fail
  refine (HS.out).mono ?_
  rintro e w1 ⟨v1, rfl, ho1, hb1⟩
  obtain ⟨A, c, rfl, hA⟩ := ho1.at
  have HA := Lib.hid hA
  have HB1 := Lib.hid hb1
  clear ho1 hA hb1
  go_wp2
  go_loopw [3, 9] (fun s i wr => ∃ k : Nat, k ≤ V.length ∧ i = .int .i64 k ∧ OwnU w1.heap.size wr s (ends (V.take k)) ∧ Below w1.heap.size w1 wr) (fun _ i _ => V.length - (intOf i).toNat)
  case atStart => exact ⟨0, by omega, rfl, OwnU.nil _ _, Below.refl _ _⟩
  case round =>
    obtain ⟨k, hk, rfl, ho, hb⟩ := hrel
    have hlen := HL.out k
    rw [List.length_take] at hlen
    by_cases hlt : k < V.length
    · have HK := Lib.hid (HT.out k hlt)
      generalize ends (V.take k) = s at *
      obtain ⟨b, off, rfl, hbl, hc⟩ := (PAt.below HA.out hb) (by omega)
      obtain ⟨c0, c1⟩ := hc k hlt
      clear hc
      generalize V[k].1 = p at *
      generalize V[k].2 = q at *
      have hs := hb.size
      have HO := Lib.hid ho
      have HB := Lib.hid hb
      clear ho hb
      have X0 := Lib.hid (box_at wr p q 25 wr.heap.size rfl)
      obtain ⟨x0, x1, x2, x3⟩ := X0.out
      go_wp2_with (at_builtin; refine wpList_appU rfl (.tmp 13) (.tmp 18) rfl w1.heap.size _ s [p, q] rfl ((HO.out.alloc _).alloc _) 2 rfl (wr.heap.size + 1) 0 2 ?_ (by omega) ?_ (by simp; omega) (by simp; omega) ?_)
      · go_simp
      · intro i hi
        match i, hi with
        | 0, _ => go_simp
        | 1, _ => go_simp
      intro v2 w2 ho2 hb2
      have HO2 := Lib.hid ho2
      have HB2 := Lib.hid (((HB.out.alloc hs (.cells #[.int .u64 p, .int .u64 q] 25)).alloc (by simp; omega) (.cells #[.int .u64 p, .int .u64 q] 23)).trans hb2)
      clear ho2 hb2
      go_wp2
      exact ⟨⟨k + 1, by omega, by go_num, by rw [HK.out]; exact HO2.out, HB2.out⟩, by simp [intOf]; omega⟩
    · obtain rfl : k = V.length := by omega
      rw [List.take_length] at ho hlen
      have HO := Lib.hid ho
      have HB := Lib.hid hb
      have hs := hb.size
      clear ho hb
      go_wp2_with (at_builtin; refine wpList_appU rfl (.tmp 21) (.tmp 22) rfl w1.heap.size _ (ends V) [1099511627777] rfl (HO.out.alloc _) 1 rfl wr.heap.size 0 1 ?_ (by omega) ?_ (by simp; omega) (by simp; omega) ?_)
      · go_simp
      · intro i hi
        match i, hi with
        | 0, _ => go_simp
      intro v2 w2 ho2 hb2
      have HO2 := Lib.hid ho2
      have HB2 := Lib.hid ((HB.out.alloc hs (.cells #[.int .u64 1099511627777] 23)).trans hb2)
      clear ho2 hb2
      go_wp2
      go_ret
      exact ⟨_, rfl, by rw [HN.out]; exact HO2.out.mono HB1.out.size, HB1.out.trans (HB2.out.mono HB1.out.size)⟩
end Go.Proofs.YtgmaompjhhomcaaGreat.Se

