/- The laws' own helpers: P, same, cut. -/
import Derived.Test.YtgjahnidjcfbiaaGreatDoorJ15
import Derived.IntWalk
namespace Go.Proofs.YtgjahnidjcfbiaaGreatDoor
open Go.RowKit Go.Shelf Go.Lib
/-- Ends, two by two. -/
def pairs : List Int → List (Int × Int)
  | a :: b :: l => (a, b) :: pairs l
  | _ => []
theorem pairs_take : ∀ (E : List Int) (k m : Nat) (_ : m = 2 * k) (h : m + 1 < E.length), pairs (E.take (m + 2)) = pairs (E.take m) ++ [(E[m]'(by omega), E[m + 1])]
  | [], _, _, _, h => by simp at h
  | [_], _, _, _, h => by simp at h
  | a :: b :: l, 0, m, hm, _ => by subst hm; simp [pairs]
  | a :: b :: l, k + 1, m, hm, h => by
    obtain ⟨m, rfl⟩ : ∃ n, m = n + 2 := ⟨m - 2, by omega⟩
    have := pairs_take l k m (by omega) (by simp at h; omega)
    simp only [List.take_succ_cons, pairs, this, List.cons_append, List.getElem_cons_succ]
theorem pairs_all : ∀ (E : List Int) (k : Nat), E.length ≤ 2 * k + 1 → pairs (E.take (2 * k)) = pairs E
  | [], _, _ => by simp
  | [_], 0, _ => by simp [pairs]
  | [_], k + 1, _ => by
    rw [List.take_of_length_le (by simp; omega)]
  | a :: b :: l, 0, h => by simp at h
  | a :: b :: l, k + 1, h => by
    have := pairs_all l k (by simp at h; omega)
    rw [show 2 * (k + 1) = 2 * k + 1 + 1 by omega]
    simp only [List.take_succ_cons, pairs, this]
theorem pairs_len : ∀ (E : List Int), 2 * (pairs E).length ≤ E.length
  | [] => by simp [pairs]
  | [_] => by simp [pairs]
  | a :: b :: l => by
    have := pairs_len l
    simp only [pairs, List.length_cons]
    omega
/-- append of one period, at a step of a region that draws its order. -/
theorem step_appP {ops : Array Oper} {o : Oper} {a : Act} {w : World} {K : Act → World → Prop} {Q : Exit → Act → World → Prop} {E : Prop} (hgd : o.guard = none) (s x : Operand)
    (ho : o.op = .call { callee := .builtin .append, args := #[s, x], argTypes := #[22, 22] })
    (base : Nat) (v : Value) (L : List (Int × Int)) (hs : a.eval s = v) (hown : OwnP base w v L) (g : Nat) (p q : Int) (hx : a.eval x = .slice (some ⟨g, 0, none⟩) 1 1)
    (hp : w.cell? ⟨g, 0, none⟩ = some (.int .u64 p)) (hq : w.cell? ⟨g, 1, none⟩ = some (.int .u64 q)) (hlen : L.length ≤ 1000000000000) (hbase : base ≤ w.heap.size)
    (h : ∀ v' w', OwnP base w' v' (L ++ [(p, q)]) → Below base w w' → K (a.put o.dst v') w') :
    if Region.wanted o (yielded ops a.tmps) = true then Oper.wp Tryz.prog o a w K Q else E := by
  obtain ⟨i0, hi, hz0, hz1, hz2⟩ := info_parts infoP
  refine step_append_lies w hgd s x 22 ho base 29 i0 _ 2 16 Tryz.underlying22 hi hz0 hz1 hz2 rfl (by omega) v _ _ hs hown ⟨g, 0, none⟩ 1 1 [.int .u64 p, .int .u64 q] hx rfl ?_ ?_ (by omega) (by unfold maxLen; omega) (by omega) hbase _ rfl ?_
  · intro j u hj
    rw [add_plain, Nat.zero_add]
    match j, hj with
    | 0, hj => simp at hj; subst hj; exact hp
    | 1, hj => simp at hj; subst hj; exact hq
  · intro u hu
    simp at hu
    rcases hu with rfl | rfl <;> rfl
  · intro g' cap w' h1 h2 _ _
    refine h _ w' ?_ ((Below.refl _ _).grown h2 hbase fun k hk => (World.ownsRow.lt hown k hk).1)
    unfold OwnP
    rw [cellsP_append, List.length_append]
    exact h1
set_option maxRecDepth 100000 in
set_option maxHeartbeats 4000000 in
theorem P_any (v : Value) (E : List Int) (w : World) (hv : IsU w v E) (hl : E.length ≤ 1000000) :
    Calls Tryz.prog 36 #[v] w fun e w' => ∃ v', e = .returned v' ∧ OwnP w.heap.size w' v' (pairs E) ∧ Below w.heap.size w w' := by
  have HV := Lib.hid hv
  obtain ⟨A, c, rfl, hlc, hcm, hA⟩ := hv
  have HA := Lib.hid hA
  have HT := Lib.hid (fun k => pairs_take E k (2 * k) rfl)
  have HF := Lib.hid (pairs_all E)
  have HL := Lib.hid (fun k => pairs_len (E.take (2 * k)))
  clear hA
  go_enter Tryz.func36, Tryz.ntmps36
  go_wp2
  go_loopw [3, 4] (fun s i wr => ∃ (n k : Nat), n ≤ 2 * k ∧ 2 * k ≤ n ∧ n ≤ E.length ∧ i = .int .i64 n ∧ OwnP w.heap.size wr s (pairs (E.take (2 * k))) ∧ Below w.heap.size w wr) (fun _ i _ => E.length - (intOf i).toNat)
  case atStart => exact ⟨0, 0, by omega, by omega, by omega, rfl, OwnP.nil _ _, Below.refl _ _⟩
  case round =>
    obtain ⟨n, k, hk1, hk2, hn, rfl, ho, hb⟩ := hrel
    have hlen := HL.out k
    rw [List.length_take] at hlen
    have HO := Lib.hid ho
    have HB := Lib.hid hb
    have hs := hb.size
    clear ho hb
    by_cases hlt : n + 1 < E.length
    · obtain ⟨b, off, rfl, hbl, hc⟩ := HA.out (by omega)
      have h0 := hc n (by omega)
      have h1 := hc (n + 1) hlt
      obtain rfl : n = 2 * k := by omega
      have HK := Lib.hid (HT.out k hlt)
      have hk3 : (pairs (E.take (2 * k))).length ≤ 1000000 := by omega
      generalize E[2 * k] = p at *
      generalize E[2 * k + 1] = q at *
      generalize hm : 2 * k = m at *
      have HM := Lib.hid hm
      clear hc hm hk1 hk2 hlen
      go_upto_region 5 with fail
      have K0 := Lib.hid (fun w' (hb : Below w.heap.size w w') => (⟨(hb.cell (p := ⟨b, off + m, none⟩) hbl).trans h0, (hb.cell (p := ⟨b, off + (m + 1), none⟩) hbl).trans h1⟩ : w'.cell? ⟨b, off + m, none⟩ = some (.int .u64 p) ∧ w'.cell? ⟨b, off + (m + 1), none⟩ = some (.int .u64 q)))
      have i1 : IntKind.i64.wrap ((m : Int) + 1) = (m : Int) + 1 := by rw [IntWalk.i64_in]; constructor <;> omega
      have i2 : (m : Int) + 1 < (E.length : Int) := by omega
      have i3 : (0 : Int) ≤ (m : Int) + 1 := by omega
      have i4 : ((m : Int) + 1).toNat = m + 1 := by omega
      have i5 : (m : Int) < (E.length : Int) := by omega
      clear h0 h1
      go_region_held3 (fun w' => w'.cell? ⟨b, off + m, none⟩ = some (.int .u64 p) ∧ w'.cell? ⟨b, off + (m + 1), none⟩ = some (.int .u64 q)) (first | exact K0.out _ HB.out.drew | exact K0.out _ (HB.out.alloc hs _).drew | exact K0.out _ HB2.out | fail) (first
        | (refine step_appP rfl (.tmp 12) (.tmp 23) rfl w.heap.size _ (pairs (E.take m)) rfl (OwnP.below HO.out (((Below.refl _ _).alloc (Nat.le_refl _) _).drew)) wr.heap.size p q rfl (by go_simp) (by go_simp) (by omega) (by simp [World.drew]; omega) ?_; intro v2 w2 ho2 hb2; have HO2 := Lib.hid ho2; have HB2 := Lib.hid ((HB.out.alloc hs (.cells #[.int .u64 p, .int .u64 q] 29)).drew.trans hb2); clear ho2 hb2)
        | fail)
      clear i1 i3 i4 i5
      have hm2 := HM.out
      go_wp2
      exact ⟨⟨m + 2, k + 1, by omega, by omega, by omega, by go_num, by rw [show 2 * (k + 1) = m + 2 by omega, HK.out]; exact HO2.out, HB2.out⟩, by simp [intOf]; omega⟩
    · have HK := Lib.hid (HF.out k (by omega))
      clear hlen
      go_wp2
      go_ret
      exact ⟨_, rfl, by rw [← HK.out]; exact HO.out, HB.out⟩
end Go.Proofs.YtgjahnidjcfbiaaGreatDoor
