/- The document's Has; its ends. -/
import Derived.Test.YtgjahnidjcfbiaaGreatDoorK1
import Derived.Test.YtgjahnidjcfbiaaGreatDoorJ22
namespace Go.Proofs.YtgjahnidjcfbiaaGreatDoor
open Go.RowKit Go.Shelf Go.Lib
open Iset (nf has NF Res Wide hasP mayP allE aboveB Sel Outs EndsOf)
set_option maxRecDepth 100000 in
set_option maxHeartbeats 4000000 in
theorem docHas_any (v : Value) (L : List (Int × Int)) (t : Int) (w : World) (hv : IsP w v L) (hl : L.length ≤ 1000000) :
    Calls Tryz.prog 18 #[v, .int .u64 t] w fun e w' => e = .returned (.bool (has L t)) ∧ Below w.heap.size w w' := by
  obtain ⟨A, c, rfl, hA⟩ := hv
  have HA := Lib.hid hA
  have HY := Lib.hid (has_yes (L := L) (t := t))
  have HN := Lib.hid (has_no (L := L) (t := t))
  clear hA
  go_enter Tryz.func18, Tryz.ntmps18
  go_wp2_with fail
  go_loopw [5] (fun s wr => ∃ i : Nat, i ≤ L.length ∧ s = .int .i64 i ∧ (∀ k (h : k < L.length), k < i → hasP (L[k].1, L[k].2) t = false) ∧ Below w.heap.size w wr) (fun s _ => L.length - (intOf s).toNat)
  case atStart => exact ⟨0, Nat.zero_le _, rfl, fun k _ h => absurd h (Nat.not_lt_zero k), Below.refl _ _⟩
  case round =>
    obtain ⟨i, hi, rfl, hp, hb⟩ := hrel
    have HP := Lib.hid hp
    have HB := Lib.hid hb
    clear hp hb
    by_cases hlt : i < L.length
    · obtain ⟨b, off, rfl, hbl, hc⟩ := (PAt.below HA.out HB.out) (by omega)
      obtain ⟨c0, c1⟩ := hc i hlt
      have HY1 := Lib.hid (HY.out i hlt)
      have HP1 := Lib.hid (fun (h : hasP (L[i].1, L[i].2) t = false) k (h1 : k < L.length) (h3 : k < i + 1) => if e : k = i then (by subst e; exact h) else HP.out k h1 (by omega))
      have i0 : (i : Int) < (L.length : Int) := by omega
      have i1 : (0 : Int) ≤ (i : Int) := by omega
      generalize L[i].1 = p at *
      generalize L[i].2 = q at *
      have HM := Lib.hid (refMay_any p q)
      have HH := Lib.hid (show hasP (p, q) t = (mayB p q && decide (p ≤ t) && decide (t < q)) from rfl)
      generalize mayB p q = m at *
      clear hc HA HY HN HP
      cases m
      · have HZ := Lib.hid (HP1.out (by rw [HH.out]; rfl))
        clear HP1 HY1 HH
        go_wp2_with (go_at_call 35; ((with_reducible refine (HM.out _).mono ?_); rintro e w1 ⟨rfl, hb1⟩; have d0 := (hb1.cell (p := ⟨b, off + i * 2, none⟩) hbl).trans c0; have d1 := (hb1.cell (p := ⟨b, off + i * 2 + 1, none⟩) hbl).trans c1; have HB1 := Lib.hid (HB.out.trans (hb1.mono HB.out.size)); clear hb1))
        exact ⟨⟨i + 1, by omega, by go_num, HZ.out, HB1.out⟩, by simp [intOf]; omega⟩
      · by_cases h3 : p ≤ t
        · by_cases h4 : t < q
          · have HZ := Lib.hid (HY1.out (by rw [HH.out]; simp [*]))
            clear HP1 HY1 HH
            go_wp2_with (go_at_call 35; ((with_reducible refine (HM.out _).mono ?_); rintro e w1 ⟨rfl, hb1⟩; have d0 := (hb1.cell (p := ⟨b, off + i * 2, none⟩) hbl).trans c0; have d1 := (hb1.cell (p := ⟨b, off + i * 2 + 1, none⟩) hbl).trans c1; have HB1 := Lib.hid (HB.out.trans (hb1.mono HB.out.size)); clear hb1))
            try rw [Exit.noGoto_ret]
            go_ret
            exact ⟨by rw [HZ.out]; rfl, HB1.out⟩
          · have h4' : decide (t < q) = false := by simpa using h4
            have HZ := Lib.hid (HP1.out (by rw [HH.out]; simp [*]))
            clear HP1 HY1 HH
            go_wp2_with (go_at_call 35; ((with_reducible refine (HM.out _).mono ?_); rintro e w1 ⟨rfl, hb1⟩; have d0 := (hb1.cell (p := ⟨b, off + i * 2, none⟩) hbl).trans c0; have d1 := (hb1.cell (p := ⟨b, off + i * 2 + 1, none⟩) hbl).trans c1; have HB1 := Lib.hid (HB.out.trans (hb1.mono HB.out.size)); clear hb1))
            exact ⟨⟨i + 1, by omega, by go_num, HZ.out, HB1.out⟩, by simp [intOf]; omega⟩
        · have h3' : decide (p ≤ t) = false := by simpa using h3
          have HZ := Lib.hid (HP1.out (by rw [HH.out]; simp [*]))
          clear HP1 HY1 HH
          go_wp2_with (go_at_call 35; ((with_reducible refine (HM.out _).mono ?_); rintro e w1 ⟨rfl, hb1⟩; have d0 := (hb1.cell (p := ⟨b, off + i * 2, none⟩) hbl).trans c0; have d1 := (hb1.cell (p := ⟨b, off + i * 2 + 1, none⟩) hbl).trans c1; have HB1 := Lib.hid (HB.out.trans (hb1.mono HB.out.size)); clear hb1))
          exact ⟨⟨i + 1, by omega, by go_num, HZ.out, HB1.out⟩, by simp [intOf]; omega⟩
    · obtain rfl : i = L.length := by omega
      have HZ := Lib.hid (HN.out fun k h => HP.out k h h)
      clear HA HP HN HY
      go_wp2
      go_ret
      exact ⟨by rw [HZ.out]; rfl, HB.out⟩
/-- append of two words, at a step of a region that draws its order. -/
theorem step_appU2 {ops : Array Oper} {o : Oper} {a : Act} {w : World} {K : Act → World → Prop} {Q : Exit → Act → World → Prop} {E : Prop} (hgd : o.guard = none) (s x : Operand)
    (ho : o.op = .call { callee := .builtin .append, args := #[s, x], argTypes := #[48, 48] })
    (base : Nat) (v : Value) (L : List Int) (hs : a.eval s = v) (hown : OwnU base w v L) (g : Nat) (p q : Int) (hx : a.eval x = .slice (some ⟨g, 0, none⟩) 2 2)
    (h0 : w.cell? ⟨g, 0, none⟩ = some (.int .u64 p)) (h1 : w.cell? ⟨g, 1, none⟩ = some (.int .u64 q)) (hlen : L.length ≤ 1000000000000) (hbase : base ≤ w.heap.size)
    (h : ∀ v' w', OwnU base w' v' (L ++ [p, q]) → Below base w w' → K (a.put o.dst v') w') :
    if Region.wanted o (yielded ops a.tmps) = true then Oper.wp Tryz.prog o a w K Q else E := by
  obtain ⟨i0, hi, hz0, hz1, hz2⟩ := info_parts infoU
  refine step_append_lies w hgd s x 48 ho base 23 i0 _ 1 8 Tryz.underlying48 hi hz0 hz1 hz2 rfl (by omega) v _ _ hs hown ⟨g, 0, none⟩ 2 2 [.int .u64 p, .int .u64 q] hx rfl ?_ ?_ (by omega) (by unfold maxLen; omega) (by omega) hbase _ rfl ?_
  · intro j u hj
    rw [add_plain, Nat.zero_add]
    match j, hj with
    | 0, hj => simp at hj; subst hj; exact h0
    | 1, hj => simp at hj; subst hj; exact h1
  · intro u hu
    simp at hu
    rcases hu with rfl | rfl <;> rfl
  · intro g' cap w' h1 h2 _ _
    refine h _ w' ?_ ((Below.refl _ _).grown h2 hbase fun k hk => (World.ownsRow.lt hown k hk).1)
    unfold OwnU
    rw [List.map_append, List.length_append]
    exact h1
theorem ownU_two (w : World) (x y : Int) : OwnU w.heap.size (w.alloc (.cells #[.int .u64 x, .int .u64 y] 23)) (.slice (some ⟨w.heap.size, 0, none⟩) 2 2) [x, y] :=
  ⟨rfl, .inr ⟨w.heap.size, 2, _, rfl, Nat.le_refl _, heap_alloc_new w _, Nat.le_refl _, by unfold maxLen; omega, rfl, rfl⟩⟩
end Go.Proofs.YtgjahnidjcfbiaaGreatDoor
