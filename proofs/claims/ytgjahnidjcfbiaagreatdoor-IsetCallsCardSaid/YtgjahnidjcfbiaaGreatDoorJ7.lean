/- Two lists of periods held against each other. -/
import Derived.Test.YtgjahnidjcfbiaaGreatDoorJ6
namespace Go.Proofs.YtgjahnidjcfbiaaGreatDoor
open Go.RowKit
/-- Are two lists the same? -/
def sameL (L M : List (Int × Int)) : Bool := decide (L = M)
theorem sameL_len {L M : List (Int × Int)} (h : L.length ≠ M.length) : sameL L M = false := by
  rw [sameL, decide_eq_false_iff_not]
  rintro rfl
  exact h rfl
theorem sameL_at {L M : List (Int × Int)} (k : Nat) (h : k < L.length) (g : k < M.length) (hne : ¬ (L[k].1 = M[k].1 ∧ L[k].2 = M[k].2)) : sameL L M = false := by
  rw [sameL, decide_eq_false_iff_not]
  rintro rfl
  exact hne ⟨rfl, rfl⟩
theorem sameL_all {L M : List (Int × Int)} (hl : L.length = M.length) (h : ∀ k (h : k < L.length) (g : k < M.length), L[k].1 = M[k].1 ∧ L[k].2 = M[k].2) : sameL L M = true := by
  rw [sameL, decide_eq_true_eq]
  exact List.ext_getElem hl fun k h1 h2 => Prod.ext (h k h1 h2).1 (h k h1 h2).2
set_option maxRecDepth 100000 in
set_option maxHeartbeats 2000000 in
theorem Equal_any (va vb : Value) (L M : List (Int × Int)) (w : World) (ha : IsP w va L) (hb : IsP w vb M) (hl : L.length ≤ 4000000000000) (hm : M.length ≤ 4000000000000) :
    Calls Tryz.prog 31 #[va, vb] w fun e w' => e = .returned (.bool (sameL L M)) ∧ Below w.heap.size w w' := by
  obtain ⟨A, c, rfl, hA⟩ := ha
  obtain ⟨B, d, rfl, hB⟩ := hb
  have HA := Lib.hid hA
  have HB := Lib.hid hB
  clear hA hB
  by_cases hne : L.length = M.length
  · have HN := Lib.hid (sameL_at (L := L) (M := M))
    have HY := Lib.hid (sameL_all (L := L) (M := M) hne)
    have HE := Lib.hid hne
    have hne' : ((L.length : Int) != (M.length : Int)) = false := by simp [hne]
    clear hne
    go_enter Tryz.func31, Tryz.ntmps31
    go_wp2
    clear hne'
    go_loopw [13] (fun v wr => ∃ i : Nat, i ≤ L.length ∧ v = .int .i64 i ∧ (∀ k (h : k < L.length) (g : k < M.length), k < i → L[k].1 = M[k].1 ∧ L[k].2 = M[k].2) ∧ Below w.heap.size w wr) (fun v _ => L.length - (intOf v).toNat)
    case atStart => exact ⟨0, Nat.zero_le _, rfl, fun k _ _ h => absurd h (Nat.not_lt_zero k), Below.refl _ _⟩
    case round =>
      obtain ⟨i, hi, rfl, hp, hb⟩ := hrel
      have HP := Lib.hid hp
      have HBl := Lib.hid hb
      clear hp hb
      by_cases hlt : i < L.length
      · have hlt2 : i < M.length := by have := HE.out; omega
        obtain ⟨g, og, rfl, lg, cg⟩ := (HA.out.below HBl.out) (by omega)
        obtain ⟨f, of, rfl, lf, cf⟩ := (HB.out.below HBl.out) (by omega)
        obtain ⟨x0, x1⟩ := cg i hlt
        obtain ⟨y0, y1⟩ := cf i hlt2
        have HN1 := Lib.hid (HN.out i hlt hlt2)
        have HP1 := Lib.hid (fun (h : L[i].1 = M[i].1 ∧ L[i].2 = M[i].2) k (h1 : k < L.length) (h2 : k < M.length) (h3 : k < i + 1) => if e : k = i then (by subst e; exact h) else HP.out k h1 h2 (by omega))
        have i0 : (i : Int) < (L.length : Int) := by omega
        have i1 : (0 : Int) ≤ (i : Int) := by omega
        generalize L[i].1 = p at *
        generalize L[i].2 = q at *
        generalize M[i].1 = p' at *
        generalize M[i].2 = q' at *
        clear cg cf HA HB HN HP
        by_cases h1 : p = p'
        · subst h1
          by_cases h2 : q = q'
          · subst h2
            have HP2 := Lib.hid (HP1.out ⟨rfl, rfl⟩)
            clear HP1 HN1
            go_upto_region 6 with fail
            go_quiet (fail)
            go_wp2
            exact ⟨⟨i + 1, by omega, by go_num, HP2.out, bel_drewN _ HBl.out⟩, by simp [intOf]; omega⟩
          · have HN2 := Lib.hid (HN1.out fun h => h2 h.2)
            have h2' : (q == q') = false := by simpa using h2
            clear HP1 HN1 h2
            go_upto_region 6 with fail
            go_quiet (fail)
            go_wp2
            go_ret
            exact ⟨by rw [HN2.out]; rfl, bel_drewN _ HBl.out⟩
        · have HN2 := Lib.hid (HN1.out fun h => h1 h.1)
          have h1' : (p == p') = false := by simpa using h1
          clear HP1 HN1 h1
          go_upto_region 6 with fail
          go_quiet (fail)
          go_wp2
          go_ret
          exact ⟨by rw [HN2.out]; rfl, bel_drewN _ HBl.out⟩
      · obtain rfl : i = L.length := by omega
        have HY1 := Lib.hid (HY.out fun k h g => HP.out k h g h)
        clear HA HB HP HN HY
        go_wp2
        go_ret
        exact ⟨by rw [HY1.out]; rfl, HBl.out⟩
  · have hne' : ((L.length : Int) != (M.length : Int)) = true := by
      rw [bne_iff_ne]
      omega
    rw [sameL_len hne]
    clear hne
    go_enter Tryz.func31, Tryz.ntmps31
    go_wp2
    go_ret
    exact ⟨rfl, Below.refl _ _⟩
set_option maxRecDepth 100000 in
set_option maxHeartbeats 2000000 in
theorem Like_any (va vb : Value) (L M : List (Int × Int)) (w : World) (ha : IsP w va L) (hb : IsP w vb M) (hl : L.length ≤ 4000000000000) (hm : M.length ≤ 4000000000000) :
    Calls Tryz.prog 15 #[va, vb] w fun e w' => e = .returned (.bool (sameL L M)) ∧ Below w.heap.size w w' := by
  obtain ⟨A, c, rfl, hA⟩ := ha
  obtain ⟨B, d, rfl, hB⟩ := hb
  have HA := Lib.hid hA
  have HB := Lib.hid hB
  clear hA hB
  by_cases hne : L.length = M.length
  · have HN := Lib.hid (sameL_at (L := L) (M := M))
    have HY := Lib.hid (sameL_all (L := L) (M := M) hne)
    have HE := Lib.hid hne
    have hne' : ((L.length : Int) != (M.length : Int)) = false := by simp [hne]
    clear hne
    go_enter Tryz.func15, Tryz.ntmps15
    go_wp2
    clear hne'
    go_loopw [5] (fun v wr => ∃ i : Nat, i ≤ L.length ∧ v = .int .i64 i ∧ (∀ k (h : k < L.length) (g : k < M.length), k < i → L[k].1 = M[k].1 ∧ L[k].2 = M[k].2) ∧ Below w.heap.size w wr) (fun v _ => L.length - (intOf v).toNat)
    case atStart => exact ⟨0, Nat.zero_le _, rfl, fun k _ _ h => absurd h (Nat.not_lt_zero k), Below.refl _ _⟩
    case round =>
      obtain ⟨i, hi, rfl, hp, hb⟩ := hrel
      have HP := Lib.hid hp
      have HBl := Lib.hid hb
      clear hp hb
      by_cases hlt : i < L.length
      · have hlt2 : i < M.length := by have := HE.out; omega
        obtain ⟨g, og, rfl, lg, cg⟩ := (HA.out.below HBl.out) (by omega)
        obtain ⟨f, of, rfl, lf, cf⟩ := (HB.out.below HBl.out) (by omega)
        obtain ⟨x0, x1⟩ := cg i hlt
        obtain ⟨y0, y1⟩ := cf i hlt2
        have HN1 := Lib.hid (HN.out i hlt hlt2)
        have HP1 := Lib.hid (fun (h : L[i].1 = M[i].1 ∧ L[i].2 = M[i].2) k (h1 : k < L.length) (h2 : k < M.length) (h3 : k < i + 1) => if e : k = i then (by subst e; exact h) else HP.out k h1 h2 (by omega))
        have i0 : (i : Int) < (L.length : Int) := by omega
        have i1 : (0 : Int) ≤ (i : Int) := by omega
        generalize L[i].1 = p at *
        generalize L[i].2 = q at *
        generalize M[i].1 = p' at *
        generalize M[i].2 = q' at *
        clear cg cf HA HB HN HP
        by_cases h1 : p = p'
        · subst h1
          by_cases h2 : q = q'
          · subst h2
            have HP2 := Lib.hid (HP1.out ⟨rfl, rfl⟩)
            clear HP1 HN1
            go_upto_region 6 with fail
            go_quiet (fail)
            go_wp2
            exact ⟨⟨i + 1, by omega, by go_num, HP2.out, bel_drewN _ HBl.out⟩, by simp [intOf]; omega⟩
          · have HN2 := Lib.hid (HN1.out fun h => h2 h.2)
            have h2' : (q == q') = false := by simpa using h2
            clear HP1 HN1 h2
            go_upto_region 6 with fail
            go_quiet (fail)
            go_wp2
            go_ret
            exact ⟨by rw [HN2.out]; rfl, bel_drewN _ HBl.out⟩
        · have HN2 := Lib.hid (HN1.out fun h => h1 h.1)
          have h1' : (p == p') = false := by simpa using h1
          clear HP1 HN1 h1
          go_upto_region 6 with fail
          go_quiet (fail)
          go_wp2
          go_ret
          exact ⟨by rw [HN2.out]; rfl, bel_drewN _ HBl.out⟩
      · obtain rfl : i = L.length := by omega
        have HY1 := Lib.hid (HY.out fun k h g => HP.out k h g h)
        clear HA HB HP HN HY
        go_wp2
        go_ret
        exact ⟨by rw [HY1.out]; rfl, HBl.out⟩
  · have hne' : ((L.length : Int) != (M.length : Int)) = true := by
      rw [bne_iff_ne]
      omega
    rw [sameL_len hne]
    clear hne
    go_enter Tryz.func15, Tryz.ntmps15
    go_wp2
    go_ret
    exact ⟨rfl, Below.refl _ _⟩
end Go.Proofs.YtgjahnidjcfbiaaGreatDoor
