/- NumParts, walked: for every slice of whole numbers and every place it answers true. -/
import Derived.Test.YtbbedjpjekjfiaaGreatDoorS2
import Derived.Test.YtbbedjpjekjfiaaGreatDoorQ1
import Derived.Laws.AppendOwn
import Derived.Laws.AppendOwnNone
import Derived.Deep.AppendLies
namespace Go.Proofs.YtbbedjpjekjfiaaGreatDoor
open Go.RowKit
theorem own_empty (w : World) (e : TypeId) : (w.alloc (.cells #[] e)).ownsRow w.heap.size e 1 (.slice (some ⟨w.heap.size, 0, none⟩) 0 0) 0 [] :=
  ⟨by simp, .inr ⟨w.heap.size, 0, #[], rfl, Nat.le_refl _, heap_alloc_new w _, Nat.le_refl _, by unfold maxLen; omega, by simp, by simp⟩⟩
theorem own_end (w w1 : World) (o : Obj) (e : TypeId) (v : Value) (n : Nat) (xs : List Value) {c : Nat} (hown : w1.ownsRow w.heap.size e 1 v (0 + n) ([] ++ xs))
    (hg : (w.alloc o).grownBy w1 (Value.slice (some ⟨w.heap.size, 0, none⟩) 0 c).ownBlock) (hn : v ≠ .slice none 0 0) :
    ∃ g c, v = .slice (some ⟨g, 0, none⟩) n c ∧ w1.ownsRow w.heap.size e 1 v n xs ∧ Below w.heap.size w w1 := by
  rw [Nat.zero_add, List.nil_append] at hown
  have hb : Below w.heap.size w w1 := ((Below.refl _ _).alloc (Nat.le_refl _) o).grown hg (by simp) (fun k hk => by simp [Value.ownBlock] at hk; omega)
  rcases hown.2 with ⟨h, _⟩ | ⟨g, cap, _, h, _⟩
  · exact absurd h hn
  · exact ⟨g, cap, h, hown, hb⟩
theorem ints_one (l : List Int) (u : Value) (h : u ∈ l.map (Value.int .i64)) : u.oneCell' = true := by
  obtain ⟨n, _, rfl⟩ := List.mem_map.1 h
  rfl
theorem src_drop (w : World) (ad : Addr) (l : List Int) (k : Nat) (o : Obj) (hc : CellsAt w (some ad) l) : ∀ j u, ((l.drop k).map (Value.int .i64))[j]? = some u → (w.alloc o).cell? ((ad.add k).add j) = some u := by
  intro j u hu
  have hj : j < (l.drop k).length := by
    have := (List.getElem?_eq_some_iff.1 hu).1
    simpa using this
  simp only [List.length_drop] at hj
  obtain ⟨b, off, e, hb, hcell⟩ := hc (by omega)
  obtain rfl := Option.some.inj e
  have e2 : ((⟨b, off, none⟩ : Addr).add k).add j = ⟨b, off + (k + j), none⟩ := by
    unfold Addr.add
    by_cases h1 : k = 0 <;> by_cases h2 : j = 0 <;> simp [h1, h2, Nat.add_assoc]
  rw [e2, World.cell?_alloc_lt _ _ _ hb, hcell (k + j) (by omega)]
  simp only [List.getElem?_map, List.getElem?_drop, List.getElem?_eq_getElem (show k + j < l.length by omega), Option.map_some, Option.some.injEq] at hu
  rw [← hu]
  simp [List.getD, show k + j < l.length by omega]
theorem src_take (w : World) (ad : Addr) (l : List Int) (k : Nat) (hc : CellsAt w (some ad) l) : ∀ j u, ((l.take k).map (Value.int .i64))[j]? = some u → w.cell? (ad.add j) = some u := by
  intro j u hu
  have hj : j < (l.take k).length := by
    have := (List.getElem?_eq_some_iff.1 hu).1
    simpa using this
  simp only [List.length_take] at hj
  obtain ⟨b, off, e, hb, hcell⟩ := hc (by omega)
  obtain rfl := Option.some.inj e
  have e2 : (⟨b, off, none⟩ : Addr).add j = ⟨b, off + j, none⟩ := by
    unfold Addr.add
    by_cases h2 : j = 0 <;> simp [h2]
  rw [e2, hcell j (by omega)]
  simp only [List.getElem?_map, List.getElem?_take, List.getElem?_eq_getElem (show j < l.length by omega)] at hu
  rw [if_pos (by omega)] at hu
  simp at hu
  rw [← hu]
  simp [List.getD, show j < l.length by omega]
theorem own_cells (w : World) (e : TypeId) (g c : Nat) (zs : List Int) {B : Nat} (h : w.ownsRow B e 1 (.slice (some ⟨g, 0, none⟩) zs.length c) zs.length (zs.map (Value.int .i64))) : CellsAt w (some ⟨g, 0, none⟩) zs := fun h0 => by
  obtain ⟨g', cap, hv, _, hlt⟩ := h.form h0
  have e1 : g = g' := by simpa using (Value.slice.inj hv).1
  subst e1
  refine ⟨g, 0, rfl, hlt, fun i hi => ?_⟩
  have hu : (zs.map (Value.int .i64))[i]? = some (.int .i64 (zs.getD i 0)) := by simp [List.getD, hi]
  have t := h.cells (g := g) rfl i _ hu
  rw [← t]
  unfold Addr.add
  by_cases h2 : i = 0 <;> simp [h2]
theorem cells_drop (w : World) (ad : Addr) (l : List Int) (k : Nat) (hc : CellsAt w (some ad) l) : CellsAt w (some (ad.add k)) (l.drop k) := fun h0 => by
  simp only [List.length_drop] at h0
  obtain ⟨b, off, e, hb, hcell⟩ := hc (by omega)
  obtain rfl := Option.some.inj e
  refine ⟨b, off + k, ?_, hb, fun i hi => ?_⟩
  · unfold Addr.add
    by_cases h2 : k = 0 <;> simp [h2]
  · simp only [List.length_drop] at hi
    rw [Nat.add_assoc, hcell (k + i) (by omega)]
    simp [List.getD, show k + i < l.length by omega]
theorem Add_sum (p q : Int) (h1 : fitB p = true) (h2 : fitB q = true) (w : World) :
    Calls Tryz.prog 28 #[.int .i64 p, .int .i64 q] w fun e w' => e = .returned (.tuple #[.int .i64 (sumV (p + q)), .int .i64 (sumE (p + q))]) ∧ w = w' := by
  have g1 : fits p := by unfold fitB at h1; unfold fits; simpa using h1
  have g2 : fits q := by unfold fitB at h2; unfold fits; simpa using h2
  by_cases h : fitB (p + q) = true
  · have g : fits (p + q) := by unfold fitB at h; unfold fits; simpa using h
    unfold sumV sumE
    rw [if_pos h, if_pos h]
    exact Add_ok p q w g1 g2 g
  · have g : ¬ fits (p + q) := fun g => h (by unfold fitB; unfold fits at g; simpa using g)
    unfold sumV sumE
    rw [if_neg h, if_neg h]
    exact Add_over p q w g1 g2 g
theorem int64_info : (Tryz.prog.info? 2).map (fun i => (i.zero, i.size, i.bytes)) = some (some (.int .i64 0), 1, 8) := by kernel_rfl
set_option maxRecDepth 100000 in
set_option maxHeartbeats 4000000 in
theorem parts_walk (A : Option Addr) (cap : Nat) (zs : List Int) (u : Int) (w : World) (hw : WideS w A cap zs) (hu : 0 ≤ u ∧ u ≤ 65535) (h : Env w) :
    Calls Tryz.prog 7 #[.slice A zs.length cap, .int .u16 u] w fun e w' => e = .returned (.bool true) ∧ Below w.heap.size w w' := by
  obtain ⟨h1, h2, hz, hc, hA⟩ := hw
  obtain ⟨hu0, hu1⟩ := hu
  unfold maxLen at h2
  have HE := Lib.hid h
  clear h
  go_enter Tryz.func7, Tryz.ntmps7
  go_upto_region 1 with (fail)
  go_cut [0] (fun t w' => t = .slice A (zs.take 300).length cap ∧ w' = w)
  case first => as_aux_lemma =>
    by_cases hl : zs.length ≤ 300
    · have e : (zs.take 300).length = zs.length := by simp; omega
      have HA := Lib.hid e
      clear e
      go_wp2_with fail
      go_meet
      exact ⟨by rw [HA.out], rfl⟩
    · have e : (zs.take 300).length = 300 := by simp; omega
      have HA := Lib.hid e
      clear e
      go_wp2_with fail
      go_meet
      exact ⟨by rw [HA.out], rfl⟩
  case rest =>
  obtain ⟨rfl, hwc⟩ := hcut
  obtain rfl : w = wc := hwc.symm
  have hn : (zs.take 300).length ≤ 300 := by simp; omega
  have hn1 : (zs.take 300).length ≤ cap := by simp; omega
  have hz' : ∀ n ∈ zs.take 300, fits n := fun n hn => hz n (List.mem_of_mem_take hn)
  have hc' := hc.take 300
  clear hz hc h1
  generalize zs.take 300 = l at *
  go_upto_region 3 with (fail)
  have hx : 0 ≤ u % (l.length + 1) ∧ u % (l.length + 1) ≤ l.length := by
    have h1 := Int.emod_nonneg u (b := (l.length : Int) + 1) (by omega)
    have h2 := Int.emod_lt_of_pos u (b := (l.length : Int) + 1) (by omega)
    omega
  generalize u % (l.length + 1) = x at *
  obtain ⟨hx0, hx1⟩ := hx
  obtain ⟨k, rfl⟩ := Int.eq_ofNat_of_zero_le hx0
  have hkl : k ≤ l.length := by omega
  have HA := Lib.hid hA
  clear hA hx0
  obtain ⟨i0, hi, hz0, hz1, hz2⟩ := info_parts int64_info
  go_cut [6] (fun t w' => ∃ g c, t = .slice (some ⟨g, 0, none⟩) (l.length - k) c ∧ w'.ownsRow w.heap.size 2 1 t (l.length - k) ((l.drop k).map (Value.int .i64)) ∧ Below w.heap.size w w')
  case first =>
    have hown0 := own_empty w 2
    have hone := fun (u : Value) (hu : u ∈ (l.drop k).map (Value.int .i64)) => ints_one (l.drop k) u hu
    have hlen : ((l.drop k).map (Value.int .i64)).length = (l.length - k) * 1 := by simp
    cases A with
    | none =>
      have c0 := HA.out rfl
      subst c0
      have l0 : l = [] := List.eq_nil_of_length_eq_zero (by omega)
      subst l0
      have k0 : k = 0 := by simpa using hkl
      subst k0
      go_wp2_with (at_builtin; refine wpList_append_own_none rfl (.tmp 28) (.tmp 31) 22 rfl w.heap.size 2 i0 1 Tryz.underlying22 hi (.slice (some ⟨w.heap.size, 0, none⟩) 0 0) 0 [] rfl hown0 rfl ?_)
      go_meet
      exact ⟨_, _, rfl, hown0, (Below.refl _ _).alloc (Nat.le_refl _) _⟩
    | some ad =>
      by_cases hck : cap = k
      · have e0 : l.length = k := by omega
        have d0 : l.drop k = [] := by rw [← e0]; simp
        have HL := Lib.hid e0
        have HD := Lib.hid d0
        subst hck
        clear e0 d0
        go_wp2_with (at_builtin; refine wpList_append_own _ rfl (.tmp 28) (.tmp 31) 22 rfl w.heap.size 2 i0 (.int .i64 0) 1 8 Tryz.underlying22 hi hz0 hz1 hz2 rfl (by decide) (.slice (some ⟨w.heap.size, 0, none⟩) 0 0) 0 [] rfl hown0 ad 0 0 [] rfl rfl (by simp) (by simp) (by unfold maxLen; omega) (by omega) (by simp) ?_; intro v1 w1 hown1 hgrow1 hnil1)
        go_meet
        rw [HL.out, HD.out, Nat.sub_self]
        exact own_end _ _ _ _ _ _ _ hown1 hgrow1 (fun h => by have := (hnil1.1 h).1; cases this)
      · have hsrc := src_drop w ad l k (.cells #[] 2) hc'
        go_wp2_with (at_builtin; refine wpList_append_own _ rfl (.tmp 28) (.tmp 31) 22 rfl w.heap.size 2 i0 (.int .i64 0) 1 8 Tryz.underlying22 hi hz0 hz1 hz2 rfl (by decide) (.slice (some ⟨w.heap.size, 0, none⟩) 0 0) 0 [] rfl hown0 (ad.add k) (l.length - k) (cap - k) ((l.drop k).map (Value.int .i64)) rfl hlen hsrc hone (by unfold maxLen; omega) (by omega) (by simp) ?_; intro v1 w1 hown1 hgrow1 hnil1)
        go_meet
        exact own_end _ _ _ _ _ _ _ hown1 hgrow1 (fun h => by have := (hnil1.1 h).1; cases this)
  case rest =>
  obtain ⟨g, c, rfl, hown, hb1⟩ := hcut
  obtain ⟨w1, rfl⟩ : ∃ w1 : World, w1 = wc := ⟨_, rfl⟩
  have HB1 := Lib.hid hb1
  have hs1 := hb1.size
  have hc1 := hc'.below hb1
  have hc0 := hc'
  clear hb1 hc'
  go_upto_region 4 with (fail)
  go_cut [6] (fun t w' => ∃ g c, t = .slice (some ⟨g, 0, none⟩) l.length c ∧ w'.ownsRow w.heap.size 2 1 t l.length ((l.drop k ++ l.take k).map (Value.int .i64)) ∧ Below w.heap.size w w')
  case first =>
    have hone := fun (u : Value) (hu : u ∈ (l.take k).map (Value.int .i64)) => ints_one (l.take k) u hu
    have hlen : ((l.take k).map (Value.int .i64)).length = k * 1 := by simp; omega
    cases A with
    | none =>
      have c0 := HA.out rfl
      subst c0
      have l0 : l = [] := List.eq_nil_of_length_eq_zero (by omega)
      subst l0
      have k0 : k = 0 := by simpa using hkl
      subst k0
      go_wp2_with (at_builtin; refine wpList_append_own_none rfl (.tmp 33) (.tmp 36) 22 rfl w.heap.size 2 i0 1 Tryz.underlying22 hi (.slice (some ⟨g, 0, none⟩) 0 c) 0 [] rfl hown rfl ?_)
      go_meet
      exact ⟨_, _, rfl, hown, HB1.out⟩
    | some ad =>
      have hsrc := src_take w1 ad l k hc1
      go_wp2_with (at_builtin; refine wpList_append_own _ rfl (.tmp 33) (.tmp 36) 22 rfl w.heap.size 2 i0 (.int .i64 0) 1 8 Tryz.underlying22 hi hz0 hz1 hz2 rfl (by decide) (.slice (some ⟨g, 0, none⟩) (l.length - k) c) (l.length - k) ((l.drop k).map (Value.int .i64)) rfl hown ad k cap ((l.take k).map (Value.int .i64)) rfl hlen hsrc hone (by unfold maxLen; omega) (by omega) hs1 ?_; intro v2 w2 hown2 hgrow2 hnil2)
      go_meet
      rw [show l.length - k + k = l.length by omega, ← List.map_append] at hown2
      have hb2 : Below w.heap.size w w2 := HB1.out.grown hgrow2 hs1 (fun j hj => by
        have e : g = j := by simpa [Value.ownBlock] using hj
        subst e
        rcases hown.2 with ⟨h, _⟩ | ⟨g', cap', cur', h, hge, _⟩
        · cases h
        · have : g = g' := by simpa using (Value.slice.inj h).1
          omega)
      rcases hown2.2 with ⟨h, _⟩ | ⟨g', cap', _, h, _⟩
      · have := (hnil2.1 h).1
        cases this
      · exact ⟨g', cap', h, hown2, hb2⟩
  case rest =>
  obtain ⟨g2, c2, rfl, hown2, hb2⟩ := hcut
  obtain ⟨w2, rfl⟩ : ∃ w2 : World, w2 = wc := ⟨_, rfl⟩
  have hT : (l.drop k ++ l.take k).length = l.length := by simp; omega
  have hTs : (l.drop k ++ l.take k).sum = l.sum := by
    conv => rhs; rw [← List.take_append_drop k l]
    rw [List.sum_append, List.sum_append, Int.add_comm]
  have hPQ : l.sum = (l.take k).sum + (l.drop k).sum := by
    conv => lhs; rw [← List.take_append_drop k l]
    rw [List.sum_append]
  have hfT : ∀ n ∈ l.drop k ++ l.take k, fits n := fun n hn => by
    rcases List.mem_append.1 hn with h | h
    · exact hz' n (List.mem_of_mem_drop h)
    · exact hz' n (List.mem_of_mem_take h)
  have hcT := own_cells w2 2 g2 c2 (l.drop k ++ l.take k) (by rw [hT]; exact hown2)
  have hsw := HB1.out.size
  have hc2 : CellsAt w2 A l := hc0.below hb2
  have K1 := Lib.hid (fun w (hc : CellsAt w A l) => Sum_any A l cap w (by omega) hz' hc)
  have k2 := fun w (hc : CellsAt w (some ⟨g2, 0, none⟩) (l.drop k ++ l.take k)) => Sum_any (some ⟨g2, 0, none⟩) (l.drop k ++ l.take k) c2 w (by omega) hfT hc
  rw [hT, hTs] at k2
  have K2 := Lib.hid k2
  have hlP : (l.take k).length = k := by simp; omega
  have hlQ : (l.drop k).length = l.length - k := by simp
  have k3 := fun w (hc : CellsAt w A l) => Sum_any A (l.take k) cap w (by omega) (fun n hn => hz' n (List.mem_of_mem_take hn)) (hc.take k)
  rw [hlP] at k3
  have K3 := Lib.hid k3
  have k4 := fun w (A' : Option Addr) (cap' : Nat) (hc : CellsAt w A' (l.drop k)) => Sum_any A' (l.drop k) cap' w (by omega) (fun n hn => hz' n (List.mem_of_mem_drop hn)) hc
  rw [hlQ] at k4
  have K4 := Lib.hid k4
  have HC2 := Lib.hid hc2
  have HCT := Lib.hid hcT
  have B2 := Lib.hid hb2
  clear k2 k3 k4 hc2 hcT hT hTs hfT hlP hlQ hown hown2 hc1 hz' HB1 hsw hs1 hb2 hc0
  generalize hp : (l.take k).sum = p at *
  generalize hq : (l.drop k).sum = q at *
  generalize hs : l.sum = s at *
  clear hp hs
  have HPQ := Lib.hid hPQ
  clear hPQ
  go_upto_region 9 with (first | (go_at_call 14; ((with_reducible refine (K1.out _ HC2.out).mono ?_); rintro e w3 ⟨rfl, hb3⟩); have B3 := Lib.hid hb3; clear hb3) | (go_at_call 14; ((with_reducible refine (K2.out _ (HCT.out.below B3.out)).mono ?_); rintro e w4 ⟨rfl, hb4⟩); have B4 := Lib.hid hb4; clear hb4))
  go_upto_region 10 with (go_at_call 14; ((with_reducible refine (K3.out _ ((HC2.out.below B3.out).below B4.out)).mono ?_); rintro e w5 ⟨rfl, hb5⟩); have B5 := Lib.hid hb5; clear hb5)
  have hb5 : Below w.heap.size w w5 := ((B2.out.trans (B3.out.mono B2.out.size)).trans (B4.out.mono (Nat.le_trans B2.out.size B3.out.size))).trans (B5.out.mono (Nat.le_trans (Nat.le_trans B2.out.size B3.out.size) B4.out.size))
  have hc5 : CellsAt w5 A l := ((HC2.out.below B3.out).below B4.out).below B5.out
  have B := Lib.hid hb5
  clear hb5 B2 B3 B4 B5 K1 K2 K3 HCT HC2
  go_cut [13, 14] (fun t u w' => t = .int .i64 (sumV q) ∧ u = .int .i64 (sumE q) ∧ Below w.heap.size w w')
  case first =>
    cases A with
    | none =>
      have c0 := HA.out rfl
      subst c0
      have l0 : l = [] := List.eq_nil_of_length_eq_zero (by omega)
      subst l0
      have k0 : k = 0 := by simpa using hkl
      subst k0
      rw [show ([] : List Int).length - 0 = 0 from rfl] at K4
      have hnil : CellsAt w5 none (([] : List Int).drop 0) := fun h => by simp at h
      go_wp2_with (go_at_call 14; ((with_reducible refine (K4.out _ none 0 hnil).mono ?_); rintro e w6 ⟨rfl, hb6⟩); have B6 := Lib.hid hb6; clear hb6)
      go_meet
      exact ⟨rfl, rfl, B.out.trans (B6.out.mono B.out.size)⟩
    | some ad =>
      have hcd := cells_drop w5 ad l k hc5
      by_cases hck : cap = k
      · have e0 : l.length - k = 0 := by omega
        rw [e0] at K4
        subst hck
        have hcd0 : CellsAt w5 (some ad) (l.drop cap) := fun h => by simp at h; omega
        go_wp2_with (go_at_call 14; ((with_reducible refine (K4.out _ (some ad) 0 hcd0).mono ?_); rintro e w6 ⟨rfl, hb6⟩); have B6 := Lib.hid hb6; clear hb6)
        go_meet
        exact ⟨rfl, rfl, B.out.trans (B6.out.mono B.out.size)⟩
      · go_wp2_with (go_at_call 14; ((with_reducible refine (K4.out _ (some (ad.add k)) (cap - k) hcd).mono ?_); rintro e w6 ⟨rfl, hb6⟩); have B6 := Lib.hid hb6; clear hb6)
        go_meet
        exact ⟨rfl, rfl, B.out.trans (B6.out.mono B.out.size)⟩
  case rest =>
  obtain ⟨rfl, rfl, hb6⟩ := hcut
  obtain ⟨w6, rfl⟩ : ∃ w6 : World, w6 = wc := ⟨_, rfl⟩
  have HE6 := Lib.hid (HE.out.below hb6)
  have B6 := Lib.hid hb6
  clear hb6 hc5 K4 B
  by_cases f1 : fitB p = true
  · by_cases f2 : fitB q = true
    · have e1 : sumE p = 0 := by unfold sumE; rw [if_pos f1]
      have e2 : sumE q = 0 := by unfold sumE; rw [if_pos f2]
      have v1 : sumV p = p := by unfold sumV; rw [if_pos f1]
      have v2 : sumV q = q := by unfold sumV; rw [if_pos f2]
      have ha := Add_sum p q f1 f2
      rw [← HPQ.out, ← v1, ← v2] at ha
      have AD := Lib.hid ha
      have t1 : (sumE p != 0) = false := by rw [e1]; rfl
      have t2 : (sumE q != 0) = false := by rw [e2]; rfl
      clear e1 e2 v1 v2 ha f1 f2
      go_wp2_with (first | (go_at_call 28; ((with_reducible refine (AD.out _).mono ?_); rintro e w' ⟨rfl, rfl⟩)) | (go_at_call 16; ((with_reducible refine (awake_any _ HE6.out).mono ?_); rintro e w7 ⟨rfl, hb7⟩)))
      go_ret
      exact ⟨rfl, B6.out.trans (hb7.mono B6.out.size)⟩
    · have t1 : (sumE p != 0) = false := by unfold sumE; rw [if_pos f1]; rfl
      have t2 : (sumE q != 0) = true := by unfold sumE; rw [if_neg f2]; rfl
      clear f1 f2
      go_wp2_with (go_at_call 16; ((with_reducible refine (awake_any _ HE6.out).mono ?_); rintro e w7 ⟨rfl, hb7⟩))
      go_ret
      exact ⟨rfl, B6.out.trans (hb7.mono B6.out.size)⟩
  · have t1 : (sumE p != 0) = true := by unfold sumE; rw [if_neg f1]; rfl
    clear f1
    go_wp2_with (go_at_call 16; ((with_reducible refine (awake_any _ HE6.out).mono ?_); rintro e w7 ⟨rfl, hb7⟩))
    go_ret
    exact ⟨rfl, B6.out.trans (hb7.mono B6.out.size)⟩
end Go.Proofs.YtbbedjpjekjfiaaGreatDoor
