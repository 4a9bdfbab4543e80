/- The law IsetInstants, walked: instant by instant. -/
import Derived.Test.YtgjahnidjcfbiaaDoorJ22
namespace Go.Proofs.YtgjahnidjcfbiaaDoor
open Go.RowKit Go.Shelf Go.Lib
open Iset (nf has NF Res Wide NotL)
theorem inAs {va : Value} {a : List (Int × Int)} {n : Nat} {w : World} (ha : SetAt w va a n) (t : Int) (hn : n ≤ 1000000) (r : Bool) (h : has a t = r) :
    Calls Tryd.prog 22 #[va, .int .u64 t] w fun e w' => e = .returned (.bool r) ∧ Below w.heap.size w w' := h ▸ in_any va a t w ha.at_ (by have := ha.len; omega)
theorem hasAs {va : Value} {a : List (Int × Int)} {n : Nat} {w : World} (ha : SetAt w va a n) (t : Int) (hn : n ≤ 1000000) (r : Bool) (h : has a t = r) :
    Calls Tryd.prog 23 #[va, .int .u64 t] w fun e w' => e = .returned (.bool r) ∧ Below w.heap.size w w' := h ▸ cHas ha t hn
theorem wrapU (x : Int) : 0 ≤ IntKind.u64.wrap x := by
  rw [IntKind.wrap_u64]
  omega
/-- append of four words, at a step of a region that draws its order. -/
theorem step_appU4 {ops : Array Oper} {o : Oper} {a : Act} {w : World} {K : Act → World → Prop} {Q : Exit → Act → World → Prop} {E : Prop} (hgd : o.guard = none) (s x : Operand)
    (ho : o.op = .call { callee := .builtin .append, args := #[s, x], argTypes := #[33, 33] })
    (base : Nat) (v : Value) (L : List Int) (hs : a.eval s = v) (hown : OwnU base w v L) (g : Nat) (p q r t : Int) (hx : a.eval x = .slice (some ⟨g, 0, none⟩) 4 4)
    (h0 : w.cell? ⟨g, 0, none⟩ = some (.int .u64 p)) (h1 : w.cell? ⟨g, 1, none⟩ = some (.int .u64 q)) (h2 : w.cell? ⟨g, 2, none⟩ = some (.int .u64 r)) (h3 : w.cell? ⟨g, 3, none⟩ = some (.int .u64 t)) (hlen : L.length ≤ 1000000000000) (hbase : base ≤ w.heap.size)
    (h : ∀ v' w', OwnU base w' v' (L ++ [p, q, r, t]) → Below base w w' → K (a.put o.dst v') w') :
    if Region.wanted o (yielded ops a.tmps) = true then Oper.wp Tryd.prog o a w K Q else E := by
  obtain ⟨i0, hi, hz0, hz1, hz2⟩ := info_parts infoU
  refine step_append_lies w hgd s x 33 ho base 36 i0 _ 1 8 Tryd.underlying33 hi hz0 hz1 hz2 rfl (by omega) v _ _ hs hown ⟨g, 0, none⟩ 4 4 [.int .u64 p, .int .u64 q, .int .u64 r, .int .u64 t] hx rfl ?_ ?_ (by omega) (by unfold maxLen; omega) (by omega) hbase _ rfl ?_
  · intro j u hj
    rw [add_plain, Nat.zero_add]
    match j, hj with
    | 0, hj => simp at hj; subst hj; exact h0
    | 1, hj => simp at hj; subst hj; exact h1
    | 2, hj => simp at hj; subst hj; exact h2
    | 3, hj => simp at hj; subst hj; exact h3
  · intro u hu
    simp at hu
    rcases hu with rfl | rfl | rfl | rfl <;> rfl
  · intro g' cap w' h1 h2 _ _
    refine h _ w' ?_ ((Below.refl _ _).grown h2 hbase fun k hk => (World.ownsRow.lt hown k hk).1)
    unfold OwnU
    rw [List.map_append, List.length_append]
    exact h1
set_option maxRecDepth 100000 in
set_option maxHeartbeats 32000000 in
theorem Instants_walk (A B U : Option Addr) (ca cb cu : Nat) (a b : List (Int × Int)) (u : List Int) (w : World) (ha : PAt w A a) (hb : PAt w B b) (hu : UAt w U u) (za : A = none → ca = 0) (zb : B = none → cb = 0) (zu : U = none → cu = 0) (la : a.length ≤ ca) (lb : b.length ≤ cb) (lu : u.length ≤ cu) (wa : Wide a) (wb : Wide b) (hw : ∀ z ∈ u, 0 ≤ z) (henv : Env w) :
    Calls Tryd.prog 4 #[.slice A a.length ca, .slice B b.length cb, .slice U u.length cu] w fun e w' => e = .returned (.bool true) ∧ Below w.heap.size w w' := by
  obtain ⟨m, hm⟩ : ∃ n : Nat, min u.length 30 = n := ⟨_, rfl⟩
  have im : min (u.length : Int) 30 = (m : Int) := by omega
  have jm : m ≤ cu := by omega
  have HM : Hid ((u.take 30).length = m) := Lib.hid (by rw [List.length_take]; omega)
  have hm30 : m ≤ 30 := by omega
  have CA := Lib.hid (cut_any A ca a w ha za la wa)
  have CB := Lib.hid (fun w1 (h : Below w.heap.size w w1) => cut_any B cb b w1 (hb.below h) zb lb wb)
  have HU := Lib.hid (hu.take 30)
  have HZ := Lib.hid zu
  have HW : Hid (∀ z ∈ u.take 30, 0 ≤ z) := Lib.hid fun z hz => hw z (List.mem_of_mem_take hz)
  have HE := Lib.hid henv
  have LV := Lib.hid (Live.nil w)
  have BV := Lib.hid (Below.refl w.heap.size w)
  clear ha hb hu za zb zu la lb wa wb hw henv hm
  generalize a.take 60 = La at *
  generalize b.take 60 = Lb at *
  go_enter Tryd.func4, Tryd.ntmps4
  go_wp2_with fail
  refine (CA.out).mono ?_
  rintro e w1 ⟨v1, rfl, hs1, hb1⟩
  obtain ⟨A1, c1, rfl, _⟩ := hs1.at_
  have LV1 := Lib.hid ((LV.out.below hb1).cons hs1)
  have BV1 := Lib.hid (BV.out.trans (hb1.mono BV.out.size))
  clear hb1 hs1
  go_wp2_with fail
  refine (CB.out _ BV1.out).mono ?_
  rintro e w2 ⟨v2, rfl, hs2, hb2⟩
  obtain ⟨A2, c2, rfl, _⟩ := hs2.at_
  have LV2 := Lib.hid ((LV1.out.below hb2).cons hs2)
  have BV2 := Lib.hid (BV1.out.trans (hb2.mono BV1.out.size))
  clear hb2 hs2
  go_wp2_with fail
  refine (cUnion (LV2.out.nth 1 rfl) (LV2.out.nth 0 rfl) (by decide)).mono ?_
  rintro e w3 ⟨v3, R3, rfl, hr3, hs3, hb3⟩
  obtain ⟨A3, c3, rfl, _⟩ := hs3.at_
  have LV3 := Lib.hid ((LV2.out.below hb3).cons hs3)
  have BV3 := Lib.hid (BV2.out.trans (hb3.mono BV2.out.size))
  have Hhr3 := Lib.hid hr3
  clear hb3 hs3 hr3
  go_wp2_with fail
  refine (cMeet (LV3.out.nth 2 rfl) (LV3.out.nth 1 rfl) (by decide)).mono ?_
  rintro e w4 ⟨v4, R4, rfl, hr4, hs4, hb4⟩
  obtain ⟨A4, c4, rfl, _⟩ := hs4.at_
  have LV4 := Lib.hid ((LV3.out.below hb4).cons hs4)
  have BV4 := Lib.hid (BV3.out.trans (hb4.mono BV3.out.size))
  have Hhr4 := Lib.hid hr4
  clear hb4 hs4 hr4
  go_wp2_with fail
  refine (cMinus (LV4.out.nth 3 rfl) (LV4.out.nth 2 rfl) (by decide)).mono ?_
  rintro e w5 ⟨v5, R5, rfl, hr5, hs5, hb5⟩
  obtain ⟨A5, c5, rfl, _⟩ := hs5.at_
  have LV5 := Lib.hid ((LV4.out.below hb5).cons hs5)
  have BV5 := Lib.hid (BV4.out.trans (hb5.mono BV4.out.size))
  have Hhr5 := Lib.hid hr5
  clear hb5 hs5 hr5
  go_wp2_with fail
  refine (cNot (LV5.out.nth 4 rfl) (by decide)).mono ?_
  rintro e w6 ⟨v6, R6, rfl, hr6, hs6, hb6⟩
  obtain ⟨A6, c6, rfl, _⟩ := hs6.at_
  have LV6 := Lib.hid ((LV5.out.below hb6).cons hs6)
  have BV6 := Lib.hid (BV5.out.trans (hb6.mono BV5.out.size))
  have Hhr6 := Lib.hid hr6
  clear hb6 hs6 hr6
  go_wp2_with fail
  refine (cIs (LV6.out.nth 3 rfl) (by decide) Hhr3.out.nf).mono ?_
  rintro e w7 ⟨rfl, hb7⟩
  have LV7 := Lib.hid ((LV6.out.below hb7))
  have BV7 := Lib.hid (BV6.out.trans (hb7.mono BV6.out.size))
  clear hb7
  go_wp2_with fail
  refine (cIs (LV7.out.nth 2 rfl) (by decide) Hhr4.out.nf).mono ?_
  rintro e w8 ⟨rfl, hb8⟩
  have LV8 := Lib.hid ((LV7.out.below hb8))
  have BV8 := Lib.hid (BV7.out.trans (hb8.mono BV7.out.size))
  clear hb8
  go_wp2_with fail
  refine (cIs (LV8.out.nth 1 rfl) (by decide) Hhr5.out.nf).mono ?_
  rintro e w9 ⟨rfl, hb9⟩
  have LV9 := Lib.hid ((LV8.out.below hb9))
  have BV9 := Lib.hid (BV8.out.trans (hb9.mono BV8.out.size))
  clear hb9
  go_wp2_with fail
  refine (cIs (LV9.out.nth 0 rfl) (by decide) Hhr6.out.1).mono ?_
  rintro e w10 ⟨rfl, hb10⟩
  have LV10 := Lib.hid ((LV9.out.below hb10))
  have BV10 := Lib.hid (BV9.out.trans (hb10.mono BV9.out.size))
  clear hb10
  have hsz := BV10.out.size
  have hla := (LV10.out.nth 5 rfl).len
  have hlb := (LV10.out.nth 4 rfl).len
  have hwa := (LV10.out.nth 5 rfl).wide
  have hwb := (LV10.out.nth 4 rfl).wide
  have PA := Lib.hid (LV10.out.nth 5 rfl).at_
  have PB := Lib.hid (LV10.out.nth 4 rfl).at_
  go_wp2_with (at_builtin; refine wpList_appUs _ rfl (.tmp 53) (.tmp 58) rfl w10.heap.size _ [0, 1099511627775, 1099511627776] rfl (ownU_three w10 0 1099511627775 1099511627776) U m cu (u.take 30) rfl (HU.out.below (BV10.out.alloc hsz _)) HZ.out HM.out (by rw [HM.out]; simp; omega) (by simp) ?_; intro va wa ho hb; have HO0 := Lib.hid ho; have HB0 := Lib.hid (((Below.refl _ _).alloc (Nat.le_refl _) _).trans hb); clear ho hb)
  clear im jm
  have HP0 : Hid (∀ z ∈ [0, 1099511627775, 1099511627776] ++ u.take 30, 0 ≤ z) := Lib.hid fun z hz => by
    rcases List.mem_append.1 hz with h | h
    · simp only [List.mem_cons, List.not_mem_nil, or_false] at h
      rcases h with rfl | rfl | rfl <;> decide
    · exact HW.out z h
  have hl0 : ([0, 1099511627775, 1099511627776] ++ u.take 30).length ≤ 33 := by rw [List.length_append, HM.out]; simp; omega
  generalize [0, 1099511627775, 1099511627776] ++ u.take 30 = M0 at *
  have hbase := HB0.out.size
  have i0 : ∀ w, (Instr.index 37 (.agg #[.slice A1 La.length c1, .slice A2 Lb.length c2]) (.int .i64 0)).run Tryd.prog w = .ok (.slice A1 La.length c1) w := fun _ => by kernel_rfl
  have i1 : ∀ w, (Instr.index 37 (.agg #[.slice A1 La.length c1, .slice A2 Lb.length c2]) (.int .i64 1)).run Tryd.prog w = .ok (.slice A2 Lb.length c2) w := fun _ => by kernel_rfl
  go_wp2_with fail
  refine wp_loop_rounds 3 ?_
  rw [rounds_succ]
  go_wp2_with fail
  clear i0
  go_loopw [11, 14] (fun s i wr => ∃ (k : Nat) (M : List Int), k ≤ La.length ∧ i = .int .i64 k ∧ OwnU w10.heap.size wr s M ∧ (∀ z ∈ M, 0 ≤ z) ∧ M.length ≤ 33 + 4 * k ∧ Below w10.heap.size w10 wr) (fun _ i _ => La.length - (intOf i).toNat)
  case atStart => exact ⟨0, M0, by omega, rfl, HO0.out, HP0.out, by omega, HB0.out⟩
  case round =>
    obtain ⟨k, M, hk, rfl, ho, hp, hlm, hb⟩ := hrel
    have HO := Lib.hid ho
    have HP := Lib.hid hp
    have HB := Lib.hid hb
    clear ho hp hb
    by_cases hlt : k < La.length
    · obtain ⟨A9, c9, e9, hA9⟩ := PA.out
      injection e9 with e91 e92 e93
      subst e91 e93
      clear e92
      have HA9 := hA9.below HB.out
      obtain ⟨b9, off, rfl, hbl, hc⟩ := hA9 (by omega)
      obtain ⟨c0, c1'⟩ := hc k hlt
      clear hc HA9
      have hpq := hwa La[k] (List.getElem_mem hlt)
      generalize La[k].1 = p at *
      generalize La[k].2 = q at *
      have hs := HB.out.size
      have K0 := Lib.hid (fun w' (hb : Below w10.heap.size w10 w') => (⟨(hb.cell (p := ⟨b9, off + k * 2, none⟩) hbl).trans c0, (hb.cell (p := ⟨b9, off + k * 2 + 1, none⟩) hbl).trans c1'⟩ : w'.cell? ⟨b9, off + k * 2, none⟩ = some (.int .u64 p) ∧ w'.cell? ⟨b9, off + k * 2 + 1, none⟩ = some (.int .u64 q)))
      have j0 : (k : Int) < (La.length : Int) := by omega
      have j1 : (0 : Int) ≤ (k : Int) := by omega
      have HPn : Hid (∀ x y z t : Int, 0 ≤ x → 0 ≤ y → 0 ≤ z → 0 ≤ t → ∀ v ∈ M ++ [x, y, z, t], 0 ≤ v) := Lib.hid fun x y z t h1 h2 h3 h4 v hv => by
        rcases List.mem_append.1 hv with h | h
        · exact HP.out v h
        · simp only [List.mem_cons, List.not_mem_nil, or_false] at h
          rcases h with rfl | rfl | rfl | rfl <;> assumption
      clear c0 c1'
      go_upto_region 12 with fail
      go_region_held3 (fun w' => w'.cell? ⟨b9, off + k * 2, none⟩ = some (.int .u64 p) ∧ w'.cell? ⟨b9, off + k * 2 + 1, none⟩ = some (.int .u64 q)) (first | exact K0.out _ HB.out.drew | exact K0.out _ (HB.out.alloc hs _).drew | exact K0.out _ HB2.out | fail) (first
        | (refine step_appU4 rfl (.tmp 72) (.tmp 95) rfl w10.heap.size _ M rfl (HO.out.below (((Below.refl _ _).alloc (Nat.le_refl _) _).drew)) wr.heap.size _ _ _ _ rfl (by go_simp; rfl) (by go_simp; rfl) (by go_simp; rfl) (by go_simp; rfl) (by omega) (by simp [World.drew]; omega) ?_; intro v2 w2 ho2 hb2; have HO2 := Lib.hid ho2; have HB2 := Lib.hid ((HB.out.alloc hs (.cells #[.int .u64 p, .int .u64 (IntKind.u64.wrap (p - 1)), .int .u64 q, .int .u64 (IntKind.u64.wrap (q - 1))] 36)).drew.trans hb2); clear ho2 hb2)
        | fail)
      clear j0 j1
      go_wp2
      exact ⟨⟨k + 1, _, by omega, by go_num, HO2.out, HPn.out _ _ _ _ hpq.1 (wrapU _) hpq.2 (wrapU _), by simp; omega, HB2.out⟩, by simp [intOf]; omega⟩
    · obtain rfl : k = La.length := by omega
      have HO1 := Lib.hid HO.out
      have HP1 := Lib.hid HP.out
      have HB1 := Lib.hid HB.out
      have hl1 : M.length ≤ 273 := by omega
      clear HO HP HB hlm hk hlt
      obtain ⟨M1, rfl⟩ : ∃ M', M' = M := ⟨_, rfl⟩
      go_wp2_with fail
      rw [rounds_succ]
      go_wp2_with fail
      clear i1
      go_loopw [11, 14] (fun s i wr => ∃ (k : Nat) (M : List Int), k ≤ Lb.length ∧ i = .int .i64 k ∧ OwnU w10.heap.size wr s M ∧ (∀ z ∈ M, 0 ≤ z) ∧ M.length ≤ 273 + 4 * k ∧ Below w10.heap.size w10 wr) (fun _ i _ => Lb.length - (intOf i).toNat)
      case atStart => exact ⟨0, M1, by omega, rfl, HO1.out, HP1.out, by omega, HB1.out⟩
      case round =>
        obtain ⟨k, M, hk, rfl, ho, hp, hlm, hb⟩ := hrel
        have HO := Lib.hid ho
        have HP := Lib.hid hp
        have HB := Lib.hid hb
        clear ho hp hb
        by_cases hlt : k < Lb.length
        · obtain ⟨A9, c9, e9, hA9⟩ := PB.out
          injection e9 with e91 e92 e93
          subst e91 e93
          clear e92
          have HA9 := hA9.below HB.out
          obtain ⟨b9, off, rfl, hbl, hc⟩ := hA9 (by omega)
          obtain ⟨c0, c1'⟩ := hc k hlt
          clear hc HA9
          have hpq := hwb Lb[k] (List.getElem_mem hlt)
          generalize Lb[k].1 = p at *
          generalize Lb[k].2 = q at *
          have hs := HB.out.size
          have K0 := Lib.hid (fun w' (hb : Below w10.heap.size w10 w') => (⟨(hb.cell (p := ⟨b9, off + k * 2, none⟩) hbl).trans c0, (hb.cell (p := ⟨b9, off + k * 2 + 1, none⟩) hbl).trans c1'⟩ : w'.cell? ⟨b9, off + k * 2, none⟩ = some (.int .u64 p) ∧ w'.cell? ⟨b9, off + k * 2 + 1, none⟩ = some (.int .u64 q)))
          have j0 : (k : Int) < (Lb.length : Int) := by omega
          have j1 : (0 : Int) ≤ (k : Int) := by omega
          have HPn : Hid (∀ x y z t : Int, 0 ≤ x → 0 ≤ y → 0 ≤ z → 0 ≤ t → ∀ v ∈ M ++ [x, y, z, t], 0 ≤ v) := Lib.hid fun x y z t h1 h2 h3 h4 v hv => by
            rcases List.mem_append.1 hv with h | h
            · exact HP.out v h
            · simp only [List.mem_cons, List.not_mem_nil, or_false] at h
              rcases h with rfl | rfl | rfl | rfl <;> assumption
          clear c0 c1'
          go_upto_region 12 with fail
          go_region_held3 (fun w' => w'.cell? ⟨b9, off + k * 2, none⟩ = some (.int .u64 p) ∧ w'.cell? ⟨b9, off + k * 2 + 1, none⟩ = some (.int .u64 q)) (first | exact K0.out _ HB.out.drew | exact K0.out _ (HB.out.alloc hs _).drew | exact K0.out _ HB2.out | fail) (first
            | (refine step_appU4 rfl (.tmp 72) (.tmp 95) rfl w10.heap.size _ M rfl (HO.out.below (((Below.refl _ _).alloc (Nat.le_refl _) _).drew)) wr.heap.size _ _ _ _ rfl (by go_simp; rfl) (by go_simp; rfl) (by go_simp; rfl) (by go_simp; rfl) (by omega) (by simp [World.drew]; omega) ?_; intro v2 w2 ho2 hb2; have HO2 := Lib.hid ho2; have HB2 := Lib.hid ((HB.out.alloc hs (.cells #[.int .u64 p, .int .u64 (IntKind.u64.wrap (p - 1)), .int .u64 q, .int .u64 (IntKind.u64.wrap (q - 1))] 36)).drew.trans hb2); clear ho2 hb2)
            | fail)
          clear j0 j1
          go_wp2
          exact ⟨⟨k + 1, _, by omega, by go_num, HO2.out, HPn.out _ _ _ _ hpq.1 (wrapU _) hpq.2 (wrapU _), by simp; omega, HB2.out⟩, by simp [intOf]; omega⟩
        · obtain rfl : k = Lb.length := by omega
          have HO2 := Lib.hid HO.out
          have HP2 := Lib.hid HP.out
          have HB2 := Lib.hid HB.out
          have hl2 : M.length ≤ 513 := by omega
          clear HO HP HB hlm hk hlt
          obtain ⟨M2, rfl⟩ : ∃ M', M' = M := ⟨_, rfl⟩
          go_wp2_with fail
          rw [rounds_succ]
          go_wp2_with fail
          obtain ⟨A9, c9, rfl, hcc, _, hA9⟩ := HO2.out.at
          have HA9 := Lib.hid hA9
          have LVr := Lib.hid (LV10.out.below (HB2.out.mono (Nat.le_refl _)))
          have BVr := Lib.hid (BV10.out.trans (HB2.out.mono BV10.out.size))
          clear hA9 hcc
          obtain ⟨w9, rfl⟩ : ∃ x : World, x = wr := ⟨_, rfl⟩
          go_wp2_with fail
          go_loopw [16] (fun i ws => ∃ k : Nat, k ≤ M2.length ∧ i = .int .i64 k ∧ Below w9.heap.size w9 ws) (fun i _ => M2.length - (intOf i).toNat)
          case atStart => exact ⟨0, Nat.zero_le _, rfl, Below.refl _ _⟩
          case round =>
            obtain ⟨k, hk, rfl, hb⟩ := hrel
            have BVs := Lib.hid hb
            clear hb
            by_cases hlt : k < M2.length
            · obtain ⟨b9, off, rfl, hbl, hc⟩ := HA9.out (by omega)
              have c0 := (BVs.out.cell (p := ⟨b9, off + k, none⟩) hbl).trans (hc k hlt)
              have ht0 := HP2.out _ (List.getElem_mem hlt)
              clear hc
              generalize M2[k] = t at *
              have LVs := Lib.hid (LVr.out.below BVs.out)
              have j0 : (k : Int) < (M2.length : Int) := by omega
              have j1 : (0 : Int) ≤ (k : Int) := by omega
              go_upto_region 19 with fail
              clear c0 j0 j1 HA9
              have HT0 := Lib.hid ht0
              clear ht0
              by_cases hF0 : t < 1099511627776
              · have HF := Lib.hid hF0
                clear hF0
                rcases hx : has La t with _ | _ <;> rcases hy : has Lb t with _ | _
                · have HX := Lib.hid hx
                  have HY := Lib.hid hy
                  clear hx hy
                  go_wp2_with fail
                  refine (inAs (LVs.out.nth 5 rfl) t (by decide) false HX.out).mono ?_
                  rintro e w11 ⟨rfl, hb11⟩
                  have LV11 := Lib.hid ((LVs.out.below hb11))
                  have BV11 := Lib.hid (BVs.out.trans (hb11.mono BVs.out.size))
                  clear hb11
                  go_wp2_with fail
                  refine (inAs (LV11.out.nth 4 rfl) t (by decide) false HY.out).mono ?_
                  rintro e w12 ⟨rfl, hb12⟩
                  have LV12 := Lib.hid ((LV11.out.below hb12))
                  have BV12 := Lib.hid (BV11.out.trans (hb12.mono BV11.out.size))
                  clear hb12
                  go_wp2_with fail
                  refine (hasAs (LV12.out.nth 5 rfl) t (by decide) false HX.out).mono ?_
                  rintro e w13 ⟨rfl, hb13⟩
                  have LV13 := Lib.hid ((LV12.out.below hb13))
                  have BV13 := Lib.hid (BV12.out.trans (hb13.mono BV12.out.size))
                  clear hb13
                  go_wp2_with fail
                  refine (hasAs (LV13.out.nth 3 rfl) t (by decide) false (by rw [Res.has Hhr3.out, HX.out, HY.out]; rfl)).mono ?_
                  rintro e w14 ⟨rfl, hb14⟩
                  have LV14 := Lib.hid ((LV13.out.below hb14))
                  have BV14 := Lib.hid (BV13.out.trans (hb14.mono BV13.out.size))
                  clear hb14
                  go_wp2_with fail
                  refine (hasAs (LV14.out.nth 2 rfl) t (by decide) false (by rw [Res.has Hhr4.out, HX.out, HY.out]; rfl)).mono ?_
                  rintro e w15 ⟨rfl, hb15⟩
                  have LV15 := Lib.hid ((LV14.out.below hb15))
                  have BV15 := Lib.hid (BV14.out.trans (hb15.mono BV14.out.size))
                  clear hb15
                  go_wp2_with fail
                  refine (hasAs (LV15.out.nth 1 rfl) t (by decide) false (by rw [Res.has Hhr5.out, HX.out, HY.out]; rfl)).mono ?_
                  rintro e w16 ⟨rfl, hb16⟩
                  have LV16 := Lib.hid ((LV15.out.below hb16))
                  have BV16 := Lib.hid (BV15.out.trans (hb16.mono BV15.out.size))
                  clear hb16
                  have hF := HF.out
                  go_wp2_with fail
                  refine (hasAs (LV16.out.nth 0 rfl) t (by decide) true (by have := HT0.out; rw [(Hhr6.out).2.1, HX.out]; simp <;> omega)).mono ?_
                  rintro e w17 ⟨rfl, hb17⟩
                  have LV17 := Lib.hid ((LV16.out.below hb17))
                  have BV17 := Lib.hid (BV16.out.trans (hb17.mono BV16.out.size))
                  clear hb17
                  go_wp2
                  exact ⟨⟨k + 1, by omega, by go_num, BV17.out⟩, by simp [intOf]; omega⟩
                · have HX := Lib.hid hx
                  have HY := Lib.hid hy
                  clear hx hy
                  go_wp2_with fail
                  refine (inAs (LVs.out.nth 5 rfl) t (by decide) false HX.out).mono ?_
                  rintro e w11 ⟨rfl, hb11⟩
                  have LV11 := Lib.hid ((LVs.out.below hb11))
                  have BV11 := Lib.hid (BVs.out.trans (hb11.mono BVs.out.size))
                  clear hb11
                  go_wp2_with fail
                  refine (inAs (LV11.out.nth 4 rfl) t (by decide) true HY.out).mono ?_
                  rintro e w12 ⟨rfl, hb12⟩
                  have LV12 := Lib.hid ((LV11.out.below hb12))
                  have BV12 := Lib.hid (BV11.out.trans (hb12.mono BV11.out.size))
                  clear hb12
                  go_wp2_with fail
                  refine (hasAs (LV12.out.nth 5 rfl) t (by decide) false HX.out).mono ?_
                  rintro e w13 ⟨rfl, hb13⟩
                  have LV13 := Lib.hid ((LV12.out.below hb13))
                  have BV13 := Lib.hid (BV12.out.trans (hb13.mono BV12.out.size))
                  clear hb13
                  go_wp2_with fail
                  refine (hasAs (LV13.out.nth 3 rfl) t (by decide) true (by rw [Res.has Hhr3.out, HX.out, HY.out]; rfl)).mono ?_
                  rintro e w14 ⟨rfl, hb14⟩
                  have LV14 := Lib.hid ((LV13.out.below hb14))
                  have BV14 := Lib.hid (BV13.out.trans (hb14.mono BV13.out.size))
                  clear hb14
                  go_wp2_with fail
                  refine (hasAs (LV14.out.nth 2 rfl) t (by decide) false (by rw [Res.has Hhr4.out, HX.out, HY.out]; rfl)).mono ?_
                  rintro e w15 ⟨rfl, hb15⟩
                  have LV15 := Lib.hid ((LV14.out.below hb15))
                  have BV15 := Lib.hid (BV14.out.trans (hb15.mono BV14.out.size))
                  clear hb15
                  go_wp2_with fail
                  refine (hasAs (LV15.out.nth 1 rfl) t (by decide) false (by rw [Res.has Hhr5.out, HX.out, HY.out]; rfl)).mono ?_
                  rintro e w16 ⟨rfl, hb16⟩
                  have LV16 := Lib.hid ((LV15.out.below hb16))
                  have BV16 := Lib.hid (BV15.out.trans (hb16.mono BV15.out.size))
                  clear hb16
                  have hF := HF.out
                  go_wp2_with fail
                  refine (hasAs (LV16.out.nth 0 rfl) t (by decide) true (by have := HT0.out; rw [(Hhr6.out).2.1, HX.out]; simp <;> omega)).mono ?_
                  rintro e w17 ⟨rfl, hb17⟩
                  have LV17 := Lib.hid ((LV16.out.below hb17))
                  have BV17 := Lib.hid (BV16.out.trans (hb17.mono BV16.out.size))
                  clear hb17
                  go_wp2
                  exact ⟨⟨k + 1, by omega, by go_num, BV17.out⟩, by simp [intOf]; omega⟩
                · have HX := Lib.hid hx
                  have HY := Lib.hid hy
                  clear hx hy
                  go_wp2_with fail
                  refine (inAs (LVs.out.nth 5 rfl) t (by decide) true HX.out).mono ?_
                  rintro e w11 ⟨rfl, hb11⟩
                  have LV11 := Lib.hid ((LVs.out.below hb11))
                  have BV11 := Lib.hid (BVs.out.trans (hb11.mono BVs.out.size))
                  clear hb11
                  go_wp2_with fail
                  refine (inAs (LV11.out.nth 4 rfl) t (by decide) false HY.out).mono ?_
                  rintro e w12 ⟨rfl, hb12⟩
                  have LV12 := Lib.hid ((LV11.out.below hb12))
                  have BV12 := Lib.hid (BV11.out.trans (hb12.mono BV11.out.size))
                  clear hb12
                  go_wp2_with fail
                  refine (hasAs (LV12.out.nth 5 rfl) t (by decide) true HX.out).mono ?_
                  rintro e w13 ⟨rfl, hb13⟩
                  have LV13 := Lib.hid ((LV12.out.below hb13))
                  have BV13 := Lib.hid (BV12.out.trans (hb13.mono BV12.out.size))
                  clear hb13
                  go_wp2_with fail
                  refine (hasAs (LV13.out.nth 3 rfl) t (by decide) true (by rw [Res.has Hhr3.out, HX.out, HY.out]; rfl)).mono ?_
                  rintro e w14 ⟨rfl, hb14⟩
                  have LV14 := Lib.hid ((LV13.out.below hb14))
                  have BV14 := Lib.hid (BV13.out.trans (hb14.mono BV13.out.size))
                  clear hb14
                  go_wp2_with fail
                  refine (hasAs (LV14.out.nth 2 rfl) t (by decide) false (by rw [Res.has Hhr4.out, HX.out, HY.out]; rfl)).mono ?_
                  rintro e w15 ⟨rfl, hb15⟩
                  have LV15 := Lib.hid ((LV14.out.below hb15))
                  have BV15 := Lib.hid (BV14.out.trans (hb15.mono BV14.out.size))
                  clear hb15
                  go_wp2_with fail
                  refine (hasAs (LV15.out.nth 1 rfl) t (by decide) true (by rw [Res.has Hhr5.out, HX.out, HY.out]; rfl)).mono ?_
                  rintro e w16 ⟨rfl, hb16⟩
                  have LV16 := Lib.hid ((LV15.out.below hb16))
                  have BV16 := Lib.hid (BV15.out.trans (hb16.mono BV15.out.size))
                  clear hb16
                  have hF := HF.out
                  go_wp2_with fail
                  refine (hasAs (LV16.out.nth 0 rfl) t (by decide) false (by have := HT0.out; rw [(Hhr6.out).2.1, HX.out]; simp <;> omega)).mono ?_
                  rintro e w17 ⟨rfl, hb17⟩
                  have LV17 := Lib.hid ((LV16.out.below hb17))
                  have BV17 := Lib.hid (BV16.out.trans (hb17.mono BV16.out.size))
                  clear hb17
                  go_wp2
                  exact ⟨⟨k + 1, by omega, by go_num, BV17.out⟩, by simp [intOf]; omega⟩
                · have HX := Lib.hid hx
                  have HY := Lib.hid hy
                  clear hx hy
                  go_wp2_with fail
                  refine (inAs (LVs.out.nth 5 rfl) t (by decide) true HX.out).mono ?_
                  rintro e w11 ⟨rfl, hb11⟩
                  have LV11 := Lib.hid ((LVs.out.below hb11))
                  have BV11 := Lib.hid (BVs.out.trans (hb11.mono BVs.out.size))
                  clear hb11
                  go_wp2_with fail
                  refine (inAs (LV11.out.nth 4 rfl) t (by decide) true HY.out).mono ?_
                  rintro e w12 ⟨rfl, hb12⟩
                  have LV12 := Lib.hid ((LV11.out.below hb12))
                  have BV12 := Lib.hid (BV11.out.trans (hb12.mono BV11.out.size))
                  clear hb12
                  go_wp2_with fail
                  refine (hasAs (LV12.out.nth 5 rfl) t (by decide) true HX.out).mono ?_
                  rintro e w13 ⟨rfl, hb13⟩
                  have LV13 := Lib.hid ((LV12.out.below hb13))
                  have BV13 := Lib.hid (BV12.out.trans (hb13.mono BV12.out.size))
                  clear hb13
                  go_wp2_with fail
                  refine (hasAs (LV13.out.nth 3 rfl) t (by decide) true (by rw [Res.has Hhr3.out, HX.out, HY.out]; rfl)).mono ?_
                  rintro e w14 ⟨rfl, hb14⟩
                  have LV14 := Lib.hid ((LV13.out.below hb14))
                  have BV14 := Lib.hid (BV13.out.trans (hb14.mono BV13.out.size))
                  clear hb14
                  go_wp2_with fail
                  refine (hasAs (LV14.out.nth 2 rfl) t (by decide) true (by rw [Res.has Hhr4.out, HX.out, HY.out]; rfl)).mono ?_
                  rintro e w15 ⟨rfl, hb15⟩
                  have LV15 := Lib.hid ((LV14.out.below hb15))
                  have BV15 := Lib.hid (BV14.out.trans (hb15.mono BV14.out.size))
                  clear hb15
                  go_wp2_with fail
                  refine (hasAs (LV15.out.nth 1 rfl) t (by decide) false (by rw [Res.has Hhr5.out, HX.out, HY.out]; rfl)).mono ?_
                  rintro e w16 ⟨rfl, hb16⟩
                  have LV16 := Lib.hid ((LV15.out.below hb16))
                  have BV16 := Lib.hid (BV15.out.trans (hb16.mono BV15.out.size))
                  clear hb16
                  have hF := HF.out
                  go_wp2_with fail
                  refine (hasAs (LV16.out.nth 0 rfl) t (by decide) false (by have := HT0.out; rw [(Hhr6.out).2.1, HX.out]; simp <;> omega)).mono ?_
                  rintro e w17 ⟨rfl, hb17⟩
                  have LV17 := Lib.hid ((LV16.out.below hb17))
                  have BV17 := Lib.hid (BV16.out.trans (hb17.mono BV16.out.size))
                  clear hb17
                  go_wp2
                  exact ⟨⟨k + 1, by omega, by go_num, BV17.out⟩, by simp [intOf]; omega⟩
              · have HF := Lib.hid hF0
                have HX := Lib.hid (Iset.has_beyond La t (by omega))
                have HY := Lib.hid (Iset.has_beyond Lb t (by omega))
                clear hF0
                go_wp2_with fail
                refine (inAs (LVs.out.nth 5 rfl) t (by decide) false HX.out).mono ?_
                rintro e w11 ⟨rfl, hb11⟩
                have LV11 := Lib.hid ((LVs.out.below hb11))
                have BV11 := Lib.hid (BVs.out.trans (hb11.mono BVs.out.size))
                clear hb11
                go_wp2_with fail
                refine (inAs (LV11.out.nth 4 rfl) t (by decide) false HY.out).mono ?_
                rintro e w12 ⟨rfl, hb12⟩
                have LV12 := Lib.hid ((LV11.out.below hb12))
                have BV12 := Lib.hid (BV11.out.trans (hb12.mono BV11.out.size))
                clear hb12
                go_wp2_with fail
                refine (hasAs (LV12.out.nth 5 rfl) t (by decide) false HX.out).mono ?_
                rintro e w13 ⟨rfl, hb13⟩
                have LV13 := Lib.hid ((LV12.out.below hb13))
                have BV13 := Lib.hid (BV12.out.trans (hb13.mono BV12.out.size))
                clear hb13
                go_wp2_with fail
                refine (hasAs (LV13.out.nth 3 rfl) t (by decide) false (by rw [Res.has Hhr3.out, HX.out, HY.out]; rfl)).mono ?_
                rintro e w14 ⟨rfl, hb14⟩
                have LV14 := Lib.hid ((LV13.out.below hb14))
                have BV14 := Lib.hid (BV13.out.trans (hb14.mono BV13.out.size))
                clear hb14
                go_wp2_with fail
                refine (hasAs (LV14.out.nth 2 rfl) t (by decide) false (by rw [Res.has Hhr4.out, HX.out, HY.out]; rfl)).mono ?_
                rintro e w15 ⟨rfl, hb15⟩
                have LV15 := Lib.hid ((LV14.out.below hb15))
                have BV15 := Lib.hid (BV14.out.trans (hb15.mono BV14.out.size))
                clear hb15
                go_wp2_with fail
                refine (hasAs (LV15.out.nth 1 rfl) t (by decide) false (by rw [Res.has Hhr5.out, HX.out, HY.out]; rfl)).mono ?_
                rintro e w16 ⟨rfl, hb16⟩
                have LV16 := Lib.hid ((LV15.out.below hb16))
                have BV16 := Lib.hid (BV15.out.trans (hb16.mono BV15.out.size))
                clear hb16
                have hF := HF.out
                have hF' : decide (t < 1099511627776) = false := by simpa using hF
                go_wp2_with fail
                refine (hasAs (LV16.out.nth 0 rfl) t (by decide) false (by have := HT0.out; rw [(Hhr6.out).2.1, HX.out]; simp <;> omega)).mono ?_
                rintro e w17 ⟨rfl, hb17⟩
                have LV17 := Lib.hid ((LV16.out.below hb17))
                have BV17 := Lib.hid (BV16.out.trans (hb17.mono BV16.out.size))
                clear hb17
                go_wp2
                exact ⟨⟨k + 1, by omega, by go_num, BV17.out⟩, by simp [intOf]; omega⟩
            · obtain rfl : k = M2.length := by omega
              go_wp2_with fail
              refine (wakes_any _ (HE.out.below (BVr.out.trans (BVs.out.mono BVr.out.size)))).mono ?_
              rintro e wk ⟨rfl, hbk⟩
              have HBk := Lib.hid ((BVr.out.trans (BVs.out.mono BVr.out.size)).trans (hbk.mono (BVr.out.trans (BVs.out.mono BVr.out.size)).size))
              clear hbk
              go_wp2
              go_ret
              exact ⟨rfl, HBk.out⟩
end Go.Proofs.YtgjahnidjcfbiaaDoor
