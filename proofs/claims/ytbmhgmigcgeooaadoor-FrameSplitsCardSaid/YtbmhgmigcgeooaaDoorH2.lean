/- The awake test. -/
import Derived.Test.YtbmhgmigcgeooaaDoorH1
namespace Go.Proofs.YtbmhgmigcgeooaaDoor
open Go.RowKit
/-- A frame's two cells. -/
def frame2 (k : Int) (A : Option Addr) (n c : Nat) : Value := .agg #[.int .i64 k, .slice A n c]
theorem size_a (w : World) : Calls Tryd.prog 12 #[.agg #[.int .i64 2, .slice none 0 0]] w fun e w' => e = .returned (.int .i64 7) ∧ Below w.heap.size w w' := Size_any 2 none 0 0 w (by omega)
theorem size_b (w : World) : Calls Tryd.prog 12 #[.agg #[.int .i64 4, .slice none 0 0]] w fun e w' => e = .returned (.int .i64 0) ∧ Below w.heap.size w w' := Size_any 4 none 0 0 w (by omega)
/-- A row's cells. -/
theorem row_form {base : Nat} {w : World} {e : TypeId} {size : Nat} {v : Value} {n : Nat} {xs : List Value} (h : w.ownsRow base e size v n xs) (hn : 0 < n) : ∃ g cap, v = .slice (some ⟨g, 0, none⟩) n cap ∧ ∀ i u, xs[i]? = some u → w.cell? ⟨g, i, none⟩ = some u := by
  obtain ⟨g, cap, rfl, _, _⟩ := h.form hn
  refine ⟨g, cap, rfl, fun i u hu => ?_⟩
  have hc := h.cells (g := g) rfl i u hu
  rw [add_plain, Nat.zero_add] at hc
  exact hc
theorem groups_one {w w' : World} {b : List UInt8} {v : Value} {gs : List Gx} (h : GroupsR w b v gs w') {o c : List UInt8} (ho : o.length = 1) (hc : c.length = 1) (hg : groupsL (framesL b) [] = [⟨[o], c⟩]) :
    ∃ G capG H capH p q, v = .slice (some ⟨G, 0, none⟩) 1 capG ∧ w'.cell? ⟨G, 0, none⟩ = some (.slice (some ⟨H, 0, none⟩) 1 capH) ∧ w'.cell? ⟨G, 1, none⟩ = some (.slice (some ⟨p, 3, none⟩) 1 1) ∧ w'.cell? ⟨H, 0, none⟩ = some (.slice (some ⟨q, 3, none⟩) 1 1) ∧ At w' (some ⟨p, 3, none⟩) c ∧ At w' (some ⟨q, 3, none⟩) o := by
  have ha := h.all
  rw [hg] at ha
  obtain ⟨g, rfl⟩ : ∃ g, gs = [g] := by
    match gs, ha with
    | [g], _ => exact ⟨g, rfl⟩
    | [], h => cases h
    | _ :: _ :: _, h => simp at h
  obtain ⟨ops, gv, com⟩ := g
  simp only [List.map_cons, List.map_nil, Gx.gr, List.cons.injEq, Gr.mk.injEq, and_true] at ha
  obtain ⟨h1, h2⟩ := ha
  obtain ⟨x, rfl⟩ : ∃ x, ops = [x] := by
    match ops, h1 with
    | [g], _ => exact ⟨g, rfl⟩
    | [], h => cases h
    | _ :: _ :: _, h => simp at h
  simp only [List.map_cons, List.map_nil, List.cons.injEq, and_true] at h1
  obtain ⟨G, capG, rfl, hG⟩ := row_form h.row (Nat.zero_lt_one)
  obtain ⟨H, capH, hv, hH⟩ := row_form (h.olds ⟨[x], gv, com⟩ (by simp)) (Nat.zero_lt_one)
  have bc := h.body com (by simp)
  have bx := h.body x (by simp)
  have ac := bc.at_
  have ax := bx.at_
  rw [h2, bodyA, if_neg (by omega)] at ac
  rw [h1, bodyA, if_neg (by omega)] at ax
  replace hv : gv = _ := hv
  refine ⟨G, capG, H, capH, com.g, x.g, rfl, ?_, ?_, ?_, ac, ax⟩
  · rw [hG 0 gv (by simp [cellsGr]), hv]; rfl
  · rw [hG 1 (bodyX com) (by simp [cellsGr]), bodyX, h2, hc, bodyA, if_neg (by omega)]
  · rw [hH 0 (bodyX x) (by simp [cellsO]), bodyX, h1, ho, bodyA, if_neg (by omega)]
theorem SplitN (A : Option Addr) (n cap : Nat) (b : List UInt8) (w : World) (hE : Env w) (hA : At w A b) (hz : A = none → cap = 0) (hs : ∀ ad, A = some ad → ∃ bb off, ad = ⟨bb, off, none⟩) (hc : b.length ≤ cap) (hm : b.length ≤ 1000000) (hn : b.length = n) :
    Calls Tryd.prog 13 #[.slice A n cap] w fun e w' => ∃ v L, e = .returned (.tuple #[v, .int .i64 (sizeL (framesL b) : Nat)]) ∧ Splits w b v L w' := by
  subst hn
  exact Split_any A cap b w hE hA hz hs hc hm
theorem GroupsN (A : Option Addr) (n cap : Nat) (b : List UInt8) (w : World) (hE : Env w) (hA : At w A b) (hz : A = none → cap = 0) (hs : ∀ ad, A = some ad → ∃ bb off, ad = ⟨bb, off, none⟩) (hc : b.length ≤ cap) (hm : b.length ≤ 1000000) (hn : b.length = n) :
    Calls Tryd.prog 15 #[.slice A n cap] w fun e w' => ∃ v gs, e = .returned (.tuple #[v, .int .i64 (sizeG (groupsL (framesL b) []) : Nat)]) ∧ GroupsR w b v gs w' := by
  subst hn
  exact Groups_any A cap b w hE hA hz hs hc hm
theorem split_len {w w' : World} {b : List UInt8} {v : Value} {L : List Fx} (h : Splits w b v L w') : L.length = (framesL b).length := by rw [h.read.all]; simp [frs]
theorem sizes_ab : sizeL [fa, fb] = 16 ∧ sizeG [⟨[[97]], [98]⟩] = 16 := by decide
theorem len_ab : (putL fa ++ putL fb).length = 16 := by rw [List.length_append, putL_length, putL_length]; decide
theorem len_c : (putL fc).length = 8 := by rw [putL_length]; decide
set_option maxRecDepth 100000 in
set_option maxHeartbeats 4000000 in
theorem awake_any (w : World) (hE : Env w) : Calls Tryd.prog 11 #[] w fun e w' => e = .returned (.bool true) ∧ Below w.heap.size w w' := by
  have HE := Lib.hid hE
  clear hE
  go_enter Tryd.func11, Tryd.ntmps11
  go_wp2_with fail
  refine (put_a _ HE.out).mono ?_
  rintro e1 w1 ⟨v1, rfl, ho1, hb1⟩
  have O1 := Lib.hid ho1
  have B1 := Lib.hid hb1
  clear ho1 hb1
  go_wp2_with fail
  refine (put_b _ (HE.out.below B1.out)).mono ?_
  rintro e2 w2 ⟨v2, rfl, ho2, hb2⟩
  have O12 := Lib.hid (O1.out.below hb2)
  have B2 := Lib.hid (B1.out.trans (hb2.mono B1.out.size))
  have S2 := Lib.hid (Nat.le_trans B1.out.size hb2.size)
  obtain ⟨A2, c2, rfl, z2, _, l2, a2⟩ := ho2.plain
  have HA2 := Lib.hid a2
  have HZ2 := Lib.hid z2
  have L2 : Hid ((putL fb).length = 8) := Lib.hid (by rw [putL_length]; decide)
  have L12 := Lib.hid len_ab
  have F1 := Lib.hid frames_ab
  have F2 := Lib.hid frames_abc
  have LC := Lib.hid len_c
  clear hb2 ho2 a2 z2 l2 O1
  generalize putL fa = pa at *
  generalize putL fb = pb at *
  rw [L2.out]
  go_upto_region 3 with (at_builtin; refine wpList_app _ rfl (.tmp 7) (.tmp 8) rfl w.heap.size v1 pa rfl O12.out A2 8 c2 pb rfl HA2.out HZ2.out L2.out (by have := L12.out; rw [List.length_append] at this; omega) S2.out w B2.out ?_; intro v3 w3 ho3 hb3 _ _; have B3 := Lib.hid hb3; obtain ⟨A3, c3, rfl, z3, _, l3, a3⟩ := Own1.plain ho3; have HA3 := Lib.hid a3; have HZ3 := Lib.hid z3; rw [L12.out]; clear ho3 hb3 z3 l3 a3)
  clear O12 HA2 HZ2 L2
  generalize pa ++ pb = ab at *
  have HE3 := Lib.hid (HE.out.below B3.out)
  generalize hpc : putL fc = pc at *
  have HPC := Lib.hid hpc
  clear hpc
  have PC := Lib.hid put_c
  unfold PutV at PC
  rw [HPC.out] at PC
  go_upto_region 5 with (first
    | (at_builtin; refine wpList_app _ rfl (.tmp 13) (.tmp 14) rfl w3.heap.size (.slice (some ⟨w3.heap.size, 0, none⟩) 0 0) [] rfl (Own1.made _ _ (Nat.le_refl _)) A3 16 c3 ab rfl (HA3.out.below ((Below.refl _ _).alloc (Nat.le_refl _) _)) HZ3.out L12.out (by have := L12.out; simp; omega) (by simp) w3 ((Below.refl _ _).alloc (Nat.le_refl _) _) ?_; intro v4 w4 ho4 hb4 _ _; have O4 := Lib.hid ho4; have B4 := Lib.hid hb4; clear ho4 hb4)
    | (at_builtin; refine wpList_app _ rfl (.tmp 15) (.tmp 16) rfl w3.heap.size v4 ([] ++ ab) rfl (O4.out.alloc _) (some ⟨w4.heap.size, 0, none⟩) 2 2 [1, 0] rfl (at_new w4 _ _ rfl) (fun h => by cases h) rfl (by have := L12.out; simp; omega) (by have := B4.out.size; simp; omega) w3 (B4.out.alloc B4.out.size _) ?_; intro v5 w5 ho5 hb5 _ _; have B5 := Lib.hid hb5; obtain ⟨A5, c5, rfl, z5, p5, l5, a5⟩ := Own1.plain ho5; have SP := Lib.hid (SplitN A5 18 c5 (ab ++ [1, 0]) w5 (HE3.out.below B5.out) a5 z5 p5 l5 (by rw [List.length_append, L12.out]; decide) (by rw [List.length_append, L12.out]; rfl)); rw [F1.out, sizes_ab.1] at SP; have L5 : Hid (([] ++ ab ++ [1, 0]).length = 18) := Lib.hid (by simp; exact L12.out); rw [L5.out]; clear ho5 hb5 z5 p5 l5 a5)
    | (go_at_call 13; ((with_reducible refine (SP.out).mono ?_); rintro e6 w6 ⟨v6, X6, rfl, hs6⟩; have LX6 := Lib.hid ((split_len hs6).trans (congrArg List.length F1.out)); have B6 := Lib.hid (B5.out.trans (hs6.below.mono B5.out.size)); have RW6 := Lib.hid hs6.row; clear hs6))
    | (at_builtin; refine wpList_app _ rfl (.tmp 22) (.tmp 23) rfl w6.heap.size (.slice (some ⟨w6.heap.size, 0, none⟩) 0 0) [] rfl (Own1.made _ _ (Nat.le_refl _)) A3 16 c3 ab rfl (HA3.out.below (B6.out.alloc B6.out.size _)) HZ3.out L12.out (by have := L12.out; simp; omega) (by simp) w6 ((Below.refl _ _).alloc (Nat.le_refl _) _) ?_; intro v7 w7 ho7 hb7 _ _; have O7 := Lib.hid ho7; have B7 := Lib.hid hb7; have HE7 := Lib.hid ((HE3.out.below B6.out).below hb7); clear ho7 hb7)
    | (go_at_call 21; ((with_reducible refine (PC.out _ HE7.out).mono ?_); rintro e8 w8 ⟨v8, rfl, ho8, hb8⟩; have O78 := Lib.hid (O7.out.below hb8); have B8 := Lib.hid (B7.out.trans (hb8.mono B7.out.size)); obtain ⟨A8, c8, rfl, z8, p8, l8, a8⟩ := Own1.plain ho8; rw [LC.out]; have HA8 := Lib.hid a8; have HZ8 := Lib.hid z8; clear ho8 hb8 z8 p8 l8 a8))
    | (at_builtin; refine wpList_app _ rfl (.tmp 24) (.tmp 25) rfl w6.heap.size v7 ([] ++ ab) rfl O78.out A8 8 c8 pc rfl HA8.out HZ8.out LC.out (by have := L12.out; have := LC.out; simp; omega) B8.out.size w6 B8.out ?_; intro v9 w9 ho9 hb9 _ _; have B9 := Lib.hid hb9; obtain ⟨A9, c9, rfl, z9, p9, l9, a9⟩ := Own1.plain ho9; have SG := Lib.hid (GroupsN A9 24 c9 (ab ++ pc) w9 ((HE3.out.below B6.out).below B9.out) a9 z9 p9 l9 (by rw [List.length_append, L12.out, LC.out]; decide) (by rw [List.length_append, L12.out, LC.out])); rw [F2.out, groups_abc, sizes_ab.2] at SG; have L9 : Hid (([] ++ ab ++ pc).length = 24) := Lib.hid (by simp [L12.out, LC.out]); rw [L9.out]; clear ho9 hb9 z9 p9 l9 a9)
    | (go_at_call 15; ((with_reducible refine (SG.out).mono ?_); rintro e10 w10 ⟨v10, gs, rfl, hg10⟩; have B10 := Lib.hid (B9.out.trans (hg10.below.mono B9.out.size)); obtain ⟨G, capG, H, capH, p, q, rfl, g1, g2, g3, g4, g5⟩ := groups_one hg10 rfl rfl (by rw [F2.out]; exact groups_abc); have G1 := Lib.hid g1; have G2 := Lib.hid g2; have G3 := Lib.hid g3; have G4 := Lib.hid g4; have G5 := Lib.hid g5; clear g1 g2 g3 g4 g5 hg10))
    | fail)
  obtain ⟨P6, c6, hv6⟩ := own_slice RW6.out
  rw [LX6.out] at hv6
  subst hv6
  have HQ : Hid (∀ w', Below w10.heap.size w10 w' → w'.cell? ⟨G, 1, none⟩ = some (.slice (some ⟨p, 3, none⟩) 1 1) ∧ w'.cell? ⟨G, 0, none⟩ = some (.slice (some ⟨H, 0, none⟩) 1 capH) ∧ w'.cell? ⟨H, 0, none⟩ = some (.slice (some ⟨q, 3, none⟩) 1 1) ∧
      (convert 22 9 (.slice (some ⟨p, 3, none⟩) 1 1)).run Tryd.prog w' = .ok (.string ⟨#[98]⟩) w' ∧ (convert 22 9 (.slice (some ⟨q, 3, none⟩) 1 1)).run Tryd.prog w' = .ok (.string ⟨#[97]⟩) w') := Lib.hid fun w' hb => by
    have lt : ∀ {ad : Addr} {v : Value}, w10.cell? ad = some v → ad.block < w10.heap.size := fun h => by
      obtain ⟨o, ho, _⟩ := cells_of_cell h
      exact (Array.getElem?_eq_some_iff.1 ho).1
    exact ⟨(hb.cell (p := ⟨G, 1, none⟩) (lt G2.out)).trans G2.out, (hb.cell (p := ⟨G, 0, none⟩) (lt G1.out)).trans G1.out, (hb.cell (p := ⟨H, 0, none⟩) (lt G3.out)).trans G3.out, conv_text' w' _ [98] 1 1 (G4.out.below hb) rfl, conv_text' w' _ [97] 1 1 (G5.out.below hb) rfl⟩
  have HBB := Lib.hid (B3.out.trans ((B6.out.trans (B10.out.mono B6.out.size)).mono B3.out.size))
  clear LX6 RW6 G1 G2 G3 G4 G5 B10 B9 B8 B7 B6 B5 B4 SP SG PC HPC HE3 HE7 HZ3 HA3 HA8 HZ8 F1 F2 O78 O7 O4 L5 L9 LC L12
  go_wp2_with (first
    | (go_at_call 12; (first
      | ((with_reducible refine (size_a w10).mono ?_); rintro e11 w11 ⟨rfl, hb11⟩; have B11 := Lib.hid hb11; clear hb11)
      | ((with_reducible refine (size_b w11).mono ?_); rintro e12 w12 ⟨rfl, hb12⟩; have B12 := Lib.hid (B11.out.trans (hb12.mono B11.out.size)); obtain ⟨q1, q2, q3, q4, q5⟩ := HQ.out _ B12.out; clear hb12)
      | fail))
    | fail)
  go_ret
  exact ⟨rfl, HBB.out.trans (B12.out.mono HBB.out.size)⟩
end Go.Proofs.YtbmhgmigcgeooaaDoor
