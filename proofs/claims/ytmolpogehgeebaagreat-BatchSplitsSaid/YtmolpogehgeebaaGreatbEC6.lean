/- The entity that an operation makes: Make. -/
import Derived.Test.YtmolpogehgeebaaGreatbEC4
namespace Go.Proofs.YtmolpogehgeebaaGreat
open Go.RowKit
/-- The entity that an operation makes. -/
def Co.OP.ent (o : Co.OP) : Ent := ⟨o.edge, o.id, o.label, o.fr, o.til, [((o.pf : Int), (o.pt : Int))], []⟩
def MakeEnd (o : Co.OP) (w : World) (e : Ending) (w' : World) : Prop := ∃ (u : Value) (n : Int), e = .returned (.tuple #[u, .int .i64 n]) ∧ Below w.heap.size w w' ∧
  ((¬ (o.may ∧ (o.kind = 1 ∨ o.kind = 2)) ∧ n = 1 ∧ EOwn w.heap.size w' u ⟨false, 0, ByteArray.empty, 0, 0, [], []⟩) ∨ (o.may ∧ (o.kind = 1 ∨ o.kind = 2) ∧ n = 0 ∧ EOwn w.heap.size w' u o.ent))
section
set_option maxRecDepth 100000
set_option maxHeartbeats 8000000
theorem OwnR.nil (base : Nat) (w : World) : OwnR base w (.slice none 0 0) [] := ⟨rfl, .inl ⟨rfl, rfl⟩⟩
theorem RowsO.nil (base : Nat) (w : World) : RowsO base w [] [] := ⟨rfl, fun i h _ => absurd h (Nat.not_lt_zero i)⟩
theorem other7 {w : World} {p g : Nat} {C : Array Value} (h : Bx w p C) (hne : p ≠ g) (x0 x1 x2 x3 x4 x5 x6 : Value) :
    Bx (((((((w.setCell ⟨g, 0, none⟩ x0).setCell ⟨g, 1, none⟩ x1).setCell ⟨g, 2, none⟩ x2).setCell ⟨g, 3, none⟩ x3).setCell ⟨g, 4, none⟩ x4).setCell ⟨g, 5, none⟩ x5).setCell ⟨g, 6, none⟩ x6) p C :=
  ((((((h.other 0 x0 hne).other 1 x1 hne).other 2 x2 hne).other 3 x3 hne).other 4 x4 hne).other 5 x5 hne).other 6 x6 hne
theorem ownP_new {base : Nat} {W : World} (h : base ≤ W.heap.size) (c d : Nat) : Se.OwnP base (W.alloc (.cells #[.int .u64 (c : Int), .int .u64 (d : Int)] 33)) (.slice (some ⟨W.heap.size, 0, none⟩) 1 1) [((c : Int), (d : Int))] :=
  ⟨rfl, .inr ⟨W.heap.size, 1, _, rfl, h, heap_alloc_new W _, Nat.le_refl _, by unfold maxLen; omega, rfl, rfl⟩⟩
/-- The result box of Make, filled. -/
theorem make_put {base p : Nat} {w W : World} {sv : Value} {val : List (Int × Int)} {c0 c1 c2 c3 c4 c5 c6 : Value} (h : Bx W p #[c0, c1, c2, c3, c4, c5, c6]) (hp : base ≤ p) (hv : Se.OwnP base W sv val) (hne : sv.ownBlock = none ∨ sv.ownBlock ≠ some p) (hb : Below base w W) (hW : base ≤ W.heap.size) (e : Bool) (i fr til : Int) (lab : ByteArray) :
    ∃ W2, (((((((W.setCell ⟨p, 0, none⟩ (.bool e)).setCell ⟨p, 1, none⟩ (.int .u64 i)).setCell ⟨p, 2, none⟩ (.string lab)).setCell ⟨p, 3, none⟩ (.int .u64 fr)).setCell ⟨p, 4, none⟩ (.int .u64 til)).setCell ⟨p, 5, none⟩ sv).setCell ⟨p, 6, none⟩ (.slice none 0 0)) = W2 ∧ Bx W2 p (Ent.cells ⟨e, i, lab, fr, til, val, []⟩ sv (.slice none 0 0)) ∧ Below base w W2 ∧ EOwn base W2 (.agg (Ent.cells ⟨e, i, lab, fr, til, val, []⟩ sv (.slice none 0 0))) ⟨e, i, lab, fr, til, val, []⟩ := by
  obtain ⟨X8, G8⟩ := put7 h (.bool e) (.int .u64 i) (.string lab) (.int .u64 fr) (.int .u64 til) sv (.slice none 0 0)
  refine ⟨_, rfl, X8, hb.grown G8 hW fun q hq => ?_, sv, _, [], rfl, World.ownsRow.kept hv G8 hne, OwnR.nil _ _, RowsO.nil _ _⟩
  have e : p = q := Option.some.inj hq
  omega
theorem Make_any (o : Co.OP) (w : World) (hf : o.v.f < 18446744073709551616) :
    Calls Tryz.prog 16 #[o.val] w (MakeEnd o w) := by
  have CM := Lib.hid (fun W => Co.MayOp_any o hf W)
  have HL : Hid (o.may → o.label.size ≤ 1000) := Lib.hid fun h => by
    rcases h.2.2.2 with h | h | h | h
    · have := Co.labelB_size h.2.2.1; omega
    · have := Co.labelB_size h.2.2.1; omega
    · rw [h.2.1]; show (0 : Nat) ≤ 1000; omega
    · rw [h.2.1]; show (0 : Nat) ≤ 1000; omega
  have CL := Lib.hid (fun (h : o.may) W => strsClone_any o.label W (HL.out h))
  have HK1 : Hid ((o.kind != 1) = false ↔ o.kind = 1) := Lib.hid (by simp)
  have HK2 : Hid ((o.kind != 2) = false ↔ o.kind = 2) := Lib.hid (by simp)
  obtain ⟨om, hom⟩ : ∃ m : Prop, o.may = m := ⟨_, rfl⟩
  have HE : Hid (∀ e w', MakeEnd o w e w' ↔ MakeEnd o w e w') := Lib.hid fun _ _ => Iff.rfl
  have hsf := store_float
  have B0 := Lib.hid (((Below.refl w.heap.size w).alloc (Nat.le_refl _) (.cells #[.int .i64 o.kind, .bool o.edge, .int .u64 o.id, .string o.label, .int .u64 o.fr, .int .u64 o.til, .string o.key, .int .i64 o.v.k, .bool o.v.b, .int .i64 o.v.n, .float .f64 o.v.f, .string o.v.s, .int .u64 o.pf, .int .u64 o.pt] 35)).alloc (by simp) (.cells #[.bool false, .int .u64 0, .string ⟨#[]⟩, .int .u64 0, .int .u64 0, .slice none 0 0, .slice none 0 0] 38))
  obtain ⟨kind, edge, id, label, fr, til, key, ⟨k, b, n, f, s⟩, pf, pt⟩ := o
  clear hf HL HE hom
  simp only at CM CL HK1 HK2 B0 ⊢
  have O0 := Lib.hid ((Bx.new w #[.int .i64 kind, .bool edge, .int .u64 id, .string label, .int .u64 fr, .int .u64 til, .string key, .int .i64 k, .bool b, .int .i64 n, .float .f64 f, .string s, .int .u64 pf, .int .u64 pt] 35).below ((Below.refl _ _).alloc (Nat.le_refl _) (.cells #[.bool false, .int .u64 0, .string ⟨#[]⟩, .int .u64 0, .int .u64 0, .slice none 0 0, .slice none 0 0] 38)))
  have Y0 := Lib.hid (Bx.new (w.alloc (.cells #[.int .i64 kind, .bool edge, .int .u64 id, .string label, .int .u64 fr, .int .u64 til, .string key, .int .i64 k, .bool b, .int .i64 n, .float .f64 f, .string s, .int .u64 pf, .int .u64 pt] 35)) #[.bool false, .int .u64 0, .string ⟨#[]⟩, .int .u64 0, .int .u64 0, .slice none 0 0, .slice none 0 0] 38)
  rw [show (w.alloc (.cells #[.int .i64 kind, .bool edge, .int .u64 id, .string label, .int .u64 fr, .int .u64 til, .string key, .int .i64 k, .bool b, .int .i64 n, .float .f64 f, .string s, .int .u64 pf, .int .u64 pt] 35)).heap.size = w.heap.size + 1 by simp] at Y0
  go_enter Tryz.func16, Tryz.ntmps16
  go_upto_region 1 with fail
  obtain ⟨W0, hW0⟩ : ∃ W, (w.alloc (.cells #[.int .i64 kind, .bool edge, .int .u64 id, .string label, .int .u64 fr, .int .u64 til, .string key, .int .i64 k, .bool b, .int .i64 n, .float .f64 f, .string s, .int .u64 pf, .int .u64 pt] 35)).alloc (.cells #[.bool false, .int .u64 0, .string ⟨#[]⟩, .int .u64 0, .int .u64 0, .slice none 0 0, .slice none 0 0] 38) = W := ⟨_, rfl⟩
  rw [hW0] at B0 O0 Y0
  try rw [hW0]
  clear hW0
  obtain ⟨p1, hp1⟩ : ∃ q, w.heap.size = q := ⟨_, rfl⟩
  obtain ⟨p2, hp2⟩ : ∃ q, w.heap.size + 1 = q := ⟨_, rfl⟩
  rw [hp1] at O0
  rw [hp2] at Y0
  have HP1 := Lib.hid (show w.heap.size ≤ p1 ∧ w.heap.size ≤ p2 ∧ p1 ≠ p2 by omega)
  try rw [hp2]
  try rw [hp1]
  clear hp1 hp2
  have x0 := O0.out.c
  obtain ⟨b1, hb1⟩ : ∃ b, (kind != 1) = b := ⟨_, rfl⟩
  obtain ⟨b2, hb2⟩ : ∃ b, (kind != 2) = b := ⟨_, rfl⟩
  have HB1 := Lib.hid hb1
  have HB2 := Lib.hid hb2
  clear om
  go_upto_region 3 with (first
    | (go_at_call 79; (with_reducible refine (CM.out _).mono ?_); rintro e w1 ⟨c1, rfl, hc1, hb⟩; have HC1 := Lib.hid hc1; have K1 := Lib.hid hb; have B1 := Lib.hid (B0.out.trans (hb.mono B0.out.size)); have O1 := Lib.hid (O0.out.below hb); have Y1 := Lib.hid (Y0.out.below hb); clear hb hc1 x0; have x0 := O1.out.c; have y0 := Y1.out.c; have y1 := Y1.out.fr; cases c1 <;> cases b1 <;> cases b2)
    | fail)
  · obtain ⟨W2, hW2, X8, B8, E8⟩ := make_put (base := w.heap.size) Y1.out HP1.out.2.1 (Se.OwnP.nil w.heap.size _) (.inl rfl) B1.out B1.out.size false 0 0 0 ⟨#[]⟩
    rw [hW2]
    have HB8 := Lib.hid B8
    have HE8 := Lib.hid E8
    clear hW2 B8 E8 x0 y0 y1
    have s0 := X8.c 0
    have s1 := X8.c 1
    have s2 := X8.c 2
    have s3 := X8.c 3
    have s4 := X8.c 4
    have s5 := X8.c 5
    have s6 := X8.c 6
    refine bodyPost_ret (v := .tuple #[.agg #[.bool false, .int .u64 0, .string ⟨#[]⟩, .int .u64 0, .int .u64 0, .slice none 0 0, .slice none 0 0], .int .i64 1]) (by simp [results, Tryz.results16, go_sem, s0, s1, s2, s3, s4, s5, s6]) rfl ?_
    refine ⟨_, _, rfl, HB8.out, .inl ⟨?_, rfl, HE8.out⟩⟩
    exact fun h => by have := HC1.out.2 h.1; simp at this
  · obtain ⟨W2, hW2, X8, B8, E8⟩ := make_put (base := w.heap.size) Y1.out HP1.out.2.1 (Se.OwnP.nil w.heap.size _) (.inl rfl) B1.out B1.out.size false 0 0 0 ⟨#[]⟩
    rw [hW2]
    have HB8 := Lib.hid B8
    have HE8 := Lib.hid E8
    clear hW2 B8 E8 x0 y0 y1
    have s0 := X8.c 0
    have s1 := X8.c 1
    have s2 := X8.c 2
    have s3 := X8.c 3
    have s4 := X8.c 4
    have s5 := X8.c 5
    have s6 := X8.c 6
    refine bodyPost_ret (v := .tuple #[.agg #[.bool false, .int .u64 0, .string ⟨#[]⟩, .int .u64 0, .int .u64 0, .slice none 0 0, .slice none 0 0], .int .i64 1]) (by simp [results, Tryz.results16, go_sem, s0, s1, s2, s3, s4, s5, s6]) rfl ?_
    refine ⟨_, _, rfl, HB8.out, .inl ⟨?_, rfl, HE8.out⟩⟩
    exact fun h => by have := HC1.out.2 h.1; simp at this
  · obtain ⟨W2, hW2, X8, B8, E8⟩ := make_put (base := w.heap.size) Y1.out HP1.out.2.1 (Se.OwnP.nil w.heap.size _) (.inl rfl) B1.out B1.out.size false 0 0 0 ⟨#[]⟩
    rw [hW2]
    have HB8 := Lib.hid B8
    have HE8 := Lib.hid E8
    clear hW2 B8 E8 x0 y0 y1
    have s0 := X8.c 0
    have s1 := X8.c 1
    have s2 := X8.c 2
    have s3 := X8.c 3
    have s4 := X8.c 4
    have s5 := X8.c 5
    have s6 := X8.c 6
    refine bodyPost_ret (v := .tuple #[.agg #[.bool false, .int .u64 0, .string ⟨#[]⟩, .int .u64 0, .int .u64 0, .slice none 0 0, .slice none 0 0], .int .i64 1]) (by simp [results, Tryz.results16, go_sem, s0, s1, s2, s3, s4, s5, s6]) rfl ?_
    refine ⟨_, _, rfl, HB8.out, .inl ⟨?_, rfl, HE8.out⟩⟩
    exact fun h => by have := HC1.out.2 h.1; simp at this
  · obtain ⟨W2, hW2, X8, B8, E8⟩ := make_put (base := w.heap.size) Y1.out HP1.out.2.1 (Se.OwnP.nil w.heap.size _) (.inl rfl) B1.out B1.out.size false 0 0 0 ⟨#[]⟩
    rw [hW2]
    have HB8 := Lib.hid B8
    have HE8 := Lib.hid E8
    clear hW2 B8 E8 x0 y0 y1
    have s0 := X8.c 0
    have s1 := X8.c 1
    have s2 := X8.c 2
    have s3 := X8.c 3
    have s4 := X8.c 4
    have s5 := X8.c 5
    have s6 := X8.c 6
    refine bodyPost_ret (v := .tuple #[.agg #[.bool false, .int .u64 0, .string ⟨#[]⟩, .int .u64 0, .int .u64 0, .slice none 0 0, .slice none 0 0], .int .i64 1]) (by simp [results, Tryz.results16, go_sem, s0, s1, s2, s3, s4, s5, s6]) rfl ?_
    refine ⟨_, _, rfl, HB8.out, .inl ⟨?_, rfl, HE8.out⟩⟩
    exact fun h => by have := HC1.out.2 h.1; simp at this
  · have HM := Lib.hid (HC1.out.1 (by trivial))
    have CLW := Lib.hid (CL.out HM.out)
    clear x0 y0 y1
    go_upto_region 3 with fail
    have K0 : Hid (∀ w', Below w1.heap.size w1 w' → w'.cell? ⟨p1, 1, none⟩ = some (.bool edge) ∧ w'.cell? ⟨p1, 2, none⟩ = some (.int .u64 id) ∧ w'.cell? ⟨p1, 3, none⟩ = some (.string label) ∧ w'.cell? ⟨p1, 4, none⟩ = some (.int .u64 fr) ∧ w'.cell? ⟨p1, 5, none⟩ = some (.int .u64 til) ∧ w'.cell? ⟨p1, 12, none⟩ = some (.int .u64 pf) ∧ w'.cell? ⟨p1, 13, none⟩ = some (.int .u64 pt)) := Lib.hid fun w' hb => ⟨(O1.out.below hb).c 1, (O1.out.below hb).c 2, (O1.out.below hb).c 3, (O1.out.below hb).c 4, (O1.out.below hb).c 5, (O1.out.below hb).c 12, (O1.out.below hb).c 13⟩
    have K9 : Hid (∀ w', Bx w' p1 #[.int .i64 kind, .bool edge, .int .u64 id, .string label, .int .u64 fr, .int .u64 til, .string key, .int .i64 k, .bool b, .int .i64 n, .float .f64 f, .string s, .int .u64 pf, .int .u64 pt] → w'.cell? ⟨p1, 1, none⟩ = some (.bool edge) ∧ w'.cell? ⟨p1, 2, none⟩ = some (.int .u64 id) ∧ w'.cell? ⟨p1, 3, none⟩ = some (.string label) ∧ w'.cell? ⟨p1, 4, none⟩ = some (.int .u64 fr) ∧ w'.cell? ⟨p1, 5, none⟩ = some (.int .u64 til) ∧ w'.cell? ⟨p1, 12, none⟩ = some (.int .u64 pf) ∧ w'.cell? ⟨p1, 13, none⟩ = some (.int .u64 pt)) := Lib.hid fun w' h => ⟨h.c 1, h.c 2, h.c 3, h.c 4, h.c 5, h.c 12, h.c 13⟩
    refine wp_region_held_drew (S := (fun w' => w'.cell? ⟨p1, 1, none⟩ = some (.bool edge) ∧ w'.cell? ⟨p1, 2, none⟩ = some (.int .u64 id) ∧ w'.cell? ⟨p1, 3, none⟩ = some (.string label) ∧ w'.cell? ⟨p1, 4, none⟩ = some (.int .u64 fr) ∧ w'.cell? ⟨p1, 5, none⟩ = some (.int .u64 til) ∧ w'.cell? ⟨p1, 12, none⟩ = some (.int .u64 pf) ∧ w'.cell? ⟨p1, 13, none⟩ = some (.int .u64 pt))) (by kernel_rfl) (K0.out _ (Below.refl _ _).drew) (fun hHeld => ?_)
    refine take_in (i := 0) (v := ?_) (some 18) rfl rfl (by kernel_rfl) (by kernel_rfl) (by kernel_rfl) (fun _ _ _ h => h) (Or.inl ⟨by rfl, ?_⟩) (by assumption) ?_
    rotate_left
    · (intro w hSw; (try dsimp only at hSw); (try go_split_ands); go_simp; try with_reducible rfl)
    try simp only [Act.put, List.setIfInBounds_toArray, List.set_cons_zero, List.set_cons_succ]
    refine take_in (i := 1) (v := ?_) (some 19) rfl rfl (by kernel_rfl) (by kernel_rfl) (by kernel_rfl) (fun _ _ _ h => h) (Or.inl ⟨by rfl, ?_⟩) (by assumption) ?_
    rotate_left
    · (intro w hSw; (try dsimp only at hSw); (try go_split_ands); go_simp; try with_reducible rfl)
    try simp only [Act.put, List.setIfInBounds_toArray, List.set_cons_zero, List.set_cons_succ]
    refine take_in (i := 2) (v := ?_) (some 20) rfl rfl (by kernel_rfl) (by kernel_rfl) (by kernel_rfl) (fun _ _ _ h => h) (Or.inl ⟨by rfl, ?_⟩) (by assumption) ?_
    rotate_left
    · (intro w hSw; (try dsimp only at hSw); (try go_split_ands); go_simp; try with_reducible rfl)
    try simp only [Act.put, List.setIfInBounds_toArray, List.set_cons_zero, List.set_cons_succ]
    refine take_in (i := 3) (v := ?_) (some 21) rfl rfl (by kernel_rfl) (by kernel_rfl) (by kernel_rfl) (fun _ _ _ h => h) (Or.inl ⟨by rfl, ?_⟩) (by assumption) ?_
    rotate_left
    · (intro w hSw; (try dsimp only at hSw); (try go_split_ands); go_simp; try with_reducible rfl)
    try simp only [Act.put, List.setIfInBounds_toArray, List.set_cons_zero, List.set_cons_succ]
    refine take_in (i := 4) (v := ?_) (some 22) rfl rfl (by kernel_rfl) (by kernel_rfl) (by kernel_rfl) (fun _ _ _ h => h) (Or.inl ⟨by rfl, ?_⟩) (by assumption) ?_
    rotate_left
    · (intro w hSw; (try dsimp only at hSw); (try go_split_ands); go_simp; try with_reducible rfl)
    try simp only [Act.put, List.setIfInBounds_toArray, List.set_cons_zero, List.set_cons_succ]
    refine take_in (i := 5) (v := ?_) (some 23) rfl rfl (by kernel_rfl) (by kernel_rfl) (by kernel_rfl) (fun _ _ _ h => h) (Or.inl ⟨by rfl, ?_⟩) (by assumption) ?_
    rotate_left
    · (intro w hSw; (try dsimp only at hSw); (try go_split_ands); go_simp; try with_reducible rfl)
    try simp only [Act.put, List.setIfInBounds_toArray, List.set_cons_zero, List.set_cons_succ]
    refine take_in (i := 7) (v := ?_) (some 25) rfl rfl (by kernel_rfl) (by kernel_rfl) (by kernel_rfl) (fun _ _ _ h => h) (Or.inl ⟨by rfl, ?_⟩) (by assumption) ?_
    rotate_left
    · (intro w hSw; (try dsimp only at hSw); (try go_split_ands); go_simp; try with_reducible rfl)
    try simp only [Act.put, List.setIfInBounds_toArray, List.set_cons_zero, List.set_cons_succ]
    refine take_in (i := 8) (v := ?_) (some 26) rfl rfl (by kernel_rfl) (by kernel_rfl) (by kernel_rfl) (fun _ _ _ h => h) (Or.inl ⟨by rfl, ?_⟩) (by assumption) ?_
    rotate_left
    · (intro w hSw; (try dsimp only at hSw); (try go_split_ands); go_simp; try with_reducible rfl)
    try simp only [Act.put, List.setIfInBounds_toArray, List.set_cons_zero, List.set_cons_succ]
    refine take_in (i := 9) (v := ?_) (some 27) rfl rfl (by kernel_rfl) (by kernel_rfl) (by kernel_rfl) (fun _ _ _ h => h) (Or.inl ⟨by rfl, ?_⟩) (by assumption) ?_
    rotate_left
    · (intro w hSw; (try dsimp only at hSw); (try go_split_ands); go_simp; try with_reducible rfl)
    try simp only [Act.put, List.setIfInBounds_toArray, List.set_cons_zero, List.set_cons_succ]
    refine take_in (i := 10) (v := ?_) (some 28) rfl rfl (by kernel_rfl) (by kernel_rfl) (by kernel_rfl) (fun _ _ _ h => h) (Or.inl ⟨by rfl, ?_⟩) (by assumption) ?_
    rotate_left
    · (intro w hSw; (try dsimp only at hSw); (try go_split_ands); go_simp; try with_reducible rfl)
    try simp only [Act.put, List.setIfInBounds_toArray, List.set_cons_zero, List.set_cons_succ]
    refine take_in (i := 11) (v := ?_) (some 29) rfl rfl (by kernel_rfl) (by kernel_rfl) (by kernel_rfl) (fun _ _ _ h => h) (Or.inl ⟨by rfl, ?_⟩) (by assumption) ?_
    rotate_left
    · (intro w hSw; (try dsimp only at hSw); (try go_split_ands); go_simp; try with_reducible rfl)
    try simp only [Act.put, List.setIfInBounds_toArray, List.set_cons_zero, List.set_cons_succ]
    refine take_in (i := 12) (v := ?_) (some 30) rfl rfl (by kernel_rfl) (by kernel_rfl) (by kernel_rfl) (fun _ _ _ h => h) (Or.inl ⟨by rfl, ?_⟩) (by assumption) ?_
    rotate_left
    · (intro w hSw; (try dsimp only at hSw); (try go_split_ands); go_simp; try with_reducible rfl)
    try simp only [Act.put, List.setIfInBounds_toArray, List.set_cons_zero, List.set_cons_succ]
    refine wpAnyH_ready (rs := [6, 13]) (by kernel_rfl) (by simp) ?_
    refine (AllReadyH.cons rfl (fun K hK => ?_) (AllReadyH.cons rfl (fun K hK => ?_) AllReadyH.nil))
    · go_simp
      (with_reducible refine (CLW.out _).mono ?_)
      rintro e v1 ⟨rfl, hb⟩
      have HV := Lib.hid (show Below w1.heap.size w1 v1 from (Below.refl _ _).drew.trans hb)
      clear hb
      go_wp2_with fail
      refine hK.out _ _ (K0.out _ HV.out) (fun hHeld => ?_)
      clear hK K
      try simp only [Act.put, List.setIfInBounds_toArray, List.set_cons_zero, List.set_cons_succ]
      refine wpAnyH_ready (rs := [13]) (by kernel_rfl) (by simp) ?_
      refine (AllReadyH.cons rfl (fun K hK => ?_) AllReadyH.nil)
      go_simp
      refine hK.out _ _ (K0.out _ (HV.out.alloc (HV.out).size _)) (fun hHeld => ?_)
      clear hK K
      try simp only [Act.put, List.setIfInBounds_toArray, List.set_cons_zero, List.set_cons_succ]
      have BA := Lib.hid (show Below w1.heap.size w1 (v1.alloc (.cells #[.int .u64 (pf : Int), .int .u64 (pt : Int)] 33)) from HV.out.alloc (HV.out).size (.cells #[.int .u64 (pf : Int), .int .u64 (pt : Int)] 33))
      have OA := Lib.hid (show Se.OwnP w1.heap.size (v1.alloc (.cells #[.int .u64 (pf : Int), .int .u64 (pt : Int)] 33)) (.slice (some ⟨v1.heap.size, 0, none⟩) 1 1) [((pf : Int), (pt : Int))] from ownP_new (HV.out).size pf pt)
      have HQ := Lib.hid (show w1.heap.size ≤ v1.heap.size from (HV.out).size)
      have OP := Lib.hid OA.out
      have YX := Lib.hid (Y1.out.below BA.out)
      have OX := Lib.hid (O1.out.below BA.out)
      have BX := Lib.hid BA.out
      have y2 := YX.out.c
      have y3 := YX.out.fr
      refine take_in (i := 14) (v := ?_) (some 32) rfl rfl (by kernel_rfl) (by kernel_rfl) (by kernel_rfl) (fun _ _ _ h => h) (Or.inl ⟨by rfl, ?_⟩) (by assumption) ?_
      rotate_left
      · (intro w hSw; (try dsimp only at hSw); (try go_split_ands); go_simp; try with_reducible rfl)
      try simp only [Act.put, List.setIfInBounds_toArray, List.set_cons_zero, List.set_cons_succ]
      refine wpAnyH_ready (rs := [15]) (by kernel_rfl) (by simp) ?_
      refine (AllReadyH.cons rfl (fun K hK => ?_) AllReadyH.nil)
      go_simp
      refine hK.out _ _ (K9.out _ (other7 OX.out HP1.out.2.2 _ _ _ _ _ _ _)) (fun hHeld => ?_)
      clear hK K
      try simp only [Act.put, List.setIfInBounds_toArray, List.set_cons_zero, List.set_cons_succ]
      clear y2 y3
      refine take_in (i := 16) (v := ?_) (some 3) rfl rfl (by kernel_rfl) (by kernel_rfl) (by kernel_rfl) (fun _ _ _ h => h) (Or.inl ⟨by rfl, ?_⟩) (by assumption) ?_
      rotate_left
      · (intro w hSw; (try dsimp only at hSw); (try go_split_ands); go_simp; try with_reducible rfl)
      try simp only [Act.put, List.setIfInBounds_toArray, List.set_cons_zero, List.set_cons_succ]
      refine wpAnyH_done (by kernel_rfl) ?_ _
      go_wp2_with fail
      obtain ⟨W2, hW2, X8, B8, E8⟩ := make_put (base := w.heap.size) YX.out HP1.out.2.1 (OP.out.mono B1.out.size) (.inr (fun e => by have e2 := Option.some.inj e; dsimp only at e2; have h1 := Y1.out.lt; have h2 := HQ.out; omega)) (B1.out.trans (BX.out.mono B1.out.size)) (Nat.le_trans B1.out.size BX.out.size) edge id fr til label
      rw [hW2]
      have HB8 := Lib.hid B8
      have HE8 := Lib.hid E8
      clear hW2 B8 E8
      have s0 := X8.c 0
      have s1 := X8.c 1
      have s2 := X8.c 2
      have s3 := X8.c 3
      have s4 := X8.c 4
      have s5 := X8.c 5
      have s6 := X8.c 6
      refine bodyPost_ret (v := .tuple #[.agg #[.bool edge, .int .u64 id, .string label, .int .u64 fr, .int .u64 til, .slice (some ⟨v1.heap.size, 0, none⟩) 1 1, .slice none 0 0], .int .i64 0]) (by simp [results, Tryz.results16, go_sem, s0, s1, s2, s3, s4, s5, s6]) rfl ?_
      exact ⟨_, _, rfl, HB8.out, .inr ⟨HM.out, .inl (HK1.out.1 HB1.out), rfl, HE8.out⟩⟩
    · go_simp
      refine hK.out _ _ (K0.out _ ((Below.refl w1.heap.size w1).drew.alloc ((Below.refl w1.heap.size w1).drew).size _)) (fun hHeld => ?_)
      clear hK K
      try simp only [Act.put, List.setIfInBounds_toArray, List.set_cons_zero, List.set_cons_succ]
      have BA := Lib.hid (show Below w1.heap.size w1 (w1.drew.alloc (.cells #[.int .u64 (pf : Int), .int .u64 (pt : Int)] 33)) from (Below.refl w1.heap.size w1).drew.alloc ((Below.refl w1.heap.size w1).drew).size (.cells #[.int .u64 (pf : Int), .int .u64 (pt : Int)] 33))
      have OA := Lib.hid (show Se.OwnP w1.heap.size (w1.drew.alloc (.cells #[.int .u64 (pf : Int), .int .u64 (pt : Int)] 33)) (.slice (some ⟨w1.heap.size, 0, none⟩) 1 1) [((pf : Int), (pt : Int))] from ownP_new ((Below.refl w1.heap.size w1).drew).size pf pt)
      have HQ := Lib.hid (show w1.heap.size ≤ w1.heap.size from ((Below.refl w1.heap.size w1).drew).size)
      refine wpAnyH_ready (rs := [6]) (by kernel_rfl) (by simp) ?_
      refine (AllReadyH.cons rfl (fun K hK => ?_) AllReadyH.nil)
      go_simp
      (with_reducible refine (CLW.out _).mono ?_)
      rintro e v1 ⟨rfl, hb⟩
      have HV := Lib.hid (show Below w1.heap.size w1 v1 from BA.out.trans (hb.mono BA.out.size))
      have OP := Lib.hid (Se.OwnP.below OA.out hb)
      have YX := Lib.hid (Y1.out.below HV.out)
      have OX := Lib.hid (O1.out.below HV.out)
      have BX := Lib.hid HV.out
      have y2 := YX.out.c
      have y3 := YX.out.fr
      clear hb
      go_wp2_with fail
      refine hK.out _ _ (K0.out _ HV.out) (fun hHeld => ?_)
      clear hK K
      try simp only [Act.put, List.setIfInBounds_toArray, List.set_cons_zero, List.set_cons_succ]
      refine take_in (i := 14) (v := ?_) (some 32) rfl rfl (by kernel_rfl) (by kernel_rfl) (by kernel_rfl) (fun _ _ _ h => h) (Or.inl ⟨by rfl, ?_⟩) (by assumption) ?_
      rotate_left
      · (intro w hSw; (try dsimp only at hSw); (try go_split_ands); go_simp; try with_reducible rfl)
      try simp only [Act.put, List.setIfInBounds_toArray, List.set_cons_zero, List.set_cons_succ]
      refine wpAnyH_ready (rs := [15]) (by kernel_rfl) (by simp) ?_
      refine (AllReadyH.cons rfl (fun K hK => ?_) AllReadyH.nil)
      go_simp
      refine hK.out _ _ (K9.out _ (other7 OX.out HP1.out.2.2 _ _ _ _ _ _ _)) (fun hHeld => ?_)
      clear hK K
      try simp only [Act.put, List.setIfInBounds_toArray, List.set_cons_zero, List.set_cons_succ]
      clear y2 y3
      refine take_in (i := 16) (v := ?_) (some 3) rfl rfl (by kernel_rfl) (by kernel_rfl) (by kernel_rfl) (fun _ _ _ h => h) (Or.inl ⟨by rfl, ?_⟩) (by assumption) ?_
      rotate_left
      · (intro w hSw; (try dsimp only at hSw); (try go_split_ands); go_simp; try with_reducible rfl)
      try simp only [Act.put, List.setIfInBounds_toArray, List.set_cons_zero, List.set_cons_succ]
      refine wpAnyH_done (by kernel_rfl) ?_ _
      go_wp2_with fail
      obtain ⟨W2, hW2, X8, B8, E8⟩ := make_put (base := w.heap.size) YX.out HP1.out.2.1 (OP.out.mono B1.out.size) (.inr (fun e => by have e2 := Option.some.inj e; dsimp only at e2; have h1 := Y1.out.lt; have h2 := HQ.out; omega)) (B1.out.trans (BX.out.mono B1.out.size)) (Nat.le_trans B1.out.size BX.out.size) edge id fr til label
      rw [hW2]
      have HB8 := Lib.hid B8
      have HE8 := Lib.hid E8
      clear hW2 B8 E8
      have s0 := X8.c 0
      have s1 := X8.c 1
      have s2 := X8.c 2
      have s3 := X8.c 3
      have s4 := X8.c 4
      have s5 := X8.c 5
      have s6 := X8.c 6
      refine bodyPost_ret (v := .tuple #[.agg #[.bool edge, .int .u64 id, .string label, .int .u64 fr, .int .u64 til, .slice (some ⟨w1.heap.size, 0, none⟩) 1 1, .slice none 0 0], .int .i64 0]) (by simp [results, Tryz.results16, go_sem, s0, s1, s2, s3, s4, s5, s6]) rfl ?_
      exact ⟨_, _, rfl, HB8.out, .inr ⟨HM.out, .inl (HK1.out.1 HB1.out), rfl, HE8.out⟩⟩
  · have HM := Lib.hid (HC1.out.1 (by trivial))
    have CLW := Lib.hid (CL.out HM.out)
    clear x0 y0 y1
    go_upto_region 3 with fail
    have K0 : Hid (∀ w', Below w1.heap.size w1 w' → w'.cell? ⟨p1, 1, none⟩ = some (.bool edge) ∧ w'.cell? ⟨p1, 2, none⟩ = some (.int .u64 id) ∧ w'.cell? ⟨p1, 3, none⟩ = some (.string label) ∧ w'.cell? ⟨p1, 4, none⟩ = some (.int .u64 fr) ∧ w'.cell? ⟨p1, 5, none⟩ = some (.int .u64 til) ∧ w'.cell? ⟨p1, 12, none⟩ = some (.int .u64 pf) ∧ w'.cell? ⟨p1, 13, none⟩ = some (.int .u64 pt)) := Lib.hid fun w' hb => ⟨(O1.out.below hb).c 1, (O1.out.below hb).c 2, (O1.out.below hb).c 3, (O1.out.below hb).c 4, (O1.out.below hb).c 5, (O1.out.below hb).c 12, (O1.out.below hb).c 13⟩
    have K9 : Hid (∀ w', Bx w' p1 #[.int .i64 kind, .bool edge, .int .u64 id, .string label, .int .u64 fr, .int .u64 til, .string key, .int .i64 k, .bool b, .int .i64 n, .float .f64 f, .string s, .int .u64 pf, .int .u64 pt] → w'.cell? ⟨p1, 1, none⟩ = some (.bool edge) ∧ w'.cell? ⟨p1, 2, none⟩ = some (.int .u64 id) ∧ w'.cell? ⟨p1, 3, none⟩ = some (.string label) ∧ w'.cell? ⟨p1, 4, none⟩ = some (.int .u64 fr) ∧ w'.cell? ⟨p1, 5, none⟩ = some (.int .u64 til) ∧ w'.cell? ⟨p1, 12, none⟩ = some (.int .u64 pf) ∧ w'.cell? ⟨p1, 13, none⟩ = some (.int .u64 pt)) := Lib.hid fun w' h => ⟨h.c 1, h.c 2, h.c 3, h.c 4, h.c 5, h.c 12, h.c 13⟩
    refine wp_region_held_drew (S := (fun w' => w'.cell? ⟨p1, 1, none⟩ = some (.bool edge) ∧ w'.cell? ⟨p1, 2, none⟩ = some (.int .u64 id) ∧ w'.cell? ⟨p1, 3, none⟩ = some (.string label) ∧ w'.cell? ⟨p1, 4, none⟩ = some (.int .u64 fr) ∧ w'.cell? ⟨p1, 5, none⟩ = some (.int .u64 til) ∧ w'.cell? ⟨p1, 12, none⟩ = some (.int .u64 pf) ∧ w'.cell? ⟨p1, 13, none⟩ = some (.int .u64 pt))) (by kernel_rfl) (K0.out _ (Below.refl _ _).drew) (fun hHeld => ?_)
    refine take_in (i := 0) (v := ?_) (some 18) rfl rfl (by kernel_rfl) (by kernel_rfl) (by kernel_rfl) (fun _ _ _ h => h) (Or.inl ⟨by rfl, ?_⟩) (by assumption) ?_
    rotate_left
    · (intro w hSw; (try dsimp only at hSw); (try go_split_ands); go_simp; try with_reducible rfl)
    try simp only [Act.put, List.setIfInBounds_toArray, List.set_cons_zero, List.set_cons_succ]
    refine take_in (i := 1) (v := ?_) (some 19) rfl rfl (by kernel_rfl) (by kernel_rfl) (by kernel_rfl) (fun _ _ _ h => h) (Or.inl ⟨by rfl, ?_⟩) (by assumption) ?_
    rotate_left
    · (intro w hSw; (try dsimp only at hSw); (try go_split_ands); go_simp; try with_reducible rfl)
    try simp only [Act.put, List.setIfInBounds_toArray, List.set_cons_zero, List.set_cons_succ]
    refine take_in (i := 2) (v := ?_) (some 20) rfl rfl (by kernel_rfl) (by kernel_rfl) (by kernel_rfl) (fun _ _ _ h => h) (Or.inl ⟨by rfl, ?_⟩) (by assumption) ?_
    rotate_left
    · (intro w hSw; (try dsimp only at hSw); (try go_split_ands); go_simp; try with_reducible rfl)
    try simp only [Act.put, List.setIfInBounds_toArray, List.set_cons_zero, List.set_cons_succ]
    refine take_in (i := 3) (v := ?_) (some 21) rfl rfl (by kernel_rfl) (by kernel_rfl) (by kernel_rfl) (fun _ _ _ h => h) (Or.inl ⟨by rfl, ?_⟩) (by assumption) ?_
    rotate_left
    · (intro w hSw; (try dsimp only at hSw); (try go_split_ands); go_simp; try with_reducible rfl)
    try simp only [Act.put, List.setIfInBounds_toArray, List.set_cons_zero, List.set_cons_succ]
    refine take_in (i := 4) (v := ?_) (some 22) rfl rfl (by kernel_rfl) (by kernel_rfl) (by kernel_rfl) (fun _ _ _ h => h) (Or.inl ⟨by rfl, ?_⟩) (by assumption) ?_
    rotate_left
    · (intro w hSw; (try dsimp only at hSw); (try go_split_ands); go_simp; try with_reducible rfl)
    try simp only [Act.put, List.setIfInBounds_toArray, List.set_cons_zero, List.set_cons_succ]
    refine take_in (i := 5) (v := ?_) (some 23) rfl rfl (by kernel_rfl) (by kernel_rfl) (by kernel_rfl) (fun _ _ _ h => h) (Or.inl ⟨by rfl, ?_⟩) (by assumption) ?_
    rotate_left
    · (intro w hSw; (try dsimp only at hSw); (try go_split_ands); go_simp; try with_reducible rfl)
    try simp only [Act.put, List.setIfInBounds_toArray, List.set_cons_zero, List.set_cons_succ]
    refine take_in (i := 7) (v := ?_) (some 25) rfl rfl (by kernel_rfl) (by kernel_rfl) (by kernel_rfl) (fun _ _ _ h => h) (Or.inl ⟨by rfl, ?_⟩) (by assumption) ?_
    rotate_left
    · (intro w hSw; (try dsimp only at hSw); (try go_split_ands); go_simp; try with_reducible rfl)
    try simp only [Act.put, List.setIfInBounds_toArray, List.set_cons_zero, List.set_cons_succ]
    refine take_in (i := 8) (v := ?_) (some 26) rfl rfl (by kernel_rfl) (by kernel_rfl) (by kernel_rfl) (fun _ _ _ h => h) (Or.inl ⟨by rfl, ?_⟩) (by assumption) ?_
    rotate_left
    · (intro w hSw; (try dsimp only at hSw); (try go_split_ands); go_simp; try with_reducible rfl)
    try simp only [Act.put, List.setIfInBounds_toArray, List.set_cons_zero, List.set_cons_succ]
    refine take_in (i := 9) (v := ?_) (some 27) rfl rfl (by kernel_rfl) (by kernel_rfl) (by kernel_rfl) (fun _ _ _ h => h) (Or.inl ⟨by rfl, ?_⟩) (by assumption) ?_
    rotate_left
    · (intro w hSw; (try dsimp only at hSw); (try go_split_ands); go_simp; try with_reducible rfl)
    try simp only [Act.put, List.setIfInBounds_toArray, List.set_cons_zero, List.set_cons_succ]
    refine take_in (i := 10) (v := ?_) (some 28) rfl rfl (by kernel_rfl) (by kernel_rfl) (by kernel_rfl) (fun _ _ _ h => h) (Or.inl ⟨by rfl, ?_⟩) (by assumption) ?_
    rotate_left
    · (intro w hSw; (try dsimp only at hSw); (try go_split_ands); go_simp; try with_reducible rfl)
    try simp only [Act.put, List.setIfInBounds_toArray, List.set_cons_zero, List.set_cons_succ]
    refine take_in (i := 11) (v := ?_) (some 29) rfl rfl (by kernel_rfl) (by kernel_rfl) (by kernel_rfl) (fun _ _ _ h => h) (Or.inl ⟨by rfl, ?_⟩) (by assumption) ?_
    rotate_left
    · (intro w hSw; (try dsimp only at hSw); (try go_split_ands); go_simp; try with_reducible rfl)
    try simp only [Act.put, List.setIfInBounds_toArray, List.set_cons_zero, List.set_cons_succ]
    refine take_in (i := 12) (v := ?_) (some 30) rfl rfl (by kernel_rfl) (by kernel_rfl) (by kernel_rfl) (fun _ _ _ h => h) (Or.inl ⟨by rfl, ?_⟩) (by assumption) ?_
    rotate_left
    · (intro w hSw; (try dsimp only at hSw); (try go_split_ands); go_simp; try with_reducible rfl)
    try simp only [Act.put, List.setIfInBounds_toArray, List.set_cons_zero, List.set_cons_succ]
    refine wpAnyH_ready (rs := [6, 13]) (by kernel_rfl) (by simp) ?_
    refine (AllReadyH.cons rfl (fun K hK => ?_) (AllReadyH.cons rfl (fun K hK => ?_) AllReadyH.nil))
    · go_simp
      (with_reducible refine (CLW.out _).mono ?_)
      rintro e v1 ⟨rfl, hb⟩
      have HV := Lib.hid (show Below w1.heap.size w1 v1 from (Below.refl _ _).drew.trans hb)
      clear hb
      go_wp2_with fail
      refine hK.out _ _ (K0.out _ HV.out) (fun hHeld => ?_)
      clear hK K
      try simp only [Act.put, List.setIfInBounds_toArray, List.set_cons_zero, List.set_cons_succ]
      refine wpAnyH_ready (rs := [13]) (by kernel_rfl) (by simp) ?_
      refine (AllReadyH.cons rfl (fun K hK => ?_) AllReadyH.nil)
      go_simp
      refine hK.out _ _ (K0.out _ (HV.out.alloc (HV.out).size _)) (fun hHeld => ?_)
      clear hK K
      try simp only [Act.put, List.setIfInBounds_toArray, List.set_cons_zero, List.set_cons_succ]
      have BA := Lib.hid (show Below w1.heap.size w1 (v1.alloc (.cells #[.int .u64 (pf : Int), .int .u64 (pt : Int)] 33)) from HV.out.alloc (HV.out).size (.cells #[.int .u64 (pf : Int), .int .u64 (pt : Int)] 33))
      have OA := Lib.hid (show Se.OwnP w1.heap.size (v1.alloc (.cells #[.int .u64 (pf : Int), .int .u64 (pt : Int)] 33)) (.slice (some ⟨v1.heap.size, 0, none⟩) 1 1) [((pf : Int), (pt : Int))] from ownP_new (HV.out).size pf pt)
      have HQ := Lib.hid (show w1.heap.size ≤ v1.heap.size from (HV.out).size)
      have OP := Lib.hid OA.out
      have YX := Lib.hid (Y1.out.below BA.out)
      have OX := Lib.hid (O1.out.below BA.out)
      have BX := Lib.hid BA.out
      have y2 := YX.out.c
      have y3 := YX.out.fr
      refine take_in (i := 14) (v := ?_) (some 32) rfl rfl (by kernel_rfl) (by kernel_rfl) (by kernel_rfl) (fun _ _ _ h => h) (Or.inl ⟨by rfl, ?_⟩) (by assumption) ?_
      rotate_left
      · (intro w hSw; (try dsimp only at hSw); (try go_split_ands); go_simp; try with_reducible rfl)
      try simp only [Act.put, List.setIfInBounds_toArray, List.set_cons_zero, List.set_cons_succ]
      refine wpAnyH_ready (rs := [15]) (by kernel_rfl) (by simp) ?_
      refine (AllReadyH.cons rfl (fun K hK => ?_) AllReadyH.nil)
      go_simp
      refine hK.out _ _ (K9.out _ (other7 OX.out HP1.out.2.2 _ _ _ _ _ _ _)) (fun hHeld => ?_)
      clear hK K
      try simp only [Act.put, List.setIfInBounds_toArray, List.set_cons_zero, List.set_cons_succ]
      clear y2 y3
      refine take_in (i := 16) (v := ?_) (some 3) rfl rfl (by kernel_rfl) (by kernel_rfl) (by kernel_rfl) (fun _ _ _ h => h) (Or.inl ⟨by rfl, ?_⟩) (by assumption) ?_
      rotate_left
      · (intro w hSw; (try dsimp only at hSw); (try go_split_ands); go_simp; try with_reducible rfl)
      try simp only [Act.put, List.setIfInBounds_toArray, List.set_cons_zero, List.set_cons_succ]
      refine wpAnyH_done (by kernel_rfl) ?_ _
      go_wp2_with fail
      obtain ⟨W2, hW2, X8, B8, E8⟩ := make_put (base := w.heap.size) YX.out HP1.out.2.1 (OP.out.mono B1.out.size) (.inr (fun e => by have e2 := Option.some.inj e; dsimp only at e2; have h1 := Y1.out.lt; have h2 := HQ.out; omega)) (B1.out.trans (BX.out.mono B1.out.size)) (Nat.le_trans B1.out.size BX.out.size) edge id fr til label
      rw [hW2]
      have HB8 := Lib.hid B8
      have HE8 := Lib.hid E8
      clear hW2 B8 E8
      have s0 := X8.c 0
      have s1 := X8.c 1
      have s2 := X8.c 2
      have s3 := X8.c 3
      have s4 := X8.c 4
      have s5 := X8.c 5
      have s6 := X8.c 6
      refine bodyPost_ret (v := .tuple #[.agg #[.bool edge, .int .u64 id, .string label, .int .u64 fr, .int .u64 til, .slice (some ⟨v1.heap.size, 0, none⟩) 1 1, .slice none 0 0], .int .i64 0]) (by simp [results, Tryz.results16, go_sem, s0, s1, s2, s3, s4, s5, s6]) rfl ?_
      exact ⟨_, _, rfl, HB8.out, .inr ⟨HM.out, .inl (HK1.out.1 HB1.out), rfl, HE8.out⟩⟩
    · go_simp
      refine hK.out _ _ (K0.out _ ((Below.refl w1.heap.size w1).drew.alloc ((Below.refl w1.heap.size w1).drew).size _)) (fun hHeld => ?_)
      clear hK K
      try simp only [Act.put, List.setIfInBounds_toArray, List.set_cons_zero, List.set_cons_succ]
      have BA := Lib.hid (show Below w1.heap.size w1 (w1.drew.alloc (.cells #[.int .u64 (pf : Int), .int .u64 (pt : Int)] 33)) from (Below.refl w1.heap.size w1).drew.alloc ((Below.refl w1.heap.size w1).drew).size (.cells #[.int .u64 (pf : Int), .int .u64 (pt : Int)] 33))
      have OA := Lib.hid (show Se.OwnP w1.heap.size (w1.drew.alloc (.cells #[.int .u64 (pf : Int), .int .u64 (pt : Int)] 33)) (.slice (some ⟨w1.heap.size, 0, none⟩) 1 1) [((pf : Int), (pt : Int))] from ownP_new ((Below.refl w1.heap.size w1).drew).size pf pt)
      have HQ := Lib.hid (show w1.heap.size ≤ w1.heap.size from ((Below.refl w1.heap.size w1).drew).size)
      refine wpAnyH_ready (rs := [6]) (by kernel_rfl) (by simp) ?_
      refine (AllReadyH.cons rfl (fun K hK => ?_) AllReadyH.nil)
      go_simp
      (with_reducible refine (CLW.out _).mono ?_)
      rintro e v1 ⟨rfl, hb⟩
      have HV := Lib.hid (show Below w1.heap.size w1 v1 from BA.out.trans (hb.mono BA.out.size))
      have OP := Lib.hid (Se.OwnP.below OA.out hb)
      have YX := Lib.hid (Y1.out.below HV.out)
      have OX := Lib.hid (O1.out.below HV.out)
      have BX := Lib.hid HV.out
      have y2 := YX.out.c
      have y3 := YX.out.fr
      clear hb
      go_wp2_with fail
      refine hK.out _ _ (K0.out _ HV.out) (fun hHeld => ?_)
      clear hK K
      try simp only [Act.put, List.setIfInBounds_toArray, List.set_cons_zero, List.set_cons_succ]
      refine take_in (i := 14) (v := ?_) (some 32) rfl rfl (by kernel_rfl) (by kernel_rfl) (by kernel_rfl) (fun _ _ _ h => h) (Or.inl ⟨by rfl, ?_⟩) (by assumption) ?_
      rotate_left
      · (intro w hSw; (try dsimp only at hSw); (try go_split_ands); go_simp; try with_reducible rfl)
      try simp only [Act.put, List.setIfInBounds_toArray, List.set_cons_zero, List.set_cons_succ]
      refine wpAnyH_ready (rs := [15]) (by kernel_rfl) (by simp) ?_
      refine (AllReadyH.cons rfl (fun K hK => ?_) AllReadyH.nil)
      go_simp
      refine hK.out _ _ (K9.out _ (other7 OX.out HP1.out.2.2 _ _ _ _ _ _ _)) (fun hHeld => ?_)
      clear hK K
      try simp only [Act.put, List.setIfInBounds_toArray, List.set_cons_zero, List.set_cons_succ]
      clear y2 y3
      refine take_in (i := 16) (v := ?_) (some 3) rfl rfl (by kernel_rfl) (by kernel_rfl) (by kernel_rfl) (fun _ _ _ h => h) (Or.inl ⟨by rfl, ?_⟩) (by assumption) ?_
      rotate_left
      · (intro w hSw; (try dsimp only at hSw); (try go_split_ands); go_simp; try with_reducible rfl)
      try simp only [Act.put, List.setIfInBounds_toArray, List.set_cons_zero, List.set_cons_succ]
      refine wpAnyH_done (by kernel_rfl) ?_ _
      go_wp2_with fail
      obtain ⟨W2, hW2, X8, B8, E8⟩ := make_put (base := w.heap.size) YX.out HP1.out.2.1 (OP.out.mono B1.out.size) (.inr (fun e => by have e2 := Option.some.inj e; dsimp only at e2; have h1 := Y1.out.lt; have h2 := HQ.out; omega)) (B1.out.trans (BX.out.mono B1.out.size)) (Nat.le_trans B1.out.size BX.out.size) edge id fr til label
      rw [hW2]
      have HB8 := Lib.hid B8
      have HE8 := Lib.hid E8
      clear hW2 B8 E8
      have s0 := X8.c 0
      have s1 := X8.c 1
      have s2 := X8.c 2
      have s3 := X8.c 3
      have s4 := X8.c 4
      have s5 := X8.c 5
      have s6 := X8.c 6
      refine bodyPost_ret (v := .tuple #[.agg #[.bool edge, .int .u64 id, .string label, .int .u64 fr, .int .u64 til, .slice (some ⟨w1.heap.size, 0, none⟩) 1 1, .slice none 0 0], .int .i64 0]) (by simp [results, Tryz.results16, go_sem, s0, s1, s2, s3, s4, s5, s6]) rfl ?_
      exact ⟨_, _, rfl, HB8.out, .inr ⟨HM.out, .inl (HK1.out.1 HB1.out), rfl, HE8.out⟩⟩
  · have HM := Lib.hid (HC1.out.1 (by trivial))
    have CLW := Lib.hid (CL.out HM.out)
    clear x0 y0 y1
    go_upto_region 3 with fail
    have K0 : Hid (∀ w', Below w1.heap.size w1 w' → w'.cell? ⟨p1, 1, none⟩ = some (.bool edge) ∧ w'.cell? ⟨p1, 2, none⟩ = some (.int .u64 id) ∧ w'.cell? ⟨p1, 3, none⟩ = some (.string label) ∧ w'.cell? ⟨p1, 4, none⟩ = some (.int .u64 fr) ∧ w'.cell? ⟨p1, 5, none⟩ = some (.int .u64 til) ∧ w'.cell? ⟨p1, 12, none⟩ = some (.int .u64 pf) ∧ w'.cell? ⟨p1, 13, none⟩ = some (.int .u64 pt)) := Lib.hid fun w' hb => ⟨(O1.out.below hb).c 1, (O1.out.below hb).c 2, (O1.out.below hb).c 3, (O1.out.below hb).c 4, (O1.out.below hb).c 5, (O1.out.below hb).c 12, (O1.out.below hb).c 13⟩
    have K9 : Hid (∀ w', Bx w' p1 #[.int .i64 kind, .bool edge, .int .u64 id, .string label, .int .u64 fr, .int .u64 til, .string key, .int .i64 k, .bool b, .int .i64 n, .float .f64 f, .string s, .int .u64 pf, .int .u64 pt] → w'.cell? ⟨p1, 1, none⟩ = some (.bool edge) ∧ w'.cell? ⟨p1, 2, none⟩ = some (.int .u64 id) ∧ w'.cell? ⟨p1, 3, none⟩ = some (.string label) ∧ w'.cell? ⟨p1, 4, none⟩ = some (.int .u64 fr) ∧ w'.cell? ⟨p1, 5, none⟩ = some (.int .u64 til) ∧ w'.cell? ⟨p1, 12, none⟩ = some (.int .u64 pf) ∧ w'.cell? ⟨p1, 13, none⟩ = some (.int .u64 pt)) := Lib.hid fun w' h => ⟨h.c 1, h.c 2, h.c 3, h.c 4, h.c 5, h.c 12, h.c 13⟩
    refine wp_region_held_drew (S := (fun w' => w'.cell? ⟨p1, 1, none⟩ = some (.bool edge) ∧ w'.cell? ⟨p1, 2, none⟩ = some (.int .u64 id) ∧ w'.cell? ⟨p1, 3, none⟩ = some (.string label) ∧ w'.cell? ⟨p1, 4, none⟩ = some (.int .u64 fr) ∧ w'.cell? ⟨p1, 5, none⟩ = some (.int .u64 til) ∧ w'.cell? ⟨p1, 12, none⟩ = some (.int .u64 pf) ∧ w'.cell? ⟨p1, 13, none⟩ = some (.int .u64 pt))) (by kernel_rfl) (K0.out _ (Below.refl _ _).drew) (fun hHeld => ?_)
    refine take_in (i := 0) (v := ?_) (some 18) rfl rfl (by kernel_rfl) (by kernel_rfl) (by kernel_rfl) (fun _ _ _ h => h) (Or.inl ⟨by rfl, ?_⟩) (by assumption) ?_
    rotate_left
    · (intro w hSw; (try dsimp only at hSw); (try go_split_ands); go_simp; try with_reducible rfl)
    try simp only [Act.put, List.setIfInBounds_toArray, List.set_cons_zero, List.set_cons_succ]
    refine take_in (i := 1) (v := ?_) (some 19) rfl rfl (by kernel_rfl) (by kernel_rfl) (by kernel_rfl) (fun _ _ _ h => h) (Or.inl ⟨by rfl, ?_⟩) (by assumption) ?_
    rotate_left
    · (intro w hSw; (try dsimp only at hSw); (try go_split_ands); go_simp; try with_reducible rfl)
    try simp only [Act.put, List.setIfInBounds_toArray, List.set_cons_zero, List.set_cons_succ]
    refine take_in (i := 2) (v := ?_) (some 20) rfl rfl (by kernel_rfl) (by kernel_rfl) (by kernel_rfl) (fun _ _ _ h => h) (Or.inl ⟨by rfl, ?_⟩) (by assumption) ?_
    rotate_left
    · (intro w hSw; (try dsimp only at hSw); (try go_split_ands); go_simp; try with_reducible rfl)
    try simp only [Act.put, List.setIfInBounds_toArray, List.set_cons_zero, List.set_cons_succ]
    refine take_in (i := 3) (v := ?_) (some 21) rfl rfl (by kernel_rfl) (by kernel_rfl) (by kernel_rfl) (fun _ _ _ h => h) (Or.inl ⟨by rfl, ?_⟩) (by assumption) ?_
    rotate_left
    · (intro w hSw; (try dsimp only at hSw); (try go_split_ands); go_simp; try with_reducible rfl)
    try simp only [Act.put, List.setIfInBounds_toArray, List.set_cons_zero, List.set_cons_succ]
    refine take_in (i := 4) (v := ?_) (some 22) rfl rfl (by kernel_rfl) (by kernel_rfl) (by kernel_rfl) (fun _ _ _ h => h) (Or.inl ⟨by rfl, ?_⟩) (by assumption) ?_
    rotate_left
    · (intro w hSw; (try dsimp only at hSw); (try go_split_ands); go_simp; try with_reducible rfl)
    try simp only [Act.put, List.setIfInBounds_toArray, List.set_cons_zero, List.set_cons_succ]
    refine take_in (i := 5) (v := ?_) (some 23) rfl rfl (by kernel_rfl) (by kernel_rfl) (by kernel_rfl) (fun _ _ _ h => h) (Or.inl ⟨by rfl, ?_⟩) (by assumption) ?_
    rotate_left
    · (intro w hSw; (try dsimp only at hSw); (try go_split_ands); go_simp; try with_reducible rfl)
    try simp only [Act.put, List.setIfInBounds_toArray, List.set_cons_zero, List.set_cons_succ]
    refine take_in (i := 7) (v := ?_) (some 25) rfl rfl (by kernel_rfl) (by kernel_rfl) (by kernel_rfl) (fun _ _ _ h => h) (Or.inl ⟨by rfl, ?_⟩) (by assumption) ?_
    rotate_left
    · (intro w hSw; (try dsimp only at hSw); (try go_split_ands); go_simp; try with_reducible rfl)
    try simp only [Act.put, List.setIfInBounds_toArray, List.set_cons_zero, List.set_cons_succ]
    refine take_in (i := 8) (v := ?_) (some 26) rfl rfl (by kernel_rfl) (by kernel_rfl) (by kernel_rfl) (fun _ _ _ h => h) (Or.inl ⟨by rfl, ?_⟩) (by assumption) ?_
    rotate_left
    · (intro w hSw; (try dsimp only at hSw); (try go_split_ands); go_simp; try with_reducible rfl)
    try simp only [Act.put, List.setIfInBounds_toArray, List.set_cons_zero, List.set_cons_succ]
    refine take_in (i := 9) (v := ?_) (some 27) rfl rfl (by kernel_rfl) (by kernel_rfl) (by kernel_rfl) (fun _ _ _ h => h) (Or.inl ⟨by rfl, ?_⟩) (by assumption) ?_
    rotate_left
    · (intro w hSw; (try dsimp only at hSw); (try go_split_ands); go_simp; try with_reducible rfl)
    try simp only [Act.put, List.setIfInBounds_toArray, List.set_cons_zero, List.set_cons_succ]
    refine take_in (i := 10) (v := ?_) (some 28) rfl rfl (by kernel_rfl) (by kernel_rfl) (by kernel_rfl) (fun _ _ _ h => h) (Or.inl ⟨by rfl, ?_⟩) (by assumption) ?_
    rotate_left
    · (intro w hSw; (try dsimp only at hSw); (try go_split_ands); go_simp; try with_reducible rfl)
    try simp only [Act.put, List.setIfInBounds_toArray, List.set_cons_zero, List.set_cons_succ]
    refine take_in (i := 11) (v := ?_) (some 29) rfl rfl (by kernel_rfl) (by kernel_rfl) (by kernel_rfl) (fun _ _ _ h => h) (Or.inl ⟨by rfl, ?_⟩) (by assumption) ?_
    rotate_left
    · (intro w hSw; (try dsimp only at hSw); (try go_split_ands); go_simp; try with_reducible rfl)
    try simp only [Act.put, List.setIfInBounds_toArray, List.set_cons_zero, List.set_cons_succ]
    refine take_in (i := 12) (v := ?_) (some 30) rfl rfl (by kernel_rfl) (by kernel_rfl) (by kernel_rfl) (fun _ _ _ h => h) (Or.inl ⟨by rfl, ?_⟩) (by assumption) ?_
    rotate_left
    · (intro w hSw; (try dsimp only at hSw); (try go_split_ands); go_simp; try with_reducible rfl)
    try simp only [Act.put, List.setIfInBounds_toArray, List.set_cons_zero, List.set_cons_succ]
    refine wpAnyH_ready (rs := [6, 13]) (by kernel_rfl) (by simp) ?_
    refine (AllReadyH.cons rfl (fun K hK => ?_) (AllReadyH.cons rfl (fun K hK => ?_) AllReadyH.nil))
    · go_simp
      (with_reducible refine (CLW.out _).mono ?_)
      rintro e v1 ⟨rfl, hb⟩
      have HV := Lib.hid (show Below w1.heap.size w1 v1 from (Below.refl _ _).drew.trans hb)
      clear hb
      go_wp2_with fail
      refine hK.out _ _ (K0.out _ HV.out) (fun hHeld => ?_)
      clear hK K
      try simp only [Act.put, List.setIfInBounds_toArray, List.set_cons_zero, List.set_cons_succ]
      refine wpAnyH_ready (rs := [13]) (by kernel_rfl) (by simp) ?_
      refine (AllReadyH.cons rfl (fun K hK => ?_) AllReadyH.nil)
      go_simp
      refine hK.out _ _ (K0.out _ (HV.out.alloc (HV.out).size _)) (fun hHeld => ?_)
      clear hK K
      try simp only [Act.put, List.setIfInBounds_toArray, List.set_cons_zero, List.set_cons_succ]
      have BA := Lib.hid (show Below w1.heap.size w1 (v1.alloc (.cells #[.int .u64 (pf : Int), .int .u64 (pt : Int)] 33)) from HV.out.alloc (HV.out).size (.cells #[.int .u64 (pf : Int), .int .u64 (pt : Int)] 33))
      have OA := Lib.hid (show Se.OwnP w1.heap.size (v1.alloc (.cells #[.int .u64 (pf : Int), .int .u64 (pt : Int)] 33)) (.slice (some ⟨v1.heap.size, 0, none⟩) 1 1) [((pf : Int), (pt : Int))] from ownP_new (HV.out).size pf pt)
      have HQ := Lib.hid (show w1.heap.size ≤ v1.heap.size from (HV.out).size)
      have OP := Lib.hid OA.out
      have YX := Lib.hid (Y1.out.below BA.out)
      have OX := Lib.hid (O1.out.below BA.out)
      have BX := Lib.hid BA.out
      have y2 := YX.out.c
      have y3 := YX.out.fr
      refine take_in (i := 14) (v := ?_) (some 32) rfl rfl (by kernel_rfl) (by kernel_rfl) (by kernel_rfl) (fun _ _ _ h => h) (Or.inl ⟨by rfl, ?_⟩) (by assumption) ?_
      rotate_left
      · (intro w hSw; (try dsimp only at hSw); (try go_split_ands); go_simp; try with_reducible rfl)
      try simp only [Act.put, List.setIfInBounds_toArray, List.set_cons_zero, List.set_cons_succ]
      refine wpAnyH_ready (rs := [15]) (by kernel_rfl) (by simp) ?_
      refine (AllReadyH.cons rfl (fun K hK => ?_) AllReadyH.nil)
      go_simp
      refine hK.out _ _ (K9.out _ (other7 OX.out HP1.out.2.2 _ _ _ _ _ _ _)) (fun hHeld => ?_)
      clear hK K
      try simp only [Act.put, List.setIfInBounds_toArray, List.set_cons_zero, List.set_cons_succ]
      clear y2 y3
      refine take_in (i := 16) (v := ?_) (some 3) rfl rfl (by kernel_rfl) (by kernel_rfl) (by kernel_rfl) (fun _ _ _ h => h) (Or.inl ⟨by rfl, ?_⟩) (by assumption) ?_
      rotate_left
      · (intro w hSw; (try dsimp only at hSw); (try go_split_ands); go_simp; try with_reducible rfl)
      try simp only [Act.put, List.setIfInBounds_toArray, List.set_cons_zero, List.set_cons_succ]
      refine wpAnyH_done (by kernel_rfl) ?_ _
      go_wp2_with fail
      obtain ⟨W2, hW2, X8, B8, E8⟩ := make_put (base := w.heap.size) YX.out HP1.out.2.1 (OP.out.mono B1.out.size) (.inr (fun e => by have e2 := Option.some.inj e; dsimp only at e2; have h1 := Y1.out.lt; have h2 := HQ.out; omega)) (B1.out.trans (BX.out.mono B1.out.size)) (Nat.le_trans B1.out.size BX.out.size) edge id fr til label
      rw [hW2]
      have HB8 := Lib.hid B8
      have HE8 := Lib.hid E8
      clear hW2 B8 E8
      have s0 := X8.c 0
      have s1 := X8.c 1
      have s2 := X8.c 2
      have s3 := X8.c 3
      have s4 := X8.c 4
      have s5 := X8.c 5
      have s6 := X8.c 6
      refine bodyPost_ret (v := .tuple #[.agg #[.bool edge, .int .u64 id, .string label, .int .u64 fr, .int .u64 til, .slice (some ⟨v1.heap.size, 0, none⟩) 1 1, .slice none 0 0], .int .i64 0]) (by simp [results, Tryz.results16, go_sem, s0, s1, s2, s3, s4, s5, s6]) rfl ?_
      exact ⟨_, _, rfl, HB8.out, .inr ⟨HM.out, .inr (HK2.out.1 HB2.out), rfl, HE8.out⟩⟩
    · go_simp
      refine hK.out _ _ (K0.out _ ((Below.refl w1.heap.size w1).drew.alloc ((Below.refl w1.heap.size w1).drew).size _)) (fun hHeld => ?_)
      clear hK K
      try simp only [Act.put, List.setIfInBounds_toArray, List.set_cons_zero, List.set_cons_succ]
      have BA := Lib.hid (show Below w1.heap.size w1 (w1.drew.alloc (.cells #[.int .u64 (pf : Int), .int .u64 (pt : Int)] 33)) from (Below.refl w1.heap.size w1).drew.alloc ((Below.refl w1.heap.size w1).drew).size (.cells #[.int .u64 (pf : Int), .int .u64 (pt : Int)] 33))
      have OA := Lib.hid (show Se.OwnP w1.heap.size (w1.drew.alloc (.cells #[.int .u64 (pf : Int), .int .u64 (pt : Int)] 33)) (.slice (some ⟨w1.heap.size, 0, none⟩) 1 1) [((pf : Int), (pt : Int))] from ownP_new ((Below.refl w1.heap.size w1).drew).size pf pt)
      have HQ := Lib.hid (show w1.heap.size ≤ w1.heap.size from ((Below.refl w1.heap.size w1).drew).size)
      refine wpAnyH_ready (rs := [6]) (by kernel_rfl) (by simp) ?_
      refine (AllReadyH.cons rfl (fun K hK => ?_) AllReadyH.nil)
      go_simp
      (with_reducible refine (CLW.out _).mono ?_)
      rintro e v1 ⟨rfl, hb⟩
      have HV := Lib.hid (show Below w1.heap.size w1 v1 from BA.out.trans (hb.mono BA.out.size))
      have OP := Lib.hid (Se.OwnP.below OA.out hb)
      have YX := Lib.hid (Y1.out.below HV.out)
      have OX := Lib.hid (O1.out.below HV.out)
      have BX := Lib.hid HV.out
      have y2 := YX.out.c
      have y3 := YX.out.fr
      clear hb
      go_wp2_with fail
      refine hK.out _ _ (K0.out _ HV.out) (fun hHeld => ?_)
      clear hK K
      try simp only [Act.put, List.setIfInBounds_toArray, List.set_cons_zero, List.set_cons_succ]
      refine take_in (i := 14) (v := ?_) (some 32) rfl rfl (by kernel_rfl) (by kernel_rfl) (by kernel_rfl) (fun _ _ _ h => h) (Or.inl ⟨by rfl, ?_⟩) (by assumption) ?_
      rotate_left
      · (intro w hSw; (try dsimp only at hSw); (try go_split_ands); go_simp; try with_reducible rfl)
      try simp only [Act.put, List.setIfInBounds_toArray, List.set_cons_zero, List.set_cons_succ]
      refine wpAnyH_ready (rs := [15]) (by kernel_rfl) (by simp) ?_
      refine (AllReadyH.cons rfl (fun K hK => ?_) AllReadyH.nil)
      go_simp
      refine hK.out _ _ (K9.out _ (other7 OX.out HP1.out.2.2 _ _ _ _ _ _ _)) (fun hHeld => ?_)
      clear hK K
      try simp only [Act.put, List.setIfInBounds_toArray, List.set_cons_zero, List.set_cons_succ]
      clear y2 y3
      refine take_in (i := 16) (v := ?_) (some 3) rfl rfl (by kernel_rfl) (by kernel_rfl) (by kernel_rfl) (fun _ _ _ h => h) (Or.inl ⟨by rfl, ?_⟩) (by assumption) ?_
      rotate_left
      · (intro w hSw; (try dsimp only at hSw); (try go_split_ands); go_simp; try with_reducible rfl)
      try simp only [Act.put, List.setIfInBounds_toArray, List.set_cons_zero, List.set_cons_succ]
      refine wpAnyH_done (by kernel_rfl) ?_ _
      go_wp2_with fail
      obtain ⟨W2, hW2, X8, B8, E8⟩ := make_put (base := w.heap.size) YX.out HP1.out.2.1 (OP.out.mono B1.out.size) (.inr (fun e => by have e2 := Option.some.inj e; dsimp only at e2; have h1 := Y1.out.lt; have h2 := HQ.out; omega)) (B1.out.trans (BX.out.mono B1.out.size)) (Nat.le_trans B1.out.size BX.out.size) edge id fr til label
      rw [hW2]
      have HB8 := Lib.hid B8
      have HE8 := Lib.hid E8
      clear hW2 B8 E8
      have s0 := X8.c 0
      have s1 := X8.c 1
      have s2 := X8.c 2
      have s3 := X8.c 3
      have s4 := X8.c 4
      have s5 := X8.c 5
      have s6 := X8.c 6
      refine bodyPost_ret (v := .tuple #[.agg #[.bool edge, .int .u64 id, .string label, .int .u64 fr, .int .u64 til, .slice (some ⟨w1.heap.size, 0, none⟩) 1 1, .slice none 0 0], .int .i64 0]) (by simp [results, Tryz.results16, go_sem, s0, s1, s2, s3, s4, s5, s6]) rfl ?_
      exact ⟨_, _, rfl, HB8.out, .inr ⟨HM.out, .inr (HK2.out.1 HB2.out), rfl, HE8.out⟩⟩
  · obtain ⟨W2, hW2, X8, B8, E8⟩ := make_put (base := w.heap.size) Y1.out HP1.out.2.1 (Se.OwnP.nil w.heap.size _) (.inl rfl) B1.out B1.out.size false 0 0 0 ⟨#[]⟩
    rw [hW2]
    have HB8 := Lib.hid B8
    have HE8 := Lib.hid E8
    clear hW2 B8 E8 x0 y0 y1
    have s0 := X8.c 0
    have s1 := X8.c 1
    have s2 := X8.c 2
    have s3 := X8.c 3
    have s4 := X8.c 4
    have s5 := X8.c 5
    have s6 := X8.c 6
    refine bodyPost_ret (v := .tuple #[.agg #[.bool false, .int .u64 0, .string ⟨#[]⟩, .int .u64 0, .int .u64 0, .slice none 0 0, .slice none 0 0], .int .i64 1]) (by simp [results, Tryz.results16, go_sem, s0, s1, s2, s3, s4, s5, s6]) rfl ?_
    refine ⟨_, _, rfl, HB8.out, .inl ⟨?_, rfl, HE8.out⟩⟩
    exact fun h => h.2.elim (fun g => by have := HK1.out.2 g; rw [HB1.out] at this; simp at this) (fun g => by have := HK2.out.2 g; rw [HB2.out] at this; simp at this)
end
end Go.Proofs.YtmolpogehgeebaaGreat


