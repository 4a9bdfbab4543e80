/- A value read by a source. -/
import Derived.Test.YtchklaepilcbbaaGreatmP3
namespace Go.Proofs.YtchklaepilcbbaaGreat
open Go.RowKit
theorem put5 {w : World} {s g c k p : Nat} {A : Option Addr} {l : List UInt8} {bad : Bool} (u v : VP) (hS : Src w s g A c l k bad) (hx : Bx w p u.cells) (h1 : p ≠ s) (h2 : p ≠ g) :
    ∃ W, (((((w.setCell ⟨p, 0, none⟩ (.int .i64 v.k)).setCell ⟨p, 1, none⟩ (.bool v.b)).setCell ⟨p, 2, none⟩ (.int .i64 v.n)).setCell ⟨p, 3, none⟩ (.float .f64 v.f)).setCell ⟨p, 4, none⟩ (.string v.s)) = W ∧
      Src W s g A c l k bad ∧ Keeps (fun b => b = p) w W ∧ Bx W p v.cells := by
  have x0 := hx.set 0 (.int .i64 v.k) (by simp)
  have s0 := hS.put hx (plain_v u) h1 h2 0 (.int .i64 v.k)
  have x1 := x0.set 1 (.bool v.b) (by simp)
  have s1 := s0.put (C := (VP.mk v.k u.b u.n u.f u.s).cells) (x0.eq rfl) (plain_v _) h1 h2 1 (.bool v.b)
  have x2 := x1.set 2 (.int .i64 v.n) (by simp)
  have s2 := s1.put (C := (VP.mk v.k v.b u.n u.f u.s).cells) (x1.eq rfl) (plain_v _) h1 h2 2 (.int .i64 v.n)
  have x3 := x2.set 3 (.float .f64 v.f) (by simp)
  have s3 := s2.put (C := (VP.mk v.k v.b v.n u.f u.s).cells) (x2.eq rfl) (plain_v _) h1 h2 3 (.float .f64 v.f)
  have x4 := x3.set 4 (.string v.s) (by simp)
  have s4 := s3.put (C := (VP.mk v.k v.b v.n v.f u.s).cells) (x3.eq rfl) (plain_v _) h1 h2 4 (.string v.s)
  exact ⟨_, rfl, s4, (((((Keeps.refl (fun b => b = p) w).set ⟨p, 0, none⟩ _ rfl).set ⟨p, 1, none⟩ _ rfl).set ⟨p, 2, none⟩ _ rfl).set ⟨p, 3, none⟩ _ rfl).set ⟨p, 4, none⟩ _ rfl, x4.eq rfl⟩
theorem esz : (⟨#[]⟩ : ByteArray).size = 0 := rfl
/-- The table of closures. -/
abbrev vtab (p1 p3 : Nat) : Array Value := #[.func (.func 95) #[] #[], .func (.func 96) #[] #[.pointer (some ⟨p1, 0, none⟩), .pointer (some ⟨p3, 0, none⟩)], .func (.func 98) #[] #[.pointer (some ⟨p1, 0, none⟩), .pointer (some ⟨p3, 0, none⟩)], .func (.func 100) #[] #[.pointer (some ⟨p1, 0, none⟩), .pointer (some ⟨p3, 0, none⟩)], .func (.func 102) #[] #[.pointer (some ⟨p1, 0, none⟩), .pointer (some ⟨p3, 0, none⟩)], .func (.func 93) #[] #[.pointer (some ⟨p1, 0, none⟩), .pointer (some ⟨p3, 0, none⟩)], .func (.func 93) #[] #[.pointer (some ⟨p1, 0, none⟩), .pointer (some ⟨p3, 0, none⟩)]]
theorem fold_world {w' : World} {P : World → Prop} (h : P w') : ∃ W, w' = W ∧ P W := ⟨_, rfl, h⟩
section
set_option maxRecDepth 100000
set_option maxHeartbeats 4000000
theorem source_value (s g c k : Nat) (A : Option Addr) (l : List UInt8) (bad : Bool) (w : World) (h : Src w s g A c l k bad) :
    Calls Tryz.prog 46 #[.pointer (some ⟨s, 0, none⟩)] w fun e w' => ∃ v : VP, e = .returned v.val ∧ (0 ≤ v.k ∧ v.k ≤ 6) ∧ v.wide ∧ Tells VP.enc (fun v => v.may ∧ v.wide) s g A c l k bad v w w' := by
  have hsf := store_float
  have H := Lib.hid h
  have LS := Lib.hid h.lt
  have LG := Lib.hid h.ltg
  clear h
  go_enter Tryz.func46, Tryz.ntmps46
  go_upto_region 1 with fail
  have b01 : Below w.heap.size w ((w.alloc (.cells #[.pointer (some ⟨s, 0, none⟩)] 84)).alloc (.cells #[.int .i64 0, .bool false, .int .i64 0, .float .f64 0, .string ⟨#[]⟩] 24)) := ((Below.refl _ _).alloc (Nat.le_refl _) _).alloc (by simp) _
  have X1 := Lib.hid ((Bx.new w #[.pointer (some ⟨s, 0, none⟩)] 84).below ((Below.refl _ _).alloc (Nat.le_refl _) (.cells #[.int .i64 0, .bool false, .int .i64 0, .float .f64 0, .string ⟨#[]⟩] 24)))
  have X2 : Hid (Bx ((w.alloc (.cells #[.pointer (some ⟨s, 0, none⟩)] 84)).alloc (.cells #[.int .i64 0, .bool false, .int .i64 0, .float .f64 0, .string ⟨#[]⟩] 24)) (w.heap.size + 1) (VP.mk 0 false 0 0 ⟨#[]⟩).cells) := Lib.hid (by
    have := Bx.new (w.alloc (.cells #[.pointer (some ⟨s, 0, none⟩)] 84)) (VP.mk 0 false 0 0 ⟨#[]⟩).cells 24
    simpa using this)
  have S0 := Lib.hid (H.out.below b01)
  have F0 := Lib.hid (Far.of (s := s) (g := g) b01)
  clear b01
  have C := Lib.hid (Tells.kind s g c k 0 6 (by omega) (by omega) A l bad _ S0.out)
  go_upto_region 4 with (go_at_call 92; (refine (C.out).mono ?_); rintro e w1 ⟨n, rfl, hn, k1, b1, h1, h2, h3⟩; have HR := Lib.hid h3; have S1 := Lib.hid h1; have F1 := Lib.hid h2; have HN := Lib.hid hn; clear h1 h2 h3 hn)
  have N1 : Hid (w.heap.size ≠ s ∧ w.heap.size ≠ g ∧ w.heap.size + 1 ≠ s ∧ w.heap.size + 1 ≠ g) := Lib.hid (by have := LS.out; have := LG.out; omega)
  have Z1 : Hid (w.heap.size + 2 ≤ w1.heap.size) := Lib.hid (by have := F1.out.size; simpa using this)
  have N2 : Hid (w1.heap.size ≠ s ∧ w1.heap.size ≠ g ∧ w1.heap.size ≠ w.heap.size ∧ w1.heap.size ≠ w.heap.size + 1) := Lib.hid (by have := LS.out; have := LG.out; have := Z1.out; omega)
  have Y1 := Lib.hid (X1.out.far F1.out N1.out.1 N1.out.2.1)
  have Y2 := Lib.hid (X2.out.far F1.out N1.out.2.2.1 N1.out.2.2.2)
  have F2 := Lib.hid (F0.out.trans F1.out)
  clear X1 X2 S0 F0 F1 C H
  obtain ⟨W4, hW, s4, f4, x1, x2, x3, x5⟩ := fold_world (P := fun W => Src W s g A c l k1 b1 ∧ Far s g w W ∧ Bx W w.heap.size #[.pointer (some ⟨s, 0, none⟩)] ∧ Bx W (w.heap.size + 1) (VP.mk 0 false 0 0 ⟨#[]⟩).cells ∧ Bx W w1.heap.size (VP.mk n false 0 0 ⟨#[]⟩).cells ∧ Bx W (w1.heap.size + 1) (vtab w.heap.size w1.heap.size)) (w' := (w1.alloc (.cells (VP.mk n false 0 0 ⟨#[]⟩).cells 24)).alloc (.cells (vtab w.heap.size w1.heap.size) 127)) (by
    have b12 : Below w1.heap.size w1 ((w1.alloc (.cells (VP.mk n false 0 0 ⟨#[]⟩).cells 24)).alloc (.cells (vtab w.heap.size w1.heap.size) 127)) := ((Below.refl _ _).alloc (Nat.le_refl _) _).alloc (by simp) _
    exact ⟨S1.out.below b12, F2.out.trans (Far.of b12), Y1.out.below b12, Y2.out.below b12, (Bx.new w1 _ _).below ((Below.refl _ _).alloc (Nat.le_refl _) _), by
      have := Bx.new (w1.alloc (.cells (VP.mk n false 0 0 ⟨#[]⟩).cells 24)) (vtab w.heap.size w1.heap.size) 127
      simpa using this⟩)
  simp only [VP.cells, vtab] at hW
  rw [hW]
  have S4 := Lib.hid s4
  have F4 := Lib.hid f4
  have X1 := Lib.hid x1
  have X2 := Lib.hid x2
  have X3 := Lib.hid x3
  have X5 := Lib.hid x5
  clear hW s4 f4 x1 x2 x3 x5 Y1 Y2 F2 S1
  have hn := HN.out
  have hc : n = 0 ∨ n = 1 ∨ n = 2 ∨ n = 3 ∨ n = 4 ∨ n = 5 ∨ n = 6 := by omega
  clear hn
  have q1 := X1.out.c
  have q3 := X3.out.c
  have q5 := X5.out.c
  rcases hc with rfl | rfl | rfl | rfl | rfl | rfl | rfl
  case inl =>
    have f2 := X2.out.fr
    have q2 := X2.out.c
    as_aux_lemma =>
    go_wp2_with (first
      | (go_at_call 95; (refine (value_null _).mono ?_); rintro e w' ⟨rfl, rfl⟩))
    obtain ⟨W6, hW, s6, k6, x6⟩ := put5 _ (VP.mk 0 false 0 0 ⟨#[]⟩) S4.out X2.out N1.out.2.2.1 N1.out.2.2.2
    rw [hW]
    refine bodyPost_ret (v := (VP.mk 0 false 0 0 ⟨#[]⟩).val) (by simp [results, Tryz.results46, go_sem, x6.c]) rfl ?_
    exact ⟨_, rfl, by simp, by simp [VP.wide, fits, esz], _, _, s6, F4.out.then k6 (fun b hb e => by omega), reads_value (VP.mk 0 false 0 0 ⟨#[]⟩) HR.out body_null⟩
  case inr.inl =>
    have CL := Lib.hid (value_bool (VP.mk 1 false 0 0 ⟨#[]⟩) s g c k1 w.heap.size w1.heap.size A l b1 W4 S4.out (by have := q1 0; simpa using this) X3.out N2.out.1 N2.out.2.1)
    as_aux_lemma =>
    go_wp2_with (first
      | (go_at_call 96; (refine (CL.out).mono ?_); rintro e w5 ⟨rfl, x, hx, k2, b2, h1, h2, h3, h4⟩; have S5 := Lib.hid h1; have K5 := Lib.hid h2; have R5 := Lib.hid h4; have HX := Lib.hid hx; have X6 := Lib.hid (X2.out.keep h2 (by have := N1.out; have := N2.out; omega)); have f2 := X6.out.fr; have q2 := X6.out.c; have q6 := h3.c; clear h1 h2 h3 h4 hx))
    obtain ⟨W6, hW, s6, k6, x6⟩ := put5 _ (VP.mk 1 x 0 0 ⟨#[]⟩) S5.out X6.out N1.out.2.2.1 N1.out.2.2.2
    rw [hW]
    refine bodyPost_ret (v := VP.val (VP.mk 1 x 0 0 ⟨#[]⟩)) (by simp [results, Tryz.results46, go_sem, x6.c]) rfl ?_
    exact ⟨_, rfl, by simp, by have := HX.out; simp [VP.wide, fits, esz], _, _, s6, (F4.out.then K5.out (fun b hb e => by have := Z1.out; omega)).then k6 (fun b hb e => by omega), reads_value (VP.mk 1 x 0 0 ⟨#[]⟩) HR.out (body_bool R5.out)⟩
  case inr.inr.inl =>
    have CL := Lib.hid (value_int (VP.mk 2 false 0 0 ⟨#[]⟩) s g c k1 w.heap.size w1.heap.size A l b1 W4 S4.out (by have := q1 0; simpa using this) X3.out N2.out.1 N2.out.2.1)
    as_aux_lemma =>
    go_wp2_with (first
      | (go_at_call 98; (refine (CL.out).mono ?_); rintro e w5 ⟨rfl, x, hx, k2, b2, h1, h2, h3, h4⟩; have S5 := Lib.hid h1; have K5 := Lib.hid h2; have R5 := Lib.hid h4; have HX := Lib.hid hx; have X6 := Lib.hid (X2.out.keep h2 (by have := N1.out; have := N2.out; omega)); have f2 := X6.out.fr; have q2 := X6.out.c; have q6 := h3.c; clear h1 h2 h3 h4 hx))
    obtain ⟨W6, hW, s6, k6, x6⟩ := put5 _ (VP.mk 2 false x 0 ⟨#[]⟩) S5.out X6.out N1.out.2.2.1 N1.out.2.2.2
    rw [hW]
    refine bodyPost_ret (v := VP.val (VP.mk 2 false x 0 ⟨#[]⟩)) (by simp [results, Tryz.results46, go_sem, x6.c]) rfl ?_
    exact ⟨_, rfl, by simp, by have := HX.out; unfold fits at this; simp [VP.wide, fits, esz]; omega, _, _, s6, (F4.out.then K5.out (fun b hb e => by have := Z1.out; omega)).then k6 (fun b hb e => by omega), reads_value (VP.mk 2 false x 0 ⟨#[]⟩) HR.out (body_int R5.out)⟩
  case inr.inr.inr.inl =>
    have CL := Lib.hid (value_float (VP.mk 3 false 0 0 ⟨#[]⟩) s g c k1 w.heap.size w1.heap.size A l b1 W4 S4.out (by have := q1 0; simpa using this) X3.out N2.out.1 N2.out.2.1)
    as_aux_lemma =>
    go_wp2_with (first
      | (go_at_call 100; (refine (CL.out).mono ?_); rintro e w5 ⟨rfl, x, hx, k2, b2, h1, h2, h3, h4⟩; have S5 := Lib.hid h1; have K5 := Lib.hid h2; have R5 := Lib.hid h4; have HX := Lib.hid hx; have X6 := Lib.hid (X2.out.keep h2 (by have := N1.out; have := N2.out; omega)); have f2 := X6.out.fr; have q2 := X6.out.c; have q6 := h3.c; clear h1 h2 h3 h4 hx))
    obtain ⟨W6, hW, s6, k6, x6⟩ := put5 _ (VP.mk 3 false 0 x ⟨#[]⟩) S5.out X6.out N1.out.2.2.1 N1.out.2.2.2
    rw [hW]
    refine bodyPost_ret (v := VP.val (VP.mk 3 false 0 x ⟨#[]⟩)) (by simp [results, Tryz.results46, go_sem, x6.c]) rfl ?_
    exact ⟨_, rfl, by simp, by have := HX.out; simp [VP.wide, fits, esz]; omega, _, _, s6, (F4.out.then K5.out (fun b hb e => by have := Z1.out; omega)).then k6 (fun b hb e => by omega), reads_value (VP.mk 3 false 0 x ⟨#[]⟩) HR.out (body_float R5.out)⟩
  case inr.inr.inr.inr.inl =>
    have CL := Lib.hid (value_str (VP.mk 4 false 0 0 ⟨#[]⟩) s g c k1 w.heap.size w1.heap.size A l b1 W4 S4.out (by have := q1 0; simpa using this) X3.out N2.out.1 N2.out.2.1)
    as_aux_lemma =>
    go_wp2_with (first
      | (go_at_call 102; (refine (CL.out).mono ?_); rintro e w5 ⟨rfl, x, hx, k2, b2, h1, h2, h3, h4⟩; have S5 := Lib.hid h1; have K5 := Lib.hid h2; have R5 := Lib.hid h4; have HX := Lib.hid hx; have X6 := Lib.hid (X2.out.keep h2 (by have := N1.out; have := N2.out; omega)); have f2 := X6.out.fr; have q2 := X6.out.c; have q6 := h3.c; clear h1 h2 h3 h4 hx))
    obtain ⟨W6, hW, s6, k6, x6⟩ := put5 _ (VP.mk 4 false 0 0 x) S5.out X6.out N1.out.2.2.1 N1.out.2.2.2
    rw [hW]
    refine bodyPost_ret (v := VP.val (VP.mk 4 false 0 0 x)) (by simp [results, Tryz.results46, go_sem, x6.c]) rfl ?_
    exact ⟨_, rfl, by simp, by have := HX.out; simp [VP.wide, fits, maxLen]; omega, _, _, s6, (F4.out.then K5.out (fun b hb e => by have := Z1.out; omega)).then k6 (fun b hb e => by omega), reads_value (VP.mk 4 false 0 0 x) HR.out (body_str R5.out)⟩
  case inr.inr.inr.inr.inr.inl =>
    have CL := Lib.hid (value_id (VP.mk 5 false 0 0 ⟨#[]⟩) s g c k1 w.heap.size w1.heap.size A l b1 W4 S4.out (by have := q1 0; simpa using this) X3.out N2.out.1 N2.out.2.1)
    as_aux_lemma =>
    go_wp2_with (first
      | (go_at_call 93; (refine (CL.out).mono ?_); rintro e w5 ⟨rfl, x, hx, k2, b2, h1, h2, h3, h4⟩; have S5 := Lib.hid h1; have K5 := Lib.hid h2; have R5 := Lib.hid h4; have HX := Lib.hid hx; have X6 := Lib.hid (X2.out.keep h2 (by have := N1.out; have := N2.out; omega)); have f2 := X6.out.fr; have q2 := X6.out.c; have q6 := h3.c; clear h1 h2 h3 h4 hx))
    obtain ⟨W6, hW, s6, k6, x6⟩ := put5 _ (VP.mk 5 false (x : Int) 0 ⟨#[]⟩) S5.out X6.out N1.out.2.2.1 N1.out.2.2.2
    rw [hW]
    refine bodyPost_ret (v := VP.val (VP.mk 5 false (x : Int) 0 ⟨#[]⟩)) (by simp [results, Tryz.results46, go_sem, x6.c]) rfl ?_
    exact ⟨_, rfl, by simp, by have := HX.out; simp [VP.wide, fits, esz]; omega, _, _, s6, (F4.out.then K5.out (fun b hb e => by have := Z1.out; omega)).then k6 (fun b hb e => by omega), reads_value (VP.mk 5 false (x : Int) 0 ⟨#[]⟩) HR.out (body_id (.inl rfl) R5.out)⟩
  case inr.inr.inr.inr.inr.inr =>
    have CL := Lib.hid (value_id (VP.mk 6 false 0 0 ⟨#[]⟩) s g c k1 w.heap.size w1.heap.size A l b1 W4 S4.out (by have := q1 0; simpa using this) X3.out N2.out.1 N2.out.2.1)
    as_aux_lemma =>
    go_wp2_with (first
      | (go_at_call 93; (refine (CL.out).mono ?_); rintro e w5 ⟨rfl, x, hx, k2, b2, h1, h2, h3, h4⟩; have S5 := Lib.hid h1; have K5 := Lib.hid h2; have R5 := Lib.hid h4; have HX := Lib.hid hx; have X6 := Lib.hid (X2.out.keep h2 (by have := N1.out; have := N2.out; omega)); have f2 := X6.out.fr; have q2 := X6.out.c; have q6 := h3.c; clear h1 h2 h3 h4 hx))
    obtain ⟨W6, hW, s6, k6, x6⟩ := put5 _ (VP.mk 6 false (x : Int) 0 ⟨#[]⟩) S5.out X6.out N1.out.2.2.1 N1.out.2.2.2
    rw [hW]
    refine bodyPost_ret (v := VP.val (VP.mk 6 false (x : Int) 0 ⟨#[]⟩)) (by simp [results, Tryz.results46, go_sem, x6.c]) rfl ?_
    exact ⟨_, rfl, by simp, by have := HX.out; simp [VP.wide, fits, esz]; omega, _, _, s6, (F4.out.then K5.out (fun b hb e => by have := Z1.out; omega)).then k6 (fun b hb e => by omega), reads_value (VP.mk 6 false (x : Int) 0 ⟨#[]⟩) HR.out (body_id (.inr rfl) R5.out)⟩
end
end Go.Proofs.YtchklaepilcbbaaGreat
