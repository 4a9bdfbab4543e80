/- The form of an operation. -/
import Derived.Test.YtchklaepilcbbaaGreatmY7
import Derived.Great.BuildSlice
namespace Go.Proofs.YtchklaepilcbbaaGreat
open Go.RowKit
theorem flag_bel (b : Bool) (w : World) : Calls Tryz.prog 82 #[.bool b] w fun e w' => e = .returned (.int .u8 ((bit8 b).toNat : Int)) ∧ Below w.heap.size w w' :=
  (flag_any b w).mono fun _ _ ⟨e, h⟩ => ⟨e, h ▸ Below.refl _ _⟩
theorem gs_two (w : World) (x y : Int) (a b : UInt8) (hx : x = (a.toNat : Int)) (hy : y = (b.toNat : Int)) : GS (w.alloc (.cells #[.int .u8 x, .int .u8 y] 5)) (.slice (some ⟨w.heap.size, 0, none⟩) 2 2) [a, b] :=
  ⟨_, _, rfl, at_new _ _ _ (by rw [hx, hy]; rfl), fun h => by cases h⟩
theorem drew_bel {w0 w : World} (h : Below w0.heap.size w0 w) : Below w0.heap.size w0 w.drew := h.drew
theorem GS.drew {w : World} {v : Value} {l : List UInt8} (h : GS w v l) : GS w.drew v l := h.below (Below.refl _ _).drew
theorem str_len (s : ByteArray) : (encStr s).length ≤ 2 * s.size + 2 := by
  have := (escT_length s.data.toList).2
  unfold encStr encText
  simp at this ⊢
  omega
theorem int_len (n : Int) (h : fits n) : (encInt n).length ≤ 9 := by
  unfold fits at h
  rcases Int.lt_or_le n 0 with h0 | h0
  · obtain ⟨m, hm⟩ : ∃ m : Nat, n = -(m : Int) - 1 := ⟨(-n - 1).toNat, by omega⟩
    subst hm
    have := nlen_8 m (by omega)
    rw [encInt_neg]; simp [flip8_length, digs_length]; omega
  · obtain ⟨m, rfl⟩ := Int.eq_ofNat_of_zero_le h0
    have := nlen_8 m (by omega)
    rw [encInt_pos]; simp [digs_length]; omega
theorem enc_len {v : VP} (h : v.may) (hw : v.wide) : v.enc.length ≤ 100 := by
  obtain ⟨k, b, n, f, s⟩ := v
  unfold VP.may MayV at h
  unfold VP.wide at hw
  simp only at h hw
  have h1 := int_len n hw.2.1
  have h2 := str_len s
  unfold encStr at h2
  have hk : k = 0 ∨ k = 1 ∨ k = 2 ∨ k = 3 ∨ k = 4 ∨ k = 5 ∨ k = 6 := by omega
  rcases hk with rfl | rfl | rfl | rfl | rfl | rfl | rfl
  · simp [VP.enc, VP.body]
  · simp [VP.enc, VP.body]
  · simp [VP.enc, VP.body]; omega
  · simp [VP.enc, VP.body, encFloat, digs_length]
  · simp at h; simp [VP.enc, VP.body]; omega
  · simp at h
    have := encNum_length n.toNat (by omega)
    simp [VP.enc, VP.body]; omega
  · simp at h
    have := encNum_length n.toNat (by omega)
    simp [VP.enc, VP.body]; omega
section
set_option maxRecDepth 100000
set_option maxHeartbeats 4000000
theorem opBytes_1 (edge : Bool) (id : Nat) (label : ByteArray) (fr til : Nat) (key : ByteArray) (k : Int) (b : Bool) (n : Int) (f : Nat) (s : ByteArray) (pf pt : Nat) (w : World) (hid : id < 2 ^ 64) (hpf : pf < 2 ^ 64) (hpt : pt < 2 ^ 64) (hl : label.size ≤ 16) :
    Calls Tryz.prog 57 #[OP.val ⟨1, edge, id, label, fr, til, key, ⟨k, b, n, f, s⟩, pf, pt⟩] w fun e w' => ∃ u, e = .returned u ∧ St w w' u (1 :: bit8 edge :: (encNum id ++ (encStr label ++ (encNum pf ++ encNum pt)))) := by
  have CF := Lib.hid (fun W => flag_bel edge W)
  have HN := Lib.hid (And.intro hid (And.intro hpf hpt))
  have N1 := Lib.hid (encNum_length id hid)
  have N2 := Lib.hid (encNum_length pf hpf)
  have TX := Lib.hid (str_len label)
  have HL := Lib.hid (show label.size ≤ 40 by omega)
  clear hl
  obtain ⟨x8, hx8⟩ : ∃ x : Int, x = ((bit8 edge).toNat : Int) := ⟨_, rfl⟩
  rw [← hx8] at CF
  have HX8 := Lib.hid hx8
  clear hid hpf hpt hx8
  go_enter Tryz.func57, Tryz.ntmps57
  go_upto_region 1 with fail
  have X0 := Lib.hid (Bx.new w (OP.cells ⟨1, edge, id, label, fr, til, key, ⟨k, b, n, f, s⟩, pf, pt⟩) 43)
  have HB0 := Lib.hid ((Below.refl w.heap.size w).alloc (Nat.le_refl _) (.cells (OP.cells ⟨1, edge, id, label, fr, til, key, ⟨k, b, n, f, s⟩, pf, pt⟩) 43))
  obtain ⟨W, hW⟩ : ∃ W, w.alloc (.cells (OP.cells ⟨1, edge, id, label, fr, til, key, ⟨k, b, n, f, s⟩, pf, pt⟩) 43) = W := ⟨_, rfl⟩
  rw [hW] at X0 HB0 ⊢
  clear hW
  have K0 := Lib.hid (fun (w' : World) (hb : Below W.heap.size W w') => (X0.out.below hb).c)
  go_region_held3 (fun w' => ∀ j, w'.cell? ⟨w.heap.size, j, none⟩ = (OP.cells ⟨1, edge, id, label, fr, til, key, ⟨k, b, n, f, s⟩, pf, pt⟩)[j]?) (first
      | exact K0.out _ (Below.refl _ _).drew
      | exact K0.out _ HU1.out
      | exact K0.out _ (HU1.out.alloc HU1.out.size _)
      | exact K0.out _ S1.out.bel
      | fail) (first
    | (go_at_call 82; (with_reducible refine (CF.out _).mono ?_); rintro e1 w4 ⟨rfl, b4⟩; have HU1 := Lib.hid (show Below W.heap.size W w4 from (Below.refl _ _).drew.trans b4); clear b4)
    | (go_at_call 86; (refine (NumS (w0 := W) id (HU1.out.alloc HU1.out.size _) HN.out.1 (gs_two _ _ _ 1 (bit8 edge) rfl HX8.out) (by simp)).mono ?_); rintro e1 w5 ⟨v1, rfl, h1⟩; have S1 := Lib.hid h1; clear h1)
    | fail)
  go_upto_region 10 with (go_at_call 85; (with_reducible refine (TextS (w0 := W) label S1.out.bel S1.out.gs HL.out (by have := N1.out; simp; omega)).mono ?_); rintro e1 w6 ⟨v2, rfl, h1⟩; have S2 := Lib.hid h1; have q2 := K0.out _ h1.bel; clear h1)
  go_region_held3 (fun w' => ∀ j, w'.cell? ⟨w.heap.size, j, none⟩ = (OP.cells ⟨1, edge, id, label, fr, til, key, ⟨k, b, n, f, s⟩, pf, pt⟩)[j]?) (first
      | exact K0.out _ (drew_bel S2.out.bel)
      | exact K0.out _ E1.out.bel
      | exact K0.out _ E2.out.bel
      | fail) (first
    | (go_at_call 86; (with_reducible refine (NumS (w0 := W) pf (drew_bel S2.out.bel) HN.out.2.1 ((S2.out.gs).drew) (by have := TX.out; have := N1.out; have := HL.out; simp; omega)).mono ?_); rintro e1 wE1 ⟨vE1, rfl, h1⟩; have E1 := Lib.hid h1; clear h1)
    | (go_at_call 86; (with_reducible refine (NumS (w0 := W) pt E1.out.bel HN.out.2.2 (E1.out.gs) (by have := TX.out; have := N1.out; have := HL.out; have := N2.out; simp; omega)).mono ?_); rintro e1 wE2 ⟨vE2, rfl, h1⟩; have E2 := Lib.hid h1; clear h1)
    | fail)
  go_wp2
  go_ret
  exact ⟨_, rfl, St.of HB0.out (E2.out.eq (by simp))⟩
theorem opBytes_2 (edge : Bool) (id : Nat) (label : ByteArray) (fr til : Nat) (key : ByteArray) (k : Int) (b : Bool) (n : Int) (f : Nat) (s : ByteArray) (pf pt : Nat) (w : World) (hid : id < 2 ^ 64) (hpf : pf < 2 ^ 64) (hpt : pt < 2 ^ 64) (hl : label.size ≤ 16) (hfr : fr < 2 ^ 64) (htil : til < 2 ^ 64) :
    Calls Tryz.prog 57 #[OP.val ⟨2, edge, id, label, fr, til, key, ⟨k, b, n, f, s⟩, pf, pt⟩] w fun e w' => ∃ u, e = .returned u ∧ St w w' u (2 :: bit8 edge :: (encNum id ++ ((encStr label ++ (encNum fr ++ encNum til)) ++ (encNum pf ++ encNum pt)))) := by
  have CF := Lib.hid (fun W => flag_bel edge W)
  have HN := Lib.hid (And.intro hid (And.intro hpf hpt))
  have N1 := Lib.hid (encNum_length id hid)
  have N2 := Lib.hid (encNum_length pf hpf)
  have N3 := Lib.hid (encNum_length fr hfr)
  have N4 := Lib.hid (encNum_length til htil)
  have TX := Lib.hid (str_len label)
  have HL := Lib.hid (show label.size ≤ 40 by omega)
  have HF := Lib.hid (And.intro hfr htil)
  clear hl hfr htil
  obtain ⟨x8, hx8⟩ : ∃ x : Int, x = ((bit8 edge).toNat : Int) := ⟨_, rfl⟩
  rw [← hx8] at CF
  have HX8 := Lib.hid hx8
  clear hid hpf hpt hx8
  go_enter Tryz.func57, Tryz.ntmps57
  go_upto_region 1 with fail
  have X0 := Lib.hid (Bx.new w (OP.cells ⟨2, edge, id, label, fr, til, key, ⟨k, b, n, f, s⟩, pf, pt⟩) 43)
  have HB0 := Lib.hid ((Below.refl w.heap.size w).alloc (Nat.le_refl _) (.cells (OP.cells ⟨2, edge, id, label, fr, til, key, ⟨k, b, n, f, s⟩, pf, pt⟩) 43))
  obtain ⟨W, hW⟩ : ∃ W, w.alloc (.cells (OP.cells ⟨2, edge, id, label, fr, til, key, ⟨k, b, n, f, s⟩, pf, pt⟩) 43) = W := ⟨_, rfl⟩
  rw [hW] at X0 HB0 ⊢
  clear hW
  have K0 := Lib.hid (fun (w' : World) (hb : Below W.heap.size W w') => (X0.out.below hb).c)
  go_region_held3 (fun w' => ∀ j, w'.cell? ⟨w.heap.size, j, none⟩ = (OP.cells ⟨2, edge, id, label, fr, til, key, ⟨k, b, n, f, s⟩, pf, pt⟩)[j]?) (first
      | exact K0.out _ (Below.refl _ _).drew
      | exact K0.out _ HU1.out
      | exact K0.out _ (HU1.out.alloc HU1.out.size _)
      | exact K0.out _ S1.out.bel
      | fail) (first
    | (go_at_call 82; (with_reducible refine (CF.out _).mono ?_); rintro e1 w4 ⟨rfl, b4⟩; have HU1 := Lib.hid (show Below W.heap.size W w4 from (Below.refl _ _).drew.trans b4); clear b4)
    | (go_at_call 86; (refine (NumS (w0 := W) id (HU1.out.alloc HU1.out.size _) HN.out.1 (gs_two _ _ _ 2 (bit8 edge) rfl HX8.out) (by simp)).mono ?_); rintro e1 w5 ⟨v1, rfl, h1⟩; have S1 := Lib.hid h1; clear h1)
    | fail)
  go_upto_region 7 with (go_at_call 85; (with_reducible refine (TextS (w0 := W) label S1.out.bel S1.out.gs HL.out (by have := N1.out; simp; omega)).mono ?_); rintro e1 w6 ⟨v2, rfl, h1⟩; have S2 := Lib.hid h1; have q2 := K0.out _ h1.bel; clear h1)
  go_region_held3 (fun w' => ∀ j, w'.cell? ⟨w.heap.size, j, none⟩ = (OP.cells ⟨2, edge, id, label, fr, til, key, ⟨k, b, n, f, s⟩, pf, pt⟩)[j]?) (first
      | exact K0.out _ (drew_bel S2.out.bel)
      | exact K0.out _ A1.out.bel
      | exact K0.out _ A2.out.bel
      | fail) (first
    | (go_at_call 86; (with_reducible refine (NumS (w0 := W) fr (drew_bel S2.out.bel) HF.out.1 ((S2.out.gs).drew) (by have := TX.out; have := N1.out; have := HL.out; simp; omega)).mono ?_); rintro e1 wA1 ⟨vA1, rfl, h1⟩; have A1 := Lib.hid h1; clear h1)
    | (go_at_call 86; (with_reducible refine (NumS (w0 := W) til A1.out.bel HF.out.2 (A1.out.gs) (by have := TX.out; have := N1.out; have := HL.out; have := N3.out; simp; omega)).mono ?_); rintro e1 wA2 ⟨vA2, rfl, h1⟩; have A2 := Lib.hid h1; clear h1)
    | fail)
  go_upto_region 10 with fail
  go_region_held3 (fun w' => ∀ j, w'.cell? ⟨w.heap.size, j, none⟩ = (OP.cells ⟨2, edge, id, label, fr, til, key, ⟨k, b, n, f, s⟩, pf, pt⟩)[j]?) (first
      | exact K0.out _ (drew_bel A2.out.bel)
      | exact K0.out _ E1.out.bel
      | exact K0.out _ E2.out.bel
      | fail) (first
    | (go_at_call 86; (with_reducible refine (NumS (w0 := W) pf (drew_bel A2.out.bel) HN.out.2.1 ((A2.out.gs).drew) (by have := TX.out; have := N1.out; have := HL.out; have := N3.out; have := N4.out; simp; omega)).mono ?_); rintro e1 wE1 ⟨vE1, rfl, h1⟩; have E1 := Lib.hid h1; clear h1)
    | (go_at_call 86; (with_reducible refine (NumS (w0 := W) pt E1.out.bel HN.out.2.2 (E1.out.gs) (by have := TX.out; have := N1.out; have := HL.out; have := N3.out; have := N4.out; have := N2.out; simp; omega)).mono ?_); rintro e1 wE2 ⟨vE2, rfl, h1⟩; have E2 := Lib.hid h1; clear h1)
    | fail)
  go_wp2
  go_ret
  exact ⟨_, rfl, St.of HB0.out (E2.out.eq (by simp))⟩
theorem opBytes_3 (edge : Bool) (id : Nat) (label : ByteArray) (fr til : Nat) (key : ByteArray) (k : Int) (b : Bool) (n : Int) (f : Nat) (s : ByteArray) (pf pt : Nat) (w : World) (hid : id < 2 ^ 64) (hpf : pf < 2 ^ 64) (hpt : pt < 2 ^ 64) :
    Calls Tryz.prog 57 #[OP.val ⟨3, edge, id, label, fr, til, key, ⟨k, b, n, f, s⟩, pf, pt⟩] w fun e w' => ∃ u, e = .returned u ∧ St w w' u (3 :: bit8 edge :: (encNum id ++ ([] ++ (encNum pf ++ encNum pt)))) := by
  have CF := Lib.hid (fun W => flag_bel edge W)
  have HN := Lib.hid (And.intro hid (And.intro hpf hpt))
  have N1 := Lib.hid (encNum_length id hid)
  have N2 := Lib.hid (encNum_length pf hpf)
  obtain ⟨x8, hx8⟩ : ∃ x : Int, x = ((bit8 edge).toNat : Int) := ⟨_, rfl⟩
  rw [← hx8] at CF
  have HX8 := Lib.hid hx8
  clear hid hpf hpt hx8
  go_enter Tryz.func57, Tryz.ntmps57
  go_upto_region 1 with fail
  have X0 := Lib.hid (Bx.new w (OP.cells ⟨3, edge, id, label, fr, til, key, ⟨k, b, n, f, s⟩, pf, pt⟩) 43)
  have HB0 := Lib.hid ((Below.refl w.heap.size w).alloc (Nat.le_refl _) (.cells (OP.cells ⟨3, edge, id, label, fr, til, key, ⟨k, b, n, f, s⟩, pf, pt⟩) 43))
  obtain ⟨W, hW⟩ : ∃ W, w.alloc (.cells (OP.cells ⟨3, edge, id, label, fr, til, key, ⟨k, b, n, f, s⟩, pf, pt⟩) 43) = W := ⟨_, rfl⟩
  rw [hW] at X0 HB0 ⊢
  clear hW
  have K0 := Lib.hid (fun (w' : World) (hb : Below W.heap.size W w') => (X0.out.below hb).c)
  go_region_held3 (fun w' => ∀ j, w'.cell? ⟨w.heap.size, j, none⟩ = (OP.cells ⟨3, edge, id, label, fr, til, key, ⟨k, b, n, f, s⟩, pf, pt⟩)[j]?) (first
      | exact K0.out _ (Below.refl _ _).drew
      | exact K0.out _ HU1.out
      | exact K0.out _ (HU1.out.alloc HU1.out.size _)
      | exact K0.out _ S1.out.bel
      | fail) (first
    | (go_at_call 82; (with_reducible refine (CF.out _).mono ?_); rintro e1 w4 ⟨rfl, b4⟩; have HU1 := Lib.hid (show Below W.heap.size W w4 from (Below.refl _ _).drew.trans b4); clear b4)
    | (go_at_call 86; (refine (NumS (w0 := W) id (HU1.out.alloc HU1.out.size _) HN.out.1 (gs_two _ _ _ 3 (bit8 edge) rfl HX8.out) (by simp)).mono ?_); rintro e1 w5 ⟨v1, rfl, h1⟩; have S1 := Lib.hid h1; clear h1)
    | fail)
  go_upto_region 10 with fail
  go_region_held3 (fun w' => ∀ j, w'.cell? ⟨w.heap.size, j, none⟩ = (OP.cells ⟨3, edge, id, label, fr, til, key, ⟨k, b, n, f, s⟩, pf, pt⟩)[j]?) (first
      | exact K0.out _ (drew_bel S1.out.bel)
      | exact K0.out _ E1.out.bel
      | exact K0.out _ E2.out.bel
      | fail) (first
    | (go_at_call 86; (with_reducible refine (NumS (w0 := W) pf (drew_bel S1.out.bel) HN.out.2.1 ((S1.out.gs).drew) (by have := N1.out; simp; omega)).mono ?_); rintro e1 wE1 ⟨vE1, rfl, h1⟩; have E1 := Lib.hid h1; clear h1)
    | (go_at_call 86; (with_reducible refine (NumS (w0 := W) pt E1.out.bel HN.out.2.2 (E1.out.gs) (by have := N1.out; have := N2.out; simp; omega)).mono ?_); rintro e1 wE2 ⟨vE2, rfl, h1⟩; have E2 := Lib.hid h1; clear h1)
    | fail)
  go_wp2
  go_ret
  exact ⟨_, rfl, St.of HB0.out (E2.out.eq (by simp))⟩
theorem opBytes_4 (edge : Bool) (id : Nat) (label : ByteArray) (fr til : Nat) (key : ByteArray) (k : Int) (b : Bool) (n : Int) (f : Nat) (s : ByteArray) (pf pt : Nat) (w : World) (hid : id < 2 ^ 64) (hpf : pf < 2 ^ 64) (hpt : pt < 2 ^ 64) :
    Calls Tryz.prog 57 #[OP.val ⟨4, edge, id, label, fr, til, key, ⟨k, b, n, f, s⟩, pf, pt⟩] w fun e w' => ∃ u, e = .returned u ∧ St w w' u (4 :: bit8 edge :: (encNum id ++ ([] ++ (encNum pf ++ encNum pt)))) := by
  have CF := Lib.hid (fun W => flag_bel edge W)
  have HN := Lib.hid (And.intro hid (And.intro hpf hpt))
  have N1 := Lib.hid (encNum_length id hid)
  have N2 := Lib.hid (encNum_length pf hpf)
  obtain ⟨x8, hx8⟩ : ∃ x : Int, x = ((bit8 edge).toNat : Int) := ⟨_, rfl⟩
  rw [← hx8] at CF
  have HX8 := Lib.hid hx8
  clear hid hpf hpt hx8
  go_enter Tryz.func57, Tryz.ntmps57
  go_upto_region 1 with fail
  have X0 := Lib.hid (Bx.new w (OP.cells ⟨4, edge, id, label, fr, til, key, ⟨k, b, n, f, s⟩, pf, pt⟩) 43)
  have HB0 := Lib.hid ((Below.refl w.heap.size w).alloc (Nat.le_refl _) (.cells (OP.cells ⟨4, edge, id, label, fr, til, key, ⟨k, b, n, f, s⟩, pf, pt⟩) 43))
  obtain ⟨W, hW⟩ : ∃ W, w.alloc (.cells (OP.cells ⟨4, edge, id, label, fr, til, key, ⟨k, b, n, f, s⟩, pf, pt⟩) 43) = W := ⟨_, rfl⟩
  rw [hW] at X0 HB0 ⊢
  clear hW
  have K0 := Lib.hid (fun (w' : World) (hb : Below W.heap.size W w') => (X0.out.below hb).c)
  go_region_held3 (fun w' => ∀ j, w'.cell? ⟨w.heap.size, j, none⟩ = (OP.cells ⟨4, edge, id, label, fr, til, key, ⟨k, b, n, f, s⟩, pf, pt⟩)[j]?) (first
      | exact K0.out _ (Below.refl _ _).drew
      | exact K0.out _ HU1.out
      | exact K0.out _ (HU1.out.alloc HU1.out.size _)
      | exact K0.out _ S1.out.bel
      | fail) (first
    | (go_at_call 82; (with_reducible refine (CF.out _).mono ?_); rintro e1 w4 ⟨rfl, b4⟩; have HU1 := Lib.hid (show Below W.heap.size W w4 from (Below.refl _ _).drew.trans b4); clear b4)
    | (go_at_call 86; (refine (NumS (w0 := W) id (HU1.out.alloc HU1.out.size _) HN.out.1 (gs_two _ _ _ 4 (bit8 edge) rfl HX8.out) (by simp)).mono ?_); rintro e1 w5 ⟨v1, rfl, h1⟩; have S1 := Lib.hid h1; clear h1)
    | fail)
  go_upto_region 10 with fail
  go_region_held3 (fun w' => ∀ j, w'.cell? ⟨w.heap.size, j, none⟩ = (OP.cells ⟨4, edge, id, label, fr, til, key, ⟨k, b, n, f, s⟩, pf, pt⟩)[j]?) (first
      | exact K0.out _ (drew_bel S1.out.bel)
      | exact K0.out _ E1.out.bel
      | exact K0.out _ E2.out.bel
      | fail) (first
    | (go_at_call 86; (with_reducible refine (NumS (w0 := W) pf (drew_bel S1.out.bel) HN.out.2.1 ((S1.out.gs).drew) (by have := N1.out; simp; omega)).mono ?_); rintro e1 wE1 ⟨vE1, rfl, h1⟩; have E1 := Lib.hid h1; clear h1)
    | (go_at_call 86; (with_reducible refine (NumS (w0 := W) pt E1.out.bel HN.out.2.2 (E1.out.gs) (by have := N1.out; have := N2.out; simp; omega)).mono ?_); rintro e1 wE2 ⟨vE2, rfl, h1⟩; have E2 := Lib.hid h1; clear h1)
    | fail)
  go_wp2
  go_ret
  exact ⟨_, rfl, St.of HB0.out (E2.out.eq (by simp))⟩
theorem opBytes_5 (edge : Bool) (id : Nat) (label : ByteArray) (fr til : Nat) (key : ByteArray) (k : Int) (b : Bool) (n : Int) (f : Nat) (s : ByteArray) (pf pt : Nat) (w : World) (hid : id < 2 ^ 64) (hpf : pf < 2 ^ 64) (hpt : pt < 2 ^ 64) (hl : key.size ≤ 16) (hm : VP.may ⟨k, b, n, f, s⟩) (hw : VP.wide ⟨k, b, n, f, s⟩) :
    Calls Tryz.prog 57 #[OP.val ⟨5, edge, id, label, fr, til, key, ⟨k, b, n, f, s⟩, pf, pt⟩] w fun e w' => ∃ u, e = .returned u ∧ St w w' u (5 :: bit8 edge :: (encNum id ++ ((encStr key ++ VP.enc ⟨k, b, n, f, s⟩) ++ (encNum pf ++ encNum pt)))) := by
  have CF := Lib.hid (fun W => flag_bel edge W)
  have HN := Lib.hid (And.intro hid (And.intro hpf hpt))
  have N1 := Lib.hid (encNum_length id hid)
  have N2 := Lib.hid (encNum_length pf hpf)
  have TX := Lib.hid (str_len key)
  have HL := Lib.hid (show key.size ≤ 40 by omega)
  have HV := Lib.hid (And.intro hm hw)
  have CV := Lib.hid (fun W => valueBytes_any ⟨k, b, n, f, s⟩ hm hw W)
  have LV := Lib.hid (enc_len hm hw)
  clear hl hm hw
  obtain ⟨x8, hx8⟩ : ∃ x : Int, x = ((bit8 edge).toNat : Int) := ⟨_, rfl⟩
  rw [← hx8] at CF
  have HX8 := Lib.hid hx8
  clear hid hpf hpt hx8
  go_enter Tryz.func57, Tryz.ntmps57
  go_upto_region 1 with fail
  have X0 := Lib.hid (Bx.new w (OP.cells ⟨5, edge, id, label, fr, til, key, ⟨k, b, n, f, s⟩, pf, pt⟩) 43)
  have HB0 := Lib.hid ((Below.refl w.heap.size w).alloc (Nat.le_refl _) (.cells (OP.cells ⟨5, edge, id, label, fr, til, key, ⟨k, b, n, f, s⟩, pf, pt⟩) 43))
  obtain ⟨W, hW⟩ : ∃ W, w.alloc (.cells (OP.cells ⟨5, edge, id, label, fr, til, key, ⟨k, b, n, f, s⟩, pf, pt⟩) 43) = W := ⟨_, rfl⟩
  rw [hW] at X0 HB0 ⊢
  clear hW
  have K0 := Lib.hid (fun (w' : World) (hb : Below W.heap.size W w') => (X0.out.below hb).c)
  go_region_held3 (fun w' => ∀ j, w'.cell? ⟨w.heap.size, j, none⟩ = (OP.cells ⟨5, edge, id, label, fr, til, key, ⟨k, b, n, f, s⟩, pf, pt⟩)[j]?) (first
      | exact K0.out _ (Below.refl _ _).drew
      | exact K0.out _ HU1.out
      | exact K0.out _ (HU1.out.alloc HU1.out.size _)
      | exact K0.out _ S1.out.bel
      | fail) (first
    | (go_at_call 82; (with_reducible refine (CF.out _).mono ?_); rintro e1 w4 ⟨rfl, b4⟩; have HU1 := Lib.hid (show Below W.heap.size W w4 from (Below.refl _ _).drew.trans b4); clear b4)
    | (go_at_call 86; (refine (NumS (w0 := W) id (HU1.out.alloc HU1.out.size _) HN.out.1 (gs_two _ _ _ 5 (bit8 edge) rfl HX8.out) (by simp)).mono ?_); rintro e1 w5 ⟨v1, rfl, h1⟩; have S1 := Lib.hid h1; clear h1)
    | fail)
  go_upto_region 9 with fail
  have LB := Lib.hid (show ([5, bit8 edge] ++ encNum id ++ encStr key).length + (VP.enc ⟨k, b, n, f, s⟩).length ≤ 140737488355328 by have := TX.out; have := N1.out; have := LV.out; have := HL.out; simp; omega)
  go_region_held3 (fun w' => ∀ j, w'.cell? ⟨w.heap.size, j, none⟩ = (OP.cells ⟨5, edge, id, label, fr, til, key, ⟨k, b, n, f, s⟩, pf, pt⟩)[j]?) (first
      | exact K0.out _ (drew_bel S1.out.bel)
      | exact K0.out _ S2.out.bel
      | exact K0.out _ A1.out.bel
      | exact K0.out _ A2.out.bel
      | fail) (first
    | (go_at_call 85; (with_reducible refine (TextS (w0 := W) key (drew_bel S1.out.bel) (S1.out.gs.drew) HL.out (by have := N1.out; simp; omega)).mono ?_); rintro e1 w6 ⟨v2, rfl, h1⟩; have S2 := Lib.hid h1; clear h1)
    | (go_at_call 38; (with_reducible refine (CV.out _).mono ?_); rintro e1 w7 ⟨v3, rfl, h1⟩; have A1 := Lib.hid (S2.out.next h1.bel)
       obtain ⟨Z, c, rfl, hZ, hz⟩ := h1.own.gs
       have HZ := Lib.hid (And.intro hZ hz); clear h1 hZ hz)
    | (refine step_app1 (ws := W) (by rfl) (.tmp 40) (.tmp 43) rfl W.heap.size v2 ([5, bit8 edge] ++ encNum id ++ encStr key) rfl A1.out.bel A1.out.bel.size A1.out.own Z c (VP.enc ⟨k, b, n, f, s⟩) rfl HZ.out.1 HZ.out.2 LB.out ?_; intro v4 w8 ho hb; have A2 := Lib.hid (St.mk ho hb); clear ho hb)
    | fail)
  go_upto_region 10 with fail
  go_region_held3 (fun w' => ∀ j, w'.cell? ⟨w.heap.size, j, none⟩ = (OP.cells ⟨5, edge, id, label, fr, til, key, ⟨k, b, n, f, s⟩, pf, pt⟩)[j]?) (first
      | exact K0.out _ (drew_bel A2.out.bel)
      | exact K0.out _ E1.out.bel
      | exact K0.out _ E2.out.bel
      | fail) (first
    | (go_at_call 86; (with_reducible refine (NumS (w0 := W) pf (drew_bel A2.out.bel) HN.out.2.1 ((A2.out.gs).drew) (by have := TX.out; have := N1.out; have := LV.out; have := HL.out; simp; omega)).mono ?_); rintro e1 wE1 ⟨vE1, rfl, h1⟩; have E1 := Lib.hid h1; clear h1)
    | (go_at_call 86; (with_reducible refine (NumS (w0 := W) pt E1.out.bel HN.out.2.2 (E1.out.gs) (by have := TX.out; have := N1.out; have := LV.out; have := HL.out; have := N2.out; simp; omega)).mono ?_); rintro e1 wE2 ⟨vE2, rfl, h1⟩; have E2 := Lib.hid h1; clear h1)
    | fail)
  go_wp2
  go_ret
  exact ⟨_, rfl, St.of HB0.out (E2.out.eq (by simp))⟩
end
end Go.Proofs.YtchklaepilcbbaaGreat
