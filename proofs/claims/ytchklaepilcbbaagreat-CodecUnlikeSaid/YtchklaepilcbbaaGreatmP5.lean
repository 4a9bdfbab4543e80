/- TakeValue. -/
import Derived.Test.YtchklaepilcbbaaGreatmP4
namespace Go.Proofs.YtchklaepilcbbaaGreat
open Go.RowKit
theorem pset5 {w : World} {p : Nat} (u v : VP) (hx : Bx w p u.cells) :
    ∃ W, (((((w.setCell ⟨p, 0, none⟩ (.int .i64 v.k)).setCell ⟨p, 1, none⟩ (.bool v.b)).setCell ⟨p, 2, none⟩ (.int .i64 v.n)).setCell ⟨p, 3, none⟩ (.float .f64 v.f)).setCell ⟨p, 4, none⟩ (.string v.s)) = W ∧
      Bx W p v.cells ∧ ∀ (B : Nat) (w0 : World), Below B w0 w → B ≤ p → Below B w0 W := by
  have x4 := ((((hx.set 0 (.int .i64 v.k) (by simp)).set 1 (.bool v.b) (by simp)).set 2 (.int .i64 v.n) (by simp)).set 3 (.float .f64 v.f) (by simp)).set 4 (.string v.s) (by simp)
  exact ⟨_, rfl, x4.eq rfl, fun B w0 hb hp => ((((hb.setCell hp _).setCell hp _).setCell hp _).setCell hp _).setCell hp _⟩
theorem Src.new {w : World} {g c : Nat} {A : Option Addr} {l : List UInt8} (h : Rd w g 0 A c l) : Src (w.alloc (.cells #[.pointer (some ⟨g, 0, none⟩), .bool false] 120)) w.heap.size g A c l 0 false :=
  ⟨heap_alloc_new w _, Nat.ne_of_gt h.lt, h.below ((Below.refl _ _).alloc (Nat.le_refl _) _)⟩
theorem Rd.endE {w : World} {g k c : Nat} {A : Option Addr} {l : List UInt8} (h : Rd w g k A c l) : k ≤ l.length := h.2.1.1
section
set_option maxRecDepth 100000
set_option maxHeartbeats 2000000
/-- End tells whether bytes remain. -/
theorem End_any (g k c : Nat) (A : Option Addr) (l : List UInt8) (w : World) (h : Rd w g k A c l) :
    Calls Tryz.prog 91 #[.pointer (some ⟨g, 0, none⟩)] w fun e w' => ∃ E : Nat, e = .returned (.int .i64 (E : Int)) ∧ (E = 0 ↔ l.drop k = []) ∧ Below w.heap.size w w' := by
  have C := Lib.hid (quiet_r (Left_any g k c A l w h))
  have h2 := h.c2
  have H := Lib.hid h
  by_cases hk : l.length - k = 0
  · have HD : Hid (l.drop k = []) := Lib.hid (List.drop_eq_nil_of_le (by omega))
    rw [hk] at C
    clear h hk
    go_enter Tryz.func91, Tryz.ntmps91
    go_wp2_with (go_at_call 127; ((with_reducible refine (C.out).mono ?_); rintro e w1 ⟨rfl, hb⟩; have B1 := Lib.hid hb; clear hb))
    go_ret
    exact ⟨0, rfl, by simp [HD.out], B1.out⟩
  · have HD : Hid (l.drop k ≠ []) := Lib.hid (by rw [Ne, List.drop_eq_nil_iff]; omega)
    obtain ⟨m, hm⟩ : ∃ m, l.length - k = m + 1 := ⟨l.length - k - 1, by omega⟩
    rw [hm] at C
    have t1 : decide ((0 : Int) < ((m + 1 : Nat) : Int)) = true := by rw [decide_eq_true_eq]; omega
    clear h hk hm
    go_enter Tryz.func91, Tryz.ntmps91
    go_wp2_with (go_at_call 127; ((with_reducible refine (C.out).mono ?_); rintro e w1 ⟨rfl, hb⟩; have B1 := Lib.hid hb; clear hb))
    go_ret
    exact ⟨3, rfl, by simp [HD.out], B1.out⟩
/-- What a reading of all bytes tells: x, whose form they are; or that they are none. -/
def Took {α : Type} (enc : α → List UInt8) (P : α → Prop) (l : List UInt8) (none : α) (E : Nat) (x : α) : Prop :=
  (E = 0 ∧ P x ∧ l = enc x) ∨ (E = 5 ∧ x = none ∧ ∀ y, P y → l ≠ enc y)
theorem Took.bad {α : Type} {enc : α → List UInt8} {P : α → Prop} {l L' : List UInt8} {x z : α} {b2 : Bool} {E : Nat} (h : Reads enc P false l x b2 L') (hE : E = 0 ↔ L' = []) (hb : badE b2 E = true) : Took enc P l z 5 z := by
  refine .inr ⟨rfl, rfl, fun y hy e => ?_⟩
  obtain ⟨_, h2, h3⟩ := h.2 y [] hy rfl (by rw [e, List.append_nil])
  have := badE_no.2 ⟨h2, hE.2 h3⟩
  rw [hb] at this
  cases this
theorem Took.ok {α : Type} {enc : α → List UInt8} {P : α → Prop} {l L' : List UInt8} {x z : α} {b2 : Bool} {E : Nat} (h : Reads enc P false l x b2 L') (hE : E = 0 ↔ L' = []) (hb : badE b2 E = false) (hp : P x) : Took enc P l z 0 x := by
  obtain ⟨h1, h2⟩ := badE_no.1 hb
  refine .inl ⟨rfl, hp, ?_⟩
  rw [(h.1 h1).2, hE.1 h2, List.append_nil]
theorem Took.no {α : Type} {enc : α → List UInt8} {P : α → Prop} {l L' : List UInt8} {x z : α} {b2 : Bool} (h : Reads enc P false l x b2 L') (hp : ¬ P x) : Took enc P l z 5 z := by
  refine .inr ⟨rfl, rfl, fun y hy e => ?_⟩
  obtain ⟨h1, _, _⟩ := h.2 y [] hy rfl (by rw [e, List.append_nil])
  exact hp (h1 ▸ hy)
abbrev VP.zero : VP := ⟨0, false, 0, 0, ⟨#[]⟩⟩
theorem takeValue_any (v0 : Value) (l : List UInt8) (w : World) (hv : GS w v0 l) (hl : l.length ≤ 140737488355328) :
    Calls Tryz.prog 45 #[v0, .func (.func 46) #[] #[], .func (.func 22) #[] #[]] w fun e w' => ∃ E v, e = .returned (.tuple #[VP.val v, .int .i64 (E : Nat)]) ∧ Took VP.enc (fun v => v.may ∧ v.wide) l VP.zero E v ∧ Below w.heap.size w w' := by
  obtain ⟨A0, c0, rfl, hA, hz⟩ := hv
  have hsf := store_float
  have C := Lib.hid (fun W (hb : Below w.heap.size w W) => NewL A0 l l.length c0 W (hA.below hb) hz hl rfl)
  clear hA hz hl
  go_enter Tryz.func45, Tryz.ntmps45
  go_upto_region 1 with fail
  have X0 := Lib.hid (Bx.new w VP.zero.cells 24)
  have B0 := Lib.hid ((Below.refl w.heap.size w).alloc (Nat.le_refl _) (.cells VP.zero.cells 24))
  go_upto_region 2 with (go_at_call 89; (refine (C.out _ B0.out).mono ?_); rintro e w1 ⟨g, P, c, rfl, hg, hr, hb⟩; have HG := Lib.hid hg; have R1 := Lib.hid hr; have X1 := Lib.hid (X0.out.below hb); have B1 := Lib.hid (B0.out.trans (hb.mono B0.out.size)); clear hg hr hb)
  have S2 := Lib.hid (Src.new R1.out)
  have XX := Lib.hid (X1.out.below ((Below.refl w1.heap.size w1).alloc (Nat.le_refl _) (.cells #[.pointer (some ⟨g, 0, none⟩), .bool false] 120)))
  have B2 := Lib.hid (B1.out.alloc B1.out.size (.cells #[.pointer (some ⟨g, 0, none⟩), .bool false] 120))
  have N1 := Lib.hid (show w.heap.size ≠ w1.heap.size ∧ w.heap.size ≠ g ∧ w.heap.size < w1.heap.size ∧ w.heap.size < g by have := X1.out.lt; have := HG.out; simp at this; omega)
  clear R1 X1 X0 C
  go_upto_region 3 with (go_at_call 46; (refine (source_value w1.heap.size g c 0 P l false _ S2.out).mono ?_); rintro e w2 ⟨⟨k, b, n, f, s⟩, rfl, hk, hw, k2, b2, h1, h2, h3⟩; have S3 := Lib.hid h1; have F3 := Lib.hid h2; have RR := Lib.hid h3; have HW := Lib.hid hw; clear h1 h2 h3 hk hw)
  have X3 := Lib.hid ((XX.out.far F3.out N1.out.1 N1.out.2.1).below ((Below.refl w2.heap.size w2).alloc (Nat.le_refl _) (.cells #[.int .i64 k, .bool b, .int .i64 n, .float .f64 f, .string s] 24)))
  have V3 := Lib.hid (Bx.new w2 #[.int .i64 k, .bool b, .int .i64 n, .float .f64 f, .string s] 24)
  have S4 := Lib.hid (S3.out.below ((Below.refl w2.heap.size w2).alloc (Nat.le_refl _) (.cells #[.int .i64 k, .bool b, .int .i64 n, .float .f64 f, .string s] 24)))
  have B3 := Lib.hid (B2.out.trans ((F3.out.below (B := w.heap.size) (Nat.le_of_lt N1.out.2.2.1) (Nat.le_of_lt N1.out.2.2.2) B2.out.size).alloc (Nat.le_trans B2.out.size F3.out.size) (.cells #[.int .i64 k, .bool b, .int .i64 n, .float .f64 f, .string s] 24)))
  have N2 := Lib.hid (show w2.heap.size ≠ w1.heap.size ∧ w2.heap.size ≠ g by have := S3.out.lt; have := S3.out.ltg; omega)
  have q0 := S4.out.c0
  go_upto_region 4 with (first
    | (go_at_call 91; (refine (End_any g k2 c P l _ S4.out.rd).mono ?_); rintro e w3 ⟨E1, rfl, hE, hb⟩; have HE := Lib.hid hE; have B4 := Lib.hid hb; have S5 := Lib.hid (S4.out.below hb); clear hE hb)
    | (go_at_call 90; (refine (note_any w1.heap.size g c k2 P l b2 E1 _ S5.out).mono ?_); rintro e w4 ⟨rfl, h2, h3⟩; have S6 := Lib.hid h2; have F6 := Lib.hid h3; clear h2 h3))
  have X4 := Lib.hid ((X3.out.below B4.out).far F6.out N1.out.1 N1.out.2.1)
  have V4 := Lib.hid ((V3.out.below B4.out).far F6.out N2.out.1 N2.out.2)
  have B5 : Hid (Below w.heap.size w w4) := Lib.hid (B3.out.trans ((B4.out.mono B3.out.size).trans (F6.out.below (Nat.le_of_lt N1.out.2.2.1) (Nat.le_of_lt N1.out.2.2.2) (Nat.le_trans B3.out.size B4.out.size))))
  have CM := Lib.hid (fun W => May_any k b n f s W HW.out.2.2.1)
  have HM := Lib.hid (mayB_iff (v := ⟨k, b, n, f, s⟩))
  simp only at HM
  generalize mayB k b n f s = m at *
  have q1 := S6.out.c1
  have q4 := V4.out.c
  generalize hq : badE b2 E1 = q at *
  have HQ := Lib.hid hq
  clear q0 hq XX X3 V3 S2 S3 S4 S5
  cases q
  case true =>
    have X5 := Lib.hid (X4.out.below ((Below.refl w4.heap.size w4).alloc (Nat.le_refl _) (.cells VP.zero.cells 24)))
    have f5 := X5.out.fr
    have q5 := X5.out.c
    as_aux_lemma =>
    go_wp2
    obtain ⟨W6, hW, x6, b6⟩ := pset5 _ VP.zero X5.out
    simp only [VP.cells] at hW
    rw [hW]
    refine bodyPost_ret (v := .tuple #[VP.val VP.zero, .int .i64 5]) (by simp [results, Tryz.results45, go_sem, x6.c, VP.zero]) rfl ?_
    exact ⟨5, _, rfl, Took.bad RR.out HE.out HQ.out, b6 _ _ (B5.out.alloc B5.out.size _) (Nat.le_refl _)⟩
  cases m
  case false =>
    as_aux_lemma =>
    go_upto_region 5 with (go_at_call 22; (with_reducible refine (CM.out _).mono ?_); rintro e w5 ⟨rfl, hb⟩; have B6 := Lib.hid hb; clear hb)
    have X5 := Lib.hid ((X4.out.below B6.out).below ((Below.refl w5.heap.size w5).alloc (Nat.le_refl _) (.cells VP.zero.cells 24)))
    have f5 := X5.out.fr
    have q5 := X5.out.c
    go_wp2
    obtain ⟨W6, hW, x6, b6⟩ := pset5 _ VP.zero X5.out
    simp only [VP.cells] at hW
    rw [hW]
    refine bodyPost_ret (v := .tuple #[VP.val VP.zero, .int .i64 5]) (by simp [results, Tryz.results45, go_sem, x6.c, VP.zero]) rfl ?_
    have B7 := B5.out.trans (B6.out.mono B5.out.size)
    exact ⟨5, _, rfl, Took.no RR.out (fun h => (by have := HM.out.2 h.1; cases this)), b6 _ _ (B7.alloc B7.size _) (Nat.le_refl _)⟩
  as_aux_lemma =>
  go_upto_region 7 with (go_at_call 22; (with_reducible refine (CM.out _).mono ?_); rintro e w5 ⟨rfl, hb⟩; have B6 := Lib.hid hb; clear hb)
  have X5 := Lib.hid (X4.out.below B6.out)
  have V5 := Lib.hid (V4.out.below B6.out)
  have f5 := X5.out.fr
  have q5 := X5.out.c
  have q6 := V5.out.c
  go_wp2
  obtain ⟨W6, hW, x6, b6⟩ := pset5 _ (VP.mk k b n f s) X5.out
  rw [hW]
  refine bodyPost_ret (v := .tuple #[VP.val (VP.mk k b n f s), .int .i64 0]) (by simp [results, Tryz.results45, go_sem, x6.c]) rfl ?_
  exact ⟨0, _, rfl, Took.ok RR.out HE.out HQ.out ⟨HM.out.1 (by simp), HW.out⟩, b6 _ _ (B5.out.trans (B6.out.mono B5.out.size)) (Nat.le_refl _)⟩
theorem TakeValue_any (v0 : Value) (l : List UInt8) (w : World) (hv : GS w v0 l) (hl : l.length ≤ 140737488355328) :
    Calls Tryz.prog 12 #[v0] w fun e w' => ∃ E v, e = .returned (.tuple #[VP.val v, .int .i64 (E : Nat)]) ∧ Took VP.enc (fun v => v.may ∧ v.wide) l VP.zero E v ∧ Below w.heap.size w w' := by
  have hsf := store_float
  have C := Lib.hid (fun W (hb : Below w.heap.size w W) => takeValue_any v0 l W (hv.below hb) hl)
  clear hv hl
  go_enter Tryz.func12, Tryz.ntmps12
  have X0 := Lib.hid (Bx.new w VP.zero.cells 24)
  have B0 := Lib.hid ((Below.refl w.heap.size w).alloc (Nat.le_refl _) (.cells VP.zero.cells 24))
  go_wp2_with (go_at_call 45; (refine (C.out _ B0.out).mono ?_); rintro e w1 ⟨E, ⟨k, b, n, f, s⟩, rfl, ht, hb⟩; have HT := Lib.hid ht; have X1 := Lib.hid (X0.out.below hb); have B1 := Lib.hid (B0.out.trans (hb.mono B0.out.size)); have f1 := X1.out.fr; have q1 := X1.out.c; clear ht hb)
  obtain ⟨W6, hW, x6, b6⟩ := pset5 _ (VP.mk k b n f s) X1.out
  rw [hW]
  refine bodyPost_ret (v := .tuple #[VP.val (VP.mk k b n f s), .int .i64 (E : Nat)]) (by simp [results, Tryz.results12, go_sem, x6.c]) rfl ?_
  exact ⟨E, _, rfl, HT.out, b6 _ _ B1.out (Nat.le_refl _)⟩
end
end Go.Proofs.YtchklaepilcbbaaGreat
