/- TakeBatch. -/
import Derived.Test.YtchklaepilcbbaaGreatmJ6
namespace Go.Proofs.YtchklaepilcbbaaGreat
open Go.RowKit
def BP.zero : BP := ⟨0, 0, []⟩
/-- Three cells of a batch stored one by one. -/
theorem bset {w : World} {p : Nat} (C : Array Value) (hC : C.size = 3) (hx : Bx w p C) (n st : Nat) (v : Value) :
    ∃ W, (((w.setCell ⟨p, 0, none⟩ (.int .u64 (n : Int))).setCell ⟨p, 1, none⟩ (.int .u64 (st : Int))).setCell ⟨p, 2, none⟩ v) = W ∧ Bx W p #[.int .u64 (n : Int), .int .u64 (st : Int), v] ∧
      (∀ (B : Nat) (w0 : World), Below B w0 w → B ≤ p → Below B w0 W) ∧ ∀ (B : Nat) (u : Value) (l : List OP), OwnO B w u l → p < B → OwnO B W u l := by
  have x3 := ((hx.set 0 (.int .u64 (n : Int)) (by omega)).set 1 (.int .u64 (st : Int)) (by simp; omega)).set 2 v (by simp; omega)
  refine ⟨_, rfl, x3.eq ?_, fun B w0 hb hp => ((hb.setCell (p := ⟨p, 0, none⟩) hp _).setCell (p := ⟨p, 1, none⟩) hp _).setCell (p := ⟨p, 2, none⟩) hp _, fun B u l h hp => ?_⟩
  · obtain ⟨L⟩ := C
    match L, hC with
    | [a, b, c], _ => rfl
  · have ne : ∀ q, u.ownBlock = some q → q ≠ p := fun q e => by have := (World.ownsRow.lt h q e).1; omega
    exact ((h.setFar _ _ ne).setFar _ _ ne).setFar _ _ ne
/-- What TakeBatch tells. -/
def TakesB (l : List UInt8) (w : World) (e : Ending) (w' : World) : Prop := ∃ (E : Nat) (x : BP) (v : Value), e = .returned (.tuple #[bval x v, .int .i64 (E : Int)]) ∧ Took BP.enc (fun x => x.may ∧ x.wide) l BP.zero E x ∧ OwnO w.heap.size w' v x.ops ∧ Below w.heap.size w w'
section
set_option maxRecDepth 100000
set_option maxHeartbeats 2000000
theorem takeBatch_any (v0 : Value) (l : List UInt8) (w : World) (hv : GS w v0 l) (hl : l.length ≤ 140737488355328) :
    Calls Tryz.prog 72 #[v0, .func (.func 73) #[] #[], .func (.func 32) #[] #[]] w (TakesB l w) := by
  obtain ⟨A0, c0, rfl, hA, hz⟩ := hv
  have C := Lib.hid (fun W (hb : Below w.heap.size w W) => NewL A0 l l.length c0 W (hA.below hb) hz hl rfl)
  clear hA hz hl
  go_enter Tryz.func72, Tryz.ntmps72
  go_upto_region 1 with fail
  have X0 := Lib.hid (Bx.new w #[.int .u64 0, .int .u64 0, .slice none 0 0] 56)
  have B0 := Lib.hid ((Below.refl w.heap.size w).alloc (Nat.le_refl _) (.cells #[.int .u64 0, .int .u64 0, .slice none 0 0] 56))
  go_upto_region 2 with (go_at_call 89; (refine (C.out _ B0.out).mono ?_); rintro e w1 ⟨g, P, c, rfl, hg, hr, hb⟩; have HG := Lib.hid hg; have R1 := Lib.hid hr; have X1 := Lib.hid (X0.out.below hb); have B1 := Lib.hid (B0.out.trans (hb.mono B0.out.size)); clear hg hr hb)
  have S2 := Lib.hid (Src.new R1.out)
  have XX := Lib.hid (X1.out.below ((Below.refl w1.heap.size w1).alloc (Nat.le_refl _) (.cells #[.pointer (some ⟨g, 0, none⟩), .bool false] 120)))
  have B2 := Lib.hid (B1.out.alloc B1.out.size (.cells #[.pointer (some ⟨g, 0, none⟩), .bool false] 120))
  have N1 := Lib.hid (show w.heap.size ≠ w1.heap.size ∧ w.heap.size ≠ g ∧ w.heap.size < w1.heap.size ∧ w.heap.size < g by have := X1.out.lt; have := HG.out; simp at this; omega)
  have NB : Hid (w1.heap.size < w1.heap.size + 1 ∧ g < w1.heap.size + 1 ∧ w.heap.size < w1.heap.size + 1) := Lib.hid (by have := R1.out.lt; have := N1.out; omega)
  clear R1 X1 X0 C
  go_upto_region 3 with (go_at_call 73; (refine (source_batch w1.heap.size g c 0 P l false _ S2.out).mono ?_); rintro e w2 ⟨⟨num, st, ops⟩, v, rfl, ho, hw, k2, b2, h1, h2, h3⟩; obtain ⟨A3, c3, hv⟩ := OwnO.form ho; subst hv; have S3 := Lib.hid h1; have F3 := Lib.hid h2; have RR := Lib.hid h3; have HW := Lib.hid hw; have O3 : Hid (OwnO (w1.heap.size + 1) w2 (.slice A3 ops.length c3) ops) := Lib.hid (by simpa using ho); clear h1 h2 h3 hw ho)
  have X3 := Lib.hid ((XX.out.far F3.out N1.out.1 N1.out.2.1).below ((Below.refl w2.heap.size w2).alloc (Nat.le_refl _) (.cells #[.int .u64 (num : Int), .int .u64 (st : Int), .slice A3 ops.length c3] 56)))
  have V3 := Lib.hid (Bx.new w2 #[.int .u64 (num : Int), .int .u64 (st : Int), .slice A3 ops.length c3] 56)
  have S4 := Lib.hid (S3.out.below ((Below.refl w2.heap.size w2).alloc (Nat.le_refl _) (.cells #[.int .u64 (num : Int), .int .u64 (st : Int), .slice A3 ops.length c3] 56)))
  have O4 := Lib.hid (O3.out.below ((Below.refl w2.heap.size w2).alloc (Nat.le_refl _) (.cells #[.int .u64 (num : Int), .int .u64 (st : Int), .slice A3 ops.length c3] 56)))
  have B3 := Lib.hid (B2.out.trans ((F3.out.below (B := w.heap.size) (Nat.le_of_lt N1.out.2.2.1) (Nat.le_of_lt N1.out.2.2.2) B2.out.size).alloc (Nat.le_trans B2.out.size F3.out.size) (.cells #[.int .u64 (num : Int), .int .u64 (st : Int), .slice A3 ops.length c3] 56)))
  have N2 := Lib.hid (show w2.heap.size ≠ w1.heap.size ∧ w2.heap.size ≠ g by have := S3.out.lt; have := S3.out.ltg; omega)
  have q0 := S4.out.c0
  go_upto_region 4 with (first
    | (go_at_call 91; (refine (End_any g k2 c P l _ S4.out.rd).mono ?_); rintro e w3 ⟨E1, rfl, hE, hb⟩; have HE := Lib.hid hE; have B4 := Lib.hid hb; have S5 := Lib.hid (S4.out.below hb); have O5 := Lib.hid (O4.out.below hb); clear hE hb)
    | (go_at_call 90; (refine (note_any w1.heap.size g c k2 P l b2 E1 _ S5.out).mono ?_); rintro e w4 ⟨rfl, h2, h3⟩; have S6 := Lib.hid h2; have F6 := Lib.hid h3; have O6 := Lib.hid (O5.out.far h3 NB.out.1 NB.out.2.1); clear h2 h3))
  have X4 := Lib.hid ((X3.out.below B4.out).far F6.out N1.out.1 N1.out.2.1)
  have V4 := Lib.hid ((V3.out.below B4.out).far F6.out N2.out.1 N2.out.2)
  have B5 : Hid (Below w.heap.size w w4) := Lib.hid (B3.out.trans ((B4.out.mono B3.out.size).trans (F6.out.below (Nat.le_of_lt N1.out.2.2.1) (Nat.le_of_lt N1.out.2.2.2) (Nat.le_trans B3.out.size B4.out.size))))
  have CM := Lib.hid (fun W (hb : Below w4.heap.size w4 W) => MayBatch_any ⟨num, st, ops⟩ _ W (O6.out.below hb).so HW.out.2.2)
  have q1 := S6.out.c1
  have q4 := V4.out.c
  generalize hq : badE b2 E1 = q at *
  have HQ := Lib.hid hq
  clear q0 hq XX X3 V3 S2 S3 S4 S5
  cases q
  case true =>
    have X5 := Lib.hid (X4.out.below ((Below.refl w4.heap.size w4).alloc (Nat.le_refl _) (.cells #[.int .u64 0, .int .u64 0, .slice none 0 0] 56)))
    have f5 := X5.out.fr
    have q5 := X5.out.c
    as_aux_lemma =>
    go_wp2
    obtain ⟨W6, hW, x6, b6, o6⟩ := bset _ rfl X5.out 0 0 (.slice none 0 0)
    replace hW : ((((w4.alloc (.cells #[.int .u64 0, .int .u64 0, .slice none 0 0] 56)).setCell ⟨w.heap.size, 0, none⟩ (.int .u64 0)).setCell ⟨w.heap.size, 1, none⟩ (.int .u64 0)).setCell ⟨w.heap.size, 2, none⟩ (.slice none 0 0)) = W6 := hW
    rw [hW]
    refine bodyPost_ret (v := .tuple #[bval ⟨0, 0, []⟩ (.slice none 0 0), .int .i64 5]) (by simp [results, Tryz.results72, go_sem, x6.c]) rfl ?_
    exact ⟨5, BP.zero, _, rfl, Took.bad RR.out HE.out HQ.out, OwnO.nil _ _, b6 _ _ (B5.out.alloc B5.out.size _) (Nat.le_refl _)⟩
  go_upto_if 34 with (go_at_call 32; (with_reducible refine (CM.out _ (Below.refl _ _)).mono ?_); rintro e w5 ⟨m, rfl, hm, hb⟩; have HM := Lib.hid hm; have B6 := Lib.hid hb; have X5 := Lib.hid (X4.out.below hb); have V5 := Lib.hid (V4.out.below hb); have O7 := Lib.hid (O6.out.below hb); clear hm hb q4)
  have B7 := Lib.hid (B5.out.trans (B6.out.mono B5.out.size))
  cases m
  case false =>
    have X6 := Lib.hid (X5.out.below ((Below.refl w5.heap.size w5).alloc (Nat.le_refl _) (.cells #[.int .u64 0, .int .u64 0, .slice none 0 0] 56)))
    have f5 := X6.out.fr
    have q5 := X6.out.c
    as_aux_lemma =>
    go_wp2
    obtain ⟨W6, hW, x6, b6, o6⟩ := bset _ rfl X6.out 0 0 (.slice none 0 0)
    replace hW : ((((w5.alloc (.cells #[.int .u64 0, .int .u64 0, .slice none 0 0] 56)).setCell ⟨w.heap.size, 0, none⟩ (.int .u64 0)).setCell ⟨w.heap.size, 1, none⟩ (.int .u64 0)).setCell ⟨w.heap.size, 2, none⟩ (.slice none 0 0)) = W6 := hW
    rw [hW]
    refine bodyPost_ret (v := .tuple #[bval ⟨0, 0, []⟩ (.slice none 0 0), .int .i64 5]) (by simp [results, Tryz.results72, go_sem, x6.c]) rfl ?_
    exact ⟨5, BP.zero, _, rfl, Took.no RR.out (fun h => (by have := HM.out.2 h.1; cases this)), OwnO.nil _ _, b6 _ _ (B7.out.alloc B7.out.size _) (Nat.le_refl _)⟩
  have f5 := X5.out.fr
  have q5 := X5.out.c
  have q6 := V5.out.c
  as_aux_lemma =>
  go_wp2
  obtain ⟨W6, hW, x6, b6, o6⟩ := bset _ rfl X5.out num st (.slice A3 ops.length c3)
  rw [hW]
  refine bodyPost_ret (v := .tuple #[bval ⟨num, st, ops⟩ (.slice A3 ops.length c3), .int .i64 0]) (by simp [results, Tryz.results72, go_sem, x6.c]) rfl ?_
  exact ⟨0, ⟨num, st, ops⟩, _, rfl, Took.ok RR.out HE.out HQ.out ⟨HM.out.1 (by simp), HW.out⟩, (o6 _ _ _ O7.out NB.out.2.2).mono (Nat.le_of_lt NB.out.2.2), b6 _ _ B7.out (Nat.le_refl _)⟩
theorem TakeBatch_any (v0 : Value) (l : List UInt8) (w : World) (hv : GS w v0 l) (hl : l.length ≤ 140737488355328) :
    Calls Tryz.prog 27 #[v0] w (TakesB l w) := by
  have C := Lib.hid (fun W (hb : Below w.heap.size w W) => takeBatch_any v0 l W (hv.below hb) hl)
  clear hv hl
  go_enter Tryz.func27, Tryz.ntmps27
  have X0 := Lib.hid (Bx.new w #[.int .u64 0, .int .u64 0, .slice none 0 0] 56)
  have B0 := Lib.hid ((Below.refl w.heap.size w).alloc (Nat.le_refl _) (.cells #[.int .u64 0, .int .u64 0, .slice none 0 0] 56))
  go_wp2_with (go_at_call 72; (refine (C.out _ B0.out).mono ?_); rintro e w1 ⟨E, ⟨num, st, ops⟩, v, rfl, ht, ho, hb⟩; obtain ⟨A3, c3, hv⟩ := OwnO.form ho; subst hv; have HT := Lib.hid ht; have X1 := Lib.hid (X0.out.below hb); have B1 := Lib.hid (B0.out.trans (hb.mono B0.out.size)); have O1 : Hid (OwnO (w.heap.size + 1) w1 (.slice A3 ops.length c3) ops) := Lib.hid (by simpa using ho); have f1 := X1.out.fr; have q1 := X1.out.c; clear ht hb ho)
  obtain ⟨W6, hW, x6, b6, o6⟩ := bset _ rfl X1.out num st (.slice A3 ops.length c3)
  rw [hW]
  refine bodyPost_ret (v := .tuple #[bval ⟨num, st, ops⟩ (.slice A3 ops.length c3), .int .i64 (E : Nat)]) (by simp [results, Tryz.results27, go_sem, x6.c]) rfl ?_
  exact ⟨E, ⟨num, st, ops⟩, _, rfl, HT.out, (o6 _ _ _ O1.out (Nat.lt_succ_self _)).mono (Nat.le_succ _), b6 _ _ B1.out (Nat.le_refl _)⟩
end
end Go.Proofs.YtchklaepilcbbaaGreat
