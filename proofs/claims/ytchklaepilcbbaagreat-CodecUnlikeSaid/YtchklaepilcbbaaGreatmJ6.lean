/- source.batch, walked. -/
import Derived.Test.YtchklaepilcbbaaGreatmJ5
namespace Go.Proofs.YtchklaepilcbbaaGreat
open Go.RowKit
theorem InBt.done {w0 wr : World} {s g c p3 num st N k : Nat} {A A2 : Option Addr} {l : List UInt8} {b0 b : Bool} {L0 : List UInt8} {os : List OP} {c2 : Nat} (h : InBt w0 wr s g A c l p3 num st N b0 L0 os A2 c2 k b) :
    ∃ W, (((wr.setCell ⟨w0.heap.size, 0, none⟩ (.int .u64 (num : Int))).setCell ⟨w0.heap.size, 1, none⟩ (.int .u64 (st : Int))).setCell ⟨w0.heap.size, 2, none⟩ (.slice A2 os.length c2)) = W ∧
      Bx W w0.heap.size #[.int .u64 (num : Int), .int .u64 (st : Int), .slice A2 os.length c2] ∧ OwnO w0.heap.size W (.slice A2 os.length c2) os ∧ Src W s g A c l k b ∧ Far s g w0 W := by
  have x3 := ((h.res.set 0 (.int .u64 (num : Int)) (by simp)).set 1 (.int .u64 (st : Int)) (by simp)).set 2 (.slice A2 os.length c2) (by simp)
  have ne : ∀ q, (Value.slice A2 os.length c2).ownBlock = some q → q ≠ w0.heap.size := fun q e => (h.ne q e).2
  have bel : Below w0.heap.size wr (((wr.setCell ⟨w0.heap.size, 0, none⟩ (.int .u64 (num : Int))).setCell ⟨w0.heap.size, 1, none⟩ (.int .u64 (st : Int))).setCell ⟨w0.heap.size, 2, none⟩ (.slice A2 os.length c2)) :=
    (((Below.refl w0.heap.size wr).setCell (p := ⟨w0.heap.size, 0, none⟩) (Nat.le_refl _) _).setCell (p := ⟨w0.heap.size, 1, none⟩) (Nat.le_refl _) _).setCell (p := ⟨w0.heap.size, 2, none⟩) (Nat.le_refl _) _
  exact ⟨_, rfl, x3.eq rfl, ((h.own.setFar _ _ ne).setFar _ _ ne).setFar _ _ ne, (h.lo.below bel).src, h.far.low bel⟩
theorem batch_wide {num st : Nat} {os : List OP} (h1 : num ≤ 1073741824) (h2 : st ≤ 1099511627776) (h : ∀ o ∈ os, o.wide) : BP.wide ⟨num, st, os⟩ := ⟨show num < _ by omega, show st < _ by omega, h⟩
/-- A number read by the source. -/
def NumIn (most : Nat) (s g : Nat) (A : Option Addr) (c : Nat) (l : List UInt8) (k : Nat) (bad : Bool) (w : World) (e : Ending) (w' : World) : Prop := ∃ n : Nat, e = .returned (.int .u64 (n : Int)) ∧ n ≤ most ∧ Tells encNum (fun n => n ≤ most) s g A c l k bad n w w'
section
variable (s g c k : Nat) (A : Option Addr) (l : List UInt8) (bad : Bool) (w : World)
theorem num_30 (h : Src w s g A c l k bad) : Calls Tryz.prog 94 #[.pointer (some ⟨s, 0, none⟩), .int .u64 1073741824] w (NumIn 1073741824 s g A c l k bad w) := Tells.num s g c k 1073741824 (by omega) A l bad w h
theorem num_40 (h : Src w s g A c l k bad) : Calls Tryz.prog 94 #[.pointer (some ⟨s, 0, none⟩), .int .u64 1099511627776] w (NumIn 1099511627776 s g A c l k bad w) := Tells.num s g c k 1099511627776 (by omega) A l bad w h
theorem num_8 (h : Src w s g A c l k bad) : Calls Tryz.prog 94 #[.pointer (some ⟨s, 0, none⟩), .int .u64 256] w (NumIn 256 s g A c l k bad w) := Tells.num s g c k 256 (by omega) A l bad w h
end
section
set_option maxRecDepth 100000
set_option maxHeartbeats 2000000
theorem source_batch (s g c k : Nat) (A : Option Addr) (l : List UInt8) (bad : Bool) (w : World) (h : Src w s g A c l k bad) :
    Calls Tryz.prog 73 #[.pointer (some ⟨s, 0, none⟩)] w fun e w' => ∃ (x : BP) (v : Value), e = .returned (bval x v) ∧ OwnO w.heap.size w' v x.ops ∧ x.wide ∧ Tells BP.enc (fun x => x.may ∧ x.wide) s g A c l k bad x w w' := by
  have L0 := Lib.hid (SrcLo.new h)
  have S0 := Lib.hid (h.alloc (.cells #[.int .u64 0, .int .u64 0, .slice none 0 0] 56))
  have R0 := Lib.hid (Bx.new w #[.int .u64 0, .int .u64 0, .slice none 0 0] 56)
  have F0 := Lib.hid ((Far.refl s g w).alloc (.cells #[.int .u64 0, .int .u64 0, .slice none 0 0] 56))
  have NE := Lib.hid (show w.heap.size ≠ s ∧ w.heap.size ≠ g by have := h.lt; have := h.ltg; omega)
  have C1 := Lib.hid (num_30 s g c k A l bad _ S0.out)
  clear h
  go_enter Tryz.func73, Tryz.ntmps73
  go_upto_region 2 with (first
    | (go_at_call 94; (with_reducible refine (C1.out).mono ?_); rintro e w1 ⟨num, rfl, hn, k1, b1, h1, h2, h3⟩; have S1 := Lib.hid h1; have F1 := Lib.hid h2; have Q1 := Lib.hid h3; have LN := Lib.hid hn; have C2 := Lib.hid (num_40 s g c k1 A l b1 _ h1); clear h1 h2 h3 hn)
    | (go_at_call 94; (with_reducible refine (C2.out).mono ?_); rintro e w2 ⟨st, rfl, hs, k2, b2, h1, h2, h3⟩; have S2 := Lib.hid h1; have F2 := Lib.hid h2; have Q2 := Lib.hid h3; have LS := Lib.hid hs; clear h1 h2 h3 hs))
  have R2 := Lib.hid ((((R0.out.far F1.out NE.out.1 NE.out.2).far F2.out NE.out.1 NE.out.2)).below ((Below.refl _ _).alloc (Nat.le_refl _) (.cells #[.int .u64 (num : Int), .int .u64 (st : Int), .slice none 0 0] 56)))
  have X2 := Lib.hid (Bx.new w2 #[.int .u64 (num : Int), .int .u64 (st : Int), .slice none 0 0] 56)
  have F3 := Lib.hid (((F0.out.trans F1.out).trans F2.out).alloc (.cells #[.int .u64 (num : Int), .int .u64 (st : Int), .slice none 0 0] 56))
  have S3 := Lib.hid (S2.out.alloc (.cells #[.int .u64 (num : Int), .int .u64 (st : Int), .slice none 0 0] 56))
  have HP : Hid (w.heap.size < w2.heap.size ∧ w2.heap.size ≠ s ∧ w2.heap.size ≠ g) := Lib.hid (by
    have h1 := F1.out.size; have h2 := F2.out.size; have := S2.out.lt; have := S2.out.ltg; simp at h1; omega)
  have C3 := Lib.hid (num_8 s g c k2 A l b2 _ S3.out)
  clear C1 S0 R0 F0 S1 F1 S2 F2
  go_upto_region 3 with (go_at_call 94; (with_reducible refine (C3.out).mono ?_); rintro e w3 ⟨N, rfl, hN, k3, b3, h1, h2, h3⟩; have S4 := Lib.hid h1; have F4 := Lib.hid h2; have Q3 := Lib.hid h3; have L3 := Lib.hid hN; clear h1 h2 h3 hN)
  have I0 : Hid (InBt w w3 s g A c l w2.heap.size num st N b3 (l.drop k3) [] none 0 k3 b3) := Lib.hid
    ⟨L0.out.src' S4.out, F3.out.trans F4.out, OwnO.nil _ _, X2.out.far F4.out HP.out.2.1 HP.out.2.2, R2.out.far F4.out NE.out.1 NE.out.2, (fun q e => by simp [Value.ownBlock] at e), OpsRead.start _ _ _, (fun o ho => by simp at ho), Nat.zero_le _, HP.out.1⟩
  clear L0 C2 C3 R2 X2 F3 S3 S4 F4
  go_loopw [4] (fun t wr => ∃ (os : List OP) (A2 : Option Addr) (c2 k4 : Nat) (b4 : Bool), t = .int .u64 ((N - os.length : Nat) : Int) ∧ InBt w wr s g A c l w2.heap.size num st N b3 (l.drop k3) os A2 c2 k4 b4) (fun t _ => (intOf t).toNat)
  case atStart => exact ⟨[], none, 0, k3, b3, rfl, I0.out⟩
  case round =>
    obtain ⟨os, A2, c2, k4, b4, rfl, hI⟩ := hrel
    have I := Lib.hid hI
    have q1 := hI.lo.src.c1
    have LO := Lib.hid hI.len
    clear hI
    by_cases hlt : os.length < N
    · obtain ⟨X, hX⟩ : ∃ X : Int, ((N - os.length : Nat) : Int) = X := ⟨_, rfl⟩
      have x0 : 0 < X := by omega
      have x1 : X ≤ 256 := by have := L3.out; omega
      rw [hX]
      have HX := Lib.hid hX
      have HL := Lib.hid hlt
      clear hX hlt
      cases b4
      · have S1 := Lib.hid I.out.lo.src.drew
        have X1 := Lib.hid I.out.box.drew
        have O1 := Lib.hid (I.out.own.below (Below.refl _ _).drew)
        go_upto_region 5 with fail
        clear q1
        have q1 := X1.out.c
        go_region_law (first
          | ((with_reducible refine step_appO rfl (.tmp 24) (.tmp 27) rfl w.heap.size (.slice A2 os.length c2) os (by simp [Act.eval]) O3.out w5.heap.size ⟨kind, edge, id, label, fr, til, key, ⟨k, b, n, f, s⟩, pf, pt⟩ (by simp [Act.eval]) R3.out (by have := LO.out; have := L3.out; omega) Z3.out ?_); intro v6 w6 h2 h3 h4; obtain ⟨A3, c3, hv⟩ := OwnO.form h2; obtain ⟨n3, hn3⟩ : ∃ n3, (os ++ [OP.mk kind edge id label fr til key ⟨k, b, n, f, s⟩ pf pt]).length = n3 := ⟨_, rfl⟩; rw [hn3] at hv; subst hv; have H6 := Lib.hid (And.intro hn3 (And.intro h2 (And.intro h3 h4))); have X4 := Lib.hid (X3.out.grown h3 (fun q e => (I.out.ne q e).1)); have f4 := X4.out.fr; have q4 := X4.out.c; clear h2 h3 h4 hn3)
          | (go_simp; go_at_call 59; (refine (source_op s g c k4 A l false _ S1.out).mono ?_); rintro e w5 ⟨⟨kind, edge, id, label, fr, til, key, ⟨k, b, n, f, s⟩, pf, pt⟩, rfl, hw, k5, b5, h1, h2, h3⟩; have S5 := Lib.hid h1; have F5 := Lib.hid h2; have RR := Lib.hid h3; have HW := Lib.hid hw; have X2 := Lib.hid (X1.out.far h2 HP.out.2.1 HP.out.2.2); have X3 := Lib.hid (X2.out.below ((Below.refl _ _).alloc (Nat.le_refl _) (.cells (OP.cells ⟨kind, edge, id, label, fr, til, key, ⟨k, b, n, f, s⟩, pf, pt⟩) 43))); have O3 := Lib.hid ((O1.out.far h2 I.out.lo.hs I.out.lo.hg).below ((Below.refl _ _).alloc (Nat.le_refl _) (.cells (OP.cells ⟨kind, edge, id, label, fr, til, key, ⟨k, b, n, f, s⟩, pf, pt⟩) 43))); have R3 := Lib.hid (Bx.range (Bx.new w5 (OP.cells ⟨kind, edge, id, label, fr, til, key, ⟨k, b, n, f, s⟩, pf, pt⟩) 43)); have Z3 := Lib.hid (show w.heap.size ≤ (w5.alloc (.cells (OP.cells ⟨kind, edge, id, label, fr, til, key, ⟨k, b, n, f, s⟩, pf, pt⟩) 43)).heap.size from (((I.out.far.drew.trans h2).alloc _).size)); have q2 := X2.out.c; have q3 := X3.out.c; clear h1 h2 h3 hw))
        all_goals
          clear q1 q2 q3 q4 f4
          obtain ⟨hn3, h2, h3, h4⟩ := H6.out
          subst hn3
          have HN := Lib.hid (InBt.next I.out S5.out F5.out RR.out HW.out HL.out h2 h3 h4)
          generalize hW7 : w6.setCell _ _ = W7 at *
          clear hW7
          have HE : Hid (X - 1 = ((N - (os ++ [OP.mk kind edge id label fr til key ⟨k, b, n, f, s⟩ pf pt]).length : Nat) : Int)) := Lib.hid (by have := HX.out; have := HL.out; simp; omega)
          clear H6 h2 h3 h4
          go_wp2
          exact ⟨⟨_, A3, c3, k5, b5, by rw [HE.out], HN.out⟩, by simp [intOf]; omega⟩
      · have q2 := I.out.box.c
        have q3 := I.out.res.c
        have f3 := I.out.res.fr
        as_aux_lemma =>
        go_wp2
        obtain ⟨W6, hW, x6, o6, s6, f6⟩ := I.out.done
        rw [hW]
        refine bodyPost_ret (v := bval ⟨num, st, os⟩ (.slice A2 os.length c2)) (by simp [results, Tryz.results73, go_sem, x6.c]) rfl ?_
        exact ⟨⟨num, st, os⟩, _, rfl, o6, batch_wide LN.out LS.out I.out.wide, _, _, s6, f6, reads_batch (N := N) ⟨num, st, os⟩ Q1.out Q2.out Q3.out I.out.rd (.inl rfl)⟩
    · have hX : ((N - os.length : Nat) : Int) = 0 := by omega
      have HN : Hid (os.length = N) := Lib.hid (by have := LO.out; omega)
      rw [hX]
      clear hX hlt
      have q2 := I.out.box.c
      have q3 := I.out.res.c
      have f3 := I.out.res.fr
      as_aux_lemma =>
      go_wp2
      obtain ⟨W6, hW, x6, o6, s6, f6⟩ := I.out.done
      rw [hW]
      refine bodyPost_ret (v := bval ⟨num, st, os⟩ (.slice A2 os.length c2)) (by simp [results, Tryz.results73, go_sem, x6.c]) rfl ?_
      exact ⟨⟨num, st, os⟩, _, rfl, o6, batch_wide LN.out LS.out I.out.wide, _, _, s6, f6, reads_batch (N := N) ⟨num, st, os⟩ Q1.out Q2.out Q3.out I.out.rd (.inr HN.out)⟩
end
end Go.Proofs.YtchklaepilcbbaaGreat
