/- The awake test of layer 7; TreeKnown's walk. -/
import Derived.Test.YtbifgmamjdniaaaC7
namespace Go.Proofs.Ytbifgmamjdniaaa
open Go.RowKit
open Itree (E T dep endT bs ord sz nodes lean rotL rotR bal ins del hasT first AVL Srt eachL over)
/-- A tree that a call made since it began. -/
def Alive (w0 w : World) (q : Nat) (L : List E) : Prop := ∃ R, TL w q R L ∧ (∀ k ∈ q :: R, w0.heap.size ≤ k) ∧ Below w0.heap.size w0 w
theorem Alive.below {w0 w w' : World} {q : Nat} {L : List E} (h : Alive w0 w q L) (hb : Below w.heap.size w w') : Alive w0 w' q L := by
  obtain ⟨R, h1, h2, h3⟩ := h
  exact ⟨R, h1.below hb, h2, h3.trans (hb.mono h3.size)⟩
theorem Alive.new {w0 w : World} {q : Nat} {R : List Nat} {L : List E} (h : TL w q R L) (hb : Below w0.heap.size w0 w) (hf : ∀ k ∈ q :: R, w0.heap.size ≤ k) : Alive w0 w q L := ⟨R, h, hf, hb⟩
theorem Alive.fresh {w0 w w' : World} {q q' : Nat} {R : List Nat} {L L' : List E} (h : Alive w0 w q L) (t : TL w' q' R L') (hb : Below w.heap.size w w') (hf : ∀ k ∈ q' :: R, w.heap.size ≤ k) : Alive w0 w' q' L' := by
  obtain ⟨R0, h1, h2, h3⟩ := h
  exact ⟨R, t, fun k hk => Nat.le_trans h3.size (hf k hk), h3.trans (hb.mono h3.size)⟩
theorem Alive.wrote {w0 w w' : World} {q : Nat} {R : List Nat} {L : List E} (hf : ∀ k ∈ q :: R, w0.heap.size ≤ k) (hb : Below w0.heap.size w0 w) (h : Wrote w q R L w') : Alive w0 w' q L := by
  obtain ⟨R', h1, h2, h3⟩ := h
  refine ⟨R', h1, fun k hk => ?_, hb.trans (h2.below (fun x hx => hf x (by simp [hx])) hb.size)⟩
  rcases List.mem_cons.1 hk with rfl | hk
  · exact hf k (by simp)
  · rcases h3 k hk with h | h
    · exact hf k (by simp [h])
    · exact Nat.le_trans hb.size h
theorem Alive.since {w0 w : World} {q : Nat} {L : List E} (h : Alive w0 w q L) : Below w0.heap.size w0 w := by
  obtain ⟨R, h1, h2, h3⟩ := h
  exact h3
theorem aInsert (x : E) (L : List E) (r : Int) (L' : List E) {w0 w : World} {q : Nat} (h : Alive w0 w q L) (h0 : 0 ≤ x.a) (hs : L.length ≤ 800) (hr : insR x L = r) (hl : insL x L = L') :
    Calls Try.prog 9 #[.pointer (some ⟨q, 0, none⟩), .agg #[.int .u64 x.a, .int .u64 x.b], .int .u64 x.n] w fun e w' => e = .returned (.int .i64 r) ∧ Alive w0 w' q L' := by
  obtain ⟨R, h1, h2, h3⟩ := h
  subst hr hl
  refine (cInsert x q R L w h1 h0 hs).mono ?_
  rintro e w' ⟨rfl, h⟩
  exact ⟨rfl, Alive.wrote h2 h3 h⟩
theorem aDelete (x : E) (L : List E) (r : Int) (L' : List E) {w0 w : World} {q : Nat} (h : Alive w0 w q L) (_ : 0 ≤ x.a) (hs : L.length ≤ 800) (hr : delR x L = r) (hl : delL x L = L') :
    Calls Try.prog 11 #[.pointer (some ⟨q, 0, none⟩), .agg #[.int .u64 x.a, .int .u64 x.b], .int .u64 x.n] w fun e w' => e = .returned (.int .i64 r) ∧ Alive w0 w' q L' := by
  obtain ⟨R, h1, h2, h3⟩ := h
  subst hr hl
  refine (cDelete x q R L w h1 hs).mono ?_
  rintro e w' ⟨rfl, h⟩
  exact ⟨rfl, Alive.wrote h2 h3 h⟩
theorem aStab (at' : Int) (L M : List E) {w0 w : World} {q : Nat} (h : Alive w0 w q L) (ha : 0 ≤ at' ∧ at' ≤ 18446744073709551615) (hs : L.length ≤ 1000000) (hm : L.filter (fun e => hasB e.a e.b at') = M) :
    Calls Try.prog 14 #[.pointer (some ⟨q, 0, none⟩), .int .u64 at'] w fun e w' => ∃ A c, e = .returned (.slice A M.length c) ∧ EAt w' A M ∧ Below w.heap.size w w' := by
  obtain ⟨R, h1, h2, h3⟩ := h
  subst hm
  refine (cStab at' ha q R L w h1 hs).mono ?_
  rintro e w' ⟨v, rfl, ho, hb⟩
  obtain ⟨A, c, rfl, hA⟩ := ho.isE
  exact ⟨A, c, rfl, hA, hb⟩
theorem aOverlap (p p' : Int) (L M : List E) {w0 w : World} {q : Nat} (h : Alive w0 w q L) (hs : L.length ≤ 1000000) (hm : (if mayB p p' = true then L.filter (over p p') else []) = M) :
    Calls Try.prog 16 #[.pointer (some ⟨q, 0, none⟩), .agg #[.int .u64 p, .int .u64 p']] w fun e w' => ∃ A c, e = .returned (.slice A M.length c) ∧ EAt w' A M ∧ Below w.heap.size w w' := by
  obtain ⟨R, h1, h2, h3⟩ := h
  subst hm
  refine (cOverlap p p' q R L w h1 hs).mono ?_
  rintro e w' ⟨v, rfl, ho, hb⟩
  obtain ⟨A, c, rfl, hA⟩ := ho.isE
  exact ⟨A, c, rfl, hA, hb⟩
theorem aAll (L : List E) {w0 w : World} {q : Nat} (h : Alive w0 w q L) (hs : L.length ≤ 1000000) :
    Calls Try.prog 20 #[.pointer (some ⟨q, 0, none⟩)] w fun e w' => ∃ A c, e = .returned (.slice A L.length c) ∧ EAt w' A L ∧ Below w.heap.size w w' := by
  obtain ⟨R, h1, h2, h3⟩ := h
  refine (cAll q R L w h1 hs).mono ?_
  rintro e w' ⟨v, rfl, ho, hb⟩
  obtain ⟨A, c, rfl, hA⟩ := ho.isE
  exact ⟨A, c, rfl, hA, hb⟩
theorem aLen (L : List E) {w0 w : World} {q : Nat} (h : Alive w0 w q L) :
    Calls Try.prog 21 #[.pointer (some ⟨q, 0, none⟩)] w fun e w' => e = .returned (.int .i64 L.length) ∧ w = w' := by
  obtain ⟨R, h1, h2, h3⟩ := h
  exact cLen q R L w h1
theorem aDepth (L : List E) {w0 w : World} {q : Nat} (h : Alive w0 w q L) (hs : L.length ≤ 1023) :
    Calls Try.prog 23 #[.pointer (some ⟨q, 0, none⟩)] w fun e w' => ∃ d : Nat, e = .returned (.int .i64 d) ∧ DeepOk d L.length ∧ w = w' := by
  obtain ⟨R, h1, h2, h3⟩ := h
  exact cDepth q R L w h1 hs
theorem lit1 (w : World) (x : E) (t : TypeId) : IsE (w.alloc (.cells #[.int .u64 x.a, .int .u64 x.b, .int .u64 x.n] t)) (.slice (some ⟨w.heap.size, 0, none⟩) 1 1) [x] := by
  refine ⟨_, 1, rfl, fun _ => ⟨w.heap.size, 0, rfl, by simp, fun i hi => ?_⟩⟩
  match i, hi with
  | 0, _ => refine ⟨?_, ?_, ?_⟩ <;> go_simp <;> rfl
theorem lit2 (w : World) (x y : E) (t : TypeId) : IsE (w.alloc (.cells #[.int .u64 x.a, .int .u64 x.b, .int .u64 x.n, .int .u64 y.a, .int .u64 y.b, .int .u64 y.n] t)) (.slice (some ⟨w.heap.size, 0, none⟩) 2 2) [x, y] := by
  refine ⟨_, 2, rfl, fun _ => ⟨w.heap.size, 0, rfl, by simp, fun i hi => ?_⟩⟩
  match i, hi with
  | 0, _ => refine ⟨?_, ?_, ?_⟩ <;> go_simp <;> rfl
  | 1, _ => refine ⟨?_, ?_, ?_⟩ <;> go_simp <;> rfl
theorem Same_yes (L : List E) (A : Option Addr) (c : Nat) (vb : Value) (w : World) (ha : EAt w A L) (hb : IsE w vb L) (hl : L.length ≤ 4000000000000) :
    Calls Try.prog 13 #[.slice A L.length c, vb] w fun e w' => e = .returned (.bool true) ∧ Below w.heap.size w w' := by
  refine (Same_any _ vb L L w ⟨A, c, rfl, ha⟩ hb hl hl).mono ?_
  rintro e w' ⟨rfl, h⟩
  exact ⟨by simp [sameE], h⟩
theorem on_alloc {w w' : World} {o : Obj} (h : Below (w.alloc o).heap.size (w.alloc o) w') : Below w.heap.size w w' := ((Below.refl _ _).alloc (Nat.le_refl _) o).trans (h.mono (by simp))
set_option maxRecDepth 100000 in
set_option maxHeartbeats 4000000 in
theorem awake_any (w : World) : Calls Try.prog 7 #[] w fun e w' => e = .returned (.bool true) ∧ Below w.heap.size w w' := by
  go_enter Try.func7, Try.ntmps7
  go_wp2_with fail
  refine (cNew _).mono ?_
  rintro e1 w1 ⟨qt, Rt, rfl, t1, b1, f1⟩
  have X1 := Lib.hid (Alive.new t1 (b1) (f1))
  clear t1 b1 f1
  go_wp2_with fail
  refine (P_any _ _ _).mono ?_
  rintro e2 w2 ⟨rfl, b2⟩
  have A2t := Lib.hid (X1.out.below b2)
  clear X1
  clear b2
  go_wp2_with fail
  refine (aInsert ⟨1, 5, 7⟩ [] 0 [⟨1, 5, 7⟩] A2t.out (by decide) (by decide) (by decide) (by decide)).mono ?_
  rintro e3 w3 ⟨rfl, a3⟩
  have A3t := Lib.hid a3
  clear a3 A2t
  go_wp2_with fail
  refine (P_any _ _ _).mono ?_
  rintro e4 w4 ⟨rfl, b4⟩
  have A4t := Lib.hid (A3t.out.below b4)
  clear A3t
  clear b4
  go_wp2_with fail
  refine (aInsert ⟨3, 9, 2⟩ [⟨1, 5, 7⟩] 0 [⟨1, 5, 7⟩, ⟨3, 9, 2⟩] A4t.out (by decide) (by decide) (by decide) (by decide)).mono ?_
  rintro e5 w5 ⟨rfl, a5⟩
  have A5t := Lib.hid a5
  clear a5 A4t
  go_wp2_with fail
  refine (P_any _ _ _).mono ?_
  rintro e6 w6 ⟨rfl, b6⟩
  have A6t := Lib.hid (A5t.out.below b6)
  clear A5t
  clear b6
  go_wp2_with fail
  refine (aInsert ⟨1, 5, 7⟩ [⟨1, 5, 7⟩, ⟨3, 9, 2⟩] 9 [⟨1, 5, 7⟩, ⟨3, 9, 2⟩] A6t.out (by decide) (by decide) (by decide) (by decide)).mono ?_
  rintro e7 w7 ⟨rfl, a7⟩
  have A7t := Lib.hid a7
  clear a7 A6t
  go_wp2_with fail
  refine (aStab 4 [⟨1, 5, 7⟩, ⟨3, 9, 2⟩] [⟨1, 5, 7⟩, ⟨3, 9, 2⟩] A7t.out (by decide) (by decide) (by decide)).mono ?_
  rintro e8 w8 ⟨Au, cu, rfl, o8, b8⟩
  have A8t := Lib.hid (A7t.out.below b8)
  clear A7t
  have I8 := Lib.hid o8
  clear o8 b8
  go_wp2_with fail
  refine (P_any _ _ _).mono ?_
  rintro e9 w9 ⟨rfl, b9⟩
  have A9t := Lib.hid (A8t.out.below b9)
  clear A8t
  have I9u := Lib.hid (I8.out.below b9)
  clear I8
  clear b9
  go_wp2_with fail
  refine (P_any _ _ _).mono ?_
  rintro e10 w10 ⟨rfl, b10⟩
  have A10t := Lib.hid (A9t.out.below b10)
  clear A9t
  have I10u := Lib.hid (I9u.out.below b10)
  clear I9u
  clear b10
  go_wp2_with fail
  refine (Same_yes [⟨1, 5, 7⟩, ⟨3, 9, 2⟩] Au cu _ _ (I10u.out.below ((Below.refl _ _).alloc (Nat.le_refl _) _)) (lit2 _ ⟨1, 5, 7⟩ ⟨3, 9, 2⟩ _) (by decide)).mono ?_
  rintro e11 w11 ⟨rfl, b11⟩
  clear I10u
  have A11t := Lib.hid (A10t.out.below (on_alloc b11))
  clear A10t
  clear b11
  go_wp2_with fail
  refine (aStab 5 [⟨1, 5, 7⟩, ⟨3, 9, 2⟩] [⟨3, 9, 2⟩] A11t.out (by decide) (by decide) (by decide)).mono ?_
  rintro e12 w12 ⟨Av, cv, rfl, o12, b12⟩
  have A12t := Lib.hid (A11t.out.below b12)
  clear A11t
  have I12 := Lib.hid o12
  clear o12 b12
  go_wp2_with fail
  refine (P_any _ _ _).mono ?_
  rintro e13 w13 ⟨rfl, b13⟩
  have A13t := Lib.hid (A12t.out.below b13)
  clear A12t
  have I13v := Lib.hid (I12.out.below b13)
  clear I12
  clear b13
  go_wp2_with fail
  refine (Same_yes [⟨3, 9, 2⟩] Av cv _ _ (I13v.out.below ((Below.refl _ _).alloc (Nat.le_refl _) _)) (lit1 _ ⟨3, 9, 2⟩ _) (by decide)).mono ?_
  rintro e14 w14 ⟨rfl, b14⟩
  clear I13v
  have A14t := Lib.hid (A13t.out.below (on_alloc b14))
  clear A13t
  clear b14
  go_wp2
  go_ret
  exact ⟨rfl, A14t.out.since⟩
set_option maxRecDepth 100000 in
set_option maxHeartbeats 8000000 in
theorem Known_walk (w : World) : Calls Try.prog 6 #[] w fun e w' => e = .returned (.bool true) ∧ Below w.heap.size w w' := by
  go_enter Try.func6, Try.ntmps6
  go_wp2_with fail
  refine (awake_any _).mono ?_
  rintro e0 w0 ⟨rfl, b0⟩
  have B0 := Lib.hid b0
  clear b0
  go_wp2_with fail
  refine (cNew _).mono ?_
  rintro e1 w1 ⟨qt, Rt, rfl, t1, b1, f1⟩
  have X1 := Lib.hid (Alive.new t1 (B0.out.trans (b1.mono B0.out.size)) (fun k hk => Nat.le_trans B0.out.size (f1 k hk)))
  clear t1 b1 f1
  go_wp2_with fail
  refine (P_any _ _ _).mono ?_
  rintro e2 w2 ⟨rfl, b2⟩
  have A2t := Lib.hid (X1.out.below b2)
  clear X1
  clear b2
  go_wp2_with fail
  refine (aInsert ⟨1, 5, 7⟩ [] 0 [⟨1, 5, 7⟩] A2t.out (by decide) (by decide) (by decide) (by decide)).mono ?_
  rintro e3 w3 ⟨rfl, a3⟩
  have A3t := Lib.hid a3
  clear a3 A2t
  go_wp2_with fail
  refine (P_any _ _ _).mono ?_
  rintro e4 w4 ⟨rfl, b4⟩
  have A4t := Lib.hid (A3t.out.below b4)
  clear A3t
  clear b4
  go_wp2_with fail
  refine (aInsert ⟨3, 9, 2⟩ [⟨1, 5, 7⟩] 0 [⟨1, 5, 7⟩, ⟨3, 9, 2⟩] A4t.out (by decide) (by decide) (by decide) (by decide)).mono ?_
  rintro e5 w5 ⟨rfl, a5⟩
  have A5t := Lib.hid a5
  clear a5 A4t
  go_wp2_with fail
  refine (P_any _ _ _).mono ?_
  rintro e6 w6 ⟨rfl, b6⟩
  have A6t := Lib.hid (A5t.out.below b6)
  clear A5t
  clear b6
  go_wp2_with fail
  refine (aDelete ⟨3, 9, 7⟩ [⟨1, 5, 7⟩, ⟨3, 9, 2⟩] 6 [⟨1, 5, 7⟩, ⟨3, 9, 2⟩] A6t.out (by decide) (by decide) (by decide) (by decide)).mono ?_
  rintro e7 w7 ⟨rfl, a7⟩
  have A7t := Lib.hid a7
  clear a7 A6t
  go_wp2_with fail
  refine (P_any _ _ _).mono ?_
  rintro e8 w8 ⟨rfl, b8⟩
  have A8t := Lib.hid (A7t.out.below b8)
  clear A7t
  clear b8
  go_wp2_with fail
  refine (aDelete ⟨3, 9, 2⟩ [⟨1, 5, 7⟩, ⟨3, 9, 2⟩] 0 [⟨1, 5, 7⟩] A8t.out (by decide) (by decide) (by decide) (by decide)).mono ?_
  rintro e9 w9 ⟨rfl, a9⟩
  have A9t := Lib.hid a9
  clear a9 A8t
  go_wp2_with fail
  refine (P_any _ _ _).mono ?_
  rintro e10 w10 ⟨rfl, b10⟩
  have A10t := Lib.hid (A9t.out.below b10)
  clear A9t
  clear b10
  go_wp2_with fail
  refine (aInsert ⟨3, 3, 1⟩ [⟨1, 5, 7⟩] 1 [⟨1, 5, 7⟩] A10t.out (by decide) (by decide) (by decide) (by decide)).mono ?_
  rintro e11 w11 ⟨rfl, a11⟩
  have A11t := Lib.hid a11
  clear a11 A10t
  go_wp2_with fail
  refine (P_any _ _ _).mono ?_
  rintro e12 w12 ⟨rfl, b12⟩
  have A12t := Lib.hid (A11t.out.below b12)
  clear A11t
  clear b12
  go_wp2_with fail
  refine (aInsert ⟨0, 1099511627776, 18446744073709551615⟩ [⟨1, 5, 7⟩] 0 [⟨0, 1099511627776, 18446744073709551615⟩, ⟨1, 5, 7⟩] A12t.out (by decide) (by decide) (by decide) (by decide)).mono ?_
  rintro e13 w13 ⟨rfl, a13⟩
  have A13t := Lib.hid a13
  clear a13 A12t
  go_wp2_with fail
  refine (cNew _).mono ?_
  rintro e14 w14 ⟨qn, Rn, rfl, t14, b14, f14⟩
  have X14 := Lib.hid (A13t.out.fresh t14 b14 f14)
  have A14t := Lib.hid (A13t.out.below b14)
  clear A13t
  clear t14 b14 f14
  go_wp2_with fail
  refine (P_any _ _ _).mono ?_
  rintro e15 w15 ⟨rfl, b15⟩
  have A15t := Lib.hid (A14t.out.below b15)
  clear A14t
  have A15n := Lib.hid (X14.out.below b15)
  clear X14
  clear b15
  go_wp2_with fail
  refine (aOverlap 0 1 [⟨0, 1099511627776, 18446744073709551615⟩, ⟨1, 5, 7⟩] [⟨0, 1099511627776, 18446744073709551615⟩] A15t.out (by decide) (by decide)).mono ?_
  rintro e16 w16 ⟨Ao1, co1, rfl, o16, b16⟩
  have A16t := Lib.hid (A15t.out.below b16)
  clear A15t
  have A16n := Lib.hid (A15n.out.below b16)
  clear A15n
  clear o16 b16
  go_wp2_with fail
  refine (P_any _ _ _).mono ?_
  rintro e17 w17 ⟨rfl, b17⟩
  have A17t := Lib.hid (A16t.out.below b17)
  clear A16t
  have A17n := Lib.hid (A16n.out.below b17)
  clear A16n
  clear b17
  go_wp2_with fail
  refine (aOverlap 4 6 [⟨0, 1099511627776, 18446744073709551615⟩, ⟨1, 5, 7⟩] [⟨0, 1099511627776, 18446744073709551615⟩, ⟨1, 5, 7⟩] A17t.out (by decide) (by decide)).mono ?_
  rintro e18 w18 ⟨Ao2, co2, rfl, o18, b18⟩
  have A18t := Lib.hid (A17t.out.below b18)
  clear A17t
  have A18n := Lib.hid (A17n.out.below b18)
  clear A17n
  have I18 := Lib.hid o18
  clear o18 b18
  go_wp2_with fail
  refine (P_any _ _ _).mono ?_
  rintro e19 w19 ⟨rfl, b19⟩
  have A19t := Lib.hid (A18t.out.below b19)
  clear A18t
  have A19n := Lib.hid (A18n.out.below b19)
  clear A18n
  have I19o2 := Lib.hid (I18.out.below b19)
  clear I18
  clear b19
  go_wp2_with fail
  refine (P_any _ _ _).mono ?_
  rintro e20 w20 ⟨rfl, b20⟩
  have A20t := Lib.hid (A19t.out.below b20)
  clear A19t
  have A20n := Lib.hid (A19n.out.below b20)
  clear A19n
  have I20o2 := Lib.hid (I19o2.out.below b20)
  clear I19o2
  clear b20
  go_wp2_with fail
  refine (Same_yes [⟨0, 1099511627776, 18446744073709551615⟩, ⟨1, 5, 7⟩] Ao2 co2 _ _ (I20o2.out.below ((Below.refl _ _).alloc (Nat.le_refl _) _)) (lit2 _ ⟨0, 1099511627776, 18446744073709551615⟩ ⟨1, 5, 7⟩ _) (by decide)).mono ?_
  rintro e21 w21 ⟨rfl, b21⟩
  clear I20o2
  have A21t := Lib.hid (A20t.out.below (on_alloc b21))
  clear A20t
  have A21n := Lib.hid (A20n.out.below (on_alloc b21))
  clear A20n
  clear b21
  go_wp2_with fail
  refine (aStab 1099511627776 [⟨0, 1099511627776, 18446744073709551615⟩, ⟨1, 5, 7⟩] [] A21t.out (by decide) (by decide) (by decide)).mono ?_
  rintro e22 w22 ⟨As1, cs1, rfl, o22, b22⟩
  have A22t := Lib.hid (A21t.out.below b22)
  clear A21t
  have A22n := Lib.hid (A21n.out.below b22)
  clear A21n
  clear o22 b22
  go_wp2_with fail
  refine (aStab 1099511627775 [⟨0, 1099511627776, 18446744073709551615⟩, ⟨1, 5, 7⟩] [⟨0, 1099511627776, 18446744073709551615⟩] A22t.out (by decide) (by decide) (by decide)).mono ?_
  rintro e23 w23 ⟨As2, cs2, rfl, o23, b23⟩
  have A23t := Lib.hid (A22t.out.below b23)
  clear A22t
  have A23n := Lib.hid (A22n.out.below b23)
  clear A22n
  clear o23 b23
  go_wp2_with fail
  refine (P_any _ _ _).mono ?_
  rintro e24 w24 ⟨rfl, b24⟩
  have A24t := Lib.hid (A23t.out.below b24)
  clear A23t
  have A24n := Lib.hid (A23n.out.below b24)
  clear A23n
  clear b24
  go_wp2_with fail
  refine (aOverlap 6 4 [⟨0, 1099511627776, 18446744073709551615⟩, ⟨1, 5, 7⟩] [] A24t.out (by decide) (by decide)).mono ?_
  rintro e25 w25 ⟨Ao3, co3, rfl, o25, b25⟩
  have A25t := Lib.hid (A24t.out.below b25)
  clear A24t
  have A25n := Lib.hid (A24n.out.below b25)
  clear A24n
  clear o25 b25
  go_wp2_with fail
  refine (P_any _ _ _).mono ?_
  rintro e26 w26 ⟨rfl, b26⟩
  have A26t := Lib.hid (A25t.out.below b26)
  clear A25t
  have A26n := Lib.hid (A25n.out.below b26)
  clear A25n
  clear b26
  go_wp2_with fail
  refine (insert_nil _ _ _ _).mono ?_
  rintro e27 w27 ⟨rfl, b27⟩
  have A27t := Lib.hid (A26t.out.below b27)
  clear A26t
  have A27n := Lib.hid (A26n.out.below b27)
  clear A26n
  clear b27
  go_wp2_with fail
  refine (P_any _ _ _).mono ?_
  rintro e28 w28 ⟨rfl, b28⟩
  have A28t := Lib.hid (A27t.out.below b28)
  clear A27t
  have A28n := Lib.hid (A27n.out.below b28)
  clear A27n
  clear b28
  go_wp2_with fail
  refine (delete_nil _ _ _ _).mono ?_
  rintro e29 w29 ⟨rfl, b29⟩
  have A29t := Lib.hid (A28t.out.below b29)
  clear A28t
  have A29n := Lib.hid (A28n.out.below b29)
  clear A28n
  clear b29
  go_wp2_with fail
  refine (Len_nil _).mono ?_
  rintro e30 w30 ⟨rfl, rfl⟩
  go_wp2_with fail
  refine (Depth_nil _).mono ?_
  rintro e31 w31 ⟨rfl, rfl⟩
  go_wp2_with fail
  refine (Stab_nil _ _).mono ?_
  rintro e32 w32 ⟨rfl, b32⟩
  have A32t := Lib.hid (A29t.out.below b32)
  clear A29t
  have A32n := Lib.hid (A29n.out.below b32)
  clear A29n
  clear b32
  go_wp2_with fail
  refine (All_nil _).mono ?_
  rintro e33 w33 ⟨rfl, b33⟩
  have A33t := Lib.hid (A32t.out.below b33)
  clear A32t
  have A33n := Lib.hid (A32n.out.below b33)
  clear A32n
  clear b33
  go_wp2_with fail
  refine (Copy_nil _).mono ?_
  rintro e34 w34 ⟨rfl, rfl⟩
  go_wp2_with fail
  refine (P_any _ _ _).mono ?_
  rintro e35 w35 ⟨rfl, b35⟩
  have Z := Lib.hid (show w35.cell? _ = some (.pointer none) from (b35.cell (p := ⟨_, 0, none⟩) (by simp)).trans (World.cell?_alloc_new _ #[.pointer none] 70 0))
  have A35t := Lib.hid (A33t.out.below (on_alloc b35))
  clear A33t
  have A35n := Lib.hid (A33n.out.below (on_alloc b35))
  clear A33n
  clear b35
  go_wp2_with fail
  refine (insert_zero _ _ _ _ _ Z.out).mono ?_
  rintro e36 w36 ⟨rfl, b36⟩
  have A36t := Lib.hid (A35t.out.below b36)
  clear A35t
  have A36n := Lib.hid (A35n.out.below b36)
  clear A35n
  clear b36
  go_wp2_with fail
  refine (aLen [] A36n.out).mono ?_
  rintro e37 w37 ⟨rfl, rfl⟩
  go_wp2_with fail
  refine (aDepth [] A36n.out (by decide)).mono ?_
  rintro e38 w38 ⟨d, rfl, hd, rfl⟩
  obtain rfl : d = 0 := by
    obtain ⟨_, _, h | h⟩ := hd
    · exact h.2
    · simp at h
  clear hd
  go_wp2_with fail
  refine (aAll [] A36n.out (by decide)).mono ?_
  rintro e39 w39 ⟨Az, cz, rfl, o39, b39⟩
  have A39t := Lib.hid (A36t.out.below b39)
  clear A36t
  have A39n := Lib.hid (A36n.out.below b39)
  clear A36n
  clear o39 b39
  go_wp2
  go_ret
  exact ⟨rfl, A39n.out.since⟩
end Go.Proofs.Ytbifgmamjdniaaa
