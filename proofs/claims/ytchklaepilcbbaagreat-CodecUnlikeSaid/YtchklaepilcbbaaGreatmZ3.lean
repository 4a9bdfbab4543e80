/- SameOp, for every two operations whose values may be. -/
import Derived.Test.YtchklaepilcbbaaGreatmZ1
import Derived.Test.YtchklaepilcbbaaGreatH2
namespace Go.Proofs.YtchklaepilcbbaaGreat
open Go.RowKit
/-- Two boxes of operations, wherever the walk has come to. -/
structure TwoO (w0 w : World) (a b : OP) : Prop where
  bel : Below w0.heap.size w0 w
  b1 : Bx w w0.heap.size a.cells
  b2 : Bx w (w0.heap.size + 1) b.cells
theorem TwoO.new (w : World) (a b : OP) : TwoO w ((w.alloc (.cells a.cells 43)).alloc (.cells b.cells 43)) a b := by
  refine ⟨((Below.refl _ _).alloc (Nat.le_refl _) _).alloc (by simp) _, (Bx.new w _ _).below ((Below.refl _ _).alloc (Nat.le_refl _) _), ?_⟩
  have := Bx.new (w.alloc (.cells a.cells 43)) b.cells 43
  simpa using this
theorem TwoO.step {w0 w w' : World} {a b : OP} (h : TwoO w0 w a b) (hb : Below w.heap.size w w') : TwoO w0 w' a b := ⟨h.bel.trans (hb.mono h.bel.size), h.b1.below hb, h.b2.below hb⟩
theorem Bx.setFar {w : World} {g p : Nat} {A : Array Value} (h : Bx w g A) (hp : g ≠ p) (i : Nat) (v : Value) : Bx (w.setCell ⟨p, i, none⟩ v) g A :=
  ⟨by simpa [World.setCell] using h.lt, fun j => by rw [World.cell?_setCell_other _ _ _ _ (fun e => hp (congrArg Addr.block e).symm)]; exact h.c j, fun j => by rw [World.frozen?_setCell]; exact h.fr j⟩
theorem blank2 {w0 w : World} {p : Nat} (a b : OP) (hp : p = w0.heap.size) (h : TwoO w0 w a b) :
    ∃ W, (((((((((((w.setCell ⟨p, 7, none⟩ (.int .i64 0)).setCell ⟨p, 8, none⟩ (.bool false)).setCell ⟨p, 9, none⟩ (.int .i64 0)).setCell ⟨p, 10, none⟩ (.float .f64 0)).setCell ⟨p, 11, none⟩ (.string ⟨#[]⟩)).setCell ⟨p + 1, 7, none⟩ (.int .i64 0)).setCell ⟨p + 1, 8, none⟩ (.bool false)).setCell ⟨p + 1, 9, none⟩ (.int .i64 0)).setCell ⟨p + 1, 10, none⟩ (.float .f64 0)).setCell ⟨p + 1, 11, none⟩ (.string ⟨#[]⟩))) = W ∧ Bx W p (OP.cells ⟨a.kind, a.edge, a.id, a.label, a.fr, a.til, a.key, VP.zero, a.pf, a.pt⟩) ∧ Bx W (p + 1) (OP.cells ⟨b.kind, b.edge, b.id, b.label, b.fr, b.til, b.key, VP.zero, b.pf, b.pt⟩) ∧ Below w0.heap.size w0 W := by
  subst hp
  have n1 : w0.heap.size ≠ w0.heap.size + 1 := by omega
  have n2 : w0.heap.size + 1 ≠ w0.heap.size := by omega
  refine ⟨_, rfl, ?_, ?_, ?_⟩
  · exact ((((((((((h.b1.set 7 (.int .i64 0) (by simp)).set 8 (.bool false) (by simp)).set 9 (.int .i64 0) (by simp)).set 10 (.float .f64 0) (by simp)).set 11 (.string ⟨#[]⟩) (by simp)).eq rfl).setFar n1 _ _).setFar n1 _ _).setFar n1 _ _).setFar n1 _ _).setFar n1 _ _
  · exact ((((((((((h.b2.setFar n2 _ _).setFar n2 _ _).setFar n2 _ _).setFar n2 _ _).setFar n2 _ _).set 7 (.int .i64 0) (by simp)).set 8 (.bool false) (by simp)).set 9 (.int .i64 0) (by simp)).set 10 (.float .f64 0) (by simp)).set 11 (.string ⟨#[]⟩) (by simp)).eq rfl
  · have l1 : w0.heap.size ≤ w0.heap.size := Nat.le_refl _
    have l2 : w0.heap.size ≤ w0.heap.size + 1 := by omega
    exact (((((((((h.bel.setCell l1 _).setCell l1 _).setCell l1 _).setCell l1 _).setCell l1 _).setCell l2 _).setCell l2 _).setCell l2 _).setCell l2 _).setCell l2 _
theorem eq_f98 (w : World) : (Op.equalIn 9998 22 (.float .f64 0) (.float .f64 0)).run Tryz.prog w = .ok true w := by kernel_rfl
theorem nat_ne {m n : Nat} (h : ¬ m = n) : ((m : Int) == (n : Int)) = false := by rw [beq_eq_false_iff_ne]; omega
section
set_option maxRecDepth 100000
set_option maxHeartbeats 4000000
theorem SameOp_kinds (kind : Int) (edge : Bool) (id : Nat) (label : ByteArray) (fr til : Nat) (key : ByteArray) (k : Int) (b : Bool) (n : Int) (f : Nat) (s : ByteArray) (pf pt : Nat) (kind' : Int) (edge' : Bool) (id' : Nat) (label' : ByteArray) (fr' til' : Nat) (key' : ByteArray) (k' : Int) (b' : Bool) (n' : Int) (f' : Nat) (s' : ByteArray) (pf' pt' : Nat) (w : World) (hk : k ≠ k') :
    Calls Tryz.prog 23 #[OP.val ⟨kind, edge, id, label, fr, til, key, ⟨k, b, n, f, s⟩, pf, pt⟩, OP.val ⟨kind', edge', id', label', fr', til', key', ⟨k', b', n', f', s'⟩, pf', pt'⟩] w fun e w' => e = .returned (.bool false) ∧ Below w.heap.size w w' := by
  have hsf := store_float
  have t1 : (k == k') = false := by simp [hk]
  clear hk
  go_enter Tryz.func23, Tryz.ntmps23
  go_wp2
  go_ret
  exact ⟨rfl, ((Below.refl _ _).alloc (Nat.le_refl _) _).alloc (by simp) _⟩
theorem SameOp_same (kind : Int) (edge : Bool) (id : Nat) (label : ByteArray) (fr til : Nat) (key : ByteArray) (k : Int) (b : Bool) (n : Int) (f : Nat) (s : ByteArray) (pf pt : Nat) (kind' : Int) (edge' : Bool) (id' : Nat) (label' : ByteArray) (fr' til' : Nat) (key' : ByteArray) (b' : Bool) (n' : Int) (f' : Nat) (s' : ByteArray) (pf' pt' : Nat) (w : World)
    (r : Bool) (C : ∀ W, Calls Tryz.prog 63 #[vagg k b n f s, vagg k b' n' f' s'] W fun e w' => e = .returned (.bool r) ∧ Below W.heap.size W w') (c : Bool) (hc : c = true ↔ r = true ∧ (kind = kind' ∧ edge = edge' ∧ id = id' ∧ label = label' ∧ fr = fr' ∧ til = til' ∧ key = key' ∧ pf = pf' ∧ pt = pt')) :
    Calls Tryz.prog 23 #[OP.val ⟨kind, edge, id, label, fr, til, key, ⟨k, b, n, f, s⟩, pf, pt⟩, OP.val ⟨kind', edge', id', label', fr', til', key', ⟨k, b', n', f', s'⟩, pf', pt'⟩] w fun e w' => e = .returned (.bool c) ∧ Below w.heap.size w w' := by
  have hsf := store_float
  have hfl : ∀ w : World, (Op.equalIn 9998 22 (.float .f64 0) (.float .f64 0)).run Tryz.prog w = .ok true w := eq_f98
  have CC := Lib.hid C
  have HC := Lib.hid hc
  have T0 := Lib.hid (TwoO.new w ⟨kind, edge, id, label, fr, til, key, ⟨k, b, n, f, s⟩, pf, pt⟩ ⟨kind', edge', id', label', fr', til', key', ⟨k, b', n', f', s'⟩, pf', pt'⟩)
  clear C hc
  go_enter Tryz.func23, Tryz.ntmps23
  go_upto_region 3 with (go_at_call 63; (with_reducible refine (CC.out _).mono ?_); rintro e w1 ⟨rfl, hb⟩; have T1 := Lib.hid (T0.out.step hb); have q1 := T1.out.b1.c; have q2 := T1.out.b2.c; have f1 := T1.out.b1.fr; have f2 := T1.out.b2.fr; clear hb)
  obtain ⟨W, hW, x1, x2, b3⟩ := blank2 ⟨kind, edge, id, label, fr, til, key, ⟨k, b, n, f, s⟩, pf, pt⟩ ⟨kind', edge', id', label', fr', til', key', ⟨k, b', n', f', s'⟩, pf', pt'⟩ rfl T1.out
  rw [hW]
  have B3 := Lib.hid b3
  clear hW b3 q1 q2 f1 f2
  have q1 := x1.c
  have q2 := x2.c
  clear x1 x2
  cases r
  case false =>
    have hcf : Hid (c = false) := Lib.hid (by have := HC.out; cases c <;> simp at this ⊢)
    as_aux_lemma =>
    go_wp2
    go_ret
    exact ⟨by rw [hcf.out]; rfl, B3.out⟩
  by_cases h : kind = kind'
  case neg =>
    have hcf : Hid (c = false) := Lib.hid (by have := HC.out; cases c; · rfl
                                              · simp at this; exact absurd this.1 h)
    have t1 : (kind == kind') = false := by simp [h]
    clear h
    as_aux_lemma =>
    go_wp2
    go_ret
    exact ⟨by rw [hcf.out]; rfl, B3.out⟩
  subst h
  by_cases h : edge = edge'
  case neg =>
    have hcf : Hid (c = false) := Lib.hid (by have := HC.out; cases c; · rfl
                                              · simp at this; exact absurd this.1 h)
    have t1 : (edge == edge') = false := by simpa using h
    clear h
    as_aux_lemma =>
    go_wp2
    go_ret
    exact ⟨by rw [hcf.out]; rfl, B3.out⟩
  subst h
  by_cases h : id = id'
  case neg =>
    have hcf : Hid (c = false) := Lib.hid (by have := HC.out; cases c; · rfl
                                              · simp at this; exact absurd this.1 h)
    have t1 : ((id : Int) == (id' : Int)) = false := nat_ne h
    clear h
    as_aux_lemma =>
    go_wp2
    go_ret
    exact ⟨by rw [hcf.out]; rfl, B3.out⟩
  subst h
  by_cases h : label = label'
  case neg =>
    have hcf : Hid (c = false) := Lib.hid (by have := HC.out; cases c; · rfl
                                              · simp at this; exact absurd this.1 h)
    have t1 : (label.toList == label'.toList) = false := str_ne h
    clear h
    as_aux_lemma =>
    go_wp2
    go_ret
    exact ⟨by rw [hcf.out]; rfl, B3.out⟩
  subst h
  by_cases h : fr = fr'
  case neg =>
    have hcf : Hid (c = false) := Lib.hid (by have := HC.out; cases c; · rfl
                                              · simp at this; exact absurd this.1 h)
    have t1 : ((fr : Int) == (fr' : Int)) = false := nat_ne h
    clear h
    as_aux_lemma =>
    go_wp2
    go_ret
    exact ⟨by rw [hcf.out]; rfl, B3.out⟩
  subst h
  by_cases h : til = til'
  case neg =>
    have hcf : Hid (c = false) := Lib.hid (by have := HC.out; cases c; · rfl
                                              · simp at this; exact absurd this.1 h)
    have t1 : ((til : Int) == (til' : Int)) = false := nat_ne h
    clear h
    as_aux_lemma =>
    go_wp2
    go_ret
    exact ⟨by rw [hcf.out]; rfl, B3.out⟩
  subst h
  by_cases h : key = key'
  case neg =>
    have hcf : Hid (c = false) := Lib.hid (by have := HC.out; cases c; · rfl
                                              · simp at this; exact absurd this.1 h)
    have t1 : (key.toList == key'.toList) = false := str_ne h
    clear h
    as_aux_lemma =>
    go_wp2
    go_ret
    exact ⟨by rw [hcf.out]; rfl, B3.out⟩
  subst h
  by_cases h : pf = pf'
  case neg =>
    have hcf : Hid (c = false) := Lib.hid (by have := HC.out; cases c; · rfl
                                              · simp at this; exact absurd this.1 h)
    have t1 : ((pf : Int) == (pf' : Int)) = false := nat_ne h
    clear h
    as_aux_lemma =>
    go_wp2
    go_ret
    exact ⟨by rw [hcf.out]; rfl, B3.out⟩
  subst h
  by_cases h : pt = pt'
  case neg =>
    have hcf : Hid (c = false) := Lib.hid (by have := HC.out; cases c; · rfl
                                              · simp at this; exact absurd this h)
    have t1 : ((pt : Int) == (pt' : Int)) = false := nat_ne h
    clear h
    as_aux_lemma =>
    go_wp2
    go_ret
    exact ⟨by rw [hcf.out]; rfl, B3.out⟩
  subst h
  have hct : Hid (c = true) := Lib.hid (by have := HC.out; simpa using this)
  go_wp2
  go_ret
  exact ⟨by rw [hct.out]; rfl, B3.out⟩
theorem SameOp_any (x y : OP) (hx : x.wide) (hy : y.wide) (mx : x.v.may) (my : y.v.may) (w : World) :
    Calls Tryz.prog 23 #[x.val, y.val] w fun e w' => ∃ c : Bool, e = .returned (.bool c) ∧ (c = true ↔ x = y) ∧ Below w.heap.size w w' := by
  have wx := hx.2.2.2.2.2.2.1
  have wy := hy.2.2.2.2.2.2.1
  have CS := fun W => Same_any x.v.k x.v.n y.v.k y.v.n x.v.b y.v.b x.v.f y.v.f x.v.s y.v.s W wx wy mx my
  obtain ⟨kind, edge, id, label, fr, til, key, ⟨k, b, n, f, s⟩, pf, pt⟩ := x
  obtain ⟨kind', edge', id', label', fr', til', key', ⟨k', b', n', f', s'⟩, pf', pt'⟩ := y
  by_cases hk : k = k'
  · subst hk
    simp only at CS
    obtain ⟨c, hc⟩ : ∃ c : Bool, c = true ↔ (cmpK (keyV k b n f s) (keyV k b' n' f' s') == 0) = true ∧ (kind = kind' ∧ edge = edge' ∧ id = id' ∧ label = label' ∧ fr = fr' ∧ til = til' ∧ key = key' ∧ pf = pf' ∧ pt = pt') := by
      by_cases h : (cmpK (keyV k b n f s) (keyV k b' n' f' s') == 0) = true ∧ (kind = kind' ∧ edge = edge' ∧ id = id' ∧ label = label' ∧ fr = fr' ∧ til = til' ∧ key = key' ∧ pf = pf' ∧ pt = pt')
      · exact ⟨true, fun _ => h, fun _ => rfl⟩
      · exact ⟨false, fun e => (by cases e), fun e => absurd e h⟩
    refine (SameOp_same kind edge id label fr til key k b n f s pf pt kind' edge' id' label' fr' til' key' b' n' f' s' pf' pt' w _ CS c hc).mono fun e w' ⟨he, hb⟩ => ⟨c, he, hc.trans ?_, hb⟩
    rw [beq_iff_eq, good_cmpK.zero]
    constructor
    · rintro ⟨h, rfl, rfl, rfl, rfl, rfl, rfl, rfl, rfl, rfl⟩
      obtain ⟨_, rfl, rfl, rfl, rfl⟩ := key_inj k k b b' n n' f f' s s' mx my wx.2.2.1 wy.2.2.1 h
      rfl
    · intro h
      injection h with h1 h2 h3 h4 h5 h6 h7 h8 h9 h10
      injection h8 with g1 g2 g3 g4 g5
      subst h1 h2 h3 h4 h5 h6 h7 h9 h10 g2 g3 g4 g5
      exact ⟨rfl, rfl, rfl, rfl, rfl, rfl, rfl, rfl, rfl, rfl⟩
  · refine (SameOp_kinds kind edge id label fr til key k b n f s pf pt kind' edge' id' label' fr' til' key' k' b' n' f' s' pf' pt' w hk).mono fun e w' ⟨he, hb⟩ => ⟨false, he, ?_, hb⟩
    simp only [Bool.false_eq_true, false_iff]
    intro h
    injection h with h1 h2 h3 h4 h5 h6 h7 h8 h9 h10
    injection h8 with g1
    exact hk g1
end
end Go.Proofs.YtchklaepilcbbaaGreat
