/- The closures of source.op; what stands between an operation's id and its period. -/
import Derived.Test.YtchklaepilcbbaaGreatmP5
namespace Go.Proofs.YtchklaepilcbbaaGreat
open Go.RowKit
/-- What has been read of an operation behind its id, up to its period. -/
def Mid (o : OP) (b : Bool) (L : List UInt8) (b' : Bool) (L' : List UInt8) : Prop :=
  (b' = false → b = false ∧ L = o.mid ++ L') ∧ ∀ y : OP, y.may → y.wide → y.kind = o.kind → ∀ r, b = false → L = y.mid ++ r → b' = false ∧ L' = r ∧ y.label = o.label ∧ y.fr = o.fr ∧ y.til = o.til ∧ y.key = o.key ∧ y.v = o.v
section
variable {b b1 b2 b3 : Bool} {L L1 L2 L3 : List UInt8} {edge : Bool} {id pf pt : Nat}
theorem mid_1 {x : ByteArray} (h : Reads encStr (fun t => t.size ≤ 16) b L x b1 L1) : Mid ⟨1, edge, id, x, 0, 0, ⟨#[]⟩, VP.zero, pf, pt⟩ b L b1 L1 := by
  refine ⟨fun h0 => ?_, fun y hy _ hk r hb hL => ?_⟩
  · obtain ⟨h1, h2⟩ := h.1 h0
    exact ⟨h1, h2⟩
  · obtain ⟨_, _, _, hc⟩ := hy
    unfold OP.kindP at hc
    unfold OP.mid at hL
    simp only at hk
    rw [hk] at hc hL
    simp at hc hL
    obtain ⟨_, h1, h2, h3, h4, h5⟩ := hc
    obtain ⟨e1, e2, e3⟩ := h.2 y.label r (labelB_size h1) hb hL
    exact ⟨e2, e3, e1.symm, h2, h3, h4, h5⟩
theorem mid_2 {x : ByteArray} {m n : Nat} (h : Reads encStr (fun t => t.size ≤ 16) b L x b1 L1) (g : Reads encNum (fun n => n ≤ 1099511627776) b1 L1 m b2 L2) (k : Reads encNum (fun n => n ≤ 1099511627776) b2 L2 n b3 L3) :
    Mid ⟨2, edge, id, x, m, n, ⟨#[]⟩, VP.zero, pf, pt⟩ b L b3 L3 := by
  refine ⟨fun h0 => ?_, fun y hy _ hk r hb hL => ?_⟩
  · obtain ⟨h1, e1⟩ := k.1 h0
    obtain ⟨h2, e2⟩ := g.1 h1
    obtain ⟨h3, e3⟩ := h.1 h2
    refine ⟨h3, ?_⟩
    rw [e3, e2, e1]
    simp [OP.mid, encStr]
  · obtain ⟨_, _, _, hc⟩ := hy
    unfold OP.kindP at hc
    unfold OP.mid at hL
    simp only at hk
    rw [hk] at hc hL
    simp at hc hL
    obtain ⟨_, h1, h2, h3, h4, h5⟩ := hc
    unfold idP at h2 h3
    obtain ⟨e1, e2, e3⟩ := h.2 y.label (encNum y.fr ++ (encNum y.til ++ r)) (labelB_size h1) hb hL
    obtain ⟨e4, e5, e6⟩ := g.2 y.fr (encNum y.til ++ r) h2.2 e2 e3
    obtain ⟨e7, e8, e9⟩ := k.2 y.til r h3.2 e5 e6
    exact ⟨e8, e9, e1.symm, e4.symm, e7.symm, h4, h5⟩
theorem mid_34 {k : Int} (hk : k = 3 ∨ k = 4) : Mid ⟨k, edge, id, ⟨#[]⟩, 0, 0, ⟨#[]⟩, VP.zero, pf, pt⟩ b L b L := by
  have hm : ∀ y : OP, y.kind = k → y.mid = [] := fun y h => by
    unfold OP.mid; rw [h]; rcases hk with rfl | rfl <;> simp
  refine ⟨fun h0 => ⟨h0, by rw [hm _ rfl]; rfl⟩, fun y hy _ hk' r hb hL => ?_⟩
  rw [hm y hk'] at hL
  obtain ⟨_, _, _, hc⟩ := hy
  unfold OP.kindP at hc
  simp only at hk'
  rw [hk'] at hc
  rcases hk with rfl | rfl <;> simp at hc <;> exact ⟨hb, hL, hc.1, hc.2.1, hc.2.2.1, hc.2.2.2.1, hc.2.2.2.2⟩
theorem mid_5 {x : ByteArray} {v : VP} (h : Reads encStr (fun t => t.size ≤ 16) b L x b1 L1) (g : Reads VP.enc (fun v => v.may ∧ v.wide) b1 L1 v b2 L2) :
    Mid ⟨5, edge, id, ⟨#[]⟩, 0, 0, x, v, pf, pt⟩ b L b2 L2 := by
  refine ⟨fun h0 => ?_, fun y hy hw hk r hb hL => ?_⟩
  · obtain ⟨h1, e1⟩ := g.1 h0
    obtain ⟨h2, e2⟩ := h.1 h1
    refine ⟨h2, ?_⟩
    rw [e2, e1]
    simp [OP.mid, encStr]
  · obtain ⟨_, _, _, hc⟩ := hy
    unfold OP.kindP at hc
    unfold OP.mid at hL
    simp only at hk
    rw [hk] at hc hL
    simp at hc hL
    obtain ⟨h1, h2, h3, h4, h5, _⟩ := hc
    obtain ⟨e1, e2, e3⟩ := h.2 y.key (y.v.enc ++ r) (wordB_size h4).1 hb hL
    obtain ⟨e4, e5, e6⟩ := g.2 y.v r ⟨h5, hw.2.2.2.2.2.2.1⟩ e2 e3
    exact ⟨e5, e6, h1, h2, h3, e1.symm, e4.symm⟩
end
/-- An operation read: kind, edge, id, what stands between, period. -/
theorem reads_whole {bad b1 b2 b3 b4 b5 b6 : Bool} {L L1 L2 L3 L4 L5 L6 : List UInt8} (o : OP) (hk : Reads (fun k => [kind8 k]) (fun k => ((1 : Nat) : Int) ≤ k ∧ k ≤ ((5 : Nat) : Int)) bad L o.kind b1 L1)
    (he : Reads (fun b => [bit8 b]) (fun _ => True) b1 L1 o.edge b2 L2) (hi : Reads encNum (fun n => n ≤ 1099511627776) b2 L2 o.id b3 L3) (hm : Mid o b3 L3 b4 L4)
    (hf : Reads encNum (fun n => n ≤ 1099511627776) b4 L4 o.pf b5 L5) (ht : Reads encNum (fun n => n ≤ 1099511627776) b5 L5 o.pt b6 L6) : ReadsO bad L o b6 L6 := by
  refine reads_op o hk he hi ⟨hm.1, fun y r ⟨h1, h2, h3, h4, h5, h6, h7⟩ hb hL => ?_⟩ (fun y h1 h2 h3 r hb hL => ?_) hf ht
  · obtain ⟨e1, e2, e3, e4, e5, e6, e7⟩ := hm.2 y h1 h2 h3 r hb hL
    exact ⟨OP.eq h3.symm h4.symm h5.symm e3.symm e4.symm e5.symm e6.symm e7.symm h6.symm h7.symm, e1, e2⟩
  · obtain ⟨e1, e2, _⟩ := hm.2 y h1 h2 h3 r hb hL
    exact ⟨e1, e2⟩
section
set_option maxRecDepth 100000
set_option maxHeartbeats 2000000
theorem op_none (w : World) : Calls Tryz.prog 110 #[] w fun e w' => e = .returned (.tuple #[]) ∧ w = w' := by
  go_enter Tryz.func110, Tryz.ntmps110
  go_wp2
  go_end0
  exact ⟨rfl, rfl⟩
theorem op_label (v : OP) (s g c k p1 p3 : Nat) (A : Option Addr) (l : List UInt8) (bad : Bool) (w : World) (h : Src w s g A c l k bad) (hp : w.cell? ⟨p1, 0, none⟩ = some (.pointer (some ⟨s, 0, none⟩))) (hx : Bx w p3 v.cells) (h1 : p3 ≠ s) (h2 : p3 ≠ g) :
    Calls Tryz.prog 111 #[.pointer (some ⟨p1, 0, none⟩), .pointer (some ⟨p3, 0, none⟩)] w fun e w' => e = .returned (.tuple #[]) ∧ ∃ x : ByteArray, x.size ≤ 16 ∧ Fills encStr (fun t => t.size ≤ 16) s g A c l k bad p3 ((OP.mk v.kind v.edge v.id x v.fr v.til v.key v.v v.pf v.pt).cells) x w w' := by
  have C := Lib.hid (Tells.text s g c k 16 (by omega) A l bad w h)
  have HX := Lib.hid (And.intro hx (And.intro h1 h2))
  have H := Lib.hid h
  clear h hx h1 h2
  go_enter Tryz.func111, Tryz.ntmps111
  go_wp2_with (go_at_call 103; (refine (C.out).mono ?_); rintro e w1 ⟨x, rfl, hr, ht⟩; have T1 := Lib.hid ht; have X1 := (HX.out.1.far (ht.choose_spec.choose_spec.2.1) HX.out.2.1 HX.out.2.2); have q1 := X1.c; have f1 := X1.fr; have R1 := Lib.hid hr; clear hr; clear ht X1)
  go_end0
  exact ⟨rfl, x, R1.out, Fills.of T1.out HX.out.1 (plain_o v) HX.out.2.1 HX.out.2.2 (by simp) rfl⟩
theorem op_edge (v : OP) (s g c k p1 p3 p5 : Nat) (A : Option Addr) (l : List UInt8) (bad : Bool) (w : World) (h : Src w s g A c l k bad) (hp : Bx w p1 #[.pointer (some ⟨s, 0, none⟩)]) (hx : Bx w p3 v.cells) (h1 : p3 ≠ s) (h2 : p3 ≠ g) (h3 : p1 ≠ s ∧ p1 ≠ g ∧ p1 ≠ p3)
    (h5 : w.cell? ⟨p5, 0, none⟩ = some (.func (.func 111) #[] #[.pointer (some ⟨p1, 0, none⟩), .pointer (some ⟨p3, 0, none⟩)])) :
    Calls Tryz.prog 112 #[.pointer (some ⟨p5, 0, none⟩), .pointer (some ⟨p1, 0, none⟩), .pointer (some ⟨p3, 0, none⟩)] w fun e w' => e = .returned (.tuple #[]) ∧ ∃ (x : ByteArray) (y z : Nat), (x.size ≤ 16 ∧ y ≤ 1099511627776 ∧ z ≤ 1099511627776) ∧
      ∃ k1 b1 k2 b2 k3 b3, Src w' s g A c l k3 b3 ∧ Keeps (fun b => b = s ∨ b = g ∨ b = p3) w w' ∧ Bx w' p3 (OP.cells ⟨v.kind, v.edge, v.id, x, y, z, v.key, v.v, v.pf, v.pt⟩) ∧
        Reads encStr (fun t => t.size ≤ 16) bad (l.drop k) x b1 (l.drop k1) ∧ Reads encNum (fun n => n ≤ 1099511627776) b1 (l.drop k1) y b2 (l.drop k2) ∧ Reads encNum (fun n => n ≤ 1099511627776) b2 (l.drop k2) z b3 (l.drop k3) := by
  have C := Lib.hid (op_label v s g c k p1 p3 A l bad w h (by have := hp.c 0; simpa using this) hx h1 h2)
  have HP := Lib.hid hp
  have HN := Lib.hid (show ¬ (p1 = s ∨ p1 = g ∨ p1 = p3) by omega)
  have H12 := Lib.hid (And.intro h1 h2)
  clear h hp hx h1 h2 h3
  go_enter Tryz.func112, Tryz.ntmps112
  go_upto_region 1 with (go_at_call 111; (refine (C.out).mono ?_); rintro e w1 ⟨rfl, x, hx, k1, b1, g1, g2, g3, g4⟩; have S1 := Lib.hid g1; have K1 := Lib.hid g2; have X1 := Lib.hid g3; have R1 := Lib.hid g4; have LX := Lib.hid hx; have P1 := Lib.hid (HP.out.keep g2 HN.out); have q1 := P1.out.c; clear g1 g2 g3 g4 hx)
  have C2 := Lib.hid (Tells.num s g c k1 1099511627776 (by omega) A l b1 w1 S1.out)
  go_upto_region 2 with (go_at_call 94; (refine (C2.out).mono ?_); rintro e w2 ⟨y, rfl, hy, ht⟩; have T2 := Lib.hid ht; have LY := Lib.hid hy; have z2 := (X1.out.far (ht.choose_spec.choose_spec.2.1) H12.out.1 H12.out.2); have q2 := z2.c; have f2 := z2.fr; clear ht hy z2)
  obtain ⟨k2, b2, s2, kp2, x2, r2⟩ := Fills.of (i := 4) (v := .int .u64 (y : Int)) (D := OP.cells ⟨v.kind, v.edge, v.id, x, y, v.til, v.key, v.v, v.pf, v.pt⟩) T2.out X1.out (plain_o _) H12.out.1 H12.out.2 (by simp) rfl
  obtain ⟨w3, hw3⟩ : ∃ w3, w2.setCell ⟨p3, 4, none⟩ (.int .u64 (y : Int)) = w3 := ⟨_, rfl⟩
  rw [hw3] at s2 kp2 x2 ⊢
  have S2 := Lib.hid s2
  have K2 := Lib.hid kp2
  have X2 := Lib.hid x2
  have R2 := Lib.hid r2
  have P2 := Lib.hid (P1.out.keep kp2 HN.out)
  have C3 := Lib.hid (Tells.num s g c k2 1099511627776 (by omega) A l b2 w3 s2)
  clear hw3 s2 kp2 x2 r2 q1 q2 f2 T2
  have q1 := P2.out.c
  go_wp2_with (go_at_call 94; (refine (C3.out).mono ?_); rintro e w4 ⟨z, rfl, hy, ht⟩; have T3 := Lib.hid ht; have LZ := Lib.hid hy; have z2 := (X2.out.far (ht.choose_spec.choose_spec.2.1) H12.out.1 H12.out.2); have q2 := z2.c; have f2 := z2.fr; clear ht hy z2)
  obtain ⟨k3, b3, s3, kp3, x3, r3⟩ := Fills.of (i := 5) (v := .int .u64 (z : Int)) (D := OP.cells ⟨v.kind, v.edge, v.id, x, y, z, v.key, v.v, v.pf, v.pt⟩) T3.out X2.out (plain_o _) H12.out.1 H12.out.2 (by simp) rfl
  go_end0
  exact ⟨rfl, x, y, z, ⟨LX.out, LY.out, LZ.out⟩, k1, b1, k2, b2, k3, b3, s3, (K1.out.trans K2.out).trans kp3, x3, R1.out, R2.out, r3⟩
/-- Five cells of an operation's box filled: its value. -/
theorem put_v {w : World} {s g c k p : Nat} {A : Option Addr} {l : List UInt8} {bad : Bool} (u : OP) (v : VP) (hS : Src w s g A c l k bad) (hx : Bx w p u.cells) (h1 : p ≠ s) (h2 : p ≠ g) :
    ∃ W, (((((w.setCell ⟨p, 7, none⟩ (.int .i64 v.k)).setCell ⟨p, 8, none⟩ (.bool v.b)).setCell ⟨p, 9, none⟩ (.int .i64 v.n)).setCell ⟨p, 10, none⟩ (.float .f64 v.f)).setCell ⟨p, 11, none⟩ (.string v.s)) = W ∧
      Src W s g A c l k bad ∧ Keeps (fun b => b = s ∨ b = g ∨ b = p) w W ∧ Bx W p (OP.cells ⟨u.kind, u.edge, u.id, u.label, u.fr, u.til, u.key, v, u.pf, u.pt⟩) := by
  have x0 := (hx.set 7 (.int .i64 v.k) (by simp)).eq (B := OP.cells ⟨u.kind, u.edge, u.id, u.label, u.fr, u.til, u.key, ⟨v.k, u.v.b, u.v.n, u.v.f, u.v.s⟩, u.pf, u.pt⟩) rfl
  have s0 := hS.put hx (plain_o _) h1 h2 7 (.int .i64 v.k)
  have x1 := (x0.set 8 (.bool v.b) (by simp)).eq (B := OP.cells ⟨u.kind, u.edge, u.id, u.label, u.fr, u.til, u.key, ⟨v.k, v.b, u.v.n, u.v.f, u.v.s⟩, u.pf, u.pt⟩) rfl
  have s1 := s0.put x0 (plain_o _) h1 h2 8 (.bool v.b)
  have x2 := (x1.set 9 (.int .i64 v.n) (by simp)).eq (B := OP.cells ⟨u.kind, u.edge, u.id, u.label, u.fr, u.til, u.key, ⟨v.k, v.b, v.n, u.v.f, u.v.s⟩, u.pf, u.pt⟩) rfl
  have s2 := s1.put x1 (plain_o _) h1 h2 9 (.int .i64 v.n)
  have x3 := (x2.set 10 (.float .f64 v.f) (by simp)).eq (B := OP.cells ⟨u.kind, u.edge, u.id, u.label, u.fr, u.til, u.key, ⟨v.k, v.b, v.n, v.f, u.v.s⟩, u.pf, u.pt⟩) rfl
  have s3 := s2.put x2 (plain_o _) h1 h2 10 (.float .f64 v.f)
  have x4 := (x3.set 11 (.string v.s) (by simp)).eq (B := OP.cells ⟨u.kind, u.edge, u.id, u.label, u.fr, u.til, u.key, v, u.pf, u.pt⟩) rfl
  have s4 := s3.put x3 (plain_o _) h1 h2 11 (.string v.s)
  exact ⟨_, rfl, s4, (((((Keeps.refl (fun b => b = s ∨ b = g ∨ b = p) w).set ⟨p, 7, none⟩ _ (.inr (.inr rfl))).set ⟨p, 8, none⟩ _ (.inr (.inr rfl))).set ⟨p, 9, none⟩ _ (.inr (.inr rfl))).set ⟨p, 10, none⟩ _ (.inr (.inr rfl))).set ⟨p, 11, none⟩ _ (.inr (.inr rfl)), x4⟩
theorem op_set (v : OP) (s g c k p1 p3 : Nat) (A : Option Addr) (l : List UInt8) (bad : Bool) (w : World) (h : Src w s g A c l k bad) (hp : Bx w p1 #[.pointer (some ⟨s, 0, none⟩)]) (hx : Bx w p3 v.cells) (h1 : p3 ≠ s) (h2 : p3 ≠ g) (h3 : p1 ≠ s ∧ p1 ≠ g ∧ p1 ≠ p3) :
    Calls Tryz.prog 113 #[.pointer (some ⟨p1, 0, none⟩), .pointer (some ⟨p3, 0, none⟩)] w fun e w' => e = .returned (.tuple #[]) ∧ ∃ (x : ByteArray) (u : VP), (x.size ≤ 16 ∧ u.wide) ∧
      ∃ k1 b1 k2 b2, Src w' s g A c l k2 b2 ∧ Keeps (fun b => b = s ∨ b = g ∨ b = p3) w w' ∧ Bx w' p3 (OP.cells ⟨v.kind, v.edge, v.id, v.label, v.fr, v.til, x, u, v.pf, v.pt⟩) ∧
        Reads encStr (fun t => t.size ≤ 16) bad (l.drop k) x b1 (l.drop k1) ∧ Reads VP.enc (fun v => v.may ∧ v.wide) b1 (l.drop k1) u b2 (l.drop k2) := by
  have hsf := store_float
  have C := Lib.hid (Tells.text s g c k 16 (by omega) A l bad w h)
  have HP := Lib.hid hp
  have HX := Lib.hid hx
  have HN := Lib.hid (show ¬ (p1 = s ∨ p1 = g ∨ p1 = p3) by omega)
  have H12 := Lib.hid (And.intro h1 h2)
  have q0 := hp.c
  clear h hp hx h1 h2 h3
  go_enter Tryz.func113, Tryz.ntmps113
  go_upto_region 1 with (go_at_call 103; (refine (C.out).mono ?_); rintro e w2 ⟨x, rfl, hy, ht⟩; have T2 := Lib.hid ht; have LX := Lib.hid hy; have z2 := (HX.out.far (ht.choose_spec.choose_spec.2.1) H12.out.1 H12.out.2); have q2 := z2.c; have f2 := z2.fr; clear ht hy z2)
  obtain ⟨k1, b1, s1, kp1, x1, r1⟩ := Fills.of (i := 6) (v := .string x) (D := OP.cells ⟨v.kind, v.edge, v.id, v.label, v.fr, v.til, x, v.v, v.pf, v.pt⟩) T2.out HX.out (plain_o _) H12.out.1 H12.out.2 (by simp) rfl
  obtain ⟨w3, hw3⟩ : ∃ w3, w2.setCell ⟨p3, 6, none⟩ (.string x) = w3 := ⟨_, rfl⟩
  rw [hw3] at s1 kp1 x1 ⊢
  have S1 := Lib.hid s1
  have K1 := Lib.hid kp1
  have X1 := Lib.hid x1
  have R1 := Lib.hid r1
  have P1 := Lib.hid (HP.out.keep kp1 HN.out)
  have C3 := Lib.hid (source_value s g c k1 A l b1 w3 s1)
  clear hw3 s1 kp1 x1 r1 q0 q2 f2 T2
  have q1 := P1.out.c
  go_wp2_with (go_at_call 46; (refine (C3.out).mono ?_); rintro e w4 ⟨⟨k, b, n, f, s'⟩, rfl, _, hw, k2, b2, g1, g2, g3⟩; have S4 := Lib.hid g1; have F4 := Lib.hid g2; have R4 := Lib.hid g3; have LW := Lib.hid hw; have X4 := Lib.hid (X1.out.far g2 H12.out.1 H12.out.2); have q2 := X4.out.c; have f2 := X4.out.fr; clear g1 g2 g3 hw)
  obtain ⟨W, hW, s5, k5, x5⟩ := put_v _ (VP.mk k b n f s') S4.out X4.out H12.out.1 H12.out.2
  rw [hW]
  go_end0
  exact ⟨rfl, x, _, ⟨LX.out, LW.out⟩, k1, b1, k2, b2, s5, (K1.out.trans (F4.out.keeps (.inl rfl) (.inr (.inl rfl)))).trans k5, x5, R1.out, R4.out⟩
end
end Go.Proofs.YtchklaepilcbbaaGreat
