/- PutValue, PutOp. -/
import Derived.Test.YtchklaepilcbbaaGreatmY8
namespace Go.Proofs.YtchklaepilcbbaaGreat
open Go.RowKit
theorem opBytes_any (o : OP) (h : o.may) (hw : o.wide) (w : World) :
    Calls Tryz.prog 57 #[o.val] w fun e w' => ∃ u, e = .returned u ∧ St w w' u o.enc := by
  obtain ⟨kind, edge, id, label, fr, til, key, ⟨k, b, n, f, s⟩, pf, pt⟩ := o
  obtain ⟨_, w2, _, w3, w4, _, w5, w6, w7⟩ := hw
  obtain ⟨_, _, _, hk⟩ := h
  simp only at w2 w3 w4 w5 w6 w7
  have i2 : id < 2 ^ 64 := by omega
  have i6 : pf < 2 ^ 64 := by omega
  have i7 : pt < 2 ^ 64 := by omega
  unfold OP.kindP at hk
  simp only at hk
  rcases hk with ⟨rfl, _, hl, _⟩ | ⟨rfl, _, hl, _⟩ | ⟨rfl | rfl, _⟩ | ⟨rfl, _, _, _, hl, hm, _⟩
  · exact (opBytes_1 edge id label fr til key k b n f s pf pt w i2 i6 i7 (labelB_size hl)).mono fun _ _ ⟨u, e, hs⟩ => ⟨u, e, hs⟩
  · exact (opBytes_2 edge id label fr til key k b n f s pf pt w i2 i6 i7 (labelB_size hl) (by omega) (by omega)).mono fun _ _ ⟨u, e, hs⟩ => ⟨u, e, hs⟩
  · exact (opBytes_3 edge id label fr til key k b n f s pf pt w i2 i6 i7).mono fun _ _ ⟨u, e, hs⟩ => ⟨u, e, hs⟩
  · exact (opBytes_4 edge id label fr til key k b n f s pf pt w i2 i6 i7).mono fun _ _ ⟨u, e, hs⟩ => ⟨u, e, hs⟩
  · exact (opBytes_5 edge id label fr til key k b n f s pf pt w i2 i6 i7 (wordB_size hl).1 hm w5).mono fun _ _ ⟨u, e, hs⟩ => ⟨u, e, hs⟩
/-- What a call that lays gives back: the form l, if P; else none. -/
def Puts (P : Prop) (l : List UInt8) (w : World) (e : Ending) (w' : World) : Prop :=
  (P ∧ ∃ u, e = .returned (.tuple #[u, .int .i64 0]) ∧ St w w' u l) ∨ (¬ P ∧ e = .returned (.tuple #[.slice none 0 0, .int .i64 1]) ∧ Below w.heap.size w w')
theorem Puts.bel {P : Prop} {l : List UInt8} {w w' : World} {e : Ending} (h : Puts P l w e w') : Below w.heap.size w w' := by
  rcases h with ⟨_, _, _, h⟩ | ⟨_, _, h⟩
  · exact h.bel
  · exact h
theorem mono_alloc {w : World} {o : Obj} {P : Prop} {l : List UInt8} {e : Ending} {w' : World} (h : Puts P l (w.alloc o) e w') : Puts P l w e w' := by
  have hb : Below w.heap.size w (w.alloc o) := (Below.refl _ _).alloc (Nat.le_refl _) o
  rcases h with ⟨hp, u, e, h⟩ | ⟨hp, e, h⟩
  · exact .inl ⟨hp, u, e, St.of hb h⟩
  · exact .inr ⟨hp, e, hb.trans (h.mono hb.size)⟩
section
set_option maxRecDepth 100000
set_option maxHeartbeats 2000000
theorem putOp_any (o : OP) (hw : o.wide) (w : World) :
    Calls Tryz.prog 56 #[o.val, .func (.func 25) #[] #[], .func (.func 57) #[] #[]] w (Puts o.may o.enc w) := by
  have C1 := Lib.hid (fun W => MayOp_any o hw.2.2.2.2.2.2.1.2.2.1 W)
  have C2 := Lib.hid (fun (h : o.may) W => opBytes_any o h hw W)
  obtain ⟨kind, edge, id, label, fr, til, key, ⟨k, b, n, f, s⟩, pf, pt⟩ := o
  clear hw
  go_enter Tryz.func56, Tryz.ntmps56
  go_upto_region 1 with fail
  have X0 := Lib.hid (Bx.new w (OP.cells ⟨kind, edge, id, label, fr, til, key, ⟨k, b, n, f, s⟩, pf, pt⟩) 43)
  have HB0 := Lib.hid ((Below.refl w.heap.size w).alloc (Nat.le_refl _) (.cells (OP.cells ⟨kind, edge, id, label, fr, til, key, ⟨k, b, n, f, s⟩, pf, pt⟩) 43))
  go_upto_if 11 with (go_at_call 25; (with_reducible refine (C1.out _).mono ?_); rintro e w1 ⟨c, rfl, hc, hb⟩; have HC := Lib.hid hc; have B1 := Lib.hid hb; have q1 := (X0.out.below hb).c; clear hc hb)
  cases c
  · go_wp2
    go_ret2
    exact .inr ⟨fun h => (by have := HC.out.2 h; cases this), rfl, al1 B1.out⟩
  · have hm := HC.out.1 rfl
    have C3 := Lib.hid (C2.out hm)
    have HM := Lib.hid hm
    clear hm
    go_wp2_with (go_at_call 57; (with_reducible refine (C3.out _).mono ?_); rintro e w2 ⟨v2, rfl, h1⟩; have S2 := Lib.hid h1; clear h1)
    go_ret2
    exact .inl ⟨HM.out, _, rfl, St.of (al1 B1.out) S2.out⟩
theorem PutOp_any (o : OP) (hw : o.wide) (w : World) : Calls Tryz.prog 18 #[o.val] w (Puts o.may o.enc w) := by
  have C1 := Lib.hid (fun W => putOp_any o hw W)
  obtain ⟨kind, edge, id, label, fr, til, key, ⟨k, b, n, f, s⟩, pf, pt⟩ := o
  clear hw
  go_enter Tryz.func18, Tryz.ntmps18
  go_wp2_with (go_at_call 56; (with_reducible refine (C1.out _).mono ?_); rintro e w1 h1; rcases h1 with ⟨hp, u, rfl, hs⟩ | ⟨hp, rfl, hb⟩)
  · go_ret2
    exact mono_alloc (.inl ⟨hp, _, rfl, hs⟩)
  · go_ret2
    exact mono_alloc (.inr ⟨hp, rfl, hb⟩)
theorem putValue_any (v : VP) (hw : v.wide) (w : World) :
    Calls Tryz.prog 37 #[v.val, .func (.func 22) #[] #[], .func (.func 38) #[] #[]] w (Puts v.may v.enc w) := by
  have C1 := Lib.hid (fun W => May_any v.k v.b v.n v.f v.s W hw.2.2.1)
  have HC := Lib.hid (mayB_iff (v := v))
  have C2 := Lib.hid (fun (h : v.may) W => valueBytes_any v h hw W)
  obtain ⟨k, b, n, f, s⟩ := v
  simp only at C1 HC
  generalize mayB k b n f s = c at *
  clear hw
  go_enter Tryz.func37, Tryz.ntmps37
  go_upto_region 1 with fail
  have X0 := Lib.hid (Bx.new w (VP.cells ⟨k, b, n, f, s⟩) 24)
  go_upto_if 11 with (go_at_call 22; (with_reducible refine (C1.out _).mono ?_); rintro e w1 ⟨rfl, hb⟩; have B1 := Lib.hid hb; have q1 := (X0.out.below hb).c; clear hb)
  cases c
  · go_wp2
    go_ret2
    exact .inr ⟨fun h => (by have := HC.out.2 h; cases this), rfl, al1 B1.out⟩
  · have hm := HC.out.1 rfl
    have C3 := Lib.hid (C2.out hm)
    have HM := Lib.hid hm
    clear hm
    go_wp2_with (go_at_call 38; (with_reducible refine (C3.out _).mono ?_); rintro e w2 ⟨v2, rfl, h1⟩; have S2 := Lib.hid h1; clear h1)
    go_ret2
    exact .inl ⟨HM.out, _, rfl, St.of (al1 B1.out) S2.out⟩
theorem PutValue_any (v : VP) (hw : v.wide) (w : World) : Calls Tryz.prog 10 #[v.val] w (Puts v.may v.enc w) := by
  have C1 := Lib.hid (fun W => putValue_any v hw W)
  obtain ⟨k, b, n, f, s⟩ := v
  clear hw
  go_enter Tryz.func10, Tryz.ntmps10
  go_wp2_with (go_at_call 37; (with_reducible refine (C1.out _).mono ?_); rintro e w1 h1; rcases h1 with ⟨hp, u, rfl, hs⟩ | ⟨hp, rfl, hb⟩)
  · go_ret2
    exact mono_alloc (.inl ⟨hp, _, rfl, hs⟩)
  · go_ret2
    exact mono_alloc (.inr ⟨hp, rfl, hb⟩)
end
end Go.Proofs.YtchklaepilcbbaaGreat
