/- A step: carried out, or the fuse has burnt down. -/
import Derived.Test.YthnfpkbpakffgaaC3
namespace Go.Proofs.Ythnfpkbpakffgaa
open Go.RowKit Go.Maps Go.Sort Go.Shelf
open Disk (Nm Fl DS Up ins del upd fnd okName okByte used Wf stepR stepD)
theorem InD.cont_but {w w1 : World} {p c m : Nat} {C : List Ent} {d : DS} {S : Nat → Prop} (h : InD w p c m C d S) (hb : But (fun b => b = c) w w1) {q fu : Int} {off : Bool} (hc : Cont w1 c m q fu off) (hwf : Wf ⟨d.L, q, fu, off⟩) : InD w1 p c m C ⟨d.L, q, fu, off⟩ S :=
  ⟨(hb.cell p 0 h.plt h.pc).trans h.ptr, Nat.lt_of_lt_of_le h.plt hb.size, hc, h.isc.but hb fun _ hb' e => h.cf (e ▸ hb'), h.L, h.pc, h.pf, h.cf, h.Sp, h.Sc, h.Sf, fun b hb' => Nat.lt_of_lt_of_le (h.Slt b hb') hb.size, hwf⟩
theorem InD.wrote {w w1 w' : World} {p c m : Nat} {C : List Ent} {d : DS} {S : Nat → Prop} {g : List Fl → List Fl} (h : InD w p c m C d S) (hb : But (fun b => b = c) w w1) {fu : Int} (hc : Cont w1 c m d.q fu d.off) (hw : WroteC w1 m C g w') (hwf : Wf ⟨g d.L, d.q, fu, d.off⟩) : WroteD w p S ⟨g d.L, d.q, fu, d.off⟩ w' := by
  obtain ⟨C', i, hL, b1, hf⟩ := hw
  have hp1 : p < w1.heap.size := Nat.lt_of_lt_of_le h.plt hb.size
  have hp : ¬ foot m C' p := fun h1 => by
    rcases hf p h1 with h2 | h2
    · exact h.pf h2
    · omega
  have hcf : ¬ foot m C' c := fun h1 => by
    rcases hf c h1 with h2 | h2
    · exact h.cf h2
    · have := hc.lt; omega
  refine ⟨fun b => S b ∨ foot m C' b, ⟨c, m, C', ?_, Nat.lt_of_lt_of_le hp1 b1.size, hc.but b1 h.cf, i, by rw [hL, h.L], h.pc, hp, hcf, .inl h.Sp, .inl h.Sc, fun b hb => .inr hb, fun b hb' => ?_, hwf⟩, ?_, fun b hb' => ?_⟩
  · exact (b1.cell p 0 hp1 h.pf).trans ((hb.cell p 0 h.plt h.pc).trans h.ptr)
  · rcases hb' with h1 | h1
    · exact Nat.lt_of_lt_of_le (Nat.lt_of_lt_of_le (h.Slt b h1) hb.size) b1.size
    · exact i.lt h1
  · exact (hb.sub fun b hb' => by subst hb'; exact h.Sc).trans b1 fun b hb' => .inl (h.Sf b hb')
  · rcases hb' with h1 | h1
    · exact .inl h1
    · rcases hf b h1 with h2 | h2
      · exact .inl (h.Sf b h2)
      · exact .inr (Nat.le_trans hb.size h2)
set_option maxRecDepth 100000 in
theorem step_any {w : World} {p c m : Nat} {C : List Ent} {d : DS} {S : Nat → Prop} (h : InD w p c m C d S) (F : Nat) (bound free : Array Value) (g : List Fl → List Fl) (eg : ∀ args w, (callFunc F args).run Try.prog w = .ok (.enter F args) w) (hwf : Wf (stepD d g))
    (hF : ∀ w1 fu, But (fun b => b = c) w w1 → IsC w1 m C → Cont w1 c m d.q fu d.off → Calls Try.prog F (bound ++ free) w1 fun r w' => r = .returned (.tuple #[]) ∧ WroteC w1 m C g w') :
    Calls Try.prog 34 #[.pointer (some ⟨c, 0, none⟩), .func (.func F) bound free] w fun r w' => r = .returned (.int .i64 (stepR d)) ∧ WroteD w p S (stepD d g) w' := by
  have q2 := h.cont.c2
  have q3 := h.cont.c3
  have f2 := h.cont.fr 2
  have f3 := h.cont.fr 3
  have H := Lib.hid h
  have HW := Lib.hid hwf
  have HF := Lib.hid hF
  have u0 := h.wf.f0
  have u1 := h.wf.f1
  clear hF
  by_cases h0 : d.fu = 0
  · have hr : stepR d = 8 := by unfold stepR; rw [if_pos h0]
    have hd : stepD d g = { d with fu := -1, off := true } := by unfold stepD; rw [if_pos h0]
    have HD := Lib.hid hd
    rw [hr]
    rw [h0] at q2
    clear hr h0 hd u0 u1 h hwf HF
    go_enter Try.func34, Try.ntmps34
    go_wp2_with fail
    go_ret
    have hb : But (fun b => b = c) w ((w.setCell ⟨c, 2, none⟩ (.int .i64 (-1))).setCell ⟨c, 3, none⟩ (.bool true)) := ((But.refl (fun b => b = c) w).setk c 2 (.inl rfl) _).setk c 3 (.inl rfl) _
    have hW := HW.out
    rw [HD.out] at hW ⊢
    exact ⟨rfl, S, ⟨c, m, C, H.out.cont_but hb ((H.out.cont.fu (-1)).off true) hW⟩, hb.sub fun b hb' => by subst hb'; exact H.out.Sc, fun b hb' => .inl hb'⟩
  · have hr : stepR d = 0 := by unfold stepR; rw [if_neg h0]
    rw [hr]
    by_cases hp : 0 < d.fu
    · have hd : stepD d g = ⟨g d.L, d.q, d.fu - 1, d.off⟩ := by unfold stepD; rw [if_neg h0, if_pos hp]
      have HD := Lib.hid hd
      have hne : (d.fu == 0) = false := by simpa using h0
      have hw1 : IntKind.i64.wrap (d.fu - 1) = d.fu - 1 := IntWalk.i64_in _ (by omega)
      obtain ⟨W, hW⟩ : ∃ W, w.setCell ⟨c, 2, none⟩ (.int .i64 (d.fu - 1)) = W := ⟨_, rfl⟩
      have hb : But (fun b => b = c) w W := by rw [← hW]; exact (But.refl (fun b => b = c) w).setk c 2 (.inl rfl) _
      have hc : Cont W c m d.q (d.fu - 1) d.off := by rw [← hW]; exact h.cont.fu _
      have CF := Lib.hid (HF.out W (d.fu - 1) hb (h.isc.but hb fun b hb' e => h.cf (e ▸ hb')) hc)
      have HB := Lib.hid (And.intro hb hc)
      clear hr h0 hd h hwf HF hb hc
      generalize d.fu = fu at *
      go_enter Try.func34, Try.ntmps34
      go_wp2_with fail
      try rw [hW]
      refine CF.out.mono ?_
      rintro r1 w1 ⟨rfl, hw⟩
      have HWR := Lib.hid hw
      clear hw hW CF
      go_wp2_with fail
      go_ret
      have hWf := HW.out
      rw [HD.out] at hWf ⊢
      exact ⟨rfl, H.out.wrote HB.out.1 HB.out.2 HWR.out hWf⟩
    · have hd : stepD d g = ⟨g d.L, d.q, d.fu, d.off⟩ := by unfold stepD; rw [if_neg h0, if_neg hp]
      have HD := Lib.hid hd
      have hne : (d.fu == 0) = false := by simpa using h0
      have hle : d.fu ≤ 0 := by omega
      have CF := Lib.hid (HF.out w d.fu (But.refl _ _) h.isc h.cont)
      clear hr h0 hd h hwf HF hp
      go_enter Try.func34, Try.ntmps34
      go_wp2_with fail
      refine CF.out.mono ?_
      rintro r1 w1 ⟨rfl, hw⟩
      have HWR := Lib.hid hw
      clear hw CF
      go_wp2_with fail
      go_ret
      have hWf := HW.out
      rw [HD.out] at hWf ⊢
      exact ⟨rfl, H.out.wrote (But.refl _ _) H.out.cont HWR.out hWf⟩
end Go.Proofs.Ythnfpkbpakffgaa
