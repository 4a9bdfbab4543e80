/- What a power loss makes of one file. -/
import Derived.Test.YthnfpkbpakffgaaB2
namespace Go.Proofs.Ythnfpkbpakffgaa
open Go.RowKit Go.Maps
open Disk (Nm Fl DS Up ins del upd fnd okName okByte used Wf crashB turnLast)
theorem file_safe {w : World} {e : Ent} (h : FileAt w e) (s : Nat) : FileAt (w.setCell ⟨e.k, 1, none⟩ (.int .i64 s)) ⟨e.nm, e.k, e.v, e.bs, s⟩ :=
  ⟨(cell_other (by decide)).trans h.c0, World.cell?_setCell_same _ _ _ h.c1, fun o => by simpa [World.frozen?_setCell] using h.fr o, by simpa [World.setCell] using h.lt,
    own_but h.own ((But.refl (fun b => b = e.k) w).setk e.k _ (.inl rfl) _) (fun b hb hk => h.ne (hk ▸ hb)), h.ne⟩
theorem file_slice {w : World} {e : Ent} (h : FileAt w e) (v : Value) (bs : List UInt8) (ho : w.ownsRow 0 5 1 v bs.length (cellsB bs)) (hn : v.ownBlock ≠ some e.k) : FileAt (w.setCell ⟨e.k, 0, none⟩ v) ⟨e.nm, e.k, v, bs, e.s⟩ :=
  ⟨World.cell?_setCell_same _ _ _ h.c0, (cell_other (by decide)).trans h.c1, fun o => by simpa [World.frozen?_setCell] using h.fr o, by simpa [World.setCell] using h.lt,
    own_but ho ((But.refl (fun b => b = e.k) w).setk e.k _ (.inl rfl) _) (fun b hb hk => hn (hk ▸ hb)), hn⟩
theorem file_byte {w : World} {e : Ent} (h : FileAt w e) {g c : Nat} (hv : e.v = .slice (some ⟨g, 0, none⟩) e.bs.length c) (i : Nat) (x : UInt8) : FileAt (w.setCell ⟨g, i, none⟩ (bv x)) ⟨e.nm, e.k, e.v, e.bs.set i x, e.s⟩ := by
  have hne : g ≠ e.k := fun e1 => h.ne (by rw [hv, e1]; rfl)
  have hb : But (fun b => b = g) w (w.setCell ⟨g, i, none⟩ (bv x)) := (But.refl (fun b => b = g) w).setk g i (.inl rfl) _
  refine ⟨(hb.cell _ 0 h.lt (fun e1 => hne e1.symm)).trans h.c0, (hb.cell _ 1 h.lt (fun e1 => hne e1.symm)).trans h.c1, fun o => (hb.frozen _ o h.lt (fun e1 => hne e1.symm)).trans (h.fr o), by simpa [World.setCell] using h.lt, ?_, h.ne⟩
  have ho := h.own
  rw [hv] at ho
  have := (World.ownsRow.stored ho i (bv x)).1
  rw [set_byte] at this
  show World.ownsRow _ _ _ _ e.v (e.bs.set i x).length _
  rw [List.length_set, hv]
  exact this
theorem take_set_last (t : UInt8) (b : List UInt8) (h : 0 < b.length) : turnLast t b = b.set (b.length - 1) (b.getD (b.length - 1) 0 ^^^ t) := by
  unfold turnLast
  have hd : b.drop (b.length - 1) = [b.getD (b.length - 1) 0] := by
    rw [List.drop_eq_getElem_cons (by omega), List.drop_of_length_le (by omega), List.getD, List.getElem?_eq_getElem (by omega)]
    rfl
  rw [hd, List.set_eq_take_append_cons_drop, if_pos (by omega), List.drop_of_length_le (by omega)]
  rfl
theorem bx8 (x y : UInt8) : bits .xor .u8 (x.toNat : Int) (y.toNat : Int) = ((x ^^^ y).toNat : Int) := by
  rw [u8_xor_nat _ _ x.toNat_lt y.toNat_lt, UInt8.toNat_xor]
set_option maxRecDepth 100000 in
set_option maxHeartbeats 1000000 in
theorem fileCrash_any (e : Ent) (w : World) (h : FileAt w e) (hs : e.s ≤ e.bs.length) (p : Nat) (hp : p ≤ 65535) (t : UInt8) (hl : e.bs.length ≤ 4194304) :
    Calls Try.prog 44 #[.pointer (some ⟨e.k, 0, none⟩), .int .u16 p, .int .u8 t.toNat] w fun r w' => r = .returned (.tuple #[]) ∧ ∃ v', v'.ownBlock = e.v.ownBlock ∧ FileAt w' ⟨e.nm, e.k, v', crashB p t e.fl, (crashB p t e.fl).length⟩ ∧ But e.has w w' := by
  obtain ⟨nm, k, v, bs, s⟩ := e
  have hs' : s ≤ bs.length := hs
  have hl' : bs.length ≤ 4194304 := hl
  obtain ⟨st, hst⟩ : ∃ st, p % (bs.length - s + 1) = st := ⟨_, rfl⟩
  have hst2 : st < bs.length - s + 1 := by rw [← hst]; exact Nat.mod_lt _ (by omega)
  have hrem : (p : Int) % (((bs.length - s : Nat) : Int) + 1) = (st : Int) := by rw [← hst]; rfl
  obtain ⟨A, c, hv, hat, hA0, hnc⟩ := own_slice h.own
  have hshape := own_shape h.own
  have c0 : w.cell? ⟨k, 0, none⟩ = some (.slice A bs.length c) := by rw [← hv]; exact h.c0
  have c1 : w.cell? ⟨k, 1, none⟩ = some (.int .i64 s) := h.c1
  have hlt : k < w.heap.size := h.lt
  have FR := Lib.hid (show ∀ o, w.frozen? ⟨k, o, none⟩ = false from h.fr)
  have hAA : (A = none ∧ bs.length = 0 ∧ c = 0) ∨ ∃ g, A = some ⟨g, 0, none⟩ := by
    rcases hshape with ⟨h1, h2⟩ | ⟨g, c', h1, _⟩
    · simp only at h1 h2
      rw [h1] at hv
      injection hv with e1 e2 e3
      exact .inl ⟨e1.symm, by rw [h2]; rfl, e3.symm⟩
    · simp only at h1
      rw [h1] at hv
      injection hv with e1 e2 e3
      exact .inr ⟨g, e1.symm⟩
  have H := Lib.hid h
  have HV := Lib.hid hv
  have AA := Lib.hid hAA
  have ST := Lib.hid hst
  clear h hshape hat hA0 hv hAA hst hs hl
  have L1 := Lib.hid (loose_any k A bs.length c s w c0 c1 hs' hl')
  clear c0 c1
  go_enter Try.func44, Try.ntmps44
  go_wp2_with fail
  refine L1.out.mono ?_
  rintro e1 w1 ⟨rfl, b1⟩
  have F1 := Lib.hid (H.out.below b1)
  have B1 := Lib.hid b1
  clear L1 H b1
  have hw1 : IntKind.i64.wrap (((bs.length - s : Nat) : Int) + 1) = ((bs.length - s : Nat) : Int) + 1 := IntWalk.i64_in _ (by omega)
  have hw2 : IntKind.i64.wrap ((s : Int) + (st : Int)) = (s : Int) + (st : Int) := IntWalk.i64_in _ (by omega)
  have c1' : w1.cell? ⟨k, 1, none⟩ = some (.int .i64 s) := F1.out.c1
  go_wp2_with fail
  have C2 : Calls Try.prog 66 #[.pointer (some ⟨k, 0, none⟩), .int .i64 ((s : Int) + (st : Int))] w1 fun e w' => e = .returned (.tuple #[]) ∧ w' = (w1.setCell ⟨k, 0, none⟩ (.slice A (s + st) c)).setCell ⟨k, 1, none⟩ (.int .i64 (s : Int)) := by
    have := cut_any k A bs.length c s (s + st) w1 (by rw [← HV.out]; exact F1.out.c0) c1' F1.out.fr AA.out hnc (by omega) hs' hl'
    rw [Int.natCast_add, Nat.min_eq_left (by omega : s ≤ s + st)] at this
    exact this
  refine C2.mono ?_
  rintro e2 w2 ⟨rfl, hw2'⟩
  have F2 := Lib.hid (show FileAt w2 ⟨nm, k, .slice A (s + st) c, bs.take (s + st), s⟩ by
    have ho := F1.out.own
    have hv := HV.out
    have hn := F1.out.ne
    simp only at ho hn
    rw [hv] at ho hn
    have h1 := file_slice F1.out (.slice A (s + st) c) (bs.take (s + st)) (by rw [List.length_take, Nat.min_eq_left (by omega)]; exact own_take ho (by omega)) (by cases A <;> first | exact hn | simp [Value.ownBlock])
    have h2 := file_safe h1 s
    rw [hw2']
    exact h2)
  have B2 := Lib.hid (show But (fun b => b = k) w w2 by
    rw [hw2']
    exact ((But.of_below (S := fun b => b = k) B1.out).setk k _ (.inl rfl) _).setk k _ (.inl rfl) _)
  clear hw2' C2 F1 B1 c1' hw2 hw1
  by_cases h0 : 0 < st
  · have hb : bs.length ≠ 0 := by omega
    obtain ⟨g, rfl⟩ : ∃ g, A = some ⟨g, 0, none⟩ := by
      rcases AA.out with ⟨_, h, _⟩ | h
      · exact absurd h hb
      · exact h
    have h0' : (0 : Int) < (st : Int) := by omega
    obtain ⟨j, hj⟩ : ∃ j, s + st = j + 1 := ⟨s + st - 1, by omega⟩
    have hjl : j < bs.length := by omega
    rw [hj] at F2
    have hlen : (bs.take (j + 1)).length = j + 1 := by rw [List.length_take]; omega
    obtain ⟨x, hx⟩ : ∃ x, (bs.take (j + 1)).getD j 0 = x := ⟨_, rfl⟩
    have d0 : w2.cell? ⟨k, 0, none⟩ = some (.slice (some ⟨g, 0, none⟩) (j + 1) c) := F2.out.c0
    have hown : w2.ownsRow 0 5 1 (.slice (some ⟨g, 0, none⟩) (j + 1) c) (j + 1) (cellsB (bs.take (j + 1))) := by
      have := F2.out.own
      simp only at this
      rwa [hlen] at this
    have hbx : w2.cell? ⟨g, j, none⟩ = some (.int .u8 (x.toNat : Int)) := by
      rw [World.ownsRow.cellAt hown j (by omega)]
      rw [← hx]
      have hj2 : j < (bs.take (j + 1)).length := by omega
      simp only [cellsB, List.getElem?_map, List.getD, List.getElem?_eq_getElem hj2]
      rfl
    have hfx := World.ownsRow.frozenAt hown j
    have HX := Lib.hid hx
    have HL := Lib.hid hlen
    have GK := Lib.hid (show g ≠ k from fun e => F2.out.ne (by rw [e]; rfl))
    have hsub : IntKind.i64.wrap (((j : Int) + 1) - 1) = (j : Int) := by rw [IntWalk.i64_in _ (by omega)]; omega
    have i1 : (0 : Int) ≤ (j : Int) := by omega
    have i2 : (j : Int) < (j : Int) + 1 := by omega
    clear hown hx hlen hb
    go_upto_region 3 with fail
    go_region
    have hxor := bx8 x t
    rw [hxor]
    obtain ⟨W, hW⟩ : ∃ W, (w2.setCell ⟨g, j, none⟩ (.int .u8 ((x ^^^ t).toNat : Int))).drew = W := ⟨_, rfl⟩
    have F3 := Lib.hid (show FileAt W ⟨nm, k, .slice (some ⟨g, 0, none⟩) (j + 1) c, (bs.take (j + 1)).set j (x ^^^ t), s⟩ by
      rw [← hW]
      exact (file_byte F2.out (g := g) (c := c) (by rw [HL.out]) j (x ^^^ t)).below (Below.refl _ _).drew)
    have B3 := Lib.hid (show But (Ent.has ⟨nm, k, v, bs, s⟩) w W by
      rw [← hW]
      exact ((B2.out.sub (fun y hy => .inl hy)).setk g j (.inl (.inr (by rw [HV.out]; rfl))) _).drew)
    try rw [hW]
    clear hW d0 hbx hfx hxor
    have e0 : W.cell? ⟨k, 0, none⟩ = some (.slice (some ⟨g, 0, none⟩) (j + 1) c) := F3.out.c0
    go_wp2_with fail
    refine (sync_any k _ _ c W _ e0 F3.out.c1 (F3.out.fr 1)).mono ?_
    rintro e3 w3 ⟨rfl, rfl⟩
    go_wp2_with fail
    go_end0
    have hbs : crashB p t ⟨nm, bs, s⟩ = (bs.take (j + 1)).set j (x ^^^ t) := by
      have hst := ST.out
      unfold crashB
      rw [hst, if_pos h0, hj]
      rw [take_set_last t _ (by rw [HL.out]; omega), HL.out]
      show (bs.take (j + 1)).set j _ = _
      rw [Nat.add_sub_cancel, HX.out]
    refine ⟨rfl, .slice (some ⟨g, 0, none⟩) (j + 1) c, by rw [HV.out]; rfl, ?_, ?_⟩
    · show FileAt _ ⟨nm, k, _, crashB p t ⟨nm, bs, s⟩, (crashB p t ⟨nm, bs, s⟩).length⟩
      have := file_safe F3.out (j + 1)
      rw [hbs, List.length_set, HL.out]
      exact this
    · exact B3.out.setk k 1 (.inl (.inl rfl)) _
  · obtain rfl : st = 0 := by omega
    have d0 : w2.cell? ⟨k, 0, none⟩ = some (.slice A (s + 0) c) := F2.out.c0
    go_wp2_with fail
    refine (sync_any k _ _ c w2 _ d0 F2.out.c1 (F2.out.fr 1)).mono ?_
    rintro e3 w3 ⟨rfl, rfl⟩
    go_wp2_with fail
    go_end0
    have hbs : crashB p t ⟨nm, bs, s⟩ = bs.take s := by
      have hst := ST.out
      unfold crashB
      rw [hst, if_neg (by omega)]
    refine ⟨rfl, .slice A (s + 0) c, by rw [HV.out]; cases A <;> rfl, ?_, ?_⟩
    · show FileAt _ ⟨nm, k, _, crashB p t ⟨nm, bs, s⟩, (crashB p t ⟨nm, bs, s⟩).length⟩
      have := file_safe F2.out s
      rw [hbs, List.length_take, Nat.min_eq_left hs']
      exact this
    · exact (B2.out.sub (S' := Ent.has ⟨nm, k, v, bs, s⟩) (fun y hy => .inl hy)).setk k 1 (.inl (.inl rfl)) _
end Go.Proofs.Ythnfpkbpakffgaa
