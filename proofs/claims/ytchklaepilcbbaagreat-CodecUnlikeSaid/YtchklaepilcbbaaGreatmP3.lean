/- What a step keeps; the closures that read the fields of a value. -/
import Derived.Test.YtchklaepilcbbaaGreatmP2
import Derived.Test.YtchklaepilcbbaaGreatmY7
namespace Go.Proofs.YtchklaepilcbbaaGreat
open Go.RowKit
/-- All blocks but those of X are as they were. -/
structure Keeps (X : Nat → Prop) (w w' : World) : Prop where
  os : w'.os = w.os
  tape : w'.tape = w.tape
  output : w'.output = w.output
  size : w.heap.size ≤ w'.heap.size
  block : ∀ b, b < w.heap.size → ¬ X b → w'.heap[b]? = w.heap[b]?
section
variable {X : Nat → Prop} {w0 w w' w'' : World} {s g k c : Nat} {A : Option Addr} {l : List UInt8} {bad : Bool}
theorem Keeps.refl (X : Nat → Prop) (w : World) : Keeps X w w := ⟨rfl, rfl, rfl, Nat.le_refl _, fun _ _ _ => rfl⟩
theorem Keeps.trans (h : Keeps X w w') (h' : Keeps X w' w'') : Keeps X w w'' :=
  ⟨h'.os.trans h.os, h'.tape.trans h.tape, h'.output.trans h.output, Nat.le_trans h.size h'.size, fun b hb h1 => (h'.block b (Nat.lt_of_lt_of_le hb h.size) h1).trans (h.block b hb h1)⟩
theorem Far.keeps (h : Far s g w w') (hs : X s) (hg : X g) : Keeps X w w' := ⟨h.os, h.tape, h.output, h.size, fun b hb h1 => h.block b hb (fun e => h1 (e ▸ hs)) (fun e => h1 (e ▸ hg))⟩
theorem Keeps.set (h : Keeps X w w') (p : Addr) (v : Value) (hp : X p.block) : Keeps X w (w'.setCell p v) :=
  ⟨h.os, h.tape, h.output, by simpa [World.setCell] using h.size, fun b hb h1 => (block_setCell _ _ _ _ (fun e => h1 (by rw [e]; exact hp))).trans (h.block b hb h1)⟩
theorem Keeps.widen {Y : Nat → Prop} (h : Keeps X w w') (hY : ∀ b, X b → Y b) : Keeps Y w w' := ⟨h.os, h.tape, h.output, h.size, fun b hb h1 => h.block b hb fun e => h1 (hY b e)⟩
theorem Bx.keep {b : Nat} {C : Array Value} (h : Bx w b C) (hk : Keeps X w w') (hn : ¬ X b) : Bx w' b C := by
  have e := hk.block b h.lt hn
  exact ⟨Nat.lt_of_lt_of_le h.lt hk.size, fun j => (World.cell?_of_block (a := ⟨b, j, none⟩) e).trans (h.c j), fun j => (World.frozen?_of_block (a := ⟨b, j, none⟩) e).trans (h.fr j)⟩
theorem Far.then (h : Far s g w0 w) (hk : Keeps X w w') (hX : ∀ b, b < w0.heap.size → X b → b = s ∨ b = g) : Far s g w0 w' :=
  ⟨hk.os.trans h.os, hk.tape.trans h.tape, hk.output.trans h.output, Nat.le_trans h.size hk.size, fun b hb h1 h2 =>
    (hk.block b (Nat.lt_of_lt_of_le hb h.size) (fun e => by rcases hX b hb e with e | e <;> contradiction)).trans (h.block b hb h1 h2)⟩
/-- No bytes in a box. -/
def Plain (C : Array Value) : Prop := ∀ (j : Nat) (x : Int), C[j]? ≠ some (Value.int IntKind.u8 x)
theorem Src.put {p : Nat} {C : Array Value} (h : Src w s g A c l k bad) (hx : Bx w p C) (hC : Plain C) (h1 : p ≠ s) (h2 : p ≠ g) (i : Nat) (v : Value) : Src (w.setCell ⟨p, i, none⟩ v) s g A c l k bad := by
  refine ⟨(block_setCell _ _ _ _ (Ne.symm h1)).trans h.box, h.ne, (block_setCell _ _ _ _ (Ne.symm h2)).trans h.rd.1, h.rd.2.1, fun h0 => ?_⟩
  obtain ⟨b, off, e, hl, hn, hc⟩ := h.rd.2.2 h0
  refine ⟨b, off, e, by simpa [World.setCell] using hl, hn, fun j hj => ?_⟩
  have hb : b ≠ p := by
    rintro rfl
    have := hc 0 h0
    rw [hx.c] at this
    exact hC _ _ this
  rw [World.cell?_setCell_other _ _ _ _ (fun e' => hb (congrArg Addr.block e').symm)]
  exact hc j hj
end
theorem plain_v (v : VP) : Plain v.cells := by
  intro j x
  match j with
  | 0 | 1 | 2 | 3 | 4 => simp
  | n + 5 => simp
theorem plain_o (o : OP) : Plain o.cells := by
  intro j x
  match j with
  | 0 | 1 | 2 | 3 | 4 | 5 | 6 | 7 | 8 | 9 | 10 | 11 | 12 | 13 => simp
  | n + 14 => simp
/-- What a closure that reads a field leaves: the source on its way, the box p with one field more. -/
def Fills {α : Type} (enc : α → List UInt8) (P : α → Prop) (s g : Nat) (A : Option Addr) (c : Nat) (l : List UInt8) (k : Nat) (bad : Bool) (p : Nat) (C : Array Value) (x : α) (w w' : World) : Prop :=
  ∃ k' bad', Src w' s g A c l k' bad' ∧ Keeps (fun b => b = s ∨ b = g ∨ b = p) w w' ∧ Bx w' p C ∧ Reads enc P bad (l.drop k) x bad' (l.drop k')
theorem Fills.of {α : Type} {enc : α → List UInt8} {P : α → Prop} {s g c k p i : Nat} {A : Option Addr} {l : List UInt8} {bad : Bool} {C D : Array Value} {x : α} {w w' : World} {v : Value}
    (h : Tells enc P s g A c l k bad x w w') (hx : Bx w p C) (hC : Plain C) (h1 : p ≠ s) (h2 : p ≠ g) (hi : i < C.size) (hD : C.setIfInBounds i v = D) : Fills enc P s g A c l k bad p D x w (w'.setCell ⟨p, i, none⟩ v) := by
  obtain ⟨k', bad', hS, hF, hR⟩ := h
  have hx' := hx.far hF h1 h2
  exact ⟨k', bad', hS.put hx' hC h1 h2 i v, (hF.keeps (.inl rfl) (.inr (.inl rfl))).set _ _ (.inr (.inr rfl)), (hx'.set i v hi).eq hD, hR⟩
section
set_option maxRecDepth 100000
set_option maxHeartbeats 1000000
theorem value_null (w : World) : Calls Tryz.prog 95 #[] w fun e w' => e = .returned (.tuple #[]) ∧ w = w' := by
  go_enter Tryz.func95, Tryz.ntmps95
  go_wp2
  go_end0
  exact ⟨rfl, rfl⟩
theorem value_bool (v : VP) (s g c k p1 p3 : Nat) (A : Option Addr) (l : List UInt8) (bad : Bool) (w : World) (h : Src w s g A c l k bad) (hp : w.cell? ⟨p1, 0, none⟩ = some (.pointer (some ⟨s, 0, none⟩))) (hx : Bx w p3 v.cells) (h1 : p3 ≠ s) (h2 : p3 ≠ g) :
    Calls Tryz.prog 96 #[.pointer (some ⟨p1, 0, none⟩), .pointer (some ⟨p3, 0, none⟩)] w fun e w' => e = .returned (.tuple #[]) ∧ ∃ x : Bool, True ∧ Fills (fun b => [bit8 b]) (fun _ => True) s g A c l k bad p3 ((VP.mk v.k x v.n v.f v.s).cells) x w w' := by
  have C := Lib.hid (Tells.flag s g c k A l bad w h)
  have HX := Lib.hid (And.intro hx (And.intro h1 h2))
  have H := Lib.hid h
  clear h hx h1 h2
  go_enter Tryz.func96, Tryz.ntmps96
  go_wp2_with (go_at_call 97; (refine (C.out).mono ?_); rintro e w1 ⟨x, rfl, ht⟩; have T1 := Lib.hid ht; have X1 := (HX.out.1.far (ht.choose_spec.choose_spec.2.1) HX.out.2.1 HX.out.2.2); have q1 := X1.c; have f1 := X1.fr; clear ht X1)
  go_end0
  exact ⟨rfl, x, trivial, Fills.of T1.out HX.out.1 (plain_v v) HX.out.2.1 HX.out.2.2 (by simp) rfl⟩
theorem value_int (v : VP) (s g c k p1 p3 : Nat) (A : Option Addr) (l : List UInt8) (bad : Bool) (w : World) (h : Src w s g A c l k bad) (hp : w.cell? ⟨p1, 0, none⟩ = some (.pointer (some ⟨s, 0, none⟩))) (hx : Bx w p3 v.cells) (h1 : p3 ≠ s) (h2 : p3 ≠ g) :
    Calls Tryz.prog 98 #[.pointer (some ⟨p1, 0, none⟩), .pointer (some ⟨p3, 0, none⟩)] w fun e w' => e = .returned (.tuple #[]) ∧ ∃ x : Int, fits x ∧ Fills encInt (fits) s g A c l k bad p3 ((VP.mk v.k v.b x v.f v.s).cells) x w w' := by
  have C := Lib.hid (Tells.int s g c k A l bad w h)
  have HX := Lib.hid (And.intro hx (And.intro h1 h2))
  have H := Lib.hid h
  clear h hx h1 h2
  go_enter Tryz.func98, Tryz.ntmps98
  go_wp2_with (go_at_call 99; (refine (C.out).mono ?_); rintro e w1 ⟨x, rfl, hr, ht⟩; have T1 := Lib.hid ht; have X1 := (HX.out.1.far (ht.choose_spec.choose_spec.2.1) HX.out.2.1 HX.out.2.2); have q1 := X1.c; have f1 := X1.fr; have R1 := Lib.hid hr; clear hr; clear ht X1)
  go_end0
  exact ⟨rfl, x, R1.out, Fills.of T1.out HX.out.1 (plain_v v) HX.out.2.1 HX.out.2.2 (by simp) rfl⟩
theorem value_float (v : VP) (s g c k p1 p3 : Nat) (A : Option Addr) (l : List UInt8) (bad : Bool) (w : World) (h : Src w s g A c l k bad) (hp : w.cell? ⟨p1, 0, none⟩ = some (.pointer (some ⟨s, 0, none⟩))) (hx : Bx w p3 v.cells) (h1 : p3 ≠ s) (h2 : p3 ≠ g) :
    Calls Tryz.prog 100 #[.pointer (some ⟨p1, 0, none⟩), .pointer (some ⟨p3, 0, none⟩)] w fun e w' => e = .returned (.tuple #[]) ∧ ∃ x : Nat, x < 18446744073709551616 ∧ Fills encFloat (fun f => f < 18446744073709551616 ∧ canonF f = f) s g A c l k bad p3 ((VP.mk v.k v.b v.n x v.s).cells) x w w' := by
  have C := Lib.hid (Tells.float s g c k A l bad w h)
  have HX := Lib.hid (And.intro hx (And.intro h1 h2))
  have H := Lib.hid h
  clear h hx h1 h2
  have hsf := store_float
  go_enter Tryz.func100, Tryz.ntmps100
  go_wp2_with (go_at_call 101; (refine (C.out).mono ?_); rintro e w1 ⟨x, rfl, hr, ht⟩; have T1 := Lib.hid ht; have X1 := (HX.out.1.far (ht.choose_spec.choose_spec.2.1) HX.out.2.1 HX.out.2.2); have q1 := X1.c; have f1 := X1.fr; have R1 := Lib.hid hr; clear hr; clear ht X1)
  go_end0
  exact ⟨rfl, x, R1.out, Fills.of T1.out HX.out.1 (plain_v v) HX.out.2.1 HX.out.2.2 (by simp) rfl⟩
theorem value_str (v : VP) (s g c k p1 p3 : Nat) (A : Option Addr) (l : List UInt8) (bad : Bool) (w : World) (h : Src w s g A c l k bad) (hp : w.cell? ⟨p1, 0, none⟩ = some (.pointer (some ⟨s, 0, none⟩))) (hx : Bx w p3 v.cells) (h1 : p3 ≠ s) (h2 : p3 ≠ g) :
    Calls Tryz.prog 102 #[.pointer (some ⟨p1, 0, none⟩), .pointer (some ⟨p3, 0, none⟩)] w fun e w' => e = .returned (.tuple #[]) ∧ ∃ x : ByteArray, x.size ≤ 32 ∧ Fills encStr (fun t => t.size ≤ 32) s g A c l k bad p3 ((VP.mk v.k v.b v.n v.f x).cells) x w w' := by
  have C := Lib.hid (Tells.text s g c k 32 (by omega) A l bad w h)
  have HX := Lib.hid (And.intro hx (And.intro h1 h2))
  have H := Lib.hid h
  clear h hx h1 h2
  go_enter Tryz.func102, Tryz.ntmps102
  go_wp2_with (go_at_call 103; (refine (C.out).mono ?_); rintro e w1 ⟨x, rfl, hr, ht⟩; have T1 := Lib.hid ht; have X1 := (HX.out.1.far (ht.choose_spec.choose_spec.2.1) HX.out.2.1 HX.out.2.2); have q1 := X1.c; have f1 := X1.fr; have R1 := Lib.hid hr; clear hr; clear ht X1)
  go_end0
  exact ⟨rfl, x, R1.out, Fills.of T1.out HX.out.1 (plain_v v) HX.out.2.1 HX.out.2.2 (by simp) rfl⟩
theorem value_id (v : VP) (s g c k p1 p3 : Nat) (A : Option Addr) (l : List UInt8) (bad : Bool) (w : World) (h : Src w s g A c l k bad) (hp : w.cell? ⟨p1, 0, none⟩ = some (.pointer (some ⟨s, 0, none⟩))) (hx : Bx w p3 v.cells) (h1 : p3 ≠ s) (h2 : p3 ≠ g) :
    Calls Tryz.prog 93 #[.pointer (some ⟨p1, 0, none⟩), .pointer (some ⟨p3, 0, none⟩)] w fun e w' => e = .returned (.tuple #[]) ∧ ∃ x : Nat, x ≤ 1099511627776 ∧ Fills encNum (fun n => n ≤ 1099511627776) s g A c l k bad p3 ((VP.mk v.k v.b (x : Int) v.f v.s).cells) x w w' := by
  have C := Lib.hid (Tells.num s g c k 1099511627776 (by omega) A l bad w h)
  have HX := Lib.hid (And.intro hx (And.intro h1 h2))
  have H := Lib.hid h
  clear h hx h1 h2
  go_enter Tryz.func93, Tryz.ntmps93
  go_wp2_with (go_at_call 94; (refine (C.out).mono ?_); rintro e w1 ⟨x, rfl, hr, ht⟩; have T1 := Lib.hid ht; have X1 := (HX.out.1.far (ht.choose_spec.choose_spec.2.1) HX.out.2.1 HX.out.2.2); have q1 := X1.c; have f1 := X1.fr; have hw : IntKind.i64.wrap (x : Int) = (x : Int) := IntWalk.i64_in _ (by omega); have R1 := Lib.hid hr; clear hr; clear ht X1)
  go_end0
  exact ⟨rfl, x, R1.out, Fills.of T1.out HX.out.1 (plain_v v) HX.out.2.1 HX.out.2.2 (by simp) rfl⟩
end
end Go.Proofs.YtchklaepilcbbaaGreat
