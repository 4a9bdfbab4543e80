/- MayOp, for every operation. -/
import Derived.Test.YtflgdhhgnbdofaaGreatmG28
namespace Go.Proofs.YtflgdhhgnbdofaaGreat
open Go.RowKit
theorem Bx.set {w : World} {g : Nat} {A : Array Value} (h : Bx w g A) (i : Nat) (v : Value) (hi : i < A.size) : Bx (w.setCell ⟨g, i, none⟩ v) g (A.setIfInBounds i v) := by
  refine ⟨by simpa [World.setCell] using h.lt, fun j => ?_, fun j => by rw [World.frozen?_setCell]; exact h.fr j⟩
  by_cases e : j = i
  · subst e
    rw [World.cell?_setCell_same _ _ _ ((h.c j).trans (Array.getElem?_eq_getElem hi))]
    simp [hi]
  · rw [World.cell?_setCell_other _ _ _ _ (fun he => e (by injection he with _ h2; exact h2.symm)), h.c j]
    rw [Array.getElem?_setIfInBounds]
    simp [show ¬ i = j from fun h => e h.symm]
theorem Bx.eq {w : World} {g : Nat} {A B : Array Value} (h : Bx w g A) (e : A = B) : Bx w g B := e ▸ h
end Go.Proofs.YtflgdhhgnbdofaaGreat
namespace Go.Proofs.YtflgdhhgnbdofaaGreat.Co
open Go.RowKit
theorem null_iff {v : VP} : v.k = 0 ∧ v.may ↔ v = VP.none := ⟨fun h => may_none h.2 h.1, fun h => by rw [h]; exact ⟨rfl, none_may⟩⟩
theorem idP_iff {n : Nat} : decide (1 ≤ n ∧ n ≤ 1099511627776) = true ↔ idP n := by unfold idP; simp
theorem per_iff {a b : Nat} : decide (a < b ∧ b ≤ 1099511627776) = true ↔ (a < b ∧ b ≤ 1099511627776) := by simp
theorem al1 {w w' : World} {o : Obj} (h : Below (w.alloc o).heap.size (w.alloc o) w') : Below w.heap.size w w' := ((Below.refl _ _).alloc (Nat.le_refl _) o).trans (h.mono (by simp))
theorem al2 {w w1 w2 : World} {o : Obj} (h1 : Below (w.alloc o).heap.size (w.alloc o) w1) (h2 : Below w1.heap.size w1 w2) : Below w.heap.size w w2 := al1 (h1.trans (h2.mono h1.size))
theorem blank5 (w w2 : World) (kind : Int) (edge : Bool) (id : Nat) (label : ByteArray) (fr til : Nat) (key : ByteArray) (k : Int) (b : Bool) (n : Int) (f : Nat) (s : ByteArray) (pf pt : Nat) (h : Bx w2 w.heap.size (OP.cells ⟨kind, edge, id, label, fr, til, key, ⟨k, b, n, f, s⟩, pf, pt⟩)) (hb : Below w.heap.size w w2) :
    ∃ W, ((((((w2.setCell ⟨w.heap.size, 6, none⟩ (.string ⟨#[]⟩)).setCell ⟨w.heap.size, 7, none⟩ (.int .i64 0)).setCell ⟨w.heap.size, 8, none⟩ (.bool false)).setCell ⟨w.heap.size, 9, none⟩ (.int .i64 0)).setCell ⟨w.heap.size, 10, none⟩ (.float .f64 0)).setCell ⟨w.heap.size, 11, none⟩ (.string ⟨#[]⟩)) = W ∧
      Bx W w.heap.size (OP.cells ⟨kind, edge, id, label, fr, til, ⟨#[]⟩, ⟨0, false, 0, 0, ⟨#[]⟩⟩, pf, pt⟩) ∧ Below w.heap.size w W := by
  refine ⟨_, rfl, ?_, ?_⟩
  · exact (((((((h.set 6 _ (by simp)).set 7 _ (by simp)).set 8 _ (by simp)).set 9 _ (by simp)).set 10 _ (by simp)).set 11 _ (by simp)).eq rfl)
  · exact (((((hb.setCell (Nat.le_refl _) _).setCell (Nat.le_refl _) _).setCell (Nat.le_refl _) _).setCell (Nat.le_refl _) _).setCell (Nat.le_refl _) _).setCell (Nat.le_refl _) _
theorem mk_empty : (⟨#[]⟩ : ByteArray) = ByteArray.empty := rfl
section
set_option maxRecDepth 100000
set_option maxHeartbeats 2000000
theorem MayOp_1 (edge : Bool) (id : Nat) (label : ByteArray) (fr til : Nat) (key : ByteArray) (k : Int) (b : Bool) (n : Int) (f : Nat) (s : ByteArray) (pf pt : Nat) (w : World) (hf : f < 18446744073709551616) :
    Calls Tryz.prog 68 #[OP.val ⟨1, edge, id, label, fr, til, key, ⟨k, b, n, f, s⟩, pf, pt⟩] w fun e w' => ∃ c : Bool, e = .returned (.bool c) ∧ (c = true ↔ OP.may ⟨1, edge, id, label, fr, til, key, ⟨k, b, n, f, s⟩, pf, pt⟩) ∧ Below w.heap.size w w' := by
  have CL := Lib.hid (fun W => isLabel_any label W)
  have CI := Lib.hid (fun W => isId_any id W)
  have CP := Lib.hid (fun W => perMay_any pf pt W)
  have CB := Lib.hid (fun W => isBare_any ⟨1, edge, id, ⟨#[]⟩, fr, til, key, ⟨k, b, n, f, s⟩, pf, pt⟩ hf W)
  have HI := Lib.hid (idP_iff (n := id))
  have HP := Lib.hid (per_iff (a := pf) (b := pt))
  generalize decide (1 ≤ id ∧ id ≤ 1099511627776) = q at *
  generalize decide (pf < pt ∧ pt ≤ 1099511627776) = r at *
  clear hf
  cases edge
  case true =>
    go_enter Tryz.func68, Tryz.ntmps68
    go_wp2
    go_ret
    first | exact ⟨_, rfl, by simp [OP.may, OP.kindP], (Below.refl _ _).alloc (Nat.le_refl _) _⟩ | exact Or.inl ⟨rfl, by simp [OP.may, OP.kindP], (Below.refl _ _).alloc (Nat.le_refl _) _⟩
  obtain ⟨p, hp⟩ : ∃ p, labelB label = p := ⟨_, rfl⟩
  have HL2 := Lib.hid hp
  rw [hp] at CL
  clear hp
  cases p
  case false =>
    go_enter Tryz.func68, Tryz.ntmps68
    go_wp2_with (first
      | (go_at_call 134; ((with_reducible refine (CL.out _).mono ?_); rintro e w' ⟨rfl, rfl⟩)))
    go_ret
    first | exact ⟨_, rfl, by simp [OP.may, OP.kindP, HL2.out], (Below.refl _ _).alloc (Nat.le_refl _) _⟩ | exact Or.inl ⟨rfl, by simp [OP.may, OP.kindP, HL2.out], (Below.refl _ _).alloc (Nat.le_refl _) _⟩
  cases q
  case false =>
    go_enter Tryz.func68, Tryz.ntmps68
    go_wp2_with (first
      | (go_at_call 134; ((with_reducible refine (CL.out _).mono ?_); rintro e w' ⟨rfl, rfl⟩))
      | (go_at_call 135; ((with_reducible refine (CI.out _).mono ?_); rintro e w' ⟨rfl, rfl⟩)))
    go_ret
    first | exact ⟨_, rfl, by have h := HI.out; simp at h; simp [OP.may, h], (Below.refl _ _).alloc (Nat.le_refl _) _⟩ | exact Or.inl ⟨rfl, by have h := HI.out; simp at h; simp [OP.may, h], (Below.refl _ _).alloc (Nat.le_refl _) _⟩
  cases r
  case false =>
    go_enter Tryz.func68, Tryz.ntmps68
    go_wp2_with (first
      | (go_at_call 134; ((with_reducible refine (CL.out _).mono ?_); rintro e w' ⟨rfl, rfl⟩))
      | (go_at_call 135; ((with_reducible refine (CI.out _).mono ?_); rintro e w' ⟨rfl, rfl⟩))
      | (go_at_call 80; ((with_reducible refine (CP.out _).mono ?_); rintro e w3 ⟨rfl, hb⟩; have B3 := Lib.hid hb; have q3 := ((Bx.new _ _ _).below hb).c; clear hb)))
    go_ret
    first | exact ⟨_, rfl, by have h := HP.out; simp at h; simp [OP.may]; omega, al1 B3.out⟩ | exact Or.inl ⟨rfl, by have h := HP.out; simp at h; simp [OP.may]; omega, al1 B3.out⟩
  go_enter Tryz.func68, Tryz.ntmps68
  go_wp2_with (first
    | (go_at_call 134; ((with_reducible refine (CL.out _).mono ?_); rintro e w' ⟨rfl, rfl⟩))
    | (go_at_call 135; ((with_reducible refine (CI.out _).mono ?_); rintro e w' ⟨rfl, rfl⟩))
    | (go_at_call 80; ((with_reducible refine (CP.out _).mono ?_); rintro e w3 ⟨rfl, hb⟩; have B3 := Lib.hid hb; have q3 := ((Bx.new _ _ _).below hb).c; clear hb))
    | (go_at_call 138; ((refine (CB.out _).mono ?_); rintro e w4 ⟨cb, rfl, hcb, hb⟩; have HC := Lib.hid hcb; have B4 := Lib.hid hb; clear hcb hb)))
  go_ret
  refine ⟨_, rfl, ?_, al2 B3.out B4.out⟩
  rw [HC.out]
  have h1 := HI.out.1 (by simp)
  have h2 := HP.out.1 (by simp)
  simp [OP.bare, OP.may, OP.kindP, HL2.out, h1, h2, mk_empty]; intros; exact null_iff (v := ⟨k, b, n, f, s⟩)
theorem MayOp_2 (edge : Bool) (id : Nat) (label : ByteArray) (fr til : Nat) (key : ByteArray) (k : Int) (b : Bool) (n : Int) (f : Nat) (s : ByteArray) (pf pt : Nat) (w : World) (hf : f < 18446744073709551616) :
    Calls Tryz.prog 68 #[OP.val ⟨2, edge, id, label, fr, til, key, ⟨k, b, n, f, s⟩, pf, pt⟩] w fun e w' => ∃ c : Bool, e = .returned (.bool c) ∧ (c = true ↔ OP.may ⟨2, edge, id, label, fr, til, key, ⟨k, b, n, f, s⟩, pf, pt⟩) ∧ Below w.heap.size w w' := by
  have CL := Lib.hid (fun W => isLabel_any label W)
  have CF := Lib.hid (fun W => isId_any fr W)
  have CT := Lib.hid (fun W => isId_any til W)
  have HF := Lib.hid (idP_iff (n := fr))
  have HT := Lib.hid (idP_iff (n := til))
  generalize decide (1 ≤ fr ∧ fr ≤ 1099511627776) = x at *
  generalize decide (1 ≤ til ∧ til ≤ 1099511627776) = y at *
  have CI := Lib.hid (fun W => isId_any id W)
  have CP := Lib.hid (fun W => perMay_any pf pt W)
  have CB := Lib.hid (fun W => isBare_any ⟨2, edge, id, ⟨#[]⟩, 0, 0, key, ⟨k, b, n, f, s⟩, pf, pt⟩ hf W)
  have HI := Lib.hid (idP_iff (n := id))
  have HP := Lib.hid (per_iff (a := pf) (b := pt))
  generalize decide (1 ≤ id ∧ id ≤ 1099511627776) = q at *
  generalize decide (pf < pt ∧ pt ≤ 1099511627776) = r at *
  clear hf
  cases edge
  case false =>
    go_enter Tryz.func68, Tryz.ntmps68
    go_wp2
    go_ret
    first | exact ⟨_, rfl, by simp [OP.may, OP.kindP], (Below.refl _ _).alloc (Nat.le_refl _) _⟩ | exact Or.inl ⟨rfl, by simp [OP.may, OP.kindP], (Below.refl _ _).alloc (Nat.le_refl _) _⟩
  obtain ⟨p, hp⟩ : ∃ p, labelB label = p := ⟨_, rfl⟩
  have HL2 := Lib.hid hp
  rw [hp] at CL
  clear hp
  cases p
  case false =>
    go_enter Tryz.func68, Tryz.ntmps68
    go_wp2_with (first
      | (go_at_call 134; ((with_reducible refine (CL.out _).mono ?_); rintro e w' ⟨rfl, rfl⟩)))
    go_ret
    first | exact ⟨_, rfl, by simp [OP.may, OP.kindP, HL2.out], (Below.refl _ _).alloc (Nat.le_refl _) _⟩ | exact Or.inl ⟨rfl, by simp [OP.may, OP.kindP, HL2.out], (Below.refl _ _).alloc (Nat.le_refl _) _⟩
  cases x
  case false =>
    go_enter Tryz.func68, Tryz.ntmps68
    go_wp2_with (first
      | (go_at_call 134; ((with_reducible refine (CL.out _).mono ?_); rintro e w' ⟨rfl, rfl⟩))
      | (go_at_call 135; ((with_reducible refine (CF.out _).mono ?_); rintro e w' ⟨rfl, rfl⟩)))
    go_ret
    first | exact ⟨_, rfl, by have h := HF.out; simp at h; simp [OP.may, OP.kindP, h], (Below.refl _ _).alloc (Nat.le_refl _) _⟩ | exact Or.inl ⟨rfl, by have h := HF.out; simp at h; simp [OP.may, OP.kindP, h], (Below.refl _ _).alloc (Nat.le_refl _) _⟩
  cases y
  case false =>
    go_enter Tryz.func68, Tryz.ntmps68
    go_wp2_with (first
      | (go_at_call 134; ((with_reducible refine (CL.out _).mono ?_); rintro e w' ⟨rfl, rfl⟩))
      | (go_at_call 135; ((with_reducible refine (CF.out _).mono ?_); rintro e w' ⟨rfl, rfl⟩))
      | (go_at_call 135; ((with_reducible refine (CT.out _).mono ?_); rintro e w' ⟨rfl, rfl⟩)))
    go_ret
    first | exact ⟨_, rfl, by have h := HT.out; simp at h; simp [OP.may, OP.kindP, h], (Below.refl _ _).alloc (Nat.le_refl _) _⟩ | exact Or.inl ⟨rfl, by have h := HT.out; simp at h; simp [OP.may, OP.kindP, h], (Below.refl _ _).alloc (Nat.le_refl _) _⟩
  cases q
  case false =>
    go_enter Tryz.func68, Tryz.ntmps68
    go_wp2_with (first
      | (go_at_call 134; ((with_reducible refine (CL.out _).mono ?_); rintro e w' ⟨rfl, rfl⟩))
      | (go_at_call 135; ((with_reducible refine (CF.out _).mono ?_); rintro e w' ⟨rfl, rfl⟩))
      | (go_at_call 135; ((with_reducible refine (CT.out _).mono ?_); rintro e w' ⟨rfl, rfl⟩))
      | (go_at_call 135; ((with_reducible refine (CI.out _).mono ?_); rintro e w' ⟨rfl, rfl⟩)))
    go_ret
    first | exact ⟨_, rfl, by have h := HI.out; simp at h; simp [OP.may, h], (Below.refl _ _).alloc (Nat.le_refl _) _⟩ | exact Or.inl ⟨rfl, by have h := HI.out; simp at h; simp [OP.may, h], (Below.refl _ _).alloc (Nat.le_refl _) _⟩
  cases r
  case false =>
    go_enter Tryz.func68, Tryz.ntmps68
    go_wp2_with (first
      | (go_at_call 134; ((with_reducible refine (CL.out _).mono ?_); rintro e w' ⟨rfl, rfl⟩))
      | (go_at_call 135; ((with_reducible refine (CF.out _).mono ?_); rintro e w' ⟨rfl, rfl⟩))
      | (go_at_call 135; ((with_reducible refine (CT.out _).mono ?_); rintro e w' ⟨rfl, rfl⟩))
      | (go_at_call 135; ((with_reducible refine (CI.out _).mono ?_); rintro e w' ⟨rfl, rfl⟩))
      | (go_at_call 80; ((with_reducible refine (CP.out _).mono ?_); rintro e w3 ⟨rfl, hb⟩; have B3 := Lib.hid hb; have q3 := ((Bx.new _ _ _).below hb).c; clear hb)))
    go_ret
    first | exact ⟨_, rfl, by have h := HP.out; simp at h; simp [OP.may]; omega, al1 B3.out⟩ | exact Or.inl ⟨rfl, by have h := HP.out; simp at h; simp [OP.may]; omega, al1 B3.out⟩
  go_enter Tryz.func68, Tryz.ntmps68
  go_wp2_with (first
    | (go_at_call 134; ((with_reducible refine (CL.out _).mono ?_); rintro e w' ⟨rfl, rfl⟩))
    | (go_at_call 135; ((with_reducible refine (CF.out _).mono ?_); rintro e w' ⟨rfl, rfl⟩))
    | (go_at_call 135; ((with_reducible refine (CT.out _).mono ?_); rintro e w' ⟨rfl, rfl⟩))
    | (go_at_call 135; ((with_reducible refine (CI.out _).mono ?_); rintro e w' ⟨rfl, rfl⟩))
    | (go_at_call 80; ((with_reducible refine (CP.out _).mono ?_); rintro e w3 ⟨rfl, hb⟩; have B3 := Lib.hid hb; have q3 := ((Bx.new _ _ _).below hb).c; clear hb))
    | (go_at_call 138; ((refine (CB.out _).mono ?_); rintro e w4 ⟨cb, rfl, hcb, hb⟩; have HC := Lib.hid hcb; have B4 := Lib.hid hb; clear hcb hb)))
  go_ret
  refine ⟨_, rfl, ?_, al2 B3.out B4.out⟩
  rw [HC.out]
  have h1 := HI.out.1 (by simp)
  have h2 := HP.out.1 (by simp)
  have h3 := HF.out.1 (by simp)
  have h4 := HT.out.1 (by simp)
  simp [OP.bare, OP.may, OP.kindP, HL2.out, h1, h2, h3, h4, mk_empty]; intros; exact null_iff (v := ⟨k, b, n, f, s⟩)
theorem MayOp_3 (edge : Bool) (id : Nat) (label : ByteArray) (fr til : Nat) (key : ByteArray) (k : Int) (b : Bool) (n : Int) (f : Nat) (s : ByteArray) (pf pt : Nat) (w : World) (hf : f < 18446744073709551616) :
    Calls Tryz.prog 68 #[OP.val ⟨3, edge, id, label, fr, til, key, ⟨k, b, n, f, s⟩, pf, pt⟩] w fun e w' => ∃ c : Bool, e = .returned (.bool c) ∧ (c = true ↔ OP.may ⟨3, edge, id, label, fr, til, key, ⟨k, b, n, f, s⟩, pf, pt⟩) ∧ Below w.heap.size w w' := by
  have CI := Lib.hid (fun W => isId_any id W)
  have CP := Lib.hid (fun W => perMay_any pf pt W)
  have CB := Lib.hid (fun W => isBare_any ⟨3, edge, id, label, fr, til, key, ⟨k, b, n, f, s⟩, pf, pt⟩ hf W)
  have HI := Lib.hid (idP_iff (n := id))
  have HP := Lib.hid (per_iff (a := pf) (b := pt))
  generalize decide (1 ≤ id ∧ id ≤ 1099511627776) = q at *
  generalize decide (pf < pt ∧ pt ≤ 1099511627776) = r at *
  clear hf
  cases q
  case false =>
    go_enter Tryz.func68, Tryz.ntmps68
    go_wp2_with (first
      | (go_at_call 135; ((with_reducible refine (CI.out _).mono ?_); rintro e w' ⟨rfl, rfl⟩)))
    go_ret
    first | exact ⟨_, rfl, by have h := HI.out; simp at h; simp [OP.may, h], (Below.refl _ _).alloc (Nat.le_refl _) _⟩ | exact Or.inl ⟨rfl, by have h := HI.out; simp at h; simp [OP.may, h], (Below.refl _ _).alloc (Nat.le_refl _) _⟩
  cases r
  case false =>
    go_enter Tryz.func68, Tryz.ntmps68
    go_wp2_with (first
      | (go_at_call 135; ((with_reducible refine (CI.out _).mono ?_); rintro e w' ⟨rfl, rfl⟩))
      | (go_at_call 80; ((with_reducible refine (CP.out _).mono ?_); rintro e w3 ⟨rfl, hb⟩; have B3 := Lib.hid hb; have q3 := ((Bx.new _ _ _).below hb).c; clear hb)))
    go_ret
    first | exact ⟨_, rfl, by have h := HP.out; simp at h; simp [OP.may]; omega, al1 B3.out⟩ | exact Or.inl ⟨rfl, by have h := HP.out; simp at h; simp [OP.may]; omega, al1 B3.out⟩
  go_enter Tryz.func68, Tryz.ntmps68
  go_wp2_with (first
    | (go_at_call 135; ((with_reducible refine (CI.out _).mono ?_); rintro e w' ⟨rfl, rfl⟩))
    | (go_at_call 80; ((with_reducible refine (CP.out _).mono ?_); rintro e w3 ⟨rfl, hb⟩; have B3 := Lib.hid hb; have q3 := ((Bx.new _ _ _).below hb).c; clear hb))
    | (go_at_call 138; ((refine (CB.out _).mono ?_); rintro e w4 ⟨cb, rfl, hcb, hb⟩; have HC := Lib.hid hcb; have B4 := Lib.hid hb; clear hcb hb)))
  go_ret
  refine ⟨_, rfl, ?_, al2 B3.out B4.out⟩
  rw [HC.out]
  have h1 := HI.out.1 (by simp)
  have h2 := HP.out.1 (by simp)
  simp [OP.bare, OP.may, OP.kindP, h1, h2]; intros; exact null_iff (v := ⟨k, b, n, f, s⟩)
theorem MayOp_4 (edge : Bool) (id : Nat) (label : ByteArray) (fr til : Nat) (key : ByteArray) (k : Int) (b : Bool) (n : Int) (f : Nat) (s : ByteArray) (pf pt : Nat) (w : World) (hf : f < 18446744073709551616) :
    Calls Tryz.prog 68 #[OP.val ⟨4, edge, id, label, fr, til, key, ⟨k, b, n, f, s⟩, pf, pt⟩] w fun e w' => ∃ c : Bool, e = .returned (.bool c) ∧ (c = true ↔ OP.may ⟨4, edge, id, label, fr, til, key, ⟨k, b, n, f, s⟩, pf, pt⟩) ∧ Below w.heap.size w w' := by
  have CI := Lib.hid (fun W => isId_any id W)
  have CP := Lib.hid (fun W => perMay_any pf pt W)
  have CB := Lib.hid (fun W => isBare_any ⟨4, edge, id, label, fr, til, key, ⟨k, b, n, f, s⟩, pf, pt⟩ hf W)
  have HI := Lib.hid (idP_iff (n := id))
  have HP := Lib.hid (per_iff (a := pf) (b := pt))
  generalize decide (1 ≤ id ∧ id ≤ 1099511627776) = q at *
  generalize decide (pf < pt ∧ pt ≤ 1099511627776) = r at *
  clear hf
  cases q
  case false =>
    go_enter Tryz.func68, Tryz.ntmps68
    go_wp2_with (first
      | (go_at_call 135; ((with_reducible refine (CI.out _).mono ?_); rintro e w' ⟨rfl, rfl⟩)))
    go_ret
    first | exact ⟨_, rfl, by have h := HI.out; simp at h; simp [OP.may, h], (Below.refl _ _).alloc (Nat.le_refl _) _⟩ | exact Or.inl ⟨rfl, by have h := HI.out; simp at h; simp [OP.may, h], (Below.refl _ _).alloc (Nat.le_refl _) _⟩
  cases r
  case false =>
    go_enter Tryz.func68, Tryz.ntmps68
    go_wp2_with (first
      | (go_at_call 135; ((with_reducible refine (CI.out _).mono ?_); rintro e w' ⟨rfl, rfl⟩))
      | (go_at_call 80; ((with_reducible refine (CP.out _).mono ?_); rintro e w3 ⟨rfl, hb⟩; have B3 := Lib.hid hb; have q3 := ((Bx.new _ _ _).below hb).c; clear hb)))
    go_ret
    first | exact ⟨_, rfl, by have h := HP.out; simp at h; simp [OP.may]; omega, al1 B3.out⟩ | exact Or.inl ⟨rfl, by have h := HP.out; simp at h; simp [OP.may]; omega, al1 B3.out⟩
  go_enter Tryz.func68, Tryz.ntmps68
  go_wp2_with (first
    | (go_at_call 135; ((with_reducible refine (CI.out _).mono ?_); rintro e w' ⟨rfl, rfl⟩))
    | (go_at_call 80; ((with_reducible refine (CP.out _).mono ?_); rintro e w3 ⟨rfl, hb⟩; have B3 := Lib.hid hb; have q3 := ((Bx.new _ _ _).below hb).c; clear hb))
    | (go_at_call 138; ((refine (CB.out _).mono ?_); rintro e w4 ⟨cb, rfl, hcb, hb⟩; have HC := Lib.hid hcb; have B4 := Lib.hid hb; clear hcb hb)))
  go_ret
  refine ⟨_, rfl, ?_, al2 B3.out B4.out⟩
  rw [HC.out]
  have h1 := HI.out.1 (by simp)
  have h2 := HP.out.1 (by simp)
  simp [OP.bare, OP.may, OP.kindP, h1, h2]; intros; exact null_iff (v := ⟨k, b, n, f, s⟩)
theorem MayOp_5 (edge : Bool) (id : Nat) (label : ByteArray) (fr til : Nat) (key : ByteArray) (k : Int) (b : Bool) (n : Int) (f : Nat) (s : ByteArray) (pf pt : Nat) (w : World) (hf : f < 18446744073709551616) :
    Calls Tryz.prog 68 #[OP.val ⟨5, edge, id, label, fr, til, key, ⟨k, b, n, f, s⟩, pf, pt⟩] w fun e w' => ∃ c : Bool, e = .returned (.bool c) ∧ (c = true ↔ OP.may ⟨5, edge, id, label, fr, til, key, ⟨k, b, n, f, s⟩, pf, pt⟩) ∧ Below w.heap.size w w' := by
  have CW := Lib.hid (fun W => Word_any key W)
  have CM := Lib.hid (fun W => mayProperty_any ⟨k, b, n, f, s⟩ hf W)
  have CI := Lib.hid (fun W => isId_any id W)
  have CP := Lib.hid (fun W => perMay_any pf pt W)
  have CB := Lib.hid (fun W => isBare_any ⟨5, edge, id, label, fr, til, ⟨#[]⟩, ⟨0, false, 0, 0, ⟨#[]⟩⟩, pf, pt⟩ (by simp) W)
  have HI := Lib.hid (idP_iff (n := id))
  have HP := Lib.hid (per_iff (a := pf) (b := pt))
  generalize decide (1 ≤ id ∧ id ≤ 1099511627776) = q at *
  generalize decide (pf < pt ∧ pt ≤ 1099511627776) = r at *
  have hsf := store_float
  clear hf
  obtain ⟨p, hp⟩ : ∃ p, wordB key = p := ⟨_, rfl⟩
  have HL2 := Lib.hid hp
  rw [hp] at CW
  clear hp
  cases p
  case false =>
    go_enter Tryz.func68, Tryz.ntmps68
    go_wp2_with (first
      | (go_at_call 136; ((with_reducible refine (CW.out _).mono ?_); rintro e w' ⟨rfl, rfl⟩)))
    go_ret
    first | exact ⟨_, rfl, by simp [OP.may, OP.kindP, HL2.out], (Below.refl _ _).alloc (Nat.le_refl _) _⟩ | exact Or.inl ⟨rfl, by simp [OP.may, OP.kindP, HL2.out], (Below.refl _ _).alloc (Nat.le_refl _) _⟩
  go_enter Tryz.func68, Tryz.ntmps68
  go_upto_region 15 with (first
    | (go_at_call 136; ((with_reducible refine (CW.out _).mono ?_); rintro e w' ⟨rfl, rfl⟩))
    | (go_at_call 137; ((with_reducible refine (CM.out _).mono ?_); rintro e w2 ⟨cm, rfl, hcm, hb⟩; have HM := Lib.hid hcm; have B2 := Lib.hid hb; have q2 := ((Bx.new _ _ _).below hb).c; have f2 := ((Bx.new _ _ _).below hb).fr; clear hcm hb)))
  obtain ⟨W5, hW, x5, b5⟩ := blank5 w w2 5 edge id label fr til key k b n f s pf pt ((Bx.new _ _ _).below B2.out) (al1 B2.out)
  rw [hW]
  have X5 := Lib.hid x5
  have q5 := x5.c
  have HB5 := Lib.hid b5
  have HX := Lib.hid (show w.heap.size < W5.heap.size from x5.lt)
  clear hW x5 b5 q2 f2
  cases cm
  case false =>
    go_wp2
    go_ret
    first | exact ⟨_, rfl, by have h := HM.out; simp at h; simp [OP.may, OP.kindP]; intros; simp_all, HB5.out⟩ | exact Or.inl ⟨rfl, by have h := HM.out; simp at h; simp [OP.may, OP.kindP]; intros; simp_all, HB5.out⟩
  cases q
  case false =>
    go_wp2_with (first
      | (go_at_call 135; ((with_reducible refine (CI.out _).mono ?_); rintro e w' ⟨rfl, rfl⟩)))
    go_ret
    first | exact ⟨_, rfl, by have h := HI.out; simp at h; simp [OP.may, h], HB5.out⟩ | exact Or.inl ⟨rfl, by have h := HI.out; simp at h; simp [OP.may, h], HB5.out⟩
  cases r
  case false =>
    go_wp2_with (first
      | (go_at_call 135; ((with_reducible refine (CI.out _).mono ?_); rintro e w' ⟨rfl, rfl⟩))
      | (go_at_call 80; ((with_reducible refine (CP.out _).mono ?_); rintro e w3 ⟨rfl, hb⟩; have B3 := Lib.hid hb; have q3 := (X5.out.below hb).c; clear hb)))
    go_ret
    exact ⟨_, rfl, by have h := HP.out; simp at h; simp [OP.may]; omega, HB5.out.trans (B3.out.mono (Nat.le_of_lt HX.out))⟩
  go_wp2_with (first
    | (go_at_call 135; ((with_reducible refine (CI.out _).mono ?_); rintro e w' ⟨rfl, rfl⟩))
    | (go_at_call 80; ((with_reducible refine (CP.out _).mono ?_); rintro e w3 ⟨rfl, hb⟩; have B3 := Lib.hid hb; have q3 := (X5.out.below hb).c; clear hb))
    | (go_at_call 138; ((refine (CB.out _).mono ?_); rintro e w4 ⟨cb, rfl, hcb, hb⟩; have HC := Lib.hid hcb; have B4 := Lib.hid hb; clear hcb hb)))
  go_ret
  refine ⟨_, rfl, ?_, HB5.out.trans ((B3.out.trans (B4.out.mono B3.out.size)).mono (Nat.le_of_lt HX.out))⟩
  rw [HC.out]
  have h1 := HI.out.1 (by simp)
  have h2 := HP.out.1 (by simp)
  have h3 := HM.out.1 (by simp)
  simp [OP.bare, OP.may, OP.kindP, HL2.out, h1, h2, h3, mk_empty]
  intros
  exact none_may
theorem MayOp_else (kind : Int) (edge : Bool) (id : Nat) (label : ByteArray) (fr til : Nat) (key : ByteArray) (k : Int) (b : Bool) (n : Int) (f : Nat) (s : ByteArray) (pf pt : Nat) (w : World) (hk : kind < 1 ∨ 5 < kind) :
    Calls Tryz.prog 68 #[OP.val ⟨kind, edge, id, label, fr, til, key, ⟨k, b, n, f, s⟩, pf, pt⟩] w fun e w' => ∃ c : Bool, e = .returned (.bool c) ∧ (c = true ↔ OP.may ⟨kind, edge, id, label, fr, til, key, ⟨k, b, n, f, s⟩, pf, pt⟩) ∧ Below w.heap.size w w' := by
  have HN : Hid (¬ OP.may ⟨kind, edge, id, label, fr, til, key, ⟨k, b, n, f, s⟩, pf, pt⟩) := Lib.hid fun h => by
    have h2 := kindP_range h.2.2.2
    simp only at h2
    omega
  have t1 : (kind == 1) = false := by rw [beq_eq_false_iff_ne]; omega
  have t2 : (kind == 2) = false := by rw [beq_eq_false_iff_ne]; omega
  have t3 : (kind == 3) = false := by rw [beq_eq_false_iff_ne]; omega
  have t4 : (kind == 4) = false := by rw [beq_eq_false_iff_ne]; omega
  have t5 : (kind == 5) = false := by rw [beq_eq_false_iff_ne]; omega
  clear hk
  go_enter Tryz.func68, Tryz.ntmps68
  go_wp2
  go_ret
  first | exact ⟨_, rfl, by simp [HN.out], (Below.refl _ _).alloc (Nat.le_refl _) _⟩ | exact Or.inl ⟨rfl, by simp [HN.out], (Below.refl _ _).alloc (Nat.le_refl _) _⟩
theorem MayOp_any (o : OP) (hf : o.v.f < 18446744073709551616) (w : World) :
    Calls Tryz.prog 68 #[o.val] w fun e w' => ∃ c : Bool, e = .returned (.bool c) ∧ (c = true ↔ o.may) ∧ Below w.heap.size w w' := by
  obtain ⟨kind, edge, id, label, fr, til, key, ⟨k, b, n, f, s⟩, pf, pt⟩ := o
  by_cases h1 : kind = 1
  · subst h1; exact MayOp_1 edge id label fr til key k b n f s pf pt w hf
  by_cases h2 : kind = 2
  · subst h2; exact MayOp_2 edge id label fr til key k b n f s pf pt w hf
  by_cases h3 : kind = 3
  · subst h3; exact MayOp_3 edge id label fr til key k b n f s pf pt w hf
  by_cases h4 : kind = 4
  · subst h4; exact MayOp_4 edge id label fr til key k b n f s pf pt w hf
  by_cases h5 : kind = 5
  · subst h5; exact MayOp_5 edge id label fr til key k b n f s pf pt w hf
  · exact MayOp_else kind edge id label fr til key k b n f s pf pt w (by omega)
end
end Go.Proofs.YtflgdhhgnbdofaaGreat.Co

