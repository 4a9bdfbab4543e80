/- A disk in memory; which calls it takes. -/
import Derived.Test.YthnfpkbpakffgaaB3
namespace Go.Proofs.Ythnfpkbpakffgaa
open Go.RowKit Go.Maps
open Disk (Nm Fl DS Up ins del upd fnd okName okByte used Wf)
/-- A disk's contents in memory. -/
structure Cont (w : World) (c m : Nat) (q fu : Int) (off : Bool) : Prop where
  c0 : w.cell? ⟨c, 0, none⟩ = some (.map (some m))
  c1 : w.cell? ⟨c, 1, none⟩ = some (.int .i64 q)
  c2 : w.cell? ⟨c, 2, none⟩ = some (.int .i64 fu)
  c3 : w.cell? ⟨c, 3, none⟩ = some (.bool off)
  fr : ∀ o, w.frozen? ⟨c, o, none⟩ = false
  lt : c < w.heap.size
theorem Cont.but {S : Nat → Prop} {w w' : World} {c m : Nat} {q fu : Int} {off : Bool} (h : Cont w c m q fu off) (hb : But S w w') (hn : ¬ S c) : Cont w' c m q fu off :=
  ⟨(hb.cell c 0 h.lt hn).trans h.c0, (hb.cell c 1 h.lt hn).trans h.c1, (hb.cell c 2 h.lt hn).trans h.c2, (hb.cell c 3 h.lt hn).trans h.c3, fun o => (hb.frozen c o h.lt hn).trans (h.fr o), Nat.lt_of_lt_of_le h.lt hb.size⟩
theorem Cont.below {w w' : World} {c m : Nat} {q fu : Int} {off : Bool} (h : Cont w c m q fu off) (hb : Below w.heap.size w w') : Cont w' c m q fu off := h.but (But.of_below (S := fun _ => False) hb) (fun h => h)
theorem Cont.q {w : World} {c m : Nat} {q fu : Int} {off : Bool} (h : Cont w c m q fu off) (x : Int) : Cont (w.setCell ⟨c, 1, none⟩ (.int .i64 x)) c m x fu off :=
  ⟨(cell_other (by decide)).trans h.c0, World.cell?_setCell_same _ _ _ h.c1, (cell_other (by decide)).trans h.c2, (cell_other (by decide)).trans h.c3, fun o => by simpa [World.frozen?_setCell] using h.fr o, by simpa [World.setCell] using h.lt⟩
theorem Cont.fu {w : World} {c m : Nat} {q fu : Int} {off : Bool} (h : Cont w c m q fu off) (x : Int) : Cont (w.setCell ⟨c, 2, none⟩ (.int .i64 x)) c m q x off :=
  ⟨(cell_other (by decide)).trans h.c0, (cell_other (by decide)).trans h.c1, World.cell?_setCell_same _ _ _ h.c2, (cell_other (by decide)).trans h.c3, fun o => by simpa [World.frozen?_setCell] using h.fr o, by simpa [World.setCell] using h.lt⟩
theorem Cont.off {w : World} {c m : Nat} {q fu : Int} {off : Bool} (h : Cont w c m q fu off) (x : Bool) : Cont (w.setCell ⟨c, 3, none⟩ (.bool x)) c m q fu x :=
  ⟨(cell_other (by decide)).trans h.c0, (cell_other (by decide)).trans h.c1, (cell_other (by decide)).trans h.c2, World.cell?_setCell_same _ _ _ h.c3, fun o => by simpa [World.frozen?_setCell] using h.fr o, by simpa [World.setCell] using h.lt⟩
theorem cont_new (w : World) (m : Nat) (q fu : Int) (off : Bool) : Cont (w.alloc (.cells #[.map (some m), .int .i64 q, .int .i64 fu, .bool off] 63)) w.heap.size m q fu off := by
  refine ⟨?_, ?_, ?_, ?_, fun o => ?_, by simp⟩ <;> go_simp
abbrev nk (e : Ent) : NK := (e.nm, e.k)
/-- The files of a disk in memory. -/
structure IsC (w : World) (m : Nat) (C : List Ent) : Prop where
  map : MapP w m (C.map nk)
  files : ∀ e ∈ C, FileAt w e
  apart : ∀ e ∈ C, ∀ e' ∈ C, e.nm ≠ e'.nm → ∀ b, e.has b → ¬ e'.has b
  offm : ∀ e ∈ C, ¬ e.has m
/-- The blocks that they take. -/
def foot (m : Nat) (C : List Ent) (b : Nat) : Prop := b = m ∨ ∃ e ∈ C, e.has b
theorem IsC.but {S : Nat → Prop} {w w' : World} {m : Nat} {C : List Ent} (h : IsC w m C) (hb : But S w w') (hn : ∀ b, foot m C b → ¬ S b) : IsC w' m C :=
  ⟨h.map.but hb (hn m (.inl rfl)), fun e he => (h.files e he).but hb fun b hb => hn b (.inr ⟨e, he, hb⟩), h.apart, h.offm⟩
theorem IsC.below {w w' : World} {m : Nat} {C : List Ent} (h : IsC w m C) (hb : Below w.heap.size w w') : IsC w' m C := h.but (But.of_below (S := fun _ => False) hb) (fun _ _ h => h)
theorem IsC.lt {w : World} {m : Nat} {C : List Ent} (h : IsC w m C) {b : Nat} (hb : foot m C b) : b < w.heap.size := by
  rcases hb with rfl | ⟨e, he, hb⟩
  · exact h.map.lt
  · exact (h.files e he).has_lt hb
theorem IsC.up {w : World} {m : Nat} {C : List Ent} (h : IsC w m C) : Up Ent.nm C := (Up.map (f := Ent.nm) (h := Prod.fst) (r := nk) fun _ => rfl).1 h.map.up
/-- What a step makes of the files. -/
def WroteC (w : World) (m : Nat) (C : List Ent) (g : List Fl → List Fl) (w' : World) : Prop :=
  ∃ C', IsC w' m C' ∧ C'.map Ent.fl = g (C.map Ent.fl) ∧ But (foot m C) w w' ∧ ∀ b, foot m C' b → foot m C b ∨ w.heap.size ≤ b
/-- A disk that New made. -/
structure InD (w : World) (p c m : Nat) (C : List Ent) (d : DS) (S : Nat → Prop) : Prop where
  ptr : w.cell? ⟨p, 0, none⟩ = some (.pointer (some ⟨c, 0, none⟩))
  plt : p < w.heap.size
  cont : Cont w c m d.q d.fu d.off
  isc : IsC w m C
  L : C.map Ent.fl = d.L
  pc : p ≠ c
  pf : ¬ foot m C p
  cf : ¬ foot m C c
  Sp : S p
  Sc : S c
  Sf : ∀ b, foot m C b → S b
  Slt : ∀ b, S b → b < w.heap.size
  wf : Wf d
def IsD (w : World) (p : Nat) (d : DS) (S : Nat → Prop) : Prop := ∃ c m C, InD w p c m C d S
theorem InD.but {S T : Nat → Prop} {w w' : World} {p c m : Nat} {C : List Ent} {d : DS} (h : InD w p c m C d S) (hb : But T w w') (hn : ∀ b, S b → ¬ T b) : InD w' p c m C d S :=
  ⟨(hb.cell p 0 h.plt (hn p h.Sp)).trans h.ptr, Nat.lt_of_lt_of_le h.plt hb.size, h.cont.but hb (hn c h.Sc), h.isc.but hb fun b hb => hn b (h.Sf b hb), h.L, h.pc, h.pf, h.cf, h.Sp, h.Sc, h.Sf, fun b hb' => Nat.lt_of_lt_of_le (h.Slt b hb') hb.size, h.wf⟩
theorem InD.below {S : Nat → Prop} {w w' : World} {p c m : Nat} {C : List Ent} {d : DS} (h : InD w p c m C d S) (hb : Below w.heap.size w w') : InD w' p c m C d S := h.but (But.of_below (S := fun _ => False) hb) (fun _ _ h => h)
theorem IsD.but {S T : Nat → Prop} {w w' : World} {p : Nat} {d : DS} (h : IsD w p d S) (hb : But T w w') (hn : ∀ b, S b → ¬ T b) : IsD w' p d S := by
  obtain ⟨c, m, C, h⟩ := h
  exact ⟨c, m, C, h.but hb hn⟩
theorem IsD.below {S : Nat → Prop} {w w' : World} {p : Nat} {d : DS} (h : IsD w p d S) (hb : Below w.heap.size w w') : IsD w' p d S := h.but (But.of_below (S := fun _ => False) hb) (fun _ _ h => h)
theorem IsD.lt {S : Nat → Prop} {w : World} {p : Nat} {d : DS} (h : IsD w p d S) : ∀ b, S b → b < w.heap.size := by obtain ⟨c, m, C, h⟩ := h; exact h.Slt
theorem IsD.wf {S : Nat → Prop} {w : World} {p : Nat} {d : DS} (h : IsD w p d S) : Wf d := by obtain ⟨c, m, C, h⟩ := h; exact h.wf
theorem IsD.plt {S : Nat → Prop} {w : World} {p : Nat} {d : DS} (h : IsD w p d S) : p < w.heap.size := by obtain ⟨c, m, C, h⟩ := h; exact h.plt
theorem IsD.sp {S : Nat → Prop} {w : World} {p : Nat} {d : DS} (h : IsD w p d S) : S p := by obtain ⟨c, m, C, h⟩ := h; exact h.Sp
/-- What a call makes of a disk. -/
def WroteD (w : World) (p : Nat) (S : Nat → Prop) (d : DS) (w' : World) : Prop := ∃ S', IsD w' p d S' ∧ But S w w' ∧ ∀ b, S' b → S b ∨ w.heap.size ≤ b
theorem WroteD.of_below {w0 w w' : World} {p : Nat} {S : Nat → Prop} {d : DS} (h : WroteD w p S d w') (hb : Below w0.heap.size w0 w) : WroteD w0 p S d w' := by
  obtain ⟨S', h1, h2, h3⟩ := h
  exact ⟨S', h1, (But.of_below hb).trans h2 fun b h => .inl h, fun b h => (h3 b h).imp_right fun h => Nat.le_trans hb.size h⟩
theorem WroteD.same {w w' : World} {p : Nat} {S : Nat → Prop} {d : DS} (h : IsD w p d S) (hb : Below w.heap.size w w') : WroteD w p S d w' := ⟨S, h.below hb, But.of_below hb, fun _ h => .inl h⟩
theorem WroteD.on {w w' w'' : World} {p : Nat} {S : Nat → Prop} {d : DS} (h : WroteD w p S d w') (hb : Below w'.heap.size w' w'') : WroteD w p S d w'' := by
  obtain ⟨S', h1, h2, h3⟩ := h
  exact ⟨S', h1.below hb, h2.on hb, h3⟩
theorem WroteD.below {w w' : World} {p B : Nat} {S : Nat → Prop} {d : DS} (h : WroteD w p S d w') (hS : ∀ b, S b → B ≤ b) (hB : B ≤ w.heap.size) : Below B w w' := by
  obtain ⟨S', h1, h2, h3⟩ := h
  exact h2.below hS hB
/-! ### which calls it takes -/
theorem made_any (p c : Nat) (w : World) (cp : w.cell? ⟨p, 0, none⟩ = some (.pointer (some ⟨c, 0, none⟩))) :
    Calls Try.prog 31 #[.pointer (some ⟨p, 0, none⟩)] w fun e w' => e = .returned (.bool true) ∧ w = w' := by
  go_enter Try.func31, Try.ntmps31
  go_wp2_with fail
  go_ret
  exact ⟨rfl, rfl⟩
/-- Where a slice of names lies. -/
def NAt (w : World) (A : Option Addr) (xs : List ByteArray) : Prop := 0 < xs.length → ∃ b off, A = some ⟨b, off, none⟩ ∧ b < w.heap.size ∧ ∀ i (h : i < xs.length), w.cell? ⟨b, off + i, none⟩ = some (.string xs[i])
def usableR (off : Bool) (xs : List ByteArray) : Int := if off = true then 8 else if xs.all (fun s => okName (nmOf s)) = true then 0 else 1
set_option maxRecDepth 100000 in
set_option maxHeartbeats 1000000 in
theorem usable_any (p c : Nat) (off : Bool) (w : World) (cp : w.cell? ⟨p, 0, none⟩ = some (.pointer (some ⟨c, 0, none⟩))) (c3 : w.cell? ⟨c, 3, none⟩ = some (.bool off)) (A : Option Addr) (cap : Nat) (xs : List ByteArray) (hA : NAt w A xs) (hx : xs.length ≤ maxLen) :
    Calls Try.prog 33 #[.pointer (some ⟨p, 0, none⟩), .slice A xs.length cap] w fun e w' => e = .returned (.int .i64 (usableR off xs)) ∧ w = w' := by
  unfold maxLen at hx
  have M := Lib.hid (made_any p c w cp)
  cases off with
  | true =>
    have hr : usableR true xs = 8 := by simp [usableR]
    rw [hr]
    clear hA hr
    generalize xs.length = n at *
    go_enter Try.func33, Try.ntmps33
    go_wp2_with fail
    refine M.out.mono ?_
    rintro e1 w1 ⟨rfl, rfl⟩
    go_wp2_with fail
    go_ret
    exact ⟨rfl, rfl⟩
  | false =>
    obtain ⟨r, hr⟩ : ∃ r, usableR false xs = r := ⟨_, rfl⟩
    rw [hr]
    have HR := Lib.hid hr
    have HA := Lib.hid hA
    obtain ⟨n, hn⟩ : ∃ n, xs.length = n := ⟨_, rfl⟩
    rw [hn] at hx ⊢
    have HN := Lib.hid hn
    clear hA hr hn
    go_enter Try.func33, Try.ntmps33
    go_wp2_with fail
    refine M.out.mono ?_
    rintro e1 w1 ⟨rfl, rfl⟩
    go_wp2_with fail
    go_loop [21] (fun v => ∃ i : Nat, v = .int .i64 i ∧ i ≤ n ∧ (xs.take i).all (fun s => okName (nmOf s)) = true) (fun v => n - (intOf v).toNat)
    case atStart => exact ⟨0, rfl, Nat.zero_le _, rfl⟩
    case round =>
      obtain ⟨i, rfl, hi, hall⟩ := hrel
      have AL := Lib.hid hall
      clear hall
      by_cases hlt : i < n
      · have hix : i < xs.length := by have := HN.out; omega
        obtain ⟨b, off, rfl, hbl, hcell⟩ := HA.out (by omega)
        have ce := hcell i hix
        obtain ⟨s, hs⟩ : ∃ s, xs[i] = s := ⟨_, rfl⟩
        rw [hs] at ce
        have HS := Lib.hid hs
        clear hcell hs
        have i1 : (0 : Int) ≤ (i : Int) := by omega
        have i2 : (i : Int) < (n : Int) := by omega
        go_wp2_with fail
        refine (Name_any s _).mono ?_
        rintro e2 w2 ⟨rfl, rfl⟩
        by_cases hok : okName (nmOf s) = true
        · rw [hok]
          go_wp2_with fail
          go_round
          case rel => exact ⟨i + 1, by go_num, by omega, by rw [List.take_succ_eq_append_getElem hix, List.all_append, AL.out, HS.out]; simp [hok]⟩
          case measure => simp [intOf]; omega
        · have hok' : okName (nmOf s) = false := by simpa using hok
          rw [hok']
          have H1 := Lib.hid (show (1 : Int) = r by
            rw [← HR.out]
            have hf : xs.all (fun s => okName (nmOf s)) = false := by
              rw [List.all_eq_false]
              exact ⟨xs[i], List.getElem_mem _, by rw [HS.out]; simpa using hok'⟩
            simp [usableR, hf])
          clear hok hok'
          go_wp2_with fail
          go_ret
          exact ⟨ret1 H1.out, rfl⟩
      · obtain rfl : i = n := by omega
        have H1 := Lib.hid (show (0 : Int) = r by
          rw [← HR.out]
          have hf : xs.all (fun s => okName (nmOf s)) = true := by
            have := AL.out
            rwa [List.take_of_length_le (by have := HN.out; omega)] at this
          simp only [usableR, hf]
          rfl)
        go_wp2_with fail
        go_ret
        exact ⟨ret1 H1.out, rfl⟩
theorem On_any (p c : Nat) (off : Bool) (w : World) (cp : w.cell? ⟨p, 0, none⟩ = some (.pointer (some ⟨c, 0, none⟩))) (c3 : w.cell? ⟨c, 3, none⟩ = some (.bool off)) :
    Calls Try.prog 23 #[.pointer (some ⟨p, 0, none⟩)] w fun e w' => e = .returned (.bool (!off)) ∧ w = w' := by
  have U := usable_any p c off w cp c3 none 0 [] (fun h => absurd h (by simp)) (by simp)
  cases off
  all_goals
    go_enter Try.func23, Try.ntmps23
    go_wp2_with fail
    refine U.mono ?_
    rintro e1 w1 ⟨rfl, rfl⟩
    go_wp2_with fail
    go_ret
    exact ⟨rfl, rfl⟩
end Go.Proofs.Ythnfpkbpakffgaa
