/- What lies of a piece in a set, the set's rest kept in a box. -/
import Derived.Test.YtmolpogehgeebaaGreatbB9
import Derived.Deep.CutBlock
namespace Go.Proofs.YtmolpogehgeebaaGreat
open Go.RowKit
/-- All blocks ahead of B but g stay. -/
structure But (g B : Nat) (w w' : World) : Prop where
  os : w'.os = w.os
  tape : w'.tape = w.tape
  output : w'.output = w.output
  size : w.heap.size ≤ w'.heap.size
  block : ∀ k, k < B → k ≠ g → w'.heap[k]? = w.heap[k]?
theorem But.refl (g B : Nat) (w : World) : But g B w w := ⟨rfl, rfl, rfl, Nat.le_refl _, fun _ _ _ => rfl⟩
theorem But.trans {g B : Nat} {a b c : World} (h : But g B a b) (k : But g B b c) : But g B a c := ⟨k.os.trans h.os, k.tape.trans h.tape, k.output.trans h.output, Nat.le_trans h.size k.size, fun i h1 h2 => (k.block i h1 h2).trans (h.block i h1 h2)⟩
theorem But.mono {g B B' : Nat} {a b : World} (h : But g B a b) (hb : B' ≤ B) : But g B' a b := ⟨h.os, h.tape, h.output, h.size, fun i h1 h2 => h.block i (by omega) h2⟩
theorem Below.but {g B : Nat} {a b : World} (h : Below B a b) : But g B a b := ⟨h.os, h.tape, h.output, h.size, fun i h1 _ => h.block i h1⟩
theorem But.below {g B C : Nat} {a b : World} (h : But g B a b) (hg : C ≤ g) (hB : C ≤ B) : Below C a b := ⟨h.os, h.tape, h.output, h.size, fun i hi => h.block i (by omega) (by omega)⟩
theorem block_set (w : World) (p : Addr) (v : Value) (b : Nat) (hb : b ≠ p.block) : (w.setCell p v).heap[b]? = w.heap[b]? := by
  unfold World.setCell
  simp only [Array.getElem?_modify]
  rw [if_neg (fun e => hb e.symm)]
theorem But.set {g B : Nat} {w : World} (o : Nat) (v : Value) : But g B w (w.setCell ⟨g, o, none⟩ v) := ⟨rfl, rfl, rfl, by simp [World.setCell], fun k _ h2 => block_set w ⟨g, o, none⟩ v k h2⟩
theorem Bx.but {g B : Nat} {w w' : World} {p : Nat} {C : Array Value} (h : Bx w p C) (hb : But g B w w') (hp : p < B) (hne : p ≠ g) : Bx w' p C := by
  have e := hb.block p hp hne
  exact ⟨Nat.lt_of_lt_of_le h.lt hb.size, fun j => (World.cell?_of_block (a := ⟨p, j, none⟩) e).trans (h.c j), fun j => (World.frozen?_of_block (a := ⟨p, j, none⟩) e).trans (h.fr j)⟩
/-- The box g holds a slice of these periods, which lie elsewhere, ahead of B. -/
def RestAt (B : Nat) (w : World) (g : Nat) (L : List (Int × Int)) : Prop := ∃ X c, Bx w g #[.slice X L.length c] ∧ L.length ≤ c ∧ c ≤ 9223372036854775807 ∧ Se.PAt w X L ∧ (∀ b o, X = some ⟨b, o, none⟩ → b ≠ g ∧ b < B) ∧ g < B
theorem PAt.but {g B : Nat} {w w' : World} {X : Option Addr} {L : List (Int × Int)} (h : Se.PAt w X L) (hb : But g B w w') (hx : ∀ b o, X = some ⟨b, o, none⟩ → b ≠ g ∧ b < B) : Se.PAt w' X L := fun h0 => by
  obtain ⟨b, off, e, hl, hc⟩ := h h0
  obtain ⟨h1, h2⟩ := hx b off e
  have e2 := hb.block b h2 h1
  exact ⟨b, off, e, Nat.lt_of_lt_of_le hl hb.size, fun i hi => ⟨(World.cell?_of_block (a := ⟨b, off + i * 2, none⟩) e2).trans (hc i hi).1, (World.cell?_of_block (a := ⟨b, off + i * 2 + 1, none⟩) e2).trans (hc i hi).2⟩⟩
theorem RestAt.below {B : Nat} {w w' : World} {g : Nat} {L : List (Int × Int)} (h : RestAt B w g L) (hb : Below B w w') : RestAt B w' g L := by
  obtain ⟨X, c, h1, h2, h3, h4, h5, h6⟩ := h
  have e := hb.block g h6
  have h1' : Bx w' g #[.slice X L.length c] := ⟨Nat.lt_of_lt_of_le h1.lt hb.size, fun j => (World.cell?_of_block (a := ⟨g, j, none⟩) e).trans (h1.c j), fun j => (World.frozen?_of_block (a := ⟨g, j, none⟩) e).trans (h1.fr j)⟩
  exact ⟨X, c, h1', h2, h3, PAt.but h4 (Below.but (g := g) hb) h5, h5, h6⟩
/-- The first one left out. -/
theorem PAt.rest {w : World} {b off : Nat} {s : Int × Int} {L : List (Int × Int)} (h : Se.PAt w (some ⟨b, off, none⟩) (s :: L)) : Se.PAt w (some ⟨b, off + 2, none⟩) L := fun h0 => by
  obtain ⟨b', off', e, hl, hc⟩ := h (by simp)
  injection e with e
  injection e with e1 e2
  subst e1 e2
  refine ⟨b, off + 2, rfl, hl, fun i hi => ?_⟩
  have := hc (i + 1) (by simp; omega)
  rw [show off + 2 + i * 2 = off + (i + 1) * 2 by omega]
  simpa using this
def lenB (v : Option Value) : Nat := match v with
  | some (.slice _ n _) => n
  | _ => 0
theorem ahead_cons_yes {a : Int} {s : Int × Int} {L : List (Int × Int)} (h : s.2 ≤ a) : Pl.ahead a (s :: L) = Pl.ahead a L := by
  unfold Pl.ahead
  rw [List.dropWhile_cons_of_pos (by simpa using h)]
theorem ahead_cons_no {a : Int} {s : Int × Int} {L : List (Int × Int)} (h : ¬ s.2 ≤ a) : Pl.ahead a (s :: L) = s :: L := by
  unfold Pl.ahead
  rw [List.dropWhile_cons_of_neg (by simpa using h)]
section
set_option maxRecDepth 100000
set_option maxHeartbeats 8000000
end
theorem takeWhile_take {α : Type} (p : α → Bool) : ∀ (l : List α) (i : Nat), i ≤ l.length → (∀ j (h : j < l.length), j < i → p l[j] = true) → (∀ h : i < l.length, p l[i] = false) → l.takeWhile p = l.take i
  | [], _, _, _, _ => by simp
  | x :: l, 0, _, _, h2 => by
    have := h2 (by simp)
    simp only [List.getElem_cons_zero] at this
    rw [List.takeWhile_cons, this]; rfl
  | x :: l, i + 1, hi, h1, h2 => by
    have := h1 0 (by simp) (by omega)
    simp only [List.getElem_cons_zero] at this
    rw [List.takeWhile_cons, this, List.take_succ_cons]
    simp only [if_true]
    rw [takeWhile_take p l i (by simpa using hi) (fun j h hj => by have := h1 (j + 1) (by simpa using h) (by omega); simpa using this) (fun h => by have := h2 (by simpa using h); simpa using this)]
theorem common_take {a b : Int} {x : Pie} (hxa : x.a = a) (hxb : x.b = b) (L : List (Int × Int)) (i : Nat) (hi : i ≤ L.length) (h1 : ∀ j (h : j < L.length), j < i → Se.Pe.meetB a b L[j].1 L[j].2 = true) (h2 : ∀ h : i < L.length, Se.Pe.meetB a b L[i].1 L[i].2 = false) :
    Pl.common x L = (L.take i).map fun s => (Se.Pe.meetF a b s.1 s.2, Se.Pe.meetT a b s.1 s.2) := by
  subst hxa hxb
  unfold Pl.common
  rw [takeWhile_take _ L i hi h1 h2]
section
set_option maxRecDepth 100000
set_option maxHeartbeats 8000000
theorem Within1_any (a b : Int) (g B : Nat) (R : List (Int × Int)) (x : Pie) (hxa : x.a = a) (hxb : x.b = b) (w : World) (h : RestAt B w g R) (hB : B ≤ w.heap.size) (hl : R.length ≤ 1000000) :
    Calls Tryz.prog 245 #[.agg #[.int .u64 a, .int .u64 b], .pointer (some ⟨g, 0, none⟩)] w fun e w' => ∃ u, e = .returned u ∧ Se.OwnP w.heap.size w' u (Pl.common x (Pl.ahead a R)) ∧ RestAt B w' g (Pl.ahead a R) ∧ But g w.heap.size w w' := by
  have HR := Lib.hid h
  have hgB : g < B := by obtain ⟨_, _, _, _, _, _, _, h6⟩ := h; exact h6
  clear h
  go_enter Tryz.func245, Tryz.ntmps245
  go_upto_block 0 with fail
  go_cut [9] from 10 to 22 (fun _ w' => RestAt B w' g (Pl.ahead a R) ∧ (Pl.ahead a R).length ≤ R.length ∧ Bx w' w.heap.size #[.int .u64 a, .int .u64 b] ∧ But g w.heap.size w w')
  case first =>
    go_wp2_with fail
    go_loopw [9] (fun _ wr => ∃ L, RestAt B wr g L ∧ Pl.ahead a L = Pl.ahead a R ∧ L.length ≤ R.length ∧ Bx wr w.heap.size #[.int .u64 a, .int .u64 b] ∧ But g w.heap.size w wr) (fun _ wr => lenB (wr.cell? ⟨g, 0, none⟩))
    case atStart => exact ⟨R, HR.out.below ((Below.refl _ _).alloc hB _), rfl, Nat.le_refl _, Bx.new w _ _, Below.but ((Below.refl _ _).alloc (Nat.le_refl _) _)⟩
    case round =>
      obtain ⟨L, hr, ha, hll, hx, hb⟩ := hrel
      obtain ⟨X, c, hbx, hc1, hc2, hpa, hxb, _⟩ := hr
      have HP := Lib.hid hpa
      have HX := Lib.hid hx
      have HB := Lib.hid hb
      have HN := Lib.hid hxb
      have HBX := Lib.hid hbx
      have HA := Lib.hid ha
      have HSZ := Lib.hid hb.size
      clear hpa hx hb hxb ha
      have x0 := HX.out.c
      have y0 := HBX.out.c
      have y1 := HBX.out.fr
      clear hbx
      cases L with
      | nil =>
        rw [List.length_nil] at y0 HBX hc1
        go_upto_region 1 with fail
        go_quiet (fail)
        go_wp2
        go_meet
        exact ⟨by rw [← HA.out]; exact ⟨X, c, HBX.out.below (bel_drewN _ (Below.refl _ _)), by simp [Pl.ahead], hc2, Se.PAt.nil _ _, HN.out, hgB⟩, by rw [← HA.out]; simp [Pl.ahead], HX.out.below (bel_drewN _ (Below.refl _ _)), HB.out.trans (Below.but (bel_drewN _ (Below.refl _ _)))⟩
      | cons s L =>
        obtain ⟨bb, off, rfl, hlb, hcl⟩ := HP.out (by simp)
        obtain ⟨z0, z1⟩ := hcl 0 (by simp)
        simp only [Nat.zero_mul, Nat.add_zero, List.getElem_cons_zero] at z0 z1
        rw [List.length_cons] at y0 HBX hc1 hll
        have HPR := Lib.hid (PAt.rest HP.out)
        have HNB := Lib.hid (HN.out bb off rfl)
        clear hcl
        have l0 : (0 : Int) < (L.length : Int) + 1 := by omega
        have HM : Hid (lenB (wr.cell? ⟨g, 0, none⟩) = L.length + 1) := Lib.hid (by rw [y0 0]; rfl)
        by_cases hle : s.2 ≤ a
        · have HA2 := Lib.hid ((ahead_cons_yes hle).symm.trans HA.out)
          generalize s.1 = sa at *
          generalize s.2 = sb at *
          clear HA HP
          go_upto_region 1 with fail
          go_quiet (fail)
          have bq := bel_drewN nq (Below.refl wr.heap.size wr)
          have X1 := Lib.hid (HX.out.below bq)
          have BX1 := Lib.hid (HBX.out.below bq)
          have P1 := Lib.hid (Se.PAt.below HPR.out bq)
          have B1 := Lib.hid (HB.out.trans (Below.but (bel_drewN nq (Below.refl _ _))))
          clear x0 y0 y1 z0 z1 bq HX HBX HPR HB
          generalize wr.drewN nq = W at *
          have y0 := BX1.out.c
          have y1 := BX1.out.fr
          have l1 : (1 : Int) ≤ (L.length : Int) + 1 := by omega
          have HLL := Lib.hid hll
          have B2 := Lib.hid (fun (v : Value) => B1.out.trans (But.set (g := g) (B := w.heap.size) (w := W) 0 v))
          have X2 := Lib.hid (fun (v : Value) => X1.out.but (But.set (g := g) (B := w.heap.size + 1) (w := W) 0 v) (by omega) (by omega))
          have P2 := Lib.hid (fun (v : Value) => PAt.but P1.out (But.set (g := g) (B := B) (w := W) 0 v) (fun b' o' e => by cases e; exact HNB.out))
          have Y2 := Lib.hid (fun (v : Value) => (⟨by simpa [World.setCell] using BX1.out.lt, fun j => by
              cases j with
              | zero => exact World.cell?_setCell_same _ _ _ (y0 0)
              | succ j => exact (World.cell?_setCell_other _ _ _ _ (by intro e; simp only [Addr.mk.injEq] at e; omega)).trans ((y0 (j + 1)).trans (by simp)), fun j => (World.frozen?_setCell _ _ _ _).trans (y1 j)⟩ : Bx (W.setCell ⟨g, 0, none⟩ v) g #[v]))
          by_cases hcc : c = 1
          · have h0 : L.length = 0 := by omega
            obtain rfl : L = [] := List.eq_nil_of_length_eq_zero h0
            subst hcc
            clear h0
            go_wp2
            exact ⟨⟨[], ⟨some ⟨bb, off, none⟩, 0, Y2.out _, by simp, by omega, Se.PAt.nil _ _, (fun b' o' e => by cases e; exact HNB.out), hgB⟩, HA2.out, by simp, X2.out _, B2.out _⟩, by rw [HM.out, (Y2.out (.slice (some ⟨bb, off, none⟩) 0 0)).c 0]; simp [lenB]⟩
          · go_wp2
            exact ⟨⟨L, ⟨some ⟨bb, off + 2, none⟩, c - 1, Y2.out _, by omega, by omega, P2.out _, (fun b' o' e => by cases e; exact HNB.out), hgB⟩, HA2.out, by have := HLL.out; omega, X2.out _, B2.out _⟩, by rw [HM.out, (Y2.out (.slice (some ⟨bb, off + 2, none⟩) L.length (c - 1))).c 0]; simp [lenB]⟩
        · have HA2 := Lib.hid ((ahead_cons_no hle).symm.trans HA.out)
          have HLL := Lib.hid hll
          generalize hs1 : s.1 = sa at *
          generalize hs2 : s.2 = sb at *
          have t0 : decide (sb ≤ a) = false := by simpa using hle
          clear HA hs1 hs2
          go_upto_region 1 with fail
          go_quiet (fail)
          have bq := bel_drewN nq (Below.refl wr.heap.size wr)
          have X1 := Lib.hid (HX.out.below bq)
          have BX1 := Lib.hid (HBX.out.below bq)
          have P1 := Lib.hid (Se.PAt.below HP.out bq)
          have B1 := Lib.hid (HB.out.trans (Below.but (bel_drewN nq (Below.refl _ _))))
          clear x0 y0 y1 z0 z1 bq HX HBX HP HB
          generalize wr.drewN nq = W at *
          go_wp2
          go_meet
          rw [← HA2.out]
          exact ⟨⟨_, c, BX1.out, by simpa using hc1, hc2, P1.out, HN.out, hgB⟩, by have := HLL.out; simpa using this, X1.out, B1.out⟩
  case rest =>
    obtain ⟨hr, hll, hx, hb⟩ := hcut
    obtain ⟨L, hL⟩ : ∃ L, Pl.ahead a R = L := ⟨_, rfl⟩
    rw [hL] at hr hll
    have HLE := Lib.hid hL
    clear hL HR
    have HRA := Lib.hid hr
    obtain ⟨X, c, hbx, hc1, hc2, hpa, hxb2, _⟩ := hr
    have y0 := hbx.c
    have HP := Lib.hid hpa
    have HX := Lib.hid hx
    have HB := Lib.hid hb
    have HN := Lib.hid hxb2
    have HSZ := Lib.hid hb.size
    have HW := Lib.hid hx.lt
    clear hpa hx hb hxb2 hbx
    go_wp2_with fail
    have HC := Lib.hid (common_take hxa hxb L)
    clear hxa hxb
    go_loopw [4, 25] (fun u i wr => ∃ k : Nat, k ≤ L.length ∧ i = .int .i64 k ∧ Se.OwnP wc.heap.size wr u ((L.take k).map fun s => (Se.Pe.meetF a b s.1 s.2, Se.Pe.meetT a b s.1 s.2)) ∧ (∀ j (h : j < L.length), j < k → Se.Pe.meetB a b L[j].1 L[j].2 = true) ∧ Below wc.heap.size wc wr) (fun _ i _ => L.length - (intOf i).toNat)
    case atStart => exact ⟨0, Nat.zero_le _, rfl, Se.OwnP.nil _ _, fun j _ h => absurd h (Nat.not_lt_zero j), Below.refl _ _⟩
    case round =>
      obtain ⟨k, hk, rfl, ho, hm, hbl⟩ := hrel
      have HO := Lib.hid ho
      have HM := Lib.hid hm
      have HL := Lib.hid hbl
      clear ho hm hbl
      by_cases hlt : k < L.length
      · obtain ⟨bb, off, rfl, hlb, hcl⟩ := (Se.PAt.below HP.out HL.out) (by omega)
        obtain ⟨z0, z1⟩ := hcl k hlt
        clear hcl
        have i0 : (k : Int) < (L.length : Int) := by omega
        have i1 : (0 : Int) ≤ (k : Int) := by omega
        have CM := Lib.hid (fun W => Se.Pe.Meet_any a b L[k].1 L[k].2 W)
        have HTK := Lib.hid (show (L.take (k + 1)).map (fun s => (Se.Pe.meetF a b s.1 s.2, Se.Pe.meetT a b s.1 s.2)) = (L.take k).map (fun s => (Se.Pe.meetF a b s.1 s.2, Se.Pe.meetT a b s.1 s.2)) ++ [(Se.Pe.meetF a b L[k].1 L[k].2, Se.Pe.meetT a b L[k].1 L[k].2)] by
          rw [List.take_succ_eq_append_getElem hlt, List.map_append]; rfl)
        have HLN := Lib.hid (show ((L.take k).map (fun s => (Se.Pe.meetF a b s.1 s.2, Se.Pe.meetT a b s.1 s.2))).length ≤ 1000000 by
          rw [List.length_map, List.length_take]; omega)
        have HE := Lib.hid (fun (h : Se.Pe.meetB a b L[k].1 L[k].2 = false) => HC.out k (by omega) HM.out (fun _ => h))
        have HM2 := Lib.hid (fun (h : Se.Pe.meetB a b L[k].1 L[k].2 = true) j (h1 : j < L.length) (h2 : j < k + 1) => if e : j = k then (by subst e; exact h) else HM.out j h1 (by omega))
        generalize Se.Pe.meetF a b L[k].1 L[k].2 = mf at *
        generalize Se.Pe.meetT a b L[k].1 L[k].2 = mt at *
        generalize Se.Pe.meetB a b L[k].1 L[k].2 = mb at *
        generalize L[k].1 = sa at *
        generalize L[k].2 = sb at *
        generalize (L.take k).map (fun s => (Se.Pe.meetF a b s.1 s.2, Se.Pe.meetT a b s.1 s.2)) = M at *
        have X1 := Lib.hid ((HX.out.below HL.out).below ((Below.refl _ _).alloc (Nat.le_refl _) (.cells #[.int .u64 sa, .int .u64 sb] 33)))
        have Y1 := Lib.hid (Bx.new wr #[.int .u64 sa, .int .u64 sb] 33)
        have B1 := Lib.hid (HL.out.alloc HL.out.size (.cells #[.int .u64 sa, .int .u64 sb] 33))
        have O1 := Lib.hid (HO.out.alloc (.cells #[.int .u64 sa, .int .u64 sb] 33))
        go_upto_region 7 with fail
        obtain ⟨W, hW⟩ : ∃ W, wr.alloc (.cells #[.int .u64 sa, .int .u64 sb] 33) = W := ⟨_, rfl⟩
        rw [hW] at X1 Y1 B1 O1 ⊢
        clear hW z0 z1
        have x0 := X1.out.c
        have y0 := Y1.out.c
        cases mb
        · have HE2 := Lib.hid (HE.out rfl)
          go_wp2_with (go_at_call 246; (with_reducible refine (CM.out _).mono ?_); rintro e w5 ⟨rfl, hb⟩; have B5 := Lib.hid (B1.out.trans (hb.mono B1.out.size)); have O5 := Lib.hid (O1.out.below hb); clear hb x0 y0)
          go_ret
          have bf := B5.out.alloc B5.out.size (.cells #[.int .u64 mf, .int .u64 mt] 33)
          exact ⟨_, rfl, Se.Pe.ownP_mono (by rw [HLE.out, HE2.out]; exact O5.out.alloc _) HSZ.out, by rw [HLE.out]; exact HRA.out.below (bf.mono (Nat.le_trans hB HSZ.out)), HB.out.trans (Below.but (bf.mono HSZ.out))⟩
        · have HM3 := Lib.hid (HM2.out rfl)
          go_upto_region 9 with (go_at_call 246; (with_reducible refine (CM.out _).mono ?_); rintro e w5 ⟨rfl, hb⟩; have B5 := Lib.hid ((B1.out.trans (hb.mono B1.out.size)).alloc (Nat.le_trans B1.out.size hb.size) (.cells #[.int .u64 mf, .int .u64 mt] 33)); have O5 := Lib.hid ((O1.out.below hb).alloc (.cells #[.int .u64 mf, .int .u64 mt] 33)); clear hb x0 y0)
          have Z5 := Lib.hid (Bx.new w5 #[.int .u64 mf, .int .u64 mt] 33)
          obtain ⟨W6, hW6⟩ : ∃ W6, w5.alloc (.cells #[.int .u64 mf, .int .u64 mt] 33) = W6 := ⟨_, rfl⟩
          rw [hW6] at Z5 B5 O5 ⊢
          clear hW6
          have z0 := Z5.out.c
          have hs6 := B5.out.size
          have hln := HLN.out
          go_wp2_with (at_builtin; refine Se.wpList_appP rfl (.tmp 37) (.tmp 39) rfl wc.heap.size _ M rfl (O5.out.alloc _) W6.heap.size mf mt rfl (by go_simp) (by go_simp) (by omega) (by simp; omega) ?_; intro v7 w7 ho7 hb7 _; have O7 := Lib.hid ho7; have B7 := Lib.hid ((B5.out.alloc hs6 (.cells #[.int .u64 mf, .int .u64 mt] 33)).trans hb7); clear ho7 hb7)
          exact ⟨⟨k + 1, by omega, by go_num, by rw [HTK.out]; exact O7.out, HM3.out, B7.out⟩, by simp [intOf]; omega⟩
      · obtain rfl : k = L.length := by omega
        have HE2 := Lib.hid (HC.out L.length (Nat.le_refl _) HM.out (fun h => absurd h (Nat.lt_irrefl _)))
        go_wp2
        go_ret
        exact ⟨_, rfl, Se.Pe.ownP_mono (by rw [HLE.out, HE2.out]; exact HO.out) HSZ.out, by rw [HLE.out]; exact HRA.out.below (HL.out.mono (Nat.le_trans hB HSZ.out)), HB.out.trans (Below.but (HL.out.mono HSZ.out))⟩
end
end Go.Proofs.YtmolpogehgeebaaGreat


