/- The line of puts, one behind the other. -/
import Derived.Test.YtgmaompjhhomcaaGreatmH6
namespace Go.Proofs.YtgmaompjhhomcaaGreat
open Go.RowKit
/-- What built answers: the line of the puts that may be. -/
def BuiltR (base : Nat) (w : World) (e : Ending) (w' : World) : Prop := ∃ u ud R D, e = .returned (.tuple #[u, ud, .bool true]) ∧ OwnL base w' u R ∧ OwnT base w' ud D ∧ PutsR D R ∧ (∀ p ∈ D, goodP p ∧ p.v.wide) ∧ D.length ≤ 30 ∧ Below base w w'
/-- How far the puts have come. -/
structure Bld (base : Nat) (w0 w : World) (u ud : Value) (D R : List Pie) (k : Nat) : Prop where
  ol : OwnL base w u R
  ot : OwnT base w ud D
  puts : PutsR D R
  good : ∀ p ∈ D, goodP p ∧ p.v.wide
  len : D.length ≤ k
  k30 : k ≤ 30
  bel : Below base w0 w
  sz : base ≤ w.heap.size
theorem Bld.step {base : Nat} {w0 w w' : World} {u ud : Value} {D R : List Pie} {k : Nat} (h : Bld base w0 w u ud D R k) (hb : Below w.heap.size w w') : Bld base w0 w' u ud D R k :=
  ⟨h.ol.below hb, h.ot.below hb, h.puts, h.good, h.len, h.k30, h.bel.trans (hb.mono h.sz), Nat.le_trans h.sz hb.size⟩
theorem Bld.skip {base : Nat} {w0 w : World} {u ud : Value} {D R : List Pie} {k : Nat} (h : Bld base w0 w u ud D R k) (hk : k < 30) : Bld base w0 w u ud D R (k + 1) :=
  ⟨h.ol, h.ot, h.puts, h.good, by have := h.len; omega, by omega, h.bel, h.sz⟩
theorem Bld.len60 {base : Nat} {w0 w : World} {u ud : Value} {D R : List Pie} {k : Nat} (h : Bld base w0 w u ud D R k) : R.length ≤ 60 := by
  have := h.puts.len; have := h.len; have := h.k30; omega
section
set_option maxRecDepth 100000
set_option maxHeartbeats 8000000
theorem built_any (v : Value) (ps : List Pie) (w : World) (h : SL w v ps) (hw : ∀ x ∈ ps, x.v.wide) :
    Calls Tryz.prog 31 #[v] w (BuiltR w.heap.size w) := by
  obtain ⟨A, c, rfl, hA, hm⟩ := h
  have HA := Lib.hid hA
  have HW := Lib.hid hw
  clear hA hw
  have hsf := store_float
  go_enter Tryz.func31, Tryz.ntmps31
  go_wp2
  go_loopw [5, 6, 7] (fun u ud i wr => ∃ (k : Nat) (D R : List Pie), k ≤ ps.length ∧ i = .int .i64 k ∧ Bld w.heap.size w wr u ud D R k) (fun _ _ i _ => ps.length - (intOf i).toNat)
  case atStart => exact ⟨0, [], [], Nat.zero_le _, rfl, ⟨OwnL.nil _ _, OwnT.nil _ _, PutsR.nil, by simp, by simp, by omega, Below.refl _ _, Nat.le_refl _⟩⟩
  case round =>
    obtain ⟨k, D, R, hk, rfl, hB⟩ := hrel
    have I := Lib.hid hB
    have k30 := hB.k30
    clear hB
    by_cases hlt : k < ps.length
    · by_cases h30 : k < 30
      · obtain ⟨g, off, rfl, lg, cg⟩ := (HA.out.below (show Below w.heap.size w wr from I.out.bel)) (by omega)
        have r := cg k hlt
        have WX := Lib.hid (HW.out ps[k] (List.getElem_mem hlt))
        have i0 : (k : Int) < (ps.length : Int) := by omega
        have i1 : (0 : Int) ≤ (k : Int) := by omega
        have i2 : (k : Int) < 30 := by omega
        clear cg
        obtain ⟨x, hx⟩ : ∃ x, ps[k] = x := ⟨_, rfl⟩
        rw [hx] at r WX
        clear hx
        have CG := Lib.hid (fun W => good_any x WX.out W)
        by_cases hg : goodP x
        · have GX := Lib.hid hg
          have CS := Lib.hid (fun W (hb : Below wr.heap.size wr W) => Set_ok u5 R x.a x.b x.v W ((I.out.ol.below hb).at) (line_w I.out.puts.line) I.out.puts.line hg.1 hg.2 WX.out (by have := I.out.len60; omega))
          have CG := Lib.hid (fun W => (CG.out W).mono fun _ _ h => h.yes hg)
          clear hg
          obtain ⟨a, b, ⟨kk, vb, n, f, s⟩⟩ := x
          simp only at CS
          have K0 : Hid (∀ w', Below wr.heap.size wr w' → w'.cell? ⟨g, off + k * 7, none⟩ = some (.int .u64 a) ∧ w'.cell? ⟨g, off + k * 7 + 1, none⟩ = some (.int .u64 b) ∧ w'.cell? ⟨g, off + k * 7 + 2, none⟩ = some (.int .i64 kk) ∧ w'.cell? ⟨g, off + k * 7 + 3, none⟩ = some (.bool vb) ∧ w'.cell? ⟨g, off + k * 7 + 4, none⟩ = some (.int .i64 n) ∧ w'.cell? ⟨g, off + k * 7 + 5, none⟩ = some (.float .f64 f) ∧ w'.cell? ⟨g, off + k * 7 + 6, none⟩ = some (.string s)) := Lib.hid fun w' hb => by
            have on : ∀ j v, (Pie.cells ⟨a, b, ⟨kk, vb, n, f, s⟩⟩).toList[j]? = some v → w'.cell? ⟨g, off + k * 7 + j, none⟩ = some v := fun j v hv => (hb.cell (p := ⟨g, off + k * 7 + j, none⟩) lg).trans (r j v hv)
            exact ⟨on 0 _ rfl, on 1 _ rfl, on 2 _ rfl, on 3 _ rfl, on 4 _ rfl, on 5 _ rfl, on 6 _ rfl⟩
          have RR := Lib.hid r
          clear r
          go_upto_region 6 with fail
          go_region_held3 (fun w' => w'.cell? ⟨g, off + k * 7, none⟩ = some (.int .u64 a) ∧ w'.cell? ⟨g, off + k * 7 + 1, none⟩ = some (.int .u64 b) ∧ w'.cell? ⟨g, off + k * 7 + 2, none⟩ = some (.int .i64 kk) ∧ w'.cell? ⟨g, off + k * 7 + 3, none⟩ = some (.bool vb) ∧ w'.cell? ⟨g, off + k * 7 + 4, none⟩ = some (.int .i64 n) ∧ w'.cell? ⟨g, off + k * 7 + 5, none⟩ = some (.float .f64 f) ∧ w'.cell? ⟨g, off + k * 7 + 6, none⟩ = some (.string s)) (first
              | exact K0.out _ (Below.refl _ _).drew
              | exact K0.out _ HU1.out
              | fail) (first
            | (go_at_call 11; (refine (CS.out _ (Below.refl _ _).drew).mono ?_); rintro e1 w4 ⟨u4, S4, rfl, ho4, hs4, b4⟩; have HO4 := Lib.hid ho4; have HS4 := Lib.hid hs4; have HU1 := Lib.hid (show Below wr.heap.size wr w4 from (Below.refl _ _).drew.trans b4); clear b4 ho4 hs4)
            | fail)
          have r4 : w4.rangeAt g (off + k * 7) (Pie.cells ⟨a, b, ⟨kk, vb, n, f, s⟩⟩).toList := fun j v hv => (HU1.out.cell (p := ⟨g, off + k * 7 + j, none⟩) lg).trans (RR.out j v hv)
          go_upto_region 9 with (first
            | refine wpList_load_mid rfl 64 (.tmp 39) rfl g (off + k * 7) rfl _ _ r4 Tryz.underlying64 rfl rowT ?_
            | (go_at_call 86; (with_reducible refine (CG.out _).mono ?_); rintro e5 w5 ⟨rfl, b5⟩; have HU2 := Lib.hid b5; clear b5))
          have r5 : w5.rangeAt g (off + k * 7) (Pie.cells ⟨a, b, ⟨kk, vb, n, f, s⟩⟩).toList := fun j v hv => (HU2.out.cell (p := ⟨g, off + k * 7 + j, none⟩) (Nat.lt_of_lt_of_le lg HU1.out.size)).trans (r4 j v hv)
          clear r4
          have I5 := Lib.hid ((I.out.step HU1.out).step HU2.out)
          have O5 := Lib.hid (HO4.out.below HU2.out)
          have T5 := Lib.hid (I5.out.ot.alloc (.cells (Pie.cells ⟨a, b, ⟨kk, vb, n, f, s⟩⟩) 64))
          have hs5 := I5.out.sz
          have hdl : D.length ≤ 1000000000000 := by have := I.out.len; omega
          go_wp2_with (first
            | refine wpList_load_mid rfl 64 (.tmp 49) rfl g (off + k * 7) rfl _ _ r5 Tryz.underlying64 rfl rowT ?_
            | (at_builtin; refine wpList_appT rfl (.tmp 46) (.tmp 51) rfl w.heap.size _ D rfl T5.out w5.heap.size ⟨a, b, ⟨kk, vb, n, f, s⟩⟩ rfl (new_cells w5 _ _) hdl (by simp; omega) ?_; intro v6 w6 ho6 hg6 hb6; have T6 := Lib.hid ho6; have G6 := Lib.hid hg6; have B6 := Lib.hid hb6; clear ho6 hg6 hb6))
          have O6 : Hid (OwnL w.heap.size w6 u4 S4) := Lib.hid (World.ownsRow.kept ((O5.out.mono I.out.sz).alloc _) G6.out (apart_LT ((O5.out.mono I.out.sz).alloc (.cells (Pie.cells ⟨a, b, ⟨kk, vb, n, f, s⟩⟩) 64)) T5.out))
          exact ⟨⟨k + 1, D ++ [⟨a, b, ⟨kk, vb, n, f, s⟩⟩], S4, by omega, by go_num, ⟨O6.out, T6.out, I.out.puts.snoc HS4.out, fun p hp => by
            rcases List.mem_append.1 hp with hp | hp
            · exact I.out.good p hp
            · rw [List.mem_singleton.1 hp]; exact ⟨GX.out, WX.out⟩, by have := I.out.len; simp; omega, by omega, (I5.out.bel.alloc I5.out.sz _).trans B6.out, Nat.le_trans (Nat.le_trans I5.out.sz (by simp)) B6.out.size⟩⟩, by simp [intOf]; omega⟩
        · have CS := Lib.hid (fun W (hb : Below wr.heap.size wr W) => Set_not u5 R x W ((I.out.ol.below hb).at) I.out.puts.line hg WX.out)
          have CG := Lib.hid (fun W => (CG.out W).mono fun _ _ h => h.no hg)
          clear hg
          obtain ⟨a, b, ⟨kk, vb, n, f, s⟩⟩ := x
          simp only at CS
          have K0 : Hid (∀ w', Below wr.heap.size wr w' → w'.cell? ⟨g, off + k * 7, none⟩ = some (.int .u64 a) ∧ w'.cell? ⟨g, off + k * 7 + 1, none⟩ = some (.int .u64 b) ∧ w'.cell? ⟨g, off + k * 7 + 2, none⟩ = some (.int .i64 kk) ∧ w'.cell? ⟨g, off + k * 7 + 3, none⟩ = some (.bool vb) ∧ w'.cell? ⟨g, off + k * 7 + 4, none⟩ = some (.int .i64 n) ∧ w'.cell? ⟨g, off + k * 7 + 5, none⟩ = some (.float .f64 f) ∧ w'.cell? ⟨g, off + k * 7 + 6, none⟩ = some (.string s)) := Lib.hid fun w' hb => by
            have on : ∀ j v, (Pie.cells ⟨a, b, ⟨kk, vb, n, f, s⟩⟩).toList[j]? = some v → w'.cell? ⟨g, off + k * 7 + j, none⟩ = some v := fun j v hv => (hb.cell (p := ⟨g, off + k * 7 + j, none⟩) lg).trans (r j v hv)
            exact ⟨on 0 _ rfl, on 1 _ rfl, on 2 _ rfl, on 3 _ rfl, on 4 _ rfl, on 5 _ rfl, on 6 _ rfl⟩
          have RR := Lib.hid r
          clear r
          go_upto_region 6 with fail
          go_region_held3 (fun w' => w'.cell? ⟨g, off + k * 7, none⟩ = some (.int .u64 a) ∧ w'.cell? ⟨g, off + k * 7 + 1, none⟩ = some (.int .u64 b) ∧ w'.cell? ⟨g, off + k * 7 + 2, none⟩ = some (.int .i64 kk) ∧ w'.cell? ⟨g, off + k * 7 + 3, none⟩ = some (.bool vb) ∧ w'.cell? ⟨g, off + k * 7 + 4, none⟩ = some (.int .i64 n) ∧ w'.cell? ⟨g, off + k * 7 + 5, none⟩ = some (.float .f64 f) ∧ w'.cell? ⟨g, off + k * 7 + 6, none⟩ = some (.string s)) (first
              | exact K0.out _ (Below.refl _ _).drew
              | exact K0.out _ HU1.out
              | fail) (first
            | (go_at_call 11; (refine (CS.out _ (Below.refl _ _).drew).mono ?_); rintro e1 w4 ⟨N, hn4, rfl, b4⟩; have HN4 := Lib.hid hn4; have HU1 := Lib.hid (show Below wr.heap.size wr w4 from (Below.refl _ _).drew.trans b4); clear b4 hn4)
            | fail)
          have r4 : w4.rangeAt g (off + k * 7) (Pie.cells ⟨a, b, ⟨kk, vb, n, f, s⟩⟩).toList := fun j v hv => (HU1.out.cell (p := ⟨g, off + k * 7 + j, none⟩) lg).trans (RR.out j v hv)
          have t0 : (N == 0) = false := by simpa using HN4.out
          go_wp2_with (first
            | refine wpList_load_mid rfl 64 (.tmp 39) rfl g (off + k * 7) rfl _ _ r4 Tryz.underlying64 rfl rowT ?_
            | (go_at_call 86; (with_reducible refine (CG.out _).mono ?_); rintro e5 w5 ⟨rfl, b5⟩; have HU2 := Lib.hid b5; clear b5))
          exact ⟨⟨k + 1, D, R, by omega, by go_num, (((I.out.step HU1.out).step HU2.out).skip h30)⟩, by simp [intOf]; omega⟩
      · have i0 : (k : Int) < (ps.length : Int) := by omega
        have i2 : ¬ (k : Int) < 30 := by omega
        have i3 : decide ((k : Int) < 30) = false := by simp; omega
        have CI := Lib.hid (fun W (hb : Below wr.heap.size wr W) => (Is_any u5 R W ((I.out.ol.below hb).at) (line_w I.out.puts.line)).mono fun _ _ h => h.yes I.out.puts.line)
        go_wp2_with (go_at_call 21; (with_reducible refine (CI.out _ (Below.refl _ _)).mono ?_); rintro e5 w5 ⟨rfl, b5⟩; have HU2 := Lib.hid b5; clear b5)
        go_ret3
        have J := I.out.step HU2.out
        exact ⟨_, _, R, D, rfl, J.ol, J.ot, J.puts, J.good, by have := J.len; have := J.k30; omega, J.bel⟩
    · obtain rfl : k = ps.length := by omega
      have CI := Lib.hid (fun W (hb : Below wr.heap.size wr W) => (Is_any u5 R W ((I.out.ol.below hb).at) (line_w I.out.puts.line)).mono fun _ _ h => h.yes I.out.puts.line)
      go_wp2_with (go_at_call 21; (with_reducible refine (CI.out _ (Below.refl _ _)).mono ?_); rintro e5 w5 ⟨rfl, b5⟩; have HU2 := Lib.hid b5; clear b5)
      go_ret3
      have J := I.out.step HU2.out
      exact ⟨_, _, R, D, rfl, J.ol, J.ot, J.puts, J.good, by have := J.len; have := J.k30; omega, J.bel⟩
end
end Go.Proofs.YtgmaompjhhomcaaGreat

