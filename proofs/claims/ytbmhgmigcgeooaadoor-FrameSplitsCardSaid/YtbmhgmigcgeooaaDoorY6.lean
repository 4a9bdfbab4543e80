/- The document's Groups, walked. -/
import Derived.Test.YtbmhgmigcgeooaaDoorY5
namespace Go.Proofs.YtbmhgmigcgeooaaDoor
open Go.RowKit
theorem C2.set0 {w : World} {g : Nat} {t : TypeId} {x y : Value} (h : C2 w g t x y) (z : Value) : C2 (w.setCell ⟨g, 0, none⟩ z) g t z y := by
  unfold C2 at *
  simp [World.setCell, Array.getElem?_modify, h]
theorem infoRG : (Tryd.prog.info? 52).map (fun i => (i.zero, i.size, i.bytes)) = some (some (.agg #[.slice none 0 0, .slice none 0 0]), 2, 48) := by kernel_rfl
theorem infoOp' : (Tryd.prog.info? 22).map (fun i => (i.zero, i.size, i.bytes)) = some (some (.slice none 0 0), 1, 24) := by kernel_rfl
/-- What has been looked at. -/
def Peek (b : List UInt8) (e n K : Nat) (l : List UInt8) : Prop := (nextB (b.drop e) = true ∧ n = 7 + l.length ∧ frB (b.drop e) = ⟨K, l⟩) ∨ (nextB (b.drop e) = false ∧ n = 0)
def RGroups (w : World) (b : List UInt8) (e : Ending) (w' : World) : Prop := ∃ v gs vo, e = .returned (.tuple #[v, .int .i64 (sizeG (groupsL (framesL b) []) : Nat)]) ∧ GD w.heap.size gs [] v vo w' ∧ gs.map Hx.gr = groupsL (framesL b) [] ∧ Below w.heap.size w w'
theorem sizeG_le (L : List Gr) : 7 * L.length ≤ sizeG L := by
  induction L with
  | nil => simp
  | cons g L ih => simp only [sizeG, List.map_cons, List.sum_cons, List.length_cons] at *; rw [Gr.size]; omega
/-- Next, as one answer. -/
theorem next_peek (A : Option Addr) (b : List UInt8) (e n cap : Nat) (w : World) (hA : At w A (b.drop e)) (hc : (b.drop e).length ≤ cap) (hm : (b.drop e).length ≤ 140737488355328) (hn : (b.drop e).length = n) :
    Calls Tryd.prog 27 #[.slice A n cap] w fun r w' => ∃ (K : Nat) (l : List UInt8) (B : Option Addr) (c s : Nat), r = .returned (.tuple #[.agg #[.int .i64 (K : Int), .slice B l.length c], .int .i64 (s : Int)]) ∧ Peek b e s K l ∧ Own1 w.heap.size w' (.slice B l.length c) l ∧ s ≤ 2100 ∧ Below w.heap.size w w' := by
  refine (next_any A (b.drop e) n cap w hA hc hm hn).mono ?_
  rintro r w' (⟨hy, B, c, rfl, ho, hb⟩ | ⟨hy, rfl, hb⟩)
  · have hl := frB_len hy
    have hk := (frB_ok hy).2.2
    rw [hl] at hk
    refine ⟨(frB (b.drop e)).k, (frB (b.drop e)).l, B, c, 7 + lenB (b.drop e), by rw [hl]; rfl, .inl ⟨hy, by rw [hl], rfl⟩, by rw [hl]; exact ho, by omega, hb⟩
  · exact ⟨0, [], none, 0, 0, rfl, .inr ⟨hy, rfl⟩, Own1.nil _ _, by omega, hb⟩
theorem GD.drop {base : Nat} {gs : List Hx} {ops : List Fi} {vl vo : Value} {W : World} (h : GD base gs ops vl vo W) : GD base gs [] vl (.slice none 0 0) W :=
  ⟨h.row, World.ownsRow_nil _ _ _ _, h.olds, (fun g hg => by
    cases e : g.v.ownBlock with
    | none => exact .inl rfl
    | some j => exact .inr (by simp [Value.ownBlock])), fun y hy => h.body y (List.mem_append_left _ (by simpa using hy))⟩
/-- Where the document's Groups stands. -/
structure GSt (w : World) (b : List UInt8) (gs : List Hx) (vl : Value) (k G F : Nat) (ops : List Fi) (vo : Value) (e K : Nat) (l : List UInt8) (A : Option Addr) (c s : Nat) (W : World) : Prop where
  rd : RdG b gs ops k e
  gd : GD w.heap.size gs ops vl vo W
  cg : C2 W G 52 vo (.slice none 0 0)
  cf : C2 W F 30 (.int .i64 (K : Int)) (.slice A l.length c)
  pk : Peek b e s K l
  own : Own1 w.heap.size W (.slice A l.length c) l
  sm : s ≤ 2100
  below : Below w.heap.size w W
theorem GSt.stop {w W : World} {b : List UInt8} {gs : List Hx} {vl : Value} {k G F : Nat} {ops : List Fi} {vo : Value} {e K : Nat} {l : List UInt8} {A : Option Addr} {c s : Nat} (h : GSt w b gs vl k G F ops vo e K l A c s W) (hs : s = 0 ∨ (¬ (K = 1 ∧ ops.length < 256) ∧ K ≠ 2)) :
    gs.map Hx.gr = groupsL (framesL b) [] ∧ k = sizeG (groupsL (framesL b) []) := by
  refine h.rd.stop ?_
  rcases h.pk with ⟨h1, h2, h3⟩ | ⟨h1, _⟩
  · rcases hs with hs | hs
    · omega
    · refine .inr ⟨h1, ?_⟩
      rw [h3]
      exact hs
  · exact .inl h1
set_option maxRecDepth 100000 in
set_option maxHeartbeats 4000000 in
theorem rgroups_some (bb off : Nat) (b : List UInt8) (cap : Nat) (w : World) (hA : At w (some ⟨bb, off, none⟩) b) (hc : b.length ≤ cap) (hm : b.length ≤ 1000000) :
    Calls Tryd.prog 16 #[.slice (some ⟨bb, off, none⟩) b.length cap] w (RGroups w b) := by
  have HA := Lib.hid hA
  obtain ⟨Post, hPost⟩ : ∃ Post, RGroups w b = Post := ⟨_, rfl⟩
  have HP : Hid (∀ v gs vo k w', gs.map Hx.gr = groupsL (framesL b) [] → k = sizeG (groupsL (framesL b) []) → GD w.heap.size gs [] v vo w' → Below w.heap.size w w' → Post (.returned (.tuple #[v, .int .i64 (k : Nat)])) w') := Lib.hid fun v gs vo k w' h1 h2 h3 h4 => by
    subst h2
    rw [← hPost]
    exact ⟨v, gs, vo, rfl, h3, h1, h4⟩
  rw [hPost]
  clear hPost
  obtain ⟨i0, hi, hz0, hz1, hz2⟩ := info_parts infoRG
  obtain ⟨j0, ji, jz0, jz1, jz2⟩ := info_parts infoOp'
  clear hA
  go_enter Tryd.func16, Tryd.ntmps16
  go_wp2
  go_loopw [4, 5] (fun v i wr => ∃ (gs : List Hx) (k : Nat), i = .int .i64 k ∧ RdG b gs [] k k ∧ GD w.heap.size gs [] v (.slice none 0 0) wr ∧ Below w.heap.size w wr) (fun _ i _ => b.length - (intOf i).toNat)
  case atStart => exact ⟨[], 0, rfl, RdG.start b, GD.start _ _, Below.refl _ _⟩
  case round =>
    obtain ⟨gs, k, rfl, hR, hG, hb⟩ := hrel
    have hkl := hR.le
    obtain ⟨Pv, cv, hv⟩ := own_slice hG.row
    subst hv
    have hbs0 := hb.size
    go_upto_region 4 with fail
    obtain ⟨V, hV⟩ : ∃ V, wr.alloc (.cells #[.slice none 0 0, .slice none 0 0] 52) = V := ⟨_, rfl⟩
    have bV : Below wr.heap.size wr V := by rw [← hV]; exact (Below.refl _ _).alloc (Nat.le_refl _) _
    have fV : C2 V wr.heap.size 52 (.slice none 0 0) (.slice none 0 0) := by rw [← hV]; exact C2.new wr _ _ _
    have hGV := hG.later bV
    have hbV := hb.trans (bV.mono hb.size)
    have hnG : (Value.slice Pv gs.length cv).ownBlock ≠ some wr.heap.size := fun e => by have := ownBlock_lt hG.row e; omega
    rw [hV]
    clear hV hG bV hb
    have hGw0 : w.heap.size ≤ wr.heap.size := hbs0
    generalize hgg : wr.heap.size = G at *
    clear hgg
    obtain ⟨D, hD⟩ : ∃ D : Option Addr, (if cap = k then some ⟨bb, off, none⟩ else some ⟨bb, off + k, none⟩) = D := ⟨_, rfl⟩
    have C := Lib.hid (next_peek D b k (b.length - k) (cap - k) V (hD ▸ from_at (HA.out.below hbV) hkl hc) (by rw [List.length_drop]; omega) (by rw [List.length_drop]; omega) List.length_drop)
    have i0' : (0 : Int) ≤ (k : Int) := by omega
    have i1 : (k : Int) ≤ (b.length : Int) := by omega
    have i2 : (k : Int) ≤ (cap : Int) := by omega
    have i3 : (b.length : Int) ≤ (cap : Int) := by omega
    have HR := Lib.hid hR
    have HGV := Lib.hid hGV
    have HBV := Lib.hid hbV
    have HFV := Lib.hid fV
    clear hR hGV hbV fV
    go_upto_block 2 with (first
      | (go_at_call 27; ((with_reducible refine (C.out).mono ?_); rintro e w5 ⟨K, l, B5, c5, s, rfl, hpk, ho5, hs5, hb5⟩; have HPK := Lib.hid hpk; have HO5 := Lib.hid (show Own1 w.heap.size w5 (.slice B5 l.length c5) l from ownsRow_down ho5 HBV.out.size); have HB5 := Lib.hid hb5; clear hpk ho5 hb5 hD))
      | fail)
    obtain ⟨U, hU⟩ : ∃ U, w5.alloc (.cells #[.int .i64 (K : Int), .slice B5 l.length c5] 30) = U := ⟨_, rfl⟩
    have bU : Below w5.heap.size w5 U := by rw [← hU]; exact (Below.refl _ _).alloc (Nat.le_refl _) _
    have fU : C2 U w5.heap.size 30 (.int .i64 (K : Int)) (.slice B5 l.length c5) := by rw [← hU]; exact C2.new w5 _ _ _
    have bVU : Below V.heap.size V U := HB5.out.trans (bU.mono HB5.out.size)
    have HST := Lib.hid (⟨HR.out, HGV.out.later bVU, HFV.out.below bVU, fU, HPK.out, HO5.out.below bU, hs5, HBV.out.trans (bVU.mono HBV.out.size)⟩ : GSt w b gs (.slice Pv gs.length cv) k G w5.heap.size [] (.slice none 0 0) k K l B5 c5 s U)
    have hFG : G ≠ w5.heap.size := by have := HFV.out.lt; have := HB5.out.size; omega
    have hnF : (Value.slice Pv gs.length cv).ownBlock ≠ some w5.heap.size := fun e => by have := ownBlock_lt HGV.out.row e; have := HB5.out.size; omega
    have hGw : w.heap.size ≤ G := hGw0
    have hFw : w.heap.size ≤ w5.heap.size := Nat.le_trans HBV.out.size HB5.out.size
    rw [hU]
    clear hU fU bVU bU
    generalize w5.heap.size = F at *
    go_cut [7, 9] from 18 to 47 (fun en nn w' => ∃ ops vo e K l A c s, en = .int .i64 ((e : Nat) : Int) ∧ nn = .int .i64 ((s : Nat) : Int) ∧ GSt w b gs (.slice Pv gs.length cv) k G F ops vo e K l A c s w' ∧ ¬ (0 < s ∧ K = 1 ∧ ops.length < 256))
    case first =>
      go_wp2_with fail
      go_loopw [7, 9] (fun en nn w' => ∃ ops vo e K l A c s, en = .int .i64 ((e : Nat) : Int) ∧ nn = .int .i64 ((s : Nat) : Int) ∧ GSt w b gs (.slice Pv gs.length cv) k G F ops vo e K l A c s w') (fun en _ _ => b.length - (intOf en).toNat)
      case atStart => exact ⟨[], _, k, K, l, B5, c5, s, rfl, rfl, HST.out⟩
      case round =>
        obtain ⟨ops, vo, e, K, l, A, c, s, rfl, rfl, hst⟩ := hrel
        have z0 := hst.cf.c0
        have z1 := hst.cf.c1
        have z2 := hst.cg.c0
        obtain ⟨Po, co, hvo⟩ := own_slice hst.gd.ro
        subst hvo
        have HS := Lib.hid hst
        have hcnt := hst.rd.cnt
        have hsm := hst.sm
        by_cases hall : 0 < s ∧ K = 1 ∧ ops.length < 256
        · obtain ⟨h1, rfl, h3⟩ := hall
          have hp : nextB (b.drop e) = true ∧ s = 7 + l.length ∧ frB (b.drop e) = ⟨1, l⟩ := by
            rcases hst.pk with h | h
            · exact h
            · omega
          obtain ⟨hp1, hp2, hp3⟩ := hp
          have HRD := Lib.hid (hst.rd.op hp1 (y := ⟨⟨1, l⟩, A, c⟩) hp3 rfl h3)
          have hle2 : e + s ≤ b.length := by rw [hp2]; exact HRD.out.le
          have hbs := hst.below.size
          have i1 : (s : Int) > 0 := by omega
          have i2 : (ops.length : Int) < 256 := by omega
          have HP2 := Lib.hid hp2
          clear hst hp1 hp3 hp2
          go_upto_region 8 with (first
            | (at_builtin; refine wpList_append_own_at _ rfl (.tmp 32) (.tmp 35) 49 rfl w.heap.size 22 j0 _ 1 24 Tryd.underlying49 ji jz0 jz1 jz2 rfl (by decide) _ _ _ rfl (HS.out.gd.ro.alloc _) ⟨wr.heap.size, 0, none⟩ 1 1 [.slice A l.length c] rfl rfl (cell_one _ _ _) (by simp [Value.oneCell']) (by unfold maxLen; omega) (by omega) (by simp; omega) ?_; intro v7 w7 hown' hgrow _ hat; obtain ⟨g7, c7, rfl⟩ := ownsRow_succ hown'; have HPO := Lib.hid (HS.out.gd.op (y := ⟨⟨1, l⟩, A, c⟩) HS.out.own hown' hgrow hat hbs); have HG7 := Lib.hid ((HS.out.cg.below ((Below.refl _ _).alloc (Nat.le_refl _) _)).grown hgrow (C2.not_row HS.out.cg HS.out.gd.ro (by decide))); have HF7 := Lib.hid ((HS.out.cf.below ((Below.refl _ _).alloc (Nat.le_refl _) _)).grown hgrow (C2.not_row HS.out.cf HS.out.gd.ro (by decide))); have y0 := HG7.out.c0; have yf := HG7.out.fr 0; clear hown' hgrow hat z0 z1 z2)
            | fail)
          obtain ⟨Z, hZ⟩ : ∃ Z, w7.setCell ⟨G, 0, none⟩ (.slice (some ⟨g7, 0, none⟩) (ops.length + 1) c7) = Z := ⟨_, rfl⟩
          have gZ : GD w.heap.size gs (ops ++ [⟨⟨1, l⟩, A, c⟩]) (.slice Pv gs.length cv) (.slice (some ⟨g7, 0, none⟩) (ops.length + 1) c7) Z := by rw [← hZ]; exact HPO.out.1.box HG7.out (by decide) (by decide) hnG
          have cgZ : C2 Z G 52 (.slice (some ⟨g7, 0, none⟩) (ops.length + 1) c7) (.slice none 0 0) := by rw [← hZ]; exact HG7.out.set0 _
          have cfZ : C2 Z F 30 (.int .i64 ((1 : Nat) : Int)) (.slice A l.length c) := by rw [← hZ]; exact HF7.out.other hFG.symm
          have bZ : Below w.heap.size w Z := by rw [← hZ]; exact (HS.out.below.trans HPO.out.2).setCell (p := ⟨G, 0, none⟩) hGw _
          rw [hZ]
          obtain ⟨D2, hD2⟩ : ∃ D : Option Addr, (if cap = e + s then some ⟨bb, off, none⟩ else some ⟨bb, off + (e + s), none⟩) = D := ⟨_, rfl⟩
          have C2' := Lib.hid (next_peek D2 b (e + s) (b.length - (e + s)) (cap - (e + s)) Z (hD2 ▸ from_at (HA.out.below bZ) hle2 hc) (by rw [List.length_drop]; omega) (by rw [List.length_drop]; omega) List.length_drop)
          have HGZ := Lib.hid gZ
          have HCG := Lib.hid cgZ
          have HCF := Lib.hid cfZ
          have HBZ := Lib.hid bZ
          clear hZ gZ cgZ cfZ bZ y0 yf HPO HG7 HF7
          go_upto_region 9 with fail
          have hes : (e : Int) + (s : Int) = ((e + s : Nat) : Int) := by omega
          rw [hes]
          have HRD2 := Lib.hid (show RdG b gs (ops ++ [⟨⟨1, l⟩, A, c⟩]) k (e + s) by have := HRD.out; rw [← HP2.out] at this; exact this)
          have hdec : e < e + s := by omega
          clear hes HRD HP2
          generalize e + s = e2 at *
          have j0' : (0 : Int) ≤ (e2 : Int) := by omega
          have j1 : (e2 : Int) ≤ (b.length : Int) := by omega
          have j2 : (e2 : Int) ≤ (cap : Int) := by omega
          have j3 : (b.length : Int) ≤ (cap : Int) := by omega
          go_wp2_with (first
            | (go_at_call 27; ((with_reducible refine (C2'.out).mono ?_); rintro e9 w9 ⟨K9, l9, B9, c9, s9, rfl, hpk, ho9, hs9, hb9⟩; have HPK9 := Lib.hid hpk; have HO9 := Lib.hid (show Own1 w.heap.size w9 (.slice B9 l9.length c9) l9 from ownsRow_down ho9 HBZ.out.size); have HG9 := Lib.hid (HGZ.out.later hb9); have HCG9 := Lib.hid (HCG.out.below hb9); have HCF9 := Lib.hid (HCF.out.below hb9); have HB9 := Lib.hid (HBZ.out.trans (hb9.mono HBZ.out.size)); have y0 := HCF9.out.c0; have y1 := HCF9.out.c1; have yf := HCF9.out.fr; clear hpk ho9 hb9 hD2))
            | fail)
          exact ⟨⟨ops ++ [⟨⟨1, l⟩, A, c⟩], (.slice (some ⟨g7, 0, none⟩) (ops.length + 1) c7), e2, K9, l9, B9, c9, s9, rfl, rfl, HRD2.out, (HG9.out.box HCF9.out (by decide) (by decide) hnF).box (HCF9.out.set0 _) (by decide) (by decide) hnF, (HCG9.out.other hFG).other hFG, (HCF9.out.set0 _).set1 _, HPK9.out, own_box (own_box HO9.out HCF9.out (by decide)) (HCF9.out.set0 _) (by decide), hs9, (HB9.out.setCell (p := ⟨F, 0, none⟩) hFw _).setCell (p := ⟨F, 1, none⟩) hFw _⟩, by simp [intOf]; omega⟩
        · have HQ := Lib.hid hall
          by_cases h1 : 0 < s
          · have i1 : (s : Int) > 0 := by omega
            by_cases h2 : K = 1
            · subst h2
              have i2 : ¬ (ops.length : Int) < 256 := fun h => hall ⟨h1, rfl, by omega⟩
              clear hall hst
              go_wp2
              go_meet
              exact ⟨ops, _, e, 1, l, A, c, s, rfl, rfl, HS.out, fun h => HQ.out ⟨h.1, trivial, h.2.2⟩⟩
            · have i2 : ((K : Int) == 1) = false := by simpa using (show ¬ (K : Int) = 1 by omega)
              clear hall hst
              go_wp2
              go_meet
              exact ⟨ops, _, e, K, l, A, c, s, rfl, rfl, HS.out, HQ.out⟩
          · have i1 : ¬ (s : Int) > 0 := by omega
            clear hall hst
            go_wp2
            go_meet
            exact ⟨ops, _, e, K, l, A, c, s, rfl, rfl, HS.out, HQ.out⟩
    case rest =>
      obtain ⟨ops, vo, e, K, l, A, c, s, rfl, rfl, hst, hstop⟩ := hcut
      obtain ⟨Po, co, hvo⟩ := own_slice hst.gd.ro
      subst hvo
      have z0 := hst.cf.c0
      have z1 := hst.cf.c1
      have HS := Lib.hid hst
      by_cases h0 : s = 0
      · subst h0
        have HE := Lib.hid (hst.stop (.inl rfl))
        clear hst hstop
        go_wp2
        exact HP.out _ gs _ k _ HE.out.1 HE.out.2 HS.out.gd.drop HS.out.below
      · have i1 : ((s : Int) == 0) = false := by simpa using (show ¬ (s : Int) = 0 by omega)
        by_cases h2 : K = 2
        · subst h2
          have hp : nextB (b.drop e) = true ∧ s = 7 + l.length ∧ frB (b.drop e) = ⟨2, l⟩ := by
            rcases hst.pk with h | h
            · exact h
            · omega
          obtain ⟨hp1, hp2, hp3⟩ := hp
          have hrd := hst.rd.com hp1 (y := ⟨⟨2, l⟩, A, c⟩) hp3 rfl (.slice Po ops.length co)
          dsimp only at hrd
          rw [← hp2] at hrd
          have hle2 := hrd.le
          have hen := hst.rd.en
          have hgl := sizeG_le (gs.map Hx.gr)
          rw [← hst.rd.at_, List.length_map] at hgl
          have z2 := hst.cg.c0
          have z3 := hst.cg.c1
          have zf := hst.cg.fr 1
          have HRD := Lib.hid hrd
          have hsp : 0 < s := by omega
          clear hst hstop hp1 hp2 hp3 hrd
          go_upto_region 13 with fail
          obtain ⟨Z, hZ⟩ : ∃ Z, wc.setCell ⟨G, 1, none⟩ (.slice A l.length c) = Z := ⟨_, rfl⟩
          have HGZ := Lib.hid (show GD w.heap.size gs ops (.slice Pv gs.length cv) (.slice Po ops.length co) Z by rw [← hZ]; exact HS.out.gd.box HS.out.cg (by decide) (by decide) hnG)
          have HOZ := Lib.hid (show Own1 w.heap.size Z (.slice A l.length c) l by rw [← hZ]; exact own_box HS.out.own HS.out.cg (by decide))
          have HBZ := Lib.hid (show Below w.heap.size w Z by rw [← hZ]; exact HS.out.below.setCell (p := ⟨G, 1, none⟩) hGw _)
          have hcz : C2 Z G 52 (.slice Po ops.length co) (.slice A l.length c) := by rw [← hZ]; exact HS.out.cg.set1 _
          have y0 := hcz.c0
          have y1 := hcz.c1
          have hbs := HBZ.out.size
          rw [hZ]
          clear hZ z0 z1 z2 z3 zf hcz
          go_wp2_with (first
            | (at_builtin; refine wpList_append_own_at _ rfl (.tmp 60) (.tmp 62) 44 rfl w.heap.size 52 i0 _ 2 48 Tryd.underlying44 hi hz0 hz1 hz2 rfl (by decide) _ _ _ rfl (HGZ.out.row.alloc _) ⟨Z.heap.size, 0, none⟩ 1 1 [.slice Po ops.length co, .slice A l.length c] rfl rfl (cell_two_new _ _ _ _) (by simp [Value.oneCell']) (by unfold maxLen; omega) (by omega) (by simp; omega) ?_; intro v7 w7 hown' hgrow _ _; have HPO := Lib.hid (HGZ.out.com (y := ⟨⟨2, l⟩, A, c⟩) HOZ.out hown' hgrow hbs); clear hown' hgrow)
            | fail)
          exact ⟨⟨_, e + s, by go_num, HRD.out, HPO.out.1, HBZ.out.trans HPO.out.2⟩, by simp [intOf]; omega⟩
        · have i2 : ((K : Int) == 2) = false := by simpa using (show ¬ (K : Int) = 2 by omega)
          have HE := Lib.hid (hst.stop (.inr ⟨fun h => hstop ⟨by omega, h⟩, h2⟩))
          clear hst hstop
          go_wp2
          exact HP.out _ gs _ k _ HE.out.1 HE.out.2 HS.out.gd.drop HS.out.below
set_option maxRecDepth 100000 in
set_option maxHeartbeats 1000000 in
theorem rgroups_none (w : World) : Calls Tryd.prog 16 #[.slice none 0 0] w (RGroups w []) := by
  have hN : groupsL (framesL []) [] = [] := by rw [framesL_no (b := []) (by decide)]; rfl
  have HQ : Hid (∀ w', Below w.heap.size w w' → RGroups w [] (.returned (.tuple #[.slice none 0 0, .int .i64 0])) w') := Lib.hid fun w' h => ⟨.slice none 0 0, [], .slice none 0 0, by rw [hN]; rfl, GD.start _ _, hN.symm, h⟩
  clear hN
  generalize RGroups w [] = Post at *
  go_enter Tryd.func16, Tryd.ntmps16
  go_wp2
  go_loopw [4, 5] (fun v i wr => v = .slice none 0 0 ∧ i = .int .i64 0 ∧ wr = w) (fun _ _ _ => 0)
  case atStart => exact ⟨rfl, rfl, rfl⟩
  case round =>
    obtain ⟨rfl, rfl, rfl⟩ := hrel
    go_upto_region 4 with fail
    obtain ⟨V, hV⟩ : ∃ V, wr.alloc (.cells #[.slice none 0 0, .slice none 0 0] 52) = V := ⟨_, rfl⟩
    have bV : Below wr.heap.size wr V := by rw [← hV]; exact (Below.refl _ _).alloc (Nat.le_refl _) _
    have HBV := Lib.hid bV
    rw [hV]
    clear hV bV
    have C := Lib.hid (next_short none [] 0 V (by decide))
    go_upto_block 2 with (first
      | (go_at_call 27; ((refine (C.out).mono ?_); rintro e w5 ⟨rfl, hb5⟩; unfold noR; have B5 := Lib.hid (HBV.out.trans (hb5.mono HBV.out.size)); clear hb5))
      | fail)
    have HBA := Lib.hid (fun o => B5.out.alloc B5.out.size o)
    go_wp2_with fail
    go_loopw [7, 9] (fun en nn w' => en = .int .i64 0 ∧ nn = .int .i64 0 ∧ Below wr.heap.size wr w') (fun _ _ _ => 0)
    case atStart => exact ⟨rfl, rfl, HBA.out _⟩
    case round =>
      obtain ⟨rfl, rfl, hb⟩ := hrel
      go_wp2
      exact HQ.out _ hb
theorem rgroups_any (A : Option Addr) (b : List UInt8) (n cap : Nat) (w : World) (hA : At w A b) (hz : A = none → cap = 0) (hs : ∀ ad, A = some ad → ∃ bb off, ad = ⟨bb, off, none⟩) (hc : b.length ≤ cap) (hm : b.length ≤ 1000000) (hn : b.length = n) :
    Calls Tryd.prog 16 #[.slice A n cap] w (RGroups w b) := by
  subst hn
  cases A with
  | none =>
    obtain rfl := hA.none_nil
    obtain rfl := hz rfl
    exact rgroups_none w
  | some ad =>
    obtain ⟨bb, off, rfl⟩ := hs ad rfl
    exact rgroups_some bb off b cap w hA hc hm
end Go.Proofs.YtbmhgmigcgeooaaDoor
