/- The law's frames, laid one by one. -/
import Derived.Test.YtbmhgmigcgeooaaDoorH2
import Derived.Test.YtbmhgmigcgeooaaDoorS1
namespace Go.Proofs.YtbmhgmigcgeooaaDoor
open Go.RowKit
/-- A slice of slices of bytes that came in. -/
def BAt (w : World) (A : Option Addr) (n : Nat) (f : Nat → Option Addr × Nat × List UInt8) : Prop := 0 < n → ∃ b off, A = some ⟨b, off, none⟩ ∧ b < w.heap.size ∧ ∀ i, i < n → w.cell? ⟨b, off + i, none⟩ = some (.slice (f i).1 (f i).2.2.length (f i).2.1) ∧ At w (f i).1 (f i).2.2 ∧ ((f i).1 = none → (f i).2.1 = 0) ∧ (f i).2.2.length ≤ (f i).2.1
theorem BAt.below {w w' : World} {A : Option Addr} {n : Nat} {f : Nat → Option Addr × Nat × List UInt8} (h : BAt w A n f) (hb : Below w.heap.size w w') : BAt w' A n f := fun h0 => by
  obtain ⟨b, off, e, hl, hc⟩ := h h0
  refine ⟨b, off, e, Nat.lt_of_lt_of_le hl hb.size, fun i hi => ?_⟩
  obtain ⟨h1, h2, h3⟩ := hc i hi
  exact ⟨(hb.cell (p := ⟨b, off + i, none⟩) hl).trans h1, h2.below hb, h3⟩
/-- A frame of the law's own: it, where its body lies. -/
structure Fi where
  f : Fr
  A : Option Addr
  c : Nat
def cellsI (L : List Fi) : List Value := L.flatMap fun y => [.int .i64 (y.f.k : Int), .slice y.A y.f.l.length y.c]
theorem cellsI_length (L : List Fi) : (cellsI L).length = L.length * 2 := by
  induction L with
  | nil => rfl
  | cons x L ih => simp only [cellsI, List.flatMap_cons, List.length_append, List.length_cons, List.length_nil] at *; omega
theorem cellsI_append (A B : List Fi) : cellsI (A ++ B) = cellsI A ++ cellsI B := by simp [cellsI]
/-- What it laid. -/
structure Px where
  l : List UInt8
  g : Nat
  c : Nat
def cellsP (L : List Px) : List Value := L.map fun p => .slice (some ⟨p.g, 0, none⟩) p.l.length p.c
theorem cellsP_append (A B : List Px) : cellsP (A ++ B) = cellsP A ++ cellsP B := by simp [cellsP]
/-- Frames and what they lay, in memory. -/
structure LaidM (w W : World) (vl vo : Value) (L : List Fi) (Ps : List Px) : Prop where
  rl : W.ownsRow w.heap.size 27 2 vl L.length (cellsI L)
  ro : W.ownsRow w.heap.size 22 1 vo Ps.length (cellsP Ps)
  ok : ∀ y ∈ L, y.f.ok
  at_ : ∀ y ∈ L, At w y.A y.f.l ∧ (y.A = none → y.c = 0)
  laid : Ps.map Px.l = L.map fun y => putL y.f
  pat : ∀ p ∈ Ps, Mine w.heap.size W p.g p.l ∧ p.l.length ≤ p.c
  below : Below w.heap.size w W
theorem LaidM.len {w W : World} {vl vo : Value} {L : List Fi} {Ps : List Px} (h : LaidM w W vl vo L Ps) : Ps.length = L.length := by
  have := congrArg List.length h.laid
  simpa using this
theorem LaidM.later {w W W' : World} {vl vo : Value} {L : List Fi} {Ps : List Px} (h : LaidM w W vl vo L Ps) (hb : Below W.heap.size W W') : LaidM w W' vl vo L Ps :=
  ⟨World.ownsRow.kept h.rl (grown_of hb) (by cases hv : vl.ownBlock <;> simp), World.ownsRow.kept h.ro (grown_of hb) (by cases hv : vo.ownBlock <;> simp), h.ok, h.at_, h.laid, fun p hp => ⟨(h.pat p hp).1.below hb, (h.pat p hp).2⟩, h.below.trans (hb.mono h.below.size)⟩
theorem Mine.of_block {base b : Nat} {W W' : World} {l : List UInt8} (h : Mine base W b l) (e : W'.heap[b]? = W.heap[b]?) (hs : W.heap.size ≤ W'.heap.size) : Mine base W' b l :=
  ⟨h.ge, Nat.lt_of_lt_of_le h.lt hs, fun i hi => by rw [← h.cell i hi]; simp only [World.cell?, e], fun i => by rw [← h.free i]; simp only [World.frozen?, e], by rw [e]; exact h.typ⟩
theorem block_not_row {W : World} {base size n i : Nat} {e t : TypeId} {v : Value} {xs : List Value} {c : Array Value} {fr : Nat × Nat} (hr : W.ownsRow base e size v n xs) (h : W.heap[i]? = some (.cells c t fr)) (hte : t ≠ e) : some i ≠ v.ownBlock := fun e' => by
  rcases hr.2 with ⟨rfl, _⟩ | ⟨g, cap, cur, rfl, _, hgb, _⟩
  · simp [Value.ownBlock] at e'
  · obtain rfl : i = g := by simpa [Value.ownBlock] using e'
    rw [hgb] at h
    simp at h
    exact hte h.2.1.symm
theorem row_not_row {W : World} {base size n base' size' n' : Nat} {e e' : TypeId} {v v' : Value} {xs xs' : List Value} (hr : W.ownsRow base e size v n xs) (hr' : W.ownsRow base' e' size' v' n' xs') (hte : e ≠ e') : v.ownBlock = none ∨ v.ownBlock ≠ v'.ownBlock := by
  rcases hr.2 with ⟨rfl, _⟩ | ⟨g, cap, cur, rfl, _, hgb, _⟩
  · exact .inl rfl
  · exact .inr (block_not_row hr' hgb hte)
/-- A frame more. -/
theorem LaidM.more {w W W2 : World} {vl vo vl' : Value} {L : List Fi} {Ps : List Px} (h : LaidM w W vl vo L Ps) {tmp : Obj} {y : Fi} (hown : W2.ownsRow w.heap.size 27 2 vl' (L.length + 1) (cellsI L ++ [.int .i64 (y.f.k : Int), .slice y.A y.f.l.length y.c]))
    (hgrow : (W.alloc tmp).grownBy W2 vl.ownBlock) {W3 : World} {vo' : Value} {tmp2 : Obj} {p : Px} (hown2 : W3.ownsRow w.heap.size 22 1 vo' (Ps.length + 1) (cellsP Ps ++ [.slice (some ⟨p.g, 0, none⟩) p.l.length p.c]))
    (hgrow2 : (W2.alloc tmp2).grownBy W3 vo.ownBlock) (hok : y.f.ok) (hat : At w y.A y.f.l ∧ (y.A = none → y.c = 0)) (hp : p.l = putL y.f) (hm : Mine w.heap.size W p.g p.l) (hpc : p.l.length ≤ p.c) :
    LaidM w W3 vl' vo' (L ++ [y]) (Ps ++ [p]) := by
  have ro2 : (W2.alloc tmp2).ownsRow w.heap.size 22 1 vo Ps.length (cellsP Ps) := ((h.ro.alloc tmp).kept hgrow (row_not_row (h.ro.alloc tmp) (h.rl.alloc tmp) (by decide))).alloc tmp2
  have hs : W.heap.size ≤ W3.heap.size := by
    have h1 := hgrow.size
    have h2 := hgrow2.size
    simp at h1 h2
    omega
  have hlb : Below w.heap.size w W3 := ((h.below.alloc h.below.size tmp).grown hgrow (by have := h.below.size; simp; omega) (fun k hk => (World.ownsRow.lt h.rl k hk).1)).alloc (by have := hgrow.size; have := h.below.size; simp at *; omega) tmp2 |>.grown hgrow2 (by have := hgrow.size; have := h.below.size; simp at *; omega) (fun k hk => (World.ownsRow.lt h.ro k hk).1)
  have hblk : ∀ (i : Nat), (∃ c fr, W.heap[i]? = some (.cells c 5 fr)) → W3.heap[i]? = W.heap[i]? := fun i ⟨c, fr, ht⟩ => by
    have hi := (Array.getElem?_eq_some_iff.1 ht).1
    have e1 : W2.heap[i]? = W.heap[i]? := (hgrow.block i (by simp; omega) (block_not_row h.rl ht (by decide))).trans (Below.heap_alloc _ _ i hi)
    have hi2 : i < W2.heap.size := by have := hgrow.size; simp at this; omega
    refine ((hgrow2.block i (by simp; omega) (block_not_row h.ro ht (by decide))).trans (Below.heap_alloc _ _ i hi2)).trans e1
  refine ⟨?_, ?_, ?_, ?_, ?_, ?_, hlb⟩
  · rw [cellsI_append, List.length_append]
    exact (hown.alloc tmp2).kept hgrow2 (row_not_row (hown.alloc tmp2) ro2 (by decide))
  · rw [cellsP_append, List.length_append]
    exact hown2
  · intro z hz
    rw [List.mem_append, List.mem_singleton] at hz
    rcases hz with hz | rfl
    · exact h.ok z hz
    · exact hok
  · intro z hz
    rw [List.mem_append, List.mem_singleton] at hz
    rcases hz with hz | rfl
    · exact h.at_ z hz
    · exact hat
  · rw [List.map_append, List.map_append, h.laid, List.map_cons, List.map_nil, hp]; rfl
  · intro q hq
    rw [List.mem_append, List.mem_singleton] at hq
    rcases hq with hq | rfl
    · exact ⟨(h.pat q hq).1.of_block (hblk _ (h.pat q hq).1.typ) hs, (h.pat q hq).2⟩
    · exact ⟨hm.of_block (hblk _ hm.typ) hs, hpc⟩
theorem more_block {w W W2 : World} {vl vo : Value} {L : List Fi} {Ps : List Px} (h : LaidM w W vl vo L Ps) {tmp : Obj} (hgrow : (W.alloc tmp).grownBy W2 vl.ownBlock) {W3 : World} {tmp2 : Obj} (hgrow2 : (W2.alloc tmp2).grownBy W3 vo.ownBlock)
    {i : Nat} {c : Array Value} {t : TypeId} {fr : Nat × Nat} (ht : W.heap[i]? = some (.cells c t fr)) (h1 : t ≠ 27) (h2 : t ≠ 22) : W3.heap[i]? = W.heap[i]? := by
  have hi := (Array.getElem?_eq_some_iff.1 ht).1
  have e1 : W2.heap[i]? = W.heap[i]? := (hgrow.block i (by simp; omega) (block_not_row h.rl ht h1)).trans (Below.heap_alloc _ _ i hi)
  have hi2 : i < W2.heap.size := by have := hgrow.size; simp at this; omega
  exact ((hgrow2.block i (by simp; omega) (block_not_row h.ro ht h2)).trans (Below.heap_alloc _ _ i hi2)).trans e1
theorem more_ro {w W W2 : World} {vl vo : Value} {L : List Fi} {Ps : List Px} (h : LaidM w W vl vo L Ps) {tmp : Obj} (hgrow : (W.alloc tmp).grownBy W2 vl.ownBlock) (tmp2 : Obj) : (W2.alloc tmp2).ownsRow w.heap.size 22 1 vo Ps.length (cellsP Ps) :=
  ((h.ro.alloc tmp).kept hgrow (row_not_row (h.ro.alloc tmp) (h.rl.alloc tmp) (by decide))).alloc tmp2
theorem cell_one (w : World) (x : Value) (t : TypeId) : ∀ j u, [x][j]? = some u → (w.alloc (.cells #[x] t)).cell? ((⟨w.heap.size, 0, none⟩ : Addr).add j) = some u := cell_one_new' w x t
/-- What laid gives. -/
def LaidPost (w : World) (e : Ending) (w' : World) : Prop := ∃ vl vo L Ps, e = .returned (.tuple #[vl, vo]) ∧ LaidM w w' vl vo L Ps ∧ L.length ≤ 30
theorem LaidPost.mk {w w' : World} {vl vo : Value} {L : List Fi} {Ps : List Px} (h : LaidM w w' vl vo L Ps) (hl : L.length ≤ 30) : LaidPost w (.returned (.tuple #[vl, vo])) w' := ⟨_, _, L, Ps, rfl, h, hl⟩
/-- A block of two cells. -/
def C2 (w : World) (g : Nat) (t : TypeId) (x y : Value) : Prop := w.heap[g]? = some (.cells #[x, y] t (0, 0))
theorem C2.c0 {w : World} {g : Nat} {t : TypeId} {x y : Value} (h : C2 w g t x y) : w.cell? ⟨g, 0, none⟩ = some x := by simp [World.cell?, show w.heap[g]? = _ from h]
theorem C2.c1 {w : World} {g : Nat} {t : TypeId} {x y : Value} (h : C2 w g t x y) : w.cell? ⟨g, 1, none⟩ = some y := by simp [World.cell?, show w.heap[g]? = _ from h]
theorem C2.fr {w : World} {g : Nat} {t : TypeId} {x y : Value} (h : C2 w g t x y) (o : Nat) : w.frozen? ⟨g, o, none⟩ = false := by simp [World.frozen?, show w.heap[g]? = _ from h]
theorem C2.lt {w : World} {g : Nat} {t : TypeId} {x y : Value} (h : C2 w g t x y) : g < w.heap.size := (Array.getElem?_eq_some_iff.1 h).1
theorem C2.below {w w' : World} {g : Nat} {t : TypeId} {x y : Value} (h : C2 w g t x y) (hb : Below w.heap.size w w') : C2 w' g t x y := (hb.block g h.lt).trans h
theorem C2.new (w : World) (t : TypeId) (x y : Value) : C2 (w.alloc (.cells #[x, y] t)) w.heap.size t x y := heap_alloc_new w _
theorem C2.set1 {w : World} {g : Nat} {t : TypeId} {x y : Value} (h : C2 w g t x y) (z : Value) : C2 (w.setCell ⟨g, 1, none⟩ z) g t x z := by
  unfold C2 at *
  simp [World.setCell, Array.getElem?_modify, h]
set_option maxRecDepth 100000 in
set_option maxHeartbeats 4000000 in
theorem laid_any (KA : Option Addr) (kc : Nat) (ks : List UInt8) (BA : Option Addr) (bn bc : Nat) (bf : Nat → Option Addr × Nat × List UInt8) (w : World) (hE : Env w) (hK : At w KA ks) (hB : BAt w BA bn bf) (hm : ks.length ≤ maxLen) (hbn : bn ≤ maxLen) :
    Calls Tryd.prog 19 #[.agg #[.slice KA ks.length kc, .slice BA bn bc]] w (LaidPost w) := by
  obtain ⟨W, hW⟩ : ∃ W, w.alloc (.cells #[.slice KA ks.length kc, .slice BA bn bc] 55) = W := ⟨_, rfl⟩
  have b0 : Below w.heap.size w W := by rw [← hW]; exact (Below.refl _ _).alloc (Nat.le_refl _) _
  have f0 : C2 W w.heap.size 55 (.slice KA ks.length kc) (.slice BA bn bc) := by rw [← hW]; exact C2.new w _ _ _
  have c0 := f0.c0
  have F0 := Lib.hid f0
  have B0 := Lib.hid b0
  have HE := Lib.hid hE
  have HK := Lib.hid hK
  have HB := Lib.hid hB
  clear f0 b0 hE hK hB
  unfold maxLen at hbn hm
  go_enter Tryd.func19, Tryd.ntmps19
  go_upto_region 1 with fail
  try rw [hW]
  clear hW
  go_wp2
  go_loopw [14, 4, 5] (fun i vl vo wr => ∃ (L : List Fi) (Ps : List Px), i = .int .i64 (L.length : Nat) ∧ L.length ≤ ks.length ∧ L.length ≤ 30 ∧ LaidM w wr vl vo L Ps ∧ C2 wr w.heap.size 55 (.slice KA ks.length kc) (.slice BA bn bc)) (fun i _ _ _ => 31 - (intOf i).toNat)
  case atStart => exact ⟨[], [], rfl, Nat.zero_le _, Nat.zero_le _, ⟨World.ownsRow_nil _ _ _ _, World.ownsRow_nil _ _ _ _, (fun y hy => by cases hy), (fun y hy => by cases hy), rfl, (fun y hy => by cases hy), B0.out⟩, F0.out⟩
  case round =>
    obtain ⟨L, Ps, rfl, hL, hL30, hM, hX⟩ := hrel
    have HM := Lib.hid hM
    have HX := Lib.hid hX
    by_cases hlt : L.length < ks.length
    · obtain ⟨kb, koff, rfl, hkb, hkc⟩ := HK.out (by omega)
      have q := (hM.below.cell (p := ⟨kb, koff + L.length, none⟩) hkb).trans (hkc _ hlt)
      unfold bv at q
      have p0 := (ks.getD L.length 0).toNat_lt
      clear hkc hM hX
      generalize ks.getD L.length 0 = kx at *
      by_cases h30 : L.length = 30
      · have t30 : ((L.length : Int) == 30) = true := by simpa using (show (L.length : Int) = 30 by omega)
        have hlti : (L.length : Int) < (ks.length : Int) := by omega
        clear hlt h30
        go_wp2
        go_ret2
        exact LaidPost.mk HM.out hL30
      · have t30 : ((L.length : Int) == 30) = false := by simpa using (show ¬ (L.length : Int) = 30 by omega)
        have hlti : (L.length : Int) < (ks.length : Int) := by omega
        have x1 := HX.out.c1
        obtain ⟨k, hk⟩ : ∃ k, 1 + kx.toNat % 3 = k := ⟨_, rfl⟩
        have hk1 : 1 ≤ k ∧ k ≤ 3 := by omega
        have hki : (1 : Int) + (kx.toNat : Int) % 3 = (k : Int) := by omega
        clear hlt
        go_upto_region 8 with fail
        obtain ⟨V, hV⟩ : ∃ V, wr.alloc (.cells #[.int .i64 (k : Int), .slice none 0 0] 27) = V := ⟨_, rfl⟩
        have bV : Below wr.heap.size wr V := by rw [← hV]; exact (Below.refl _ _).alloc (Nat.le_refl _) _
        have fV : C2 V wr.heap.size 27 (.int .i64 (k : Int)) (.slice none 0 0) := by rw [← hV]; exact C2.new wr _ _ _
        have hMV := HM.out.later bV
        have hXV := HX.out.below bV
        rw [hV]
        clear hV q p0 x1 hki t30
        have BV := Lib.hid bV
        clear bV
        have x1 := hXV.c1
        obtain ⟨i0, hi, hz0, hz1, hz2⟩ := info_parts infoX
        obtain ⟨j0, ji, jz0, jz1, jz2⟩ := info_parts infoOp
        by_cases hbl : L.length < bn
        · obtain ⟨bb, boff, rfl, hbb, hbc⟩ := HB.out (by omega)
          obtain ⟨e0, e1, e2, e3⟩ := hbc L.length hbl
          have q0 := (hMV.below.cell (p := ⟨bb, boff + L.length, none⟩) hbb).trans e0
          generalize bf L.length = bq at *
          obtain ⟨qA, qc, ql⟩ := bq
          dsimp only at q0 e0 e1 e2 e3
          obtain ⟨m, hm2⟩ : ∃ m, min ql.length 200 = m := ⟨_, rfl⟩
          have hmi : min (ql.length : Int) 200 = (m : Int) := by omega
          have hlm : (ql.take m).length = m := by rw [List.length_take]; omega
          have hm200 : m ≤ 200 := by omega
          have hAt : At w qA (ql.take m) ∧ (qA = none → qc = 0) := ⟨take_at _ e1, e2⟩
          have hli2 : (m : Int) ≤ (qc : Int) := by omega
          have hli3 : (L.length : Int) < (bn : Int) := by omega
          have z1 := fV.c1
          have z2 := fV.fr 1
          have HAt0 := Lib.hid hAt
          have HFV := Lib.hid fV
          have HLM := Lib.hid hlm
          clear hbc e0 e1 e2 e3 hbl hm2 hAt hMV hXV fV hlm
          go_upto_region 9 with fail
          go_region
          obtain ⟨U, hU⟩ : ∃ U, (V.setCell ⟨wr.heap.size, 1, none⟩ (.slice qA m qc)).drew = U := ⟨_, rfl⟩
          have bU : Below wr.heap.size wr U := by rw [← hU]; exact (BV.out.setCell (p := ⟨wr.heap.size, 1, none⟩) (Nat.le_refl _) _).drew
          have fU : C2 U wr.heap.size 27 (.int .i64 (k : Int)) (.slice qA m qc) := by rw [← hU]; exact HFV.out.set1 _
          have hMU := HM.out.later bU
          have hXU := HX.out.below bU
          rw [hU]
          have hAt := HAt0.out
          have hlm := HLM.out
          clear hU bU q0 z1 z2 x1 hmi hli2 hli3 HAt0 HFV HLM BV
          generalize ql.take m = l at *
          subst hlm
          generalize qA = A at *
          generalize qc = c at *
          have HMU := Lib.hid hMU
          have HXU := Lib.hid hXU
          have HFU := Lib.hid fU
          have CP := Lib.hid (Put_ok ⟨k, l⟩ ⟨hk1.1, hk1.2, by show l.length ≤ 2048; omega⟩ A c U (HE.out.below hMU.below) (hAt.1.below hMU.below) hAt.2)
          have HAt := Lib.hid hAt
          have HOk := Lib.hid (show Fr.ok ⟨k, l⟩ from ⟨hk1.1, hk1.2, by show l.length ≤ 2048; omega⟩)
          have z0 := fU.c0
          have z1 := fU.c1
          generalize hpp : putL ⟨k, l⟩ = pl at *
          have HPP := Lib.hid hpp
          clear hpp hMU hXU fU hAt
          go_upto_region 11 with (first
            | (go_at_call 8; ((with_reducible refine (CP.out).mono ?_); rintro e6 w6 ⟨g6, c6, rfl, ho6, hb6⟩; have HM6 := Lib.hid (HMU.out.later hb6); have HX6 := Lib.hid (HXU.out.below hb6); have HF6 := Lib.hid (HFU.out.below hb6); have HO6 := Lib.hid ((own_mine ho6).weaken HMU.out.below.size); have HC6 : Hid (pl.length ≤ c6) := Lib.hid (by rcases ho6.2 with ⟨e, _⟩ | ⟨_, _, _, e, _, _, hn, _⟩ <;> (injection e with e1 e2 e3; omega)); have z2 := HF6.out.c0; have z3 := HF6.out.c1; clear ho6 hb6 z0 z1))
            | fail)
          have hs6 := HM6.out.below.size
          have hlen := HM6.out.len
          go_wp2_with (first
            | (at_builtin; refine wpList_append_own_at _ rfl (.tmp 50) (.tmp 52) 35 rfl w.heap.size 27 i0 _ 2 32 Tryd.underlying35 hi hz0 hz1 hz2 rfl (by decide) _ _ _ rfl (HM6.out.rl.alloc _) ⟨w6.heap.size, 0, none⟩ 1 1 [.int .i64 (k : Int), .slice A l.length c] rfl rfl (cell_two_new _ _ _ _) (by simp [Value.oneCell']) (by unfold maxLen; omega) (by omega) (by simp; omega) ?_; intro v7 w7 hown7 hgrow7 _ _; have OW7 := Lib.hid hown7; have GR7 := Lib.hid hgrow7; have hs7 := hgrow7.size; rw [World.size_alloc] at hs7; clear hown7 hgrow7)
            | (at_builtin; refine wpList_append_own_at _ rfl (.tmp 54) (.tmp 56) 49 rfl w.heap.size 22 j0 _ 1 24 Tryd.underlying49 ji jz0 jz1 jz2 rfl (by decide) _ _ _ rfl (more_ro HM6.out GR7.out _) ⟨w7.heap.size, 0, none⟩ 1 1 [.slice (some ⟨g6, 0, none⟩) pl.length c6] rfl rfl (cell_one _ _ _) (by simp [Value.oneCell']) (by unfold maxLen; omega) (by omega) (by simp; omega) ?_; intro v8 w8 hown8 hgrow8 _ _; have OW8 := Lib.hid hown8; have GR8 := Lib.hid hgrow8; clear hown8 hgrow8)
            | fail)
          refine ⟨⟨L ++ [⟨⟨k, l⟩, A, c⟩], Ps ++ [⟨pl, g6, c6⟩], by rw [List.length_append, List.length_singleton]; go_num, by rw [List.length_append, List.length_singleton]; omega, by rw [List.length_append, List.length_singleton]; omega, HM6.out.more (y := ⟨⟨k, l⟩, A, c⟩) (p := ⟨pl, g6, c6⟩) OW7.out GR7.out OW8.out GR8.out HOk.out HAt.out HPP.out.symm HO6.out HC6.out, (more_block HM6.out GR7.out GR8.out HX6.out (by decide) (by decide)).trans HX6.out⟩, by simp [intOf]; omega⟩
        · have hbi : ¬ (L.length : Int) < (bn : Int) := by omega
          clear hbl
          go_upto_region 10 with fail
          obtain ⟨U, rfl⟩ : ∃ U, U = V := ⟨_, rfl⟩
          obtain ⟨A, hA⟩ : ∃ A : Option Addr, none = A := ⟨_, rfl⟩
          obtain ⟨l, hl⟩ : ∃ l : List UInt8, [] = l := ⟨_, rfl⟩
          obtain ⟨c, hc⟩ : ∃ c : Nat, 0 = c := ⟨_, rfl⟩
          have hm200 : l.length ≤ 200 := by rw [← hl]; decide
          have hAt : At w A l ∧ (A = none → c = 0) := ⟨by rw [← hl]; exact at_nil _ _, fun _ => hc.symm⟩
          have fU : C2 U wr.heap.size 27 (.int .i64 (k : Int)) (.slice A l.length c) := by rw [← hA, ← hl, ← hc]; exact fV
          have hMU := hMV
          have hXU := hXV
          clear x1 hbi hMV hXV fV BV hA hl hc
          have HMU := Lib.hid hMU
          have HXU := Lib.hid hXU
          have HFU := Lib.hid fU
          have CP := Lib.hid (Put_ok ⟨k, l⟩ ⟨hk1.1, hk1.2, by show l.length ≤ 2048; omega⟩ A c U (HE.out.below hMU.below) (hAt.1.below hMU.below) hAt.2)
          have HAt := Lib.hid hAt
          have HOk := Lib.hid (show Fr.ok ⟨k, l⟩ from ⟨hk1.1, hk1.2, by show l.length ≤ 2048; omega⟩)
          have z0 := fU.c0
          have z1 := fU.c1
          generalize hpp : putL ⟨k, l⟩ = pl at *
          have HPP := Lib.hid hpp
          clear hpp hMU hXU fU hAt
          go_upto_region 11 with (first
            | (go_at_call 8; ((with_reducible refine (CP.out).mono ?_); rintro e6 w6 ⟨g6, c6, rfl, ho6, hb6⟩; have HM6 := Lib.hid (HMU.out.later hb6); have HX6 := Lib.hid (HXU.out.below hb6); have HF6 := Lib.hid (HFU.out.below hb6); have HO6 := Lib.hid ((own_mine ho6).weaken HMU.out.below.size); have HC6 : Hid (pl.length ≤ c6) := Lib.hid (by rcases ho6.2 with ⟨e, _⟩ | ⟨_, _, _, e, _, _, hn, _⟩ <;> (injection e with e1 e2 e3; omega)); have z2 := HF6.out.c0; have z3 := HF6.out.c1; clear ho6 hb6 z0 z1))
            | fail)
          have hs6 := HM6.out.below.size
          have hlen := HM6.out.len
          go_wp2_with (first
            | (at_builtin; refine wpList_append_own_at _ rfl (.tmp 50) (.tmp 52) 35 rfl w.heap.size 27 i0 _ 2 32 Tryd.underlying35 hi hz0 hz1 hz2 rfl (by decide) _ _ _ rfl (HM6.out.rl.alloc _) ⟨w6.heap.size, 0, none⟩ 1 1 [.int .i64 (k : Int), .slice A l.length c] rfl rfl (cell_two_new _ _ _ _) (by simp [Value.oneCell']) (by unfold maxLen; omega) (by omega) (by simp; omega) ?_; intro v7 w7 hown7 hgrow7 _ _; have OW7 := Lib.hid hown7; have GR7 := Lib.hid hgrow7; have hs7 := hgrow7.size; rw [World.size_alloc] at hs7; clear hown7 hgrow7)
            | (at_builtin; refine wpList_append_own_at _ rfl (.tmp 54) (.tmp 56) 49 rfl w.heap.size 22 j0 _ 1 24 Tryd.underlying49 ji jz0 jz1 jz2 rfl (by decide) _ _ _ rfl (more_ro HM6.out GR7.out _) ⟨w7.heap.size, 0, none⟩ 1 1 [.slice (some ⟨g6, 0, none⟩) pl.length c6] rfl rfl (cell_one _ _ _) (by simp [Value.oneCell']) (by unfold maxLen; omega) (by omega) (by simp; omega) ?_; intro v8 w8 hown8 hgrow8 _ _; have OW8 := Lib.hid hown8; have GR8 := Lib.hid hgrow8; clear hown8 hgrow8)
            | fail)
          refine ⟨⟨L ++ [⟨⟨k, l⟩, A, c⟩], Ps ++ [⟨pl, g6, c6⟩], by rw [List.length_append, List.length_singleton]; go_num, by rw [List.length_append, List.length_singleton]; omega, by rw [List.length_append, List.length_singleton]; omega, HM6.out.more (y := ⟨⟨k, l⟩, A, c⟩) (p := ⟨pl, g6, c6⟩) OW7.out GR7.out OW8.out GR8.out HOk.out HAt.out HPP.out.symm HO6.out HC6.out, (more_block HM6.out GR7.out GR8.out HX6.out (by decide) (by decide)).trans HX6.out⟩, by simp [intOf]; omega⟩
    · obtain hl : L.length = ks.length := by omega
      have hli : ¬ (L.length : Int) < (ks.length : Int) := by omega
      clear hlt hM hX
      go_wp2
      go_ret2
      exact LaidPost.mk HM.out hL30
end Go.Proofs.YtbmhgmigcgeooaaDoor
