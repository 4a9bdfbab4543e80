/- Pieces cut: of each piece those parts that a function value lists. -/
import Derived.Test.YtmolpogehgeebaaGreatbB6
import Derived.Deep.RegionLaw
namespace Go.Proofs.YtmolpogehgeebaaGreat
open Go.RowKit
theorem one7 (x : Pie) : (Pie.cells x).all (·.oneCell') = true := by simp [Value.oneCell']
theorem Bx.range {w : World} {p : Nat} {x : Pie} (h : Bx w p (Pie.cells x)) : w.rangeAt p 0 (Pie.cells x).toList := fun j v hv => by
  rw [Nat.zero_add, h.c j, ← Array.getElem?_toList]; exact hv
theorem Bx.grown {w w' : World} {p : Nat} {C : Array Value} {row : Option Nat} (h : Bx w p C) (hg : w.grownBy w' row) (hne : ∀ q, row = some q → q ≠ p) : Bx w' p C := by
  have e := hg.block p h.lt (fun e => hne p e.symm rfl)
  exact ⟨Nat.lt_of_lt_of_le h.lt hg.size, fun j => (World.cell?_of_block (a := ⟨p, j, none⟩) e).trans (h.c j), fun j => (World.frozen?_of_block (a := ⟨p, j, none⟩) e).trans (h.fr j)⟩
/-- append of one piece onto a slice of the call's own. -/
theorem run_appL (base : Nat) (w : World) (v : Value) (l : List Pie) (g : Nat) (x : Pie) (ty : TypeId) (h : OwnL base w v l) (hA : w.rangeAt g 0 (Pie.cells x).toList) (hm : l.length + 1 ≤ 1000000000000) (hb : base ≤ w.heap.size) :
    ∃ v' w', (Builtin.append_ #[60, 60] ty #[v, .slice (some ⟨g, 0, none⟩) 1 1]).run Tryz.prog w = .ok v' w' ∧ OwnL base w' v' (l ++ [x]) ∧ w.grownBy w' v.ownBlock ∧ (v'.ownBlock = v.ownBlock ∨ v'.ownBlock = some w.heap.size) := by
  obtain ⟨i0, hi, hz0, hz1, hz2⟩ := info_parts infoL
  obtain ⟨v', w', h1, h2, h3, _, h5⟩ := run_append_own_at (P := Tryz.prog) w base 60 ty 148 i0 _ 7 64 Tryz.underlying60 hi hz0 hz1 hz2 rfl (by omega) v _ _ h ⟨g, 0, none⟩ 1 1 (cellsL [x]) (by rw [cellsL_length]; rfl) (fun j u hj => by
      rw [add_off, Nat.zero_add]
      rw [cellsL_one] at hj
      have := hA j u hj
      rwa [Nat.zero_add] at this) (fun u hu => by
      rw [cellsL_one] at hu
      exact Array.all_eq_true_iff_forall_mem.1 (one7 x) u (by simpa using hu)) (by unfold maxLen; omega) (by omega) hb
  exact ⟨v', w', h1, by rw [OwnL, cellsL_append, List.length_append]; exact h2, h3, h5⟩
section
variable {ops : Array Oper} {o : Oper} {a : Act} {K : Act → World → Prop} {Q : Exit → Act → World → Prop} {E : Prop} {w : World}
theorem step_appL (hw : Region.wanted o (yielded ops a.tmps) = true) (s x : Operand) (ho : o.op = .call { callee := .builtin .append, args := #[s, x], argTypes := #[60, 60] })
    (base : Nat) (v : Value) (l : List Pie) (hs : a.eval s = v) (h : OwnL base w v l) (g : Nat) (p : Pie) (hx : a.eval x = .slice (some ⟨g, 0, none⟩) 1 1) (hA : w.rangeAt g 0 (Pie.cells p).toList)
    (hm : l.length + 1 ≤ 1000000000000) (hb : base ≤ w.heap.size)
    (hK : ∀ v' w', OwnL base w' v' (l ++ [p]) → w.grownBy w' v.ownBlock → (v'.ownBlock = v.ownBlock ∨ v'.ownBlock = some w.heap.size) → K (a.put o.dst v') w') :
    if Region.wanted o (yielded ops a.tmps) = true then Oper.wp Tryz.prog o a w K Q else E := by
  rw [if_pos hw]
  obtain ⟨v', w', h1, h2, h3, h4⟩ := run_appL base w v l g p o.type h hA hm hb
  unfold Oper.wp execOp
  simp only [ho, resolve, invoke, builtin, Sem.run_bind, Sem.run_pure, Result.andThen_ok, List.map_toArray, List.map_cons, List.map_nil, hs, hx, h1]
  exact hK v' w' h2 h3 h4
end
/-- What lies from B on stays; other memory may change. -/
structure Kept (B : Nat) (w w' : World) : Prop where
  size : w.heap.size ≤ w'.heap.size
  block : ∀ k, B ≤ k → k < w.heap.size → w'.heap[k]? = w.heap[k]?
theorem OwnL.kept {B : Nat} {w w' : World} {v : Value} {l : List Pie} (h : OwnL B w v l) (hk : Kept B w w') : OwnL B w' v l := by
  refine ⟨h.1, ?_⟩
  rcases h.2 with h0 | ⟨g, cap, cur, h1, h2, h3, h4⟩
  · exact .inl h0
  · exact .inr ⟨g, cap, cur, h1, h2, (hk.block g h2 (lt_heap h3)).trans h3, h4⟩
theorem Bx.kept {B : Nat} {w w' : World} {p : Nat} {C : Array Value} (h : Bx w p C) (hk : Kept B w w') (hB : B ≤ p) : Bx w' p C := by
  have e := hk.block p hB h.lt
  exact ⟨Nat.lt_of_lt_of_le h.lt hk.size, fun j => (World.cell?_of_block (a := ⟨p, j, none⟩) e).trans (h.c j), fun j => (World.frozen?_of_block (a := ⟨p, j, none⟩) e).trans (h.fr j)⟩
/-- A slice of pieces and a slice of periods lie apart. -/
theorem apart_PL {base base' : Nat} {w : World} {v u : Value} {l : List (Int × Int)} {m : List Pie} (h : Se.OwnP base w v l) (g : OwnL base' w u m) : v.ownBlock = none ∨ v.ownBlock ≠ u.ownBlock := by
  rcases h.2 with ⟨rfl, _⟩ | ⟨q, cap, cur, rfl, _, hq, _⟩
  · exact .inl rfl
  · refine .inr fun e => ?_
    rcases g.2 with ⟨rfl, _⟩ | ⟨q', cap', cur', rfl, _, hq', _⟩
    · simp [Value.ownBlock] at e
    · simp [Value.ownBlock] at e
      subst e
      rw [hq] at hq'
      simp at hq'
/-- Where the cutting of piece x has come to: its parts F, of which m are laid behind P. -/
structure CutIn (B : Nat) (w : World) (u pv : Value) (p7 : Nat) (x : Pie) (P : List Pie) (F : List (Int × Int)) (m : Nat) : Prop where
  own : OwnL B w u (P ++ Pl.withV x.v (F.take m))
  bx : Bx w p7 (Pie.cells x)
  pv : Se.OwnP B w pv F
  ne : ∀ q, u.ownBlock = some q → q ≠ p7
  sz : B ≤ w.heap.size
theorem CutIn.below {B : Nat} {w w' : World} {u pv : Value} {p7 : Nat} {x : Pie} {P : List Pie} {F : List (Int × Int)} {m : Nat} (h : CutIn B w u pv p7 x P F m) (hb : Below w.heap.size w w') : CutIn B w' u pv p7 x P F m :=
  ⟨h.own.below hb, h.bx.below hb, Se.OwnP.below h.pv hb, h.ne, Nat.le_trans h.sz hb.size⟩
theorem OwnL.ownLt {base : Nat} {w : World} {v : Value} {l : List Pie} (h : OwnL base w v l) : ∀ q, v.ownBlock = some q → base ≤ q ∧ q < w.heap.size := fun q hq => World.ownsRow.lt h q hq
theorem take_withV (v : VP) (F : List (Int × Int)) (m : Nat) (h : m < F.length) : Pl.withV v (F.take (m + 1)) = Pl.withV v (F.take m) ++ [⟨F[m].1, F[m].2, v⟩] := by
  unfold Pl.withV
  rw [List.take_succ_eq_append_getElem h, List.map_append]
  rfl
theorem CutIn.next {B : Nat} {w w4 w6 : World} {u u6 pv : Value} {p7 : Nat} {x : Pie} {P : List Pie} {F : List (Int × Int)} {m : Nat} (h : CutIn B w u pv p7 x P F m) (hm : m < F.length) (hb : Below w.heap.size w w4)
    (ho : OwnL B w6 u6 (P ++ Pl.withV x.v (F.take m) ++ [⟨F[m].1, F[m].2, x.v⟩])) (hg : (w4.alloc (.cells (Pie.cells ⟨F[m].1, F[m].2, x.v⟩) 148)).grownBy w6 u.ownBlock)
    (hn : u6.ownBlock = u.ownBlock ∨ u6.ownBlock = some (w4.alloc (.cells (Pie.cells ⟨F[m].1, F[m].2, x.v⟩) 148)).heap.size) : CutIn B w6 u6 pv p7 x P F (m + 1) ∧ Below B w w6 := by
  have hb2 := hb.alloc hb.size (.cells (Pie.cells ⟨F[m].1, F[m].2, x.v⟩) 148)
  have bx2 := h.bx.below hb2
  have pv2 := Se.OwnP.below h.pv hb2
  have ow2 := h.own.below hb2
  refine ⟨⟨?_, bx2.grown hg fun q e => h.ne q e, World.ownsRow.kept pv2 hg (apart_PL pv2 ow2), fun q hq => ?_, Nat.le_trans h.sz (Nat.le_trans hb2.size hg.size)⟩, (hb2.mono h.sz).grown hg (Nat.le_trans h.sz hb2.size) fun k e => (h.own.ownLt k e).1⟩
  · rw [take_withV _ _ _ hm, ← List.append_assoc]
    exact ho
  · rcases hn with e | e
    · rw [e] at hq; exact h.ne q hq
    · rw [e] at hq
      have := bx2.lt
      simp at hq
      subst hq
      simp at this ⊢
      omega
section
set_option maxRecDepth 100000
set_option maxHeartbeats 8000000
theorem cut_any (F : FuncId) (ptr : Value) (eg : ∀ args w, (callFunc F args).run Tryz.prog w = .ok (.enter F args) w) (v : Value) (l : List Pie) (w : World) (Φ : Nat → World → Prop) (Fs : Nat → List (Int × Int))
    (hΦ : ∀ k W W', Φ k W → Below w.heap.size W W' → Φ k W') (hS : ∀ k W, Φ k W → SL W v l) (hw : ∀ x ∈ l, x.v.s.size ≤ 1000)
    (hl : l.length ≤ 100000) (hF : ∀ k, k < l.length → (Fs k).length ≤ 1000000)
    (hc : ∀ k (hk : k < l.length) W, w.heap.size ≤ W.heap.size → Φ k W → Calls Tryz.prog F #[.agg #[.int .u64 l[k].a, .int .u64 l[k].b], ptr] W fun e w' => ∃ u, e = .returned u ∧ Se.OwnP w.heap.size w' u (Fs k) ∧ Kept w.heap.size W w' ∧ Φ (k + 1) w')
    (h0 : Φ 0 w) :
    Calls Tryz.prog 244 #[v, .func (.func F) #[] #[ptr]] w fun e w' => ∃ u, e = .returned u ∧ OwnL w.heap.size w' u (Pl.partsK Fs l l.length) ∧ Φ l.length w' ∧ w.heap.size ≤ w'.heap.size := by
  obtain ⟨A, c, rfl, _⟩ := hS 0 w h0
  have HΦ := Lib.hid hΦ
  have HS := Lib.hid hS
  have HW := Lib.hid hw
  have HF := Lib.hid hF
  have HC := Lib.hid hc
  have HPL := Lib.hid (Pl.partsK_length Fs l hF)
  have H0 := Lib.hid h0
  clear hΦ hS hw hF hc h0
  have hsf := store_float
  go_enter Tryz.func244, Tryz.ntmps244
  go_wp2
  go_loopw [5, 12] (fun u i wr => ∃ k : Nat, k ≤ l.length ∧ i = .int .i64 k ∧ OwnL w.heap.size wr u (Pl.partsK Fs l k) ∧ Φ k wr ∧ w.heap.size ≤ wr.heap.size) (fun _ i _ => l.length - (intOf i).toNat)
  case atStart => exact ⟨0, Nat.zero_le _, rfl, OwnL.nil _ _, H0.out, Nat.le_refl _⟩
  case round =>
    obtain ⟨k, hk, rfl, ho, hp, hz⟩ := hrel
    have HO := Lib.hid ho
    have HP := Lib.hid hp
    clear ho hp
    by_cases hlt : k < l.length
    · obtain ⟨A', c', hv, hA, _⟩ := HS.out k wr HP.out
      cases hv
      obtain ⟨g, off, rfl, lg, cg⟩ := hA (by omega)
      have r := cg k hlt
      have i0 : (k : Int) < (l.length : Int) := by omega
      have i1 : (0 : Int) ≤ (k : Int) := by omega
      have CC := Lib.hid (HC.out k hlt)
      have HK := Lib.hid (Pl.partsK_succ Fs l k hlt)
      have FL := HF.out k hlt
      have PL := HPL.out k hk
      have SX := Lib.hid (HW.out l[k] (List.getElem_mem hlt))
      clear cg hA
      obtain ⟨x, hx⟩ : ∃ x, l[k] = x := ⟨_, rfl⟩
      rw [hx] at r CC HK SX
      clear hx
      generalize Fs k = fs at *
      obtain ⟨a, b, ⟨kk, vb, n, f, st⟩⟩ := x
      simp only at CC HK SX
      have b0 := Lib.hid (show Below w.heap.size wr (wr.alloc (.cells (Pie.cells ⟨a, b, ⟨kk, vb, n, f, st⟩⟩) 148)) from (Below.refl _ _).alloc hz _)
      have X0 := Lib.hid (Bx.new wr (Pie.cells ⟨a, b, ⟨kk, vb, n, f, st⟩⟩) 148)
      have P1 := Lib.hid (HΦ.out _ _ _ HP.out b0.out)
      have O1 := Lib.hid (HO.out.alloc (.cells (Pie.cells ⟨a, b, ⟨kk, vb, n, f, st⟩⟩) 148))
      have LT := Lib.hid (fun q e => Nat.ne_of_lt (HO.out.ownLt q e).2)
      go_upto_region 5 with (refine wpList_load_mid rfl 148 (.tmp 14) rfl g (off + k * 7) rfl _ _ r Tryz.underlying148 rfl rowL ?_)
      obtain ⟨W, hW⟩ : ∃ W, wr.alloc (.cells (Pie.cells ⟨a, b, ⟨kk, vb, n, f, st⟩⟩) 148) = W := ⟨_, rfl⟩
      have hzW : w.heap.size ≤ W.heap.size := by rw [← hW]; simp; omega
      rw [hW] at X0 P1 O1 ⊢
      clear hW HO HP b0
      have x0 := X0.out.c
      have x1 := X0.out.fr
      go_wp2_with fail
      refine (CC.out W hzW P1.out).mono ?_
      rintro e w1 ⟨pv, rfl, hu, hk1, hp1⟩
      have HI := Lib.hid (show CutIn w.heap.size w1 u5 pv wr.heap.size ⟨a, b, ⟨kk, vb, n, f, st⟩⟩ (Pl.partsK Fs l k) fs 0 from ⟨by simpa [Pl.withV] using O1.out.kept hk1, X0.out.kept hk1 hz, hu, LT.out, Nat.le_trans hzW hk1.size⟩)
      obtain ⟨Ap, cp, rfl, _⟩ := Se.OwnP.at hu
      have HP1 := Lib.hid hp1
      clear hu hk1 hp1 x0 x1 CC X0 O1 LT P1
      obtain ⟨p7, hp7⟩ : ∃ p7, wr.heap.size = p7 := ⟨_, rfl⟩
      rw [hp7] at HI ⊢
      have HZ7 := Lib.hid (show w.heap.size ≤ p7 by omega)
      clear hp7 lg r
      go_wp2_with fail
      go_upto_region 10 with fail
      obtain ⟨P, hP⟩ : ∃ P, Pl.partsK Fs l k = P := ⟨_, rfl⟩
      rw [hP] at HI HK PL
      clear hP
      obtain ⟨wo, rfl⟩ : ∃ wo, wr = wo := ⟨_, rfl⟩
      have CL := Lib.hid (fun W => clone_any ⟨kk, vb, n, f, st⟩ SX.out W)
      clear hzW SX
      go_loopw [5, 21] (fun u i wr => ∃ m : Nat, m ≤ fs.length ∧ i = .int .i64 m ∧ CutIn w.heap.size wr u (.slice Ap fs.length cp) p7 ⟨a, b, ⟨kk, vb, n, f, st⟩⟩ P fs m ∧ Φ (k + 1) wr) (fun _ i _ => fs.length - (intOf i).toNat)
      case atStart => exact ⟨0, Nat.zero_le _, rfl, HI.out, HP1.out⟩
      case round =>
        obtain ⟨m, hm, rfl, hI, hp⟩ := hrel
        have I := Lib.hid hI
        have HP2 := Lib.hid hp
        clear hI hp HI HP1
        by_cases hmt : m < fs.length
        · obtain ⟨Ap', cp', hv, hA⟩ := Se.OwnP.at I.out.pv
          cases hv
          obtain ⟨g3, of3, rfl, l3, c3⟩ := hA (by omega)
          obtain ⟨y0, y1⟩ := c3 m hmt
          have j0 : (m : Int) < (fs.length : Int) := by omega
          have j1 : (0 : Int) ≤ (m : Int) := by omega
          have NX := Lib.hid (fun w2 w4 w6 u6 (hh : CutIn w.heap.size w2 u5 (.slice (some ⟨g3, of3, none⟩) fs.length cp) p7 ⟨a, b, ⟨kk, vb, n, f, st⟩⟩ P fs m) => CutIn.next (w4 := w4) (w6 := w6) (u6 := u6) hh hmt)
          clear c3 hA
          generalize fs[m].1 = fa at *
          generalize fs[m].2 = fb at *
          go_upto_region 8 with fail
          have HBx := Lib.hid ((Below.refl wr.heap.size wr).alloc (Nat.le_refl _) (.cells #[.int .u64 fa, .int .u64 fb] 33))
          have Y0 := Lib.hid (Bx.new wr #[.int .u64 fa, .int .u64 fb] 33)
          have I2 := Lib.hid (I.out.below HBx.out)
          have SZ := Lib.hid I.out.sz
          obtain ⟨W, hW⟩ : ∃ W, wr.alloc (.cells #[.int .u64 fa, .int .u64 fb] 33) = W := ⟨_, rfl⟩
          rw [hW] at HBx Y0 I2 ⊢
          clear hW
          have LE : Hid ((P ++ Pl.withV (⟨kk, vb, n, f, st⟩ : VP) (fs.take m)).length + 1 ≤ 1000000000000) := Lib.hid (by
            rw [List.length_append, Pl.withV_length, List.length_take]
            have := Nat.mul_le_mul_right 1000000 (show k ≤ 100000 by omega)
            omega)
          have q0 := I2.out.bx.c
          have q1 := Y0.out.c
          go_region_law (first
            | ((with_reducible refine step_appL rfl (.tmp 25) (.tmp 31) rfl w.heap.size u5 (P ++ Pl.withV (⟨kk, vb, n, f, st⟩ : VP) (fs.take m)) (by simp [Act.eval]) O4.out w4.heap.size ⟨fa, fb, ⟨kk, vb, n, f, st⟩⟩ (by simp [Act.eval]) R4.out LE.out Z4.out ?_); intro u6 w6 h2 h3 h4; have N6 := Lib.hid (NX.out W w4 w6 u6 I2.out B4.out h2 h3 h4); clear h2 h3 h4)
            | (go_simp; go_at_call 171; (refine (CL.out _).mono ?_); rintro e w4 ⟨rfl, hb0⟩; have hb : Below W.heap.size W w4 := (Below.refl _ _).drew.trans hb0; have B4 := Lib.hid hb; have q4 := (Y0.out.below hb).c; have q5 := (I2.out.below hb).bx.c; have O4 := Lib.hid ((I2.out.below hb).own.alloc (.cells (Pie.cells ⟨fa, fb, ⟨kk, vb, n, f, st⟩⟩) 148)); have R4 := Lib.hid (Bx.range (Bx.new w4 (Pie.cells ⟨fa, fb, ⟨kk, vb, n, f, st⟩⟩) 148)); have Z4 := Lib.hid (show w.heap.size ≤ (w4.alloc (.cells (Pie.cells ⟨fa, fb, ⟨kk, vb, n, f, st⟩⟩) 148)).heap.size from Nat.le_trans (I2.out.below hb).sz (by simp)); clear hb hb0))
          all_goals
            go_wp2
            exact ⟨⟨m + 1, by omega, by go_num, N6.out.1, HΦ.out _ _ _ HP2.out ((HBx.out.mono SZ.out).trans N6.out.2)⟩, by simp [intOf]; omega⟩
        · obtain rfl : m = fs.length := by omega
          have HE := Lib.hid (show OwnL w.heap.size wr u5 (Pl.partsK Fs l (k + 1)) by
            have h := I.out.own
            rw [List.take_length] at h
            rw [HK.out]; exact h)
          have SZ := Lib.hid I.out.sz
          clear I HK CL
          go_wp2
          exact ⟨⟨k + 1, by omega, by go_num, HE.out, HP2.out, SZ.out⟩, by simp [intOf]; omega⟩
    · obtain rfl : k = l.length := by omega
      go_wp2
      go_ret
      exact ⟨_, rfl, HO.out, HP.out, hz⟩
end
end Go.Proofs.YtmolpogehgeebaaGreat


