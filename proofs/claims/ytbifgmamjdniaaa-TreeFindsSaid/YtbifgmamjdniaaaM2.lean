/- What TreeFinds asks of a list told: closure 1. -/
import Derived.Test.YtbifgmamjdniaaaM1
import Derived.Laws.IdiomRangeMap
import Derived.Deep.LoopGhost
namespace Go.Proofs.Ytbifgmamjdniaaa
open Go.RowKit Go.Maps
open Itree (E T dep endT bs ord sz nodes lean rotL rotR bal ins del hasT first AVL Srt eachL over)
/-- A map of entries ranged over: M is still to come. -/
def RngE (w : World) (bm r n : Nat) (K M : List E) (cnt : Nat) : Prop :=
  ∃ (D : DataW Unit) (left : Lit → Bool), w.ranges Try.prog kkE.kt (plainElem Try.prog 3) bm r n D left cnt ∧ (∀ x, okE x → left (kkE.l x) = decide (x ∈ M)) ∧ M.Nodup ∧ (∀ x ∈ M, x ∈ K) ∧
    (∀ x, kkE.ok x → D.atKey (kkE.l x) (.lit (.int .i64 0)) = .lit (.int .i64 (if x ∈ K then 1 else 0)) ∧ Maps.has D (kkE.l x) = decide (x ∈ K)) ∧ Maps.size D = K.length
theorem RngE.map {w : World} {bm r n : Nat} {K M : List E} {cnt : Nat} (h : RngE w bm r n K M cnt) : MapS kkE w bm n K := by
  obtain ⟨D, left, h1, h2, h3, h4, h5, h6⟩ := h
  exact ⟨D, h1.owns, h5, h6⟩
theorem RngE.below {w w' : World} {bm r n : Nat} {K M : List E} {cnt : Nat} (h : RngE w bm r n K M cnt) (hb : Below w.heap.size w w') : RngE w' bm r n K M cnt := by
  obtain ⟨D, left, h1, h2⟩ := h
  exact ⟨D, left, h1.kept (row := none) ⟨hb.os, hb.tape, hb.output, hb.size, fun i hi _ => hb.block i hi⟩ (by simp) (by simp), h2⟩
theorem RngE.left {w : World} {bm r n : Nat} {K M : List E} {cnt : Nat} (h : RngE w bm r n K M cnt) : w.rangeLeft bm r = cnt := by
  obtain ⟨D, left, h1, h2⟩ := h
  exact h1.left_eq
theorem wpList_range_E (w : World) {ops : Array Oper} {rest : List Oper} {o : Oper} {a : Act} {Q : Exit → Act → World → Prop} (hg : o.guard = none) (m : Operand) (hop : o.op = Op.range 51 m) (bm n : Nat) (K : List E) (hm : a.eval m = .map (some bm)) (h : MapS kkE w bm n K) (hnd : K.Nodup)
    (hK : ∀ w', RngE w' bm w.heap.size n K K K.length → Below w.heap.size w w' → w'.heap.size = w.heap.size + 1 → wpList Try.prog ops Q rest (a.put o.dst (.pointer (some ⟨w.heap.size, 0, none⟩))) w') : wpList Try.prog ops Q (o :: rest) a w := by
  obtain ⟨D, h1, h2, h3⟩ := h
  refine wpList_range_own w hg m _ hop kkE.kt 3 kkE.keyed kkE.hm _ bm n D hm h1 fun w' r1 r2 r3 => hK w' ⟨D, _, h3 ▸ r1, fun x hx => (h2 x hx).2, hnd, fun _ h => h, h2, h3⟩ ⟨r2.os, r2.tape, r2.output, r2.size, fun i hi => r2.block i hi (by simp)⟩ r3
theorem wpList_next_E (w : World) {ops : Array Oper} {rest : List Oper} {o : Oper} {a : Act} {Q : Exit → Act → World → Prop} (hg : o.guard = none) (it : Operand) (hop : o.op = Op.next it false) (bm r n : Nat) (K M : List E) (cnt : Nat) (hit : a.eval it = .pointer (some ⟨r, 0, none⟩)) (h : RngE w bm r n K M cnt) (hok : ∀ x ∈ K, okE x)
    (hDone : M = [] → wpList Try.prog ops Q rest (a.put o.dst (.tuple #[.bool false])) w)
    (hMore : ∀ (x : E) (c : Int) (w' : World) (cnt' : Nat), x ∈ M → RngE w' bm r n K (M.filter fun y => !decide (y = x)) cnt' → cnt' < cnt → Below r w w' → w'.heap.size = w.heap.size → (Instr.entry (.pointer (some ⟨r, 0, none⟩))).run Try.prog w' = .ok (.tuple #[entV x, .int .i64 c]) w' → wpList Try.prog ops Q rest (a.put o.dst (.tuple #[.bool true, entV x, .int .i64 c])) w') : wpList Try.prog ops Q (o :: rest) a w := by
  obtain ⟨D, left, h1, h2, h3, h4, h5, h6⟩ := h
  refine wpList_next_ranges w hg it hop kkE.kt kkE.keyed _ entV (Value.int .i64) (fun key kl hkey => ?_) (fun v y hv => by obtain ⟨c, rfl, _⟩ := plainElem_int_inv Try.underlying3 hv; exact ⟨c, rfl⟩) bm r n D left cnt hit h1 (fun _ hl => hDone ?_) ?_
  · obtain ⟨x, _, rfl, _⟩ := (ent_keyOf key kl).1 hkey
    exact ⟨x, rfl⟩
  · cases M with
    | nil => rfl
    | cons x M =>
      have := h2 x (hok x (h4 x (by simp)))
      rw [hl] at this
      simp at this
  · intro x c kl y w' cnt' hkey hlk hv hat hrg hlt hgr hsz hen
    obtain ⟨x', hx', e, rfl⟩ := (ent_keyOf _ kl).1 hkey
    obtain rfl := kkE.vinj _ _ e
    have hm : x ∈ M := by
      have := h2 x hx'
      have hl : left (kkE.l x) = true := hlk
      rw [hl] at this
      simpa using this.symm
    refine hMore x c w' cnt' hm ⟨D, _, hrg, fun z hz => ?_, h3.filter _, fun z hz => h4 z (List.mem_filter.1 hz).1, h5, h6⟩ hlt ⟨hgr.os, hgr.tape, hgr.output, hgr.size, fun i hi => hgr.block i (Nat.lt_trans hi h1.lt) (by intro e; cases e; omega)⟩ hsz hen
    have hs : (kkE.l z).sameKey (kkE.l x) = decide (z = x) := by
      by_cases ez : z = x
      · subst ez
        rw [WideAt.sameKey_self (litOk z hz)]
        simp
      · cases hk : (kkE.l z).sameKey (kkE.l x) with
        | false => simp [ez]
        | true => exact absurd (kkE.inj z x hz hx' (WideAt.sameKey_eq hk)) ez
    show (left (kkE.l z) && !(kkE.l z).sameKey (kkE.l x)) = _
    rw [h2 z hz, hs]
    by_cases ez : z = x <;> by_cases em : z ∈ M <;> simp [ez, em]
theorem one_less (Pd : E → Bool) (x : E) (M : List E) (hn : M.Nodup) (hx : x ∈ M) : ((M.filter fun y => !decide (y = x)).filter Pd).length + (if Pd x = true then 1 else 0) = (M.filter Pd).length := by
  induction M with
  | nil => simp at hx
  | cons z M ih =>
    obtain ⟨h4, h5⟩ := List.nodup_cons.1 hn
    by_cases e : z = x
    · subst e
      have hf : (M.filter fun y => !decide (y = z)) = M := by
        rw [List.filter_eq_self]
        intro y hy
        simp only [Bool.not_eq_true', decide_eq_false_iff_not]
        rintro rfl
        exact h4 hy
      rw [List.filter_cons_of_neg (by simp), hf]
      by_cases hp : Pd z = true <;> simp [hp]
    · have hx' : x ∈ M := by
        rcases List.mem_cons.1 hx with rfl | h
        · exact absurd rfl e
        · exact h
      have := ih h5 hx'
      rw [List.filter_cons_of_pos (by simpa using e)]
      by_cases hp : Pd z = true
      · simp only [List.filter_cons_of_pos hp, List.length_cons]
        omega
      · simp only [List.filter_cons_of_neg hp]
        omega
theorem lt_cmp {x y : E} (h : Itree.lt x y) : cmpP x.a x.b y.a y.b ≤ 0 := by
  unfold Itree.lt at h
  unfold cmpP orI cmpI
  grind
theorem srt_get {L : List E} (h : Srt L) {i j : Nat} (hij : i < j) (hj : j < L.length) : Itree.lt (L[i]'(by omega)) L[j] := List.pairwise_iff_getElem.1 h i j (by omega) hj hij
set_option linter.unusedSimpArgs false in
set_option maxRecDepth 100000 in
set_option maxHeartbeats 4000000 in
theorem just_any (g : Nat) (cb : Array Value) (eg : ∀ args w, (callFunc g args).run Try.prog w = .ok (.enter g args) w) (Pd : E → Bool) (K G : List E) (w : World) (hb bm n : Nat) (v : Value)
    (hc : w.cell? ⟨hb, 0, none⟩ = some (.map (some bm))) (hbl : hb < w.heap.size) (hm : MapS kkE w bm n K) (hnd : K.Nodup) (hok : ∀ x ∈ K, okE x) (hG : IsE w v G) (hGe : K.filter Pd = G) (hs : Srt G) (hl : K.length ≤ 1000)
    (his : ∀ W x, Below w.heap.size w W → Calls Try.prog g (#[entV x] ++ cb) W fun e w' => e = .returned (.bool (Pd x)) ∧ Below W.heap.size W w') :
    Calls Try.prog 25 #[v, .func (.func g) #[] cb, .pointer (some ⟨hb, 0, none⟩)] w fun e w' => e = .returned (.bool true) ∧ Below w.heap.size w w' := by
  obtain ⟨A, c, rfl, hA⟩ := hG
  have HIS := Lib.hid his
  have HA := Lib.hid hA
  have HM := Lib.hid hm
  have HG := Lib.hid hGe
  have HC := Lib.hid (And.intro hc hbl)
  have HS := Lib.hid hs
  clear his hA hm hs hbl
  go_enter Try.func25, Try.ntmps25
  go_wp2_with (first
    | (at_range; refine wpList_range_E _ rfl _ rfl bm n K rfl HM.out hnd ?_; intro w0 hrg0 hb0 hs0)
    | fail)
  go_frame
  go_loopw [6] (fun v wr => ∃ (m : Nat) (M : List E) (cnt : Nat), v = .int .i64 m ∧ RngE wr bm w.heap.size n K M cnt ∧ m + (M.filter Pd).length = G.length ∧ m ≤ 1000 ∧ Below w.heap.size w wr) (fun _ wr => wr.rangeLeft bm w.heap.size)
  case atStart => exact ⟨0, K, K.length, rfl, hrg0, by rw [hGe]; omega, by omega, hb0⟩
  case round =>
    clear hrg0 hb0 hs0
    obtain ⟨m, M, cnt, rfl, hrg, hcnt, hm, hbl⟩ := hrel
    have RG := Lib.hid hrg
    have BL := Lib.hid hbl
    have HK := Lib.hid hcnt
    clear hrg hbl hcnt
    go_wp2_with (first
      | (at_next; refine wpList_next_E _ rfl _ rfl bm w.heap.size n K M cnt rfl RG.out hok ?_ ?_)
      | fail)
    · intro hM0
      subst hM0
      have hmG : m = G.length := by have := HK.out; simpa using this
      subst hmG
      clear HK
      go_wp2_with fail
      go_loopw [23] (fun v wr => ∃ i : Nat, v = .int .i64 i ∧ i ≤ G.length ∧ Below w.heap.size w wr ∧ MapS kkE wr bm n K) (fun v _ => G.length - (intOf v).toNat)
      case atStart => exact ⟨0, rfl, Nat.zero_le _, BL.out, RG.out.map⟩
      case round =>
        clear BL RG
        obtain ⟨i, rfl, hi, hb1, hm1⟩ := hrel
        have BL := Lib.hid hb1
        have MP := Lib.hid hm1
        clear hb1 hm1
        by_cases hil : i < G.length
        · obtain ⟨b, off, rfl, hlt, hcell⟩ := HA.out (by omega)
          have CE := Lib.hid hcell
          have PD := Lib.hid (show Pd G[i] = true ∧ G[i] ∈ K by
            have hmem : G[i] ∈ K.filter Pd := by rw [hGe]; exact List.getElem_mem _
            exact ⟨(List.mem_filter.1 hmem).2, (List.mem_filter.1 hmem).1⟩)
          have PV := Lib.hid (fun (j : Nat) (h : i = j + 1) => show cmpP (G[j]'(by omega)).a (G[j]'(by omega)).b G[i].a G[i].b ≤ 0 from lt_cmp (srt_get HS.out (by omega) (by omega)))
          obtain ⟨y0, y1, y2⟩ := hcell i hil
          have z0 := (BL.out.cell (p := ⟨b, off + i * 3, none⟩) hlt).trans y0
          have z1 := (BL.out.cell (p := ⟨b, off + i * 3 + 1, none⟩) hlt).trans y1
          have z2 := (BL.out.cell (p := ⟨b, off + i * 3 + 2, none⟩) hlt).trans y2
          clear hcell y0 y1 y2
          obtain ⟨e, he⟩ : ∃ e, G[i] = e := ⟨_, rfl⟩
          rw [he] at z0 z1 z2 PD
          have HE := Lib.hid he
          have i0 : (i : Int) < (G.length : Int) := by omega
          have i1 : (0 : Int) ≤ (i : Int) := by omega
          clear he
          go_upto_region 10 with fail
          obtain ⟨X, hX⟩ : ∃ X, wr.alloc (.cells #[.int .u64 e.a, .int .u64 e.b, .int .u64 e.n] 53) = X := ⟨_, rfl⟩
          have BX := Lib.hid (show Below w.heap.size w X by rw [← hX]; exact BL.out.alloc BL.out.size _)
          have MX := Lib.hid (show MapS kkE X bm n K by rw [← hX]; exact MP.out.below ((Below.refl _ _).alloc (Nat.le_refl _) _))
          have EX := Lib.hid (show EBox X wr.heap.size e by rw [← hX]; exact ebox_at _ e _ _ rfl)
          try rw [hX]
          clear hX z0 z1 z2
          generalize wr.heap.size = he at *
          have lk : (Instr.lookup 51 (.map (some bm)) (.agg #[.int .u64 e.a, .int .u64 e.b, .int .u64 e.n]) false).run Try.prog X.drew = .ok (.int .i64 1) X.drew := by
            have := MapS.look (MX.out.below (Below.refl _ _).drew) e (hok e PD.out.2)
            rw [if_pos PD.out.2] at this
            exact this
          have TI := Lib.hid (fun (V : World) (h : Below w.heap.size w V) => show Calls Try.prog g (#[entV e] ++ cb) V fun e w' => e = .returned (.bool true) ∧ Below V.heap.size V w' by
            have := HIS.out V e h
            rw [PD.out.1] at this
            exact this)
          cases i with
          | zero =>
            have CK := Lib.hid (fun (w' : World) (h : Below X.heap.size X w') => (⟨((BX.out.trans (h.mono BX.out.size)).cell (p := ⟨hb, 0, none⟩) HC.out.2).trans HC.out.1, (EX.out.below h).c0, (EX.out.below h).c1, (EX.out.below h).c2⟩ : w'.cell? ⟨hb, 0, none⟩ = some (.map (some bm)) ∧ w'.cell? ⟨he, 0, none⟩ = some (.int .u64 e.a) ∧ w'.cell? ⟨he, 1, none⟩ = some (.int .u64 e.b) ∧ w'.cell? ⟨he, 2, none⟩ = some (.int .u64 e.n)))
            clear hc
            have LKS := Lib.hid (fun (w' : World) (h : Below X.heap.size X w') => show w'.cell? ⟨hb, 0, none⟩ = some (.map (some bm)) ∧ w'.cell? ⟨he, 0, none⟩ = some (.int .u64 e.a) ∧ w'.cell? ⟨he, 1, none⟩ = some (.int .u64 e.b) ∧ w'.cell? ⟨he, 2, none⟩ = some (.int .u64 e.n) ∧ (Instr.lookup 51 (.map (some bm)) (.agg #[.int .u64 e.a, .int .u64 e.b, .int .u64 e.n]) false).run Try.prog w' = .ok (.int .i64 1) w' from ⟨(CK.out w' h).1, (CK.out w' h).2.1, (CK.out w' h).2.2.1, (CK.out w' h).2.2.2, by
              have := MapS.look (MX.out.below h) e (hok e PD.out.2)
              rw [if_pos PD.out.2] at this
              exact this⟩)
            clear lk
            refine wp_region_held_drew (S := (fun w' => w'.cell? ⟨hb, 0, none⟩ = some (.map (some bm)) ∧ w'.cell? ⟨he, 0, none⟩ = some (.int .u64 e.a) ∧ w'.cell? ⟨he, 1, none⟩ = some (.int .u64 e.b) ∧ w'.cell? ⟨he, 2, none⟩ = some (.int .u64 e.n) ∧ (Instr.lookup 51 (.map (some bm)) (.agg #[.int .u64 e.a, .int .u64 e.b, .int .u64 e.n]) false).run Try.prog w' = .ok (.int .i64 1) w')) (by kernel_rfl) ?_ (fun hHeld => ?_)
            · exact LKS.out _ (Below.refl _ _).drew
            refine wpAnyH_take (i := 0) (oi := { dst := some 28, op := Op.load 51 (Operand.tmp 2), type := 51, pos := "outright.go:49", after := #[], guard := none }) (v := ?_) rfl (by kernel_rfl) (by kernel_rfl) (by kernel_rfl) (fun _ _ _ h => h) (Or.inl ⟨by kernel_rfl, ?_⟩) (by assumption) ?_
            rotate_left
            · (intro w hSw; (try dsimp only at hSw); go_simp; try (with_reducible rfl))
            simp only [Act.put, List.setIfInBounds_toArray, List.set_cons_zero, List.set_cons_succ]
            refine wpAnyH_take (i := 1) (oi := { dst := some 29, op := Op.load 53 (Operand.tmp 9), type := 53, pos := "outright.go:49", after := #[], guard := none }) (v := ?_) rfl (by kernel_rfl) (by kernel_rfl) (by kernel_rfl) (fun _ _ _ h => h) (Or.inl ⟨by kernel_rfl, ?_⟩) (by assumption) ?_
            rotate_left
            · (intro w hSw; (try dsimp only at hSw); go_simp; try (with_reducible rfl))
            simp only [Act.put, List.setIfInBounds_toArray, List.set_cons_zero, List.set_cons_succ]
            refine wpAnyH_take (i := 2) (oi := { dst := some 30, op := Op.lookup 51 (Operand.tmp 28) (Operand.tmp 29) false, type := 3, pos := "outright.go:49", after := #[{ on := 0, ground := Ground.data }, { on := 1, ground := Ground.data }], guard := none }) (v := ?_) rfl (by kernel_rfl) (by kernel_rfl) (by kernel_rfl) (fun _ _ _ h => h) (Or.inl ⟨by kernel_rfl, ?_⟩) (by assumption) ?_
            rotate_left
            · (intro w hSw; (try dsimp only at hSw); go_simp; try (with_reducible rfl))
            simp only [Act.put, List.setIfInBounds_toArray, List.set_cons_zero, List.set_cons_succ]
            refine wpAnyH_take (i := 3) (oi := { dst := some 31, op := Op.binOp BinOp.eql 3 (Operand.tmp 30) (Operand.const (Value.int IntKind.i64 0)) 3, type := 4, pos := "outright.go:49", after := #[{ on := 2, ground := Ground.data }], guard := none }) (v := ?_) rfl (by kernel_rfl) (by kernel_rfl) (by kernel_rfl) (fun _ _ _ h => h) (Or.inl ⟨by kernel_rfl, ?_⟩) (by assumption) ?_
            rotate_left
            · (intro w hSw; (try dsimp only at hSw); go_simp; try (with_reducible rfl))
            simp only [Act.put, List.setIfInBounds_toArray, List.set_cons_zero, List.set_cons_succ]
            refine wpAnyH_take (i := 4) (oi := { dst := some 32, op := Op.move (Operand.tmp 31), type := 4, pos := "outright.go:49", after := #[{ on := 3, ground := Ground.data }], guard := none }) (v := ?_) rfl (by kernel_rfl) (by kernel_rfl) (by kernel_rfl) (fun _ _ _ h => h) (Or.inl ⟨by kernel_rfl, ?_⟩) (by assumption) ?_
            rotate_left
            · (intro w hSw; (try dsimp only at hSw); go_simp; try (with_reducible rfl))
            simp only [Act.put, List.setIfInBounds_toArray, List.set_cons_zero, List.set_cons_succ]
            refine wpAnyH_take (i := 5) (oi := { dst := some 33, op := Op.move (Operand.tmp 1), type := 55, pos := "outright.go:49", after := #[{ on := 4, ground := Ground.guard }], guard := some (4, false) }) (v := ?_) rfl (by kernel_rfl) (by kernel_rfl) (by kernel_rfl) (fun _ _ _ h => h) (Or.inl ⟨by kernel_rfl, ?_⟩) (by assumption) ?_
            rotate_left
            · (intro w hSw; (try dsimp only at hSw); go_simp; try (with_reducible rfl))
            simp only [Act.put, List.setIfInBounds_toArray, List.set_cons_zero, List.set_cons_succ]
            refine wpAnyH_take (i := 6) (oi := { dst := some 34, op := Op.load 53 (Operand.tmp 9), type := 53, pos := "outright.go:49", after := #[{ on := 4, ground := Ground.guard }], guard := some (4, false) }) (v := ?_) rfl (by kernel_rfl) (by kernel_rfl) (by kernel_rfl) (fun _ _ _ h => h) (Or.inl ⟨by kernel_rfl, ?_⟩) (by assumption) ?_
            rotate_left
            · (intro w hSw; (try dsimp only at hSw); go_simp; try (with_reducible rfl))
            simp only [Act.put, List.setIfInBounds_toArray, List.set_cons_zero, List.set_cons_succ]
            refine wpAnyH_ready (rs := [7]) (by kernel_rfl) (by simp) ?_
            refine AllReadyH.cons (o := { dst := some 35, op := Op.call { callee := Callee.value (Operand.tmp 33), args := #[Operand.tmp 34], argTypes := #[53] }, type := 4, pos := "outright.go:49", after := #[{ on := 5, ground := Ground.data }, { on := 6, ground := Ground.data }, { on := 4, ground := Ground.chain }, { on := 4, ground := Ground.guard }], guard := some (4, false) }) rfl (fun K hK => ?_) AllReadyH.nil
            go_simp
            refine (TI.out _ (BX.out.trans ((Below.refl _ _).drew.mono BX.out.size))).mono ?_
            rintro e1 w1 ⟨rfl, b1⟩
            have B1 := Lib.hid (show Below X.heap.size X w1 from (Below.refl _ _).drew.trans b1)
            clear b1
            refine hK.out _ _ ?_ (fun hHeld => ?_)
            · exact LKS.out _ B1.out
            clear hK K
            try simp only [Act.put, List.setIfInBounds_toArray, List.set_cons_zero, List.set_cons_succ]
            refine wpAnyH_take (i := 8) (oi := { dst := some 36, op := Op.unOp UnOp.not 4 (Operand.tmp 35), type := 4, pos := "outright.go:49", after := #[{ on := 7, ground := Ground.data }, { on := 4, ground := Ground.guard }], guard := some (4, false) }) (v := ?_) rfl (by kernel_rfl) (by kernel_rfl) (by kernel_rfl) (fun _ _ _ h => h) (Or.inl ⟨by kernel_rfl, ?_⟩) (by assumption) ?_
            rotate_left
            · (intro w hSw; (try dsimp only at hSw); go_simp; try (with_reducible rfl))
            simp only [Act.put, List.setIfInBounds_toArray, List.set_cons_zero, List.set_cons_succ]
            refine wpAnyH_take (i := 9) (oi := { dst := some 37, op := Op.pick (Operand.tmp 32) (Operand.const (Value.bool true)) (Operand.tmp 36), type := 4, pos := "outright.go:49", after := #[{ on := 4, ground := Ground.data }, { on := 8, ground := Ground.data }], guard := none }) (v := ?_) rfl (by kernel_rfl) (by kernel_rfl) (by kernel_rfl) (fun _ _ _ h => h) (Or.inl ⟨by kernel_rfl, ?_⟩) (by assumption) ?_
            rotate_left
            · (intro w hSw; (try dsimp only at hSw); go_simp; try (with_reducible rfl))
            simp only [Act.put, List.setIfInBounds_toArray, List.set_cons_zero, List.set_cons_succ]
            refine wpAnyH_take (i := 10) (oi := { dst := some 38, op := Op.move (Operand.tmp 37), type := 4, pos := "outright.go:49", after := #[{ on := 9, ground := Ground.data }, { on := 7, ground := Ground.chain }], guard := none }) (v := ?_) rfl (by kernel_rfl) (by kernel_rfl) (by kernel_rfl) (fun _ _ _ h => h) (Or.inl ⟨by kernel_rfl, ?_⟩) (by assumption) ?_
            rotate_left
            · (intro w hSw; (try dsimp only at hSw); go_simp; try (with_reducible rfl))
            simp only [Act.put, List.setIfInBounds_toArray, List.set_cons_zero, List.set_cons_succ]
            refine wpAnyH_take (i := 11) (oi := { dst := some 39, op := Op.move (Operand.tmp 8), type := 3, pos := "outright.go:49", after := #[{ on := 10, ground := Ground.guard }], guard := some (10, false) }) (v := ?_) rfl (by kernel_rfl) (by kernel_rfl) (by kernel_rfl) (fun _ _ _ h => h) (Or.inl ⟨by kernel_rfl, ?_⟩) (by assumption) ?_
            rotate_left
            · (intro w hSw; (try dsimp only at hSw); go_simp; try (with_reducible rfl))
            simp only [Act.put, List.setIfInBounds_toArray, List.set_cons_zero, List.set_cons_succ]
            refine wpAnyH_take (i := 12) (oi := { dst := some 40, op := Op.binOp BinOp.gtr 3 (Operand.tmp 39) (Operand.const (Value.int IntKind.i64 0)) 3, type := 4, pos := "outright.go:49", after := #[{ on := 11, ground := Ground.data }, { on := 10, ground := Ground.guard }], guard := some (10, false) }) (v := ?_) rfl (by kernel_rfl) (by kernel_rfl) (by kernel_rfl) (fun _ _ _ h => h) (Or.inl ⟨by kernel_rfl, ?_⟩) (by assumption) ?_
            rotate_left
            · (intro w hSw; (try dsimp only at hSw); go_simp; try (with_reducible rfl))
            simp only [Act.put, List.setIfInBounds_toArray, List.set_cons_zero, List.set_cons_succ]
            refine wpAnyH_take (i := 13) (oi := { dst := some 41, op := Op.move (Operand.tmp 40), type := 4, pos := "outright.go:49", after := #[{ on := 12, ground := Ground.data }, { on := 10, ground := Ground.chain }, { on := 10, ground := Ground.guard }], guard := some (10, false) }) (v := ?_) rfl (by kernel_rfl) (by kernel_rfl) (by kernel_rfl) (fun _ _ _ h => h) (Or.inl ⟨by kernel_rfl, ?_⟩) (by assumption) ?_
            rotate_left
            · (intro w hSw; (try dsimp only at hSw); go_simp; try (with_reducible rfl))
            simp only [Act.put, List.setIfInBounds_toArray, List.set_cons_zero, List.set_cons_succ]
            refine wpAnyH_take (i := 14) (oi := { dst := some 42, op := Op.move (Operand.tmp 0), type := 39, pos := "outright.go:49", after := #[{ on := 13, ground := Ground.guard }], guard := some (13, true) }) (v := undef) rfl (by kernel_rfl) (by kernel_rfl) (by kernel_rfl) (fun _ _ _ h => h) (Or.inr ⟨by kernel_rfl, rfl⟩) (by assumption) ?_
            simp only [Act.put, List.setIfInBounds_toArray, List.set_cons_zero, List.set_cons_succ]
            refine wpAnyH_take (i := 15) (oi := { dst := some 43, op := Op.move (Operand.tmp 8), type := 3, pos := "outright.go:49", after := #[{ on := 13, ground := Ground.guard }], guard := some (13, true) }) (v := undef) rfl (by kernel_rfl) (by kernel_rfl) (by kernel_rfl) (fun _ _ _ h => h) (Or.inr ⟨by kernel_rfl, rfl⟩) (by assumption) ?_
            simp only [Act.put, List.setIfInBounds_toArray, List.set_cons_zero, List.set_cons_succ]
            refine wpAnyH_take (i := 16) (oi := { dst := some 44, op := Op.binOp BinOp.sub 3 (Operand.tmp 43) (Operand.const (Value.int IntKind.i64 1)) 3, type := 3, pos := "outright.go:49", after := #[{ on := 15, ground := Ground.data }, { on := 13, ground := Ground.guard }], guard := some (13, true) }) (v := undef) rfl (by kernel_rfl) (by kernel_rfl) (by kernel_rfl) (fun _ _ _ h => h) (Or.inr ⟨by kernel_rfl, rfl⟩) (by assumption) ?_
            simp only [Act.put, List.setIfInBounds_toArray, List.set_cons_zero, List.set_cons_succ]
            refine wpAnyH_take (i := 17) (oi := { dst := some 45, op := Op.indexAddr 39 (Operand.tmp 42) (Operand.tmp 44), type := 0, pos := "outright.go:49", after := #[{ on := 14, ground := Ground.data }, { on := 16, ground := Ground.data }, { on := 13, ground := Ground.guard }], guard := some (13, true) }) (v := undef) rfl (by kernel_rfl) (by kernel_rfl) (by kernel_rfl) (fun _ _ _ h => h) (Or.inr ⟨by kernel_rfl, rfl⟩) (by assumption) ?_
            simp only [Act.put, List.setIfInBounds_toArray, List.set_cons_zero, List.set_cons_succ]
            refine wpAnyH_take (i := 18) (oi := { dst := some 46, op := Op.fieldAddr 53 (Operand.tmp 45) 0, type := 0, pos := "outright.go:49", after := #[{ on := 17, ground := Ground.data }, { on := 13, ground := Ground.guard }], guard := some (13, true) }) (v := undef) rfl (by kernel_rfl) (by kernel_rfl) (by kernel_rfl) (fun _ _ _ h => h) (Or.inr ⟨by kernel_rfl, rfl⟩) (by assumption) ?_
            simp only [Act.put, List.setIfInBounds_toArray, List.set_cons_zero, List.set_cons_succ]
            refine wpAnyH_take (i := 19) (oi := { dst := some 47, op := Op.load 32 (Operand.tmp 46), type := 32, pos := "outright.go:49", after := #[{ on := 18, ground := Ground.data }, { on := 13, ground := Ground.guard }], guard := some (13, true) }) (v := undef) rfl (by kernel_rfl) (by kernel_rfl) (by kernel_rfl) (fun _ _ _ h => h) (Or.inr ⟨by kernel_rfl, rfl⟩) (by assumption) ?_
            simp only [Act.put, List.setIfInBounds_toArray, List.set_cons_zero, List.set_cons_succ]
            refine wpAnyH_take (i := 20) (oi := { dst := some 48, op := Op.fieldAddr 53 (Operand.tmp 9) 0, type := 0, pos := "outright.go:49", after := #[{ on := 13, ground := Ground.guard }], guard := some (13, true) }) (v := undef) rfl (by kernel_rfl) (by kernel_rfl) (by kernel_rfl) (fun _ _ _ h => h) (Or.inr ⟨by kernel_rfl, rfl⟩) (by assumption) ?_
            simp only [Act.put, List.setIfInBounds_toArray, List.set_cons_zero, List.set_cons_succ]
            refine wpAnyH_take (i := 21) (oi := { dst := some 49, op := Op.load 32 (Operand.tmp 48), type := 32, pos := "outright.go:49", after := #[{ on := 20, ground := Ground.data }, { on := 13, ground := Ground.guard }], guard := some (13, true) }) (v := undef) rfl (by kernel_rfl) (by kernel_rfl) (by kernel_rfl) (fun _ _ _ h => h) (Or.inr ⟨by kernel_rfl, rfl⟩) (by assumption) ?_
            simp only [Act.put, List.setIfInBounds_toArray, List.set_cons_zero, List.set_cons_succ]
            refine wpAnyH_take (i := 22) (oi := { dst := some 50, op := Op.call { callee := Callee.value (Operand.func 26), args := #[Operand.tmp 47, Operand.tmp 49], argTypes := #[32, 32] }, type := 3, pos := "outright.go:49", after := #[{ on := 19, ground := Ground.data }, { on := 21, ground := Ground.data }, { on := 13, ground := Ground.chain }, { on := 13, ground := Ground.guard }], guard := some (13, true) }) (v := undef) rfl (by kernel_rfl) (by kernel_rfl) (by kernel_rfl) (fun _ _ _ h => h) (Or.inr ⟨by kernel_rfl, rfl⟩) (by assumption) ?_
            simp only [Act.put, List.setIfInBounds_toArray, List.set_cons_zero, List.set_cons_succ]
            refine wpAnyH_take (i := 23) (oi := { dst := some 51, op := Op.binOp BinOp.gtr 3 (Operand.tmp 50) (Operand.const (Value.int IntKind.i64 0)) 3, type := 4, pos := "outright.go:49", after := #[{ on := 22, ground := Ground.data }, { on := 13, ground := Ground.guard }], guard := some (13, true) }) (v := undef) rfl (by kernel_rfl) (by kernel_rfl) (by kernel_rfl) (fun _ _ _ h => h) (Or.inr ⟨by kernel_rfl, rfl⟩) (by assumption) ?_
            simp only [Act.put, List.setIfInBounds_toArray, List.set_cons_zero, List.set_cons_succ]
            refine wpAnyH_take (i := 24) (oi := { dst := some 52, op := Op.pick (Operand.tmp 41) (Operand.tmp 51) (Operand.const (Value.bool false)), type := 4, pos := "outright.go:49", after := #[{ on := 13, ground := Ground.data }, { on := 23, ground := Ground.data }, { on := 10, ground := Ground.guard }], guard := some (10, false) }) (v := ?_) rfl (by kernel_rfl) (by kernel_rfl) (by kernel_rfl) (fun _ _ _ h => h) (Or.inl ⟨by kernel_rfl, ?_⟩) (by assumption) ?_
            rotate_left
            · (intro w hSw; (try dsimp only at hSw); go_simp; try (with_reducible rfl))
            simp only [Act.put, List.setIfInBounds_toArray, List.set_cons_zero, List.set_cons_succ]
            refine wpAnyH_take (i := 25) (oi := { dst := some 53, op := Op.pick (Operand.tmp 38) (Operand.const (Value.bool true)) (Operand.tmp 52), type := 4, pos := "outright.go:49", after := #[{ on := 10, ground := Ground.data }, { on := 24, ground := Ground.data }], guard := none }) (v := ?_) rfl (by kernel_rfl) (by kernel_rfl) (by kernel_rfl) (fun _ _ _ h => h) (Or.inl ⟨by kernel_rfl, ?_⟩) (by assumption) ?_
            rotate_left
            · (intro w hSw; (try dsimp only at hSw); go_simp; try (with_reducible rfl))
            simp only [Act.put, List.setIfInBounds_toArray, List.set_cons_zero, List.set_cons_succ]
            refine wpAnyH_done (by kernel_rfl) ?_ _
            go_wp2_with fail
            go_roundw
            case rel => exact ⟨1, rfl, by omega, BX.out.trans (B1.out.mono BX.out.size), MX.out.below B1.out⟩
            case measure => simp [intOf]; omega
          | succ j =>
            obtain ⟨p, hp⟩ : ∃ p, G[j]'(by omega) = p := ⟨_, rfl⟩
            have pv : cmpP p.a p.b e.a e.b ≤ 0 := by
              have := PV.out j rfl
              rw [HE.out, hp] at this
              exact this
            obtain ⟨y0, y1, _⟩ := CE.out j (by omega)
            rw [hp] at y0 y1
            have CK := Lib.hid (fun (w' : World) (h : Below X.heap.size X w') => (⟨((BX.out.trans (h.mono BX.out.size)).cell (p := ⟨hb, 0, none⟩) HC.out.2).trans HC.out.1, (EX.out.below h).c0, (EX.out.below h).c1, (EX.out.below h).c2, ((BX.out.trans (h.mono BX.out.size)).cell (p := ⟨b, off + j * 3, none⟩) hlt).trans y0, ((BX.out.trans (h.mono BX.out.size)).cell (p := ⟨b, off + j * 3 + 1, none⟩) hlt).trans y1⟩ : w'.cell? ⟨hb, 0, none⟩ = some (.map (some bm)) ∧ w'.cell? ⟨he, 0, none⟩ = some (.int .u64 e.a) ∧ w'.cell? ⟨he, 1, none⟩ = some (.int .u64 e.b) ∧ w'.cell? ⟨he, 2, none⟩ = some (.int .u64 e.n) ∧ w'.cell? ⟨b, off + j * 3, none⟩ = some (.int .u64 p.a) ∧ w'.cell? ⟨b, off + j * 3 + 1, none⟩ = some (.int .u64 p.b)))
            have e5 : IntKind.i64.wrap (((j + 1 : Nat) : Int) - 1) = (j : Int) := by
              have : ((j + 1 : Nat) : Int) - 1 = (j : Int) := by omega
              rw [this]
              exact IntWalk.i64_in _ (by have : G.length ≤ 1000 := (by rw [← hGe]; exact Nat.le_trans (List.length_filter_le _ _) hl); omega)
            have e5b : IntKind.i64.wrap ((j : Int) + 1 - 1) = (j : Int) := e5
            have e5c : IntKind.i64.wrap (j : Int) = (j : Int) := by
              have h : ((j + 1 : Nat) : Int) - 1 = (j : Int) := by omega
              rw [h] at e5
              exact e5
            have e6 : (0 : Int) ≤ (j : Int) := by omega
            have e7 : (j : Int) < (G.length : Int) := by omega
            have e8 : decide (0 < ((j + 1 : Nat) : Int)) = true := by (first | (simp; done) | (simp; omega))
            have e9 : decide (0 < cmpP p.a p.b e.a e.b) = false := by (first | (simp; done) | (simp; omega))
            clear hc y0 y1 hp pv
            go_region_held3 (fun w' => w'.cell? ⟨hb, 0, none⟩ = some (.map (some bm)) ∧ w'.cell? ⟨he, 0, none⟩ = some (.int .u64 e.a) ∧ w'.cell? ⟨he, 1, none⟩ = some (.int .u64 e.b) ∧ w'.cell? ⟨he, 2, none⟩ = some (.int .u64 e.n) ∧ w'.cell? ⟨b, off + j * 3, none⟩ = some (.int .u64 p.a) ∧ w'.cell? ⟨b, off + j * 3 + 1, none⟩ = some (.int .u64 p.b)) (first | exact CK.out _ (Below.refl _ _).drew | exact CK.out _ B2.out | exact CK.out _ B1.out) (first
              | (go_at_fn g; (go_split_ands; (refine (TI.out _ (BX.out.trans ((Below.refl _ _).drew.mono BX.out.size))).mono ?_); rintro e1 w1 ⟨rfl, b1⟩; have B1 := Lib.hid (show Below X.heap.size X w1 from (Below.refl _ _).drew.trans b1); clear b1 lk))
              | (go_at_call 26; (go_split_ands; (with_reducible refine (Compare_any _ _ _ _ _).mono ?_); rintro e2 w2 ⟨rfl, b2⟩; have B2 := Lib.hid (show Below X.heap.size X w2 from B1.out.trans (b2.mono B1.out.size)); clear b2 B1))
              | fail)
            all_goals (
              go_wp2_with fail
              go_roundw
              case rel => exact ⟨j + 1 + 1, by go_num, by omega, BX.out.trans (B2.out.mono BX.out.size), MX.out.below B2.out⟩
              case measure => simp [intOf]; omega)
        · obtain rfl : i = G.length := by omega
          go_wp2_with fail
          go_ret
          exact ⟨rfl, BL.out⟩
    · intro x y w1 cnt1 hxM rg1 hlt b1 hs1 hen
      have BL1 := Lib.hid (show Below w.heap.size w w1 from BL.out.trans b1)
      have RG1 := Lib.hid rg1
      have NM := Lib.hid (show M.Nodup by obtain ⟨_, _, _, _, h, _⟩ := RG.out; exact h)
      have OL := Lib.hid (one_less Pd x M NM.out hxM)
      have HX := Lib.hid (And.intro hlt hxM)
      have FG := Lib.hid (show G.length ≤ 1000 by rw [← hGe]; exact Nat.le_trans (List.length_filter_le _ _) hl)
      clear rg1 b1 hlt hxM
      go_wp2_with fail
      refine (HIS.out _ x (BL1.out.alloc BL1.out.size _)).mono ?_
      rintro e2 w2 ⟨rfl, b2⟩
      have B2 := Lib.hid (((Below.refl _ _).alloc (Nat.le_refl _) _).trans (b2.mono (by simp)))
      have RG2 := Lib.hid (RG1.out.below B2.out)
      have BL2 := Lib.hid (BL1.out.trans (B2.out.mono BL1.out.size))
      clear b2 hen
      cases hp : Pd x with
      | true =>
        have HP := Lib.hid hp
        clear hp
        go_wp2_with fail
        go_roundw
        case rel => exact ⟨m + 1, _, cnt1, by go_num, RG2.out, by have := OL.out; rw [HP.out, if_pos rfl] at this; have := HK.out; omega, by have := OL.out; rw [HP.out, if_pos rfl] at this; have := HK.out; have := FG.out; omega, BL2.out⟩
        case measure => rw [RG2.out.left, RG.out.left]; exact HX.out.1
      | false =>
        have HP := Lib.hid hp
        clear hp
        go_wp2_with fail
        go_roundw
        case rel => exact ⟨m, _, cnt1, rfl, RG2.out, by have := OL.out; rw [HP.out, if_neg (by simp)] at this; have := HK.out; omega, hm, BL2.out⟩
        case measure => rw [RG2.out.left, RG.out.left]; exact HX.out.1
end Go.Proofs.Ytbifgmamjdniaaa
