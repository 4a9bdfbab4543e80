/- The library's Grow of nothing, Concat of two lists of entities. -/
/- Ends of a state, where no more than twelve words are sorted. -/
import Derived.Test.YtmolpogehgeebaaGreatmB
import Derived.Lib.AppendZeros
import Derived.Test.YtmolpogehgeebaaGreatmA
import Derived.Test.YtmolpogehgeebaaGreatbFC4
import Derived.Laws.MakeOwn
import Derived.Carry
namespace Go.Proofs.YtmolpogehgeebaaGreat
open Go.RowKit
theorem zeroCells_len (C : Array Value) (k : Nat) : (Builtin.zeroCells C k).size = k * C.size := by
  unfold Builtin.zeroCells
  induction k with
  | zero => simp
  | succ k ih => simp
/-- append of entities onto what the call owns. -/
theorem wpList_appEs {ops : Array Oper} {rest : List Oper} {o : Oper} {a : Act} {w : World} {Q : Exit → Act → World → Prop} (hgd : o.guard = none) (s x : Operand)
    (ho : o.op = .call { callee := .builtin .append, args := #[s, x], argTypes := #[74, 74] })
    (base : Nat) (v : Value) (rs : List ER) (hs : a.eval s = v) (hown : OwnE base w v rs) (ad : Addr) (m c : Nat) (news : List ER) (hm : m = news.length) (hx : a.eval x = .slice (some ad) m c)
    (hn : ∀ j u, (cellsE news)[j]? = some u → w.cell? (ad.add j) = some u) (h1 : ∀ u ∈ cellsE news, u.oneCell' = true) (hlen : rs.length + news.length ≤ 1000000) (hbase : base ≤ w.heap.size)
    (h : ∀ v' w', OwnE base w' v' (rs ++ news) → Below base w w' → wpList Tryz.prog ops Q rest (a.put o.dst v') w') :
    wpList Tryz.prog ops Q (o :: rest) a w := by
  subst hm
  obtain ⟨i0, hi, hz0, hz1, hz2⟩ := info_parts infoEnt
  refine wpList_append_own_at _ hgd s x 74 ho base 38 i0 _ 7 96 Tryz.underlying74 hi hz0 hz1 hz2 rfl (by omega) v _ _ hs hown ad news.length c (cellsE news) hx (cellsE_length news) hn h1 (by unfold maxLen; omega) (by omega) hbase ?_
  intro v' w' k1 k2 _ _
  refine h v' w' ?_ ((Below.refl _ _).grown k2 hbase fun k hk => (World.ownsRow.lt hown k hk).1)
  unfold OwnE
  rw [cellsE_append, List.length_append]
  exact k1
/-- The rows that a slice of entities reads. -/
theorem SE.rows {w : World} {v : Value} {l : List Ent} (h : SE w v l) (h0 : 0 < l.length) : ∃ ad c rs, v = .slice (some ad) l.length c ∧ rs.map (·.1) = l ∧ (∀ r ∈ rs, EAt w (.agg (ER.cells r)) r.1) ∧ ∀ W, Below w.heap.size w W → ∀ j u, (cellsE rs)[j]? = some u → W.cell? (ad.add j) = some u := by
  obtain ⟨A, c, rfl, hA, _⟩ := h
  obtain ⟨b, off, rfl, hlt, hc⟩ := hA h0
  obtain ⟨rs, e, k1, k2⟩ := rows_of l off hc
  refine ⟨_, c, rs, rfl, e, k1, fun W hb j u hj => ?_⟩
  have := rows_cells k2 j u hj
  rw [add_off] at this ⊢
  exact (hb.cell (p := ⟨b, off + j, none⟩) hlt).trans this
section
set_option maxRecDepth 100000
set_option maxHeartbeats 8000000
theorem grow_any (n : Nat) (w : World) (h0 : 0 < n) (hn : n ≤ 1000) :
    Calls Tryz.prog 185 #[.slice none 0 0, .int .i64 n] w fun e w' => ∃ u, e = .returned u ∧ OwnE w.heap.size w' u [] ∧ Below w.heap.size w w' := by
  obtain ⟨i0, hi, hz0, hz1, hz2⟩ := info_parts infoEnt
  obtain ⟨G, hG⟩ : ∃ G, grownCap w n 0 38 = G := ⟨_, rfl⟩
  have hr : ∀ ty, (Builtin.append_ #[74, 3] ty #[.slice none 0 0, .int .i64 (n : Int)]).run Tryz.prog w = _ := fun ty => Lib.run_append_nil_zeros w 74 3 ty 38 i0 _ .i64 .i64 Tryz.underlying74 Tryz.underlying3 hi hz0 n h0 (by rw [hz1]; omega) (by omega) (by rw [hz2]; omega)
  rw [hG] at hr
  have hGn : n ≤ G := by rw [← hG]; exact grownCap_ge w n 0 _
  have hGm : G ≤ maxLen := by rw [← hG]; exact grownCap_le_maxLen w n 0 _ (by unfold maxLen; omega)
  obtain ⟨ROW, hROW⟩ : ∃ ROW : Array Value, Builtin.zeroCells (Value.agg #[.bool false, .int .u64 0, .string ⟨#[]⟩, .int .u64 0, .int .u64 0, .slice none 0 0, .slice none 0 0]).cells n ++ Builtin.zeroCells (Value.agg #[.bool false, .int .u64 0, .string ⟨#[]⟩, .int .u64 0, .int .u64 0, .slice none 0 0, .slice none 0 0]).cells (G - n) = ROW := ⟨_, rfl⟩
  have hS : ROW.size = G * 7 := by
    rw [← hROW, Array.size_append, zeroCells_len, zeroCells_len]
    simp [Value.cells]
    omega
  rw [hROW] at hr
  have HR := Lib.hid hr
  have HS := Lib.hid hS
  have HGM := Lib.hid hGm
  have b1 : (0 : Int) < (n : Int) := by omega
  have b2 : (n : Int) ≤ 1000 := by omega
  have b3 : (0 : Int) ≤ (G : Int) := by omega
  clear hr hi hz0 hz1 hz2 hG hROW hS hGm hGn
  go_enter Tryz.func185, Tryz.ntmps185
  go_wp2_with (at_builtin; refine Lib.wpList_append_run _ rfl (.tmp 20) (.tmp 21) 74 3 rfl _ _ rfl rfl _ _ (HR.out _) ?_)
  go_ret
  refine ⟨.slice (some ⟨w.heap.size, 0, none⟩) 0 G, rfl, ⟨rfl, .inr ⟨w.heap.size, G, ROW, rfl, Nat.le_refl _, ?_, Nat.zero_le _, HGM.out, HS.out, rfl⟩⟩, ?_⟩
  · exact heap_alloc_new w _
  · first
    | exact ((Below.refl _ _).drew).alloc (by simp) _
    | exact ((Below.refl _ _).alloc (Nat.le_refl _) _).drew
theorem concat_any (g : Nat) (va vb : Value) (a b : List Ent) (w0 w : World) (hw0 : Below w0.heap.size w0 w) (hg : g < w.heap.size) (hc0 : w.cell? ⟨g, 0, none⟩ = some va) (hc1 : w.cell? ⟨g, 1, none⟩ = some vb) (ha : SE w0 va a) (hb : SE w0 vb b) (h0 : 0 < a.length) (h1 : 0 < b.length) (la : a.length ≤ 400) (lb : b.length ≤ 400) :
    Calls Tryz.prog 123 #[.slice (some ⟨g, 0, none⟩) 2 2] w fun e w' => ∃ u rs, e = .returned u ∧ OwnE w.heap.size w' u rs ∧ rs.map (·.1) = a ++ b ∧ (∀ r ∈ rs, EAt w0 (.agg (ER.cells r)) r.1) ∧ Below w.heap.size w w' := by
  obtain ⟨ad, ca, ra, rfl, ea, ka, na⟩ := ha.rows h0
  obtain ⟨bd, cb, rb, rfl, eb, kb, nb⟩ := hb.rows h1
  have HNA := Lib.hid (fun W (hb : Below w.heap.size w W) => na W (hw0.trans (hb.mono hw0.size)))
  have HNB := Lib.hid (fun W (hb : Below w.heap.size w W) => nb W (hw0.trans (hb.mono hw0.size)))
  have HLA := Lib.hid (show ra.length = a.length by rw [← ea, List.length_map])
  have HLB := Lib.hid (show rb.length = b.length by rw [← eb, List.length_map])
  have HFIN := Lib.hid (show (ra ++ rb).map (·.1) = a ++ b ∧ ∀ r ∈ ra ++ rb, EAt w0 (.agg (ER.cells r)) r.1 from ⟨by rw [List.map_append, ea, eb], fun r hr => (List.mem_append.1 hr).elim (ka r) (kb r)⟩)
  have HOA := Lib.hid (cellsE_oneC ka)
  have HOB := Lib.hid (cellsE_oneC kb)
  have HC0 := Lib.hid (fun W (hb : Below w.heap.size w W) => (hb.cell (p := ⟨g, 0, none⟩) hg).trans hc0)
  have HC1 := Lib.hid (fun W (hb : Below w.heap.size w W) => (hb.cell (p := ⟨g, 1, none⟩) hg).trans hc1)
  have CG := Lib.hid (grow_any (a.length + b.length) w (by omega) (by omega))
  have b1 : (0 : Int) < (a.length : Int) := by omega
  have b2 : (a.length : Int) ≤ 400 := by omega
  have b3 : (0 : Int) < (b.length : Int) := by omega
  have b4 : (b.length : Int) ≤ 400 := by omega
  clear na nb ea eb ka kb ha hb h0 h1 la lb hg hw0
  go_enter Tryz.func123, Tryz.ntmps123
  go_wp2
  go_loop [3, 11] (fun n i => (i = .int .i64 0 ∧ n = .int .i64 0) ∨ (i = .int .i64 1 ∧ n = .int .i64 (a.length : Int)) ∨ (i = .int .i64 2 ∧ n = .int .i64 ((a.length : Int) + (b.length : Int)))) (fun _ i => 2 - (intOf i).toNat)
  case atStart => exact .inl ⟨rfl, rfl⟩
  case round =>
    rcases hrel with ⟨rfl, rfl⟩ | ⟨rfl, rfl⟩ | ⟨rfl, rfl⟩
    · go_wp2
      exact ⟨.inr (.inl ⟨rfl, rfl⟩), by simp [intOf]⟩
    · go_wp2
      exact ⟨.inr (.inr ⟨rfl, rfl⟩), by simp [intOf]⟩
    · go_wp2_with (go_at_call 185; (refine (CG.out).mono ?_); rintro e w1 ⟨u, rfl, ho, hb⟩; have HO := Lib.hid ho; have HB := Lib.hid hb; clear ho hb)
      clear hc0 hc1
      go_loopw [6, 27] (fun u i wr => ((i = .int .i64 0 ∧ OwnE w.heap.size wr u []) ∨ (i = .int .i64 1 ∧ OwnE w.heap.size wr u ra) ∨ (i = .int .i64 2 ∧ OwnE w.heap.size wr u (ra ++ rb))) ∧ Below w.heap.size w wr) (fun _ i _ => 2 - (intOf i).toNat)
      case atStart => exact ⟨.inl ⟨rfl, HO.out⟩, HB.out⟩
      case round =>
        obtain ⟨hr, hb⟩ := hrel
        have HBR := Lib.hid hb
        have c0 := HC0.out wr hb
        have c1 := HC1.out wr hb
        have NA := Lib.hid (HNA.out wr hb)
        have NB := Lib.hid (HNB.out wr hb)
        clear hb
        rcases hr with ⟨rfl, ho⟩ | ⟨rfl, ho⟩ | ⟨rfl, ho⟩
        · have HO2 := Lib.hid ho
          clear ho
          go_wp2_with (at_builtin; refine wpList_appEs rfl (.tmp 31) (.tmp 32) rfl w.heap.size _ [] rfl HO2.out ad a.length ca ra HLA.out.symm rfl NA.out HOA.out (by have := HLA.out; simp; omega) HBR.out.size ?_; intro v2 w2 ho2 hb2; have HO3 := Lib.hid ho2; have HB3 := Lib.hid (HBR.out.trans hb2); clear ho2 hb2)
          exact ⟨⟨.inr (.inl ⟨rfl, HO3.out⟩), HB3.out⟩, by simp [intOf]⟩
        · have HO2 := Lib.hid ho
          clear ho
          go_wp2_with (at_builtin; refine wpList_appEs rfl (.tmp 31) (.tmp 32) rfl w.heap.size _ ra rfl HO2.out bd b.length cb rb HLB.out.symm rfl NB.out HOB.out (by have := HLA.out; have := HLB.out; omega) HBR.out.size ?_; intro v2 w2 ho2 hb2; have HO3 := Lib.hid ho2; have HB3 := Lib.hid (HBR.out.trans hb2); clear ho2 hb2)
          exact ⟨⟨.inr (.inr ⟨rfl, HO3.out⟩), HB3.out⟩, by simp [intOf]⟩
        · have HO2 := Lib.hid ho
          clear ho
          go_wp2
          go_ret
          exact ⟨_, _, rfl, HO2.out, HFIN.out.1, HFIN.out.2, HBR.out⟩
end
end Go.Proofs.YtmolpogehgeebaaGreat


namespace Go.Proofs.YtmolpogehgeebaaGreat
open Go.RowKit Go.Maps
/-- Something of the first k entities begins or ends there. -/
def edgesTo (l : List Ent) (k : Nat) (t : Int) : Prop := ∃ j, ∃ h : j < l.length, j < k ∧ (edgeV l[j].val t ∨ edgeP l[j].ps t)
def edgeIn (l : List Ent) (t : Int) : Prop := ∃ x ∈ l, edgeV x.val t ∨ edgeP x.ps t
theorem edgesTo_all (l : List Ent) (t : Int) : edgesTo l l.length t ↔ edgeIn l t := by
  constructor
  · rintro ⟨j, hj, _, h⟩
    exact ⟨_, List.getElem_mem hj, h⟩
  · rintro ⟨x, hx, h⟩
    obtain ⟨j, hj, rfl⟩ := List.getElem_of_mem hx
    exact ⟨j, hj, hj, h⟩
theorem edgesTo_next {l : List Ent} {k : Nat} (hk : k < l.length) (t : Int) : edgesTo l (k + 1) t ↔ edgesTo l k t ∨ (edgeV l[k].val t ∨ edgeP l[k].ps t) := by
  constructor
  · rintro ⟨j, hj, hjk, h⟩
    by_cases e : j = k
    · subst e; exact .inr h
    · exact .inl ⟨j, hj, by omega, h⟩
  · rintro (⟨j, hj, hjk, h⟩ | h)
    · exact ⟨j, hj, by omega, h⟩
    · exact ⟨k, hk, by omega, h⟩
/-- How far the gathering has come: k entities, and m words of the next one. -/
structure EI (l : List Ent) (u : Value) (rs : List ER) (bm : Nat) (w wr : World) (k : Nat) (E : List Int) (m : Nat) (K : List Int) (n : Nat) : Prop where
  row : OwnE w.heap.size wr u rs
  map : MU wr bm n K
  mem : ∀ t, t ∈ K ↔ edgesTo l k t ∨ t ∈ E.take m
  bel : Below w.heap.size w wr
  low : w.heap.size ≤ bm
  cnt : n ≤ 12 * k + m
theorem EI.below {l : List Ent} {u : Value} {rs : List ER} {bm k m n : Nat} {w wr w' : World} {E K : List Int} (h : EI l u rs bm w wr k E m K n) (hb : Below wr.heap.size wr w') : EI l u rs bm w w' k E m K n :=
  ⟨h.row.below hb, h.map.below hb, h.mem, h.bel.trans (hb.mono h.bel.size), h.low, h.cnt⟩
theorem EI.put {l : List Ent} {u : Value} {rs : List ER} {bm k m n : Nat} {w wr w' : World} {E K : List Int} (h : EI l u rs bm w wr k E m K n) (hm : m < E.length) (h1 : MU w' bm (n + 1) (addU E[m] K)) (hg : wr.grownBy w' (some bm)) : EI l u rs bm w w' k E (m + 1) (addU E[m] K) (n + 1) := by
  refine ⟨h.row.grown hg (.inr (h.map.apart h.row)), h1, fun t => ?_, h.bel.grown hg h.bel.size (fun q hq => by have e : bm = q := Option.some.inj hq; have := h.low; omega), h.low, by have := h.cnt; omega⟩
  rw [addU_mem, h.mem, List.take_succ_eq_append_getElem hm, List.mem_append, List.mem_singleton]
  constructor
  · rintro (h | h | h)
    · exact .inr (.inr h)
    · exact .inl h
    · exact .inr (.inl h)
  · rintro (h | h | h)
    · exact .inr (.inl h)
    · exact .inr (.inr h)
    · exact .inl h
theorem EI.next {l : List Ent} {u : Value} {rs : List ER} {bm k n : Nat} {w wr : World} {E K : List Int} (h : EI l u rs bm w wr k E E.length K n) (hk : k < l.length) (hE : EndsE l[k] E) (h12 : E.length ≤ 12) : EI l u rs bm w wr (k + 1) [] 0 K n := by
  refine ⟨h.row, h.map, fun t => ?_, h.bel, h.low, by have := h.cnt; omega⟩
  rw [h.mem, List.take_length, edgesTo_next hk, hE.mem]
  simp
/-- What Ends answers. -/
def EndsSt (l : List Ent) (w : World) (e : Ending) (w' : World) : Prop := ∃ u E, e = .returned u ∧ Se.OwnU w.heap.size w' u E ∧ E.Pairwise (· < ·) ∧ (∀ t, t ∈ E ↔ edgeIn l t) ∧ Below w.heap.size w w'
theorem nodup_of {M K : List Int} (hl : M.length = K.length) (hm : ∀ t, t ∈ M ↔ t ∈ K) (hn : K.Nodup) : M.Nodup := by
  induction K generalizing M with
  | nil =>
    have : M = [] := List.eq_nil_of_length_eq_zero (by simpa using hl)
    rw [this]; exact List.nodup_nil
  | cons x K ih =>
    obtain ⟨h1, h2⟩ := List.nodup_cons.1 hn
    have hx : x ∈ M := (hm x).2 (by simp)
    have hp := List.perm_cons_erase hx
    have hle : (M.erase x).length = K.length := by
      have := List.length_erase_of_mem hx
      rw [this, hl]; simp
    by_cases hxe : x ∈ M.erase x
    · have hsub : ∀ t ∈ K, t ∈ M.erase x := fun t ht => (List.mem_erase_of_ne fun e => h1 (by rw [← e]; exact ht)).2 ((hm t).2 (by simp [ht]))
      have := len_subA (x :: K) (M.erase x) (List.nodup_cons.2 ⟨h1, h2⟩) fun t ht => by
        rcases List.mem_cons.1 ht with e | ht
        · rw [e]; exact hxe
        · exact hsub t ht
      simp at this
      omega
    · refine hp.nodup_iff.2 (List.nodup_cons.2 ⟨hxe, ih hle (fun t => ?_) h2⟩)
      constructor
      · intro ht
        have hne : t ≠ x := fun e => hxe (by have h := ht; rw [e] at h; exact h)
        have := (hm t).1 (List.mem_of_mem_erase ht)
        rcases List.mem_cons.1 this with e | e
        · exact absurd e hne
        · exact e
      · intro ht
        exact (List.mem_erase_of_ne fun e => h1 (by rw [← e]; exact ht)).2 ((hm t).2 (by simp [ht]))
theorem strict_nodup {E : List Int} (h : E.Pairwise (· < ·)) : E.Nodup := h.imp fun h e => by rw [e] at h; exact Int.lt_irrefl _ h
theorem strict_of {E : List Int} (h : E.Pairwise (· ≤ ·)) (hn : E.Nodup) : E.Pairwise (· < ·) := (h.and hn).imp fun ⟨a, b⟩ => by
  have : ∀ x y : Int, x ≤ y → x ≠ y → x < y := fun x y a b => by omega
  exact this _ _ a b
theorem row_ext {E F : List Int} (hE : E.Pairwise (· < ·)) (hF : F.Pairwise (· < ·)) (h : ∀ t, t ∈ E ↔ t ∈ F) : E = F := by
  induction E generalizing F with
  | nil =>
    cases F with
    | nil => rfl
    | cons y F => exact absurd ((h y).2 (by simp)) (by simp)
  | cons x E ih =>
    cases F with
    | nil => exact absurd ((h x).1 (by simp)) (by simp)
    | cons y F =>
      obtain ⟨e1, e2⟩ := List.pairwise_cons.1 hE
      obtain ⟨f1, f2⟩ := List.pairwise_cons.1 hF
      have hxy : x = y := by
        rcases List.mem_cons.1 ((h x).1 (by simp)) with e | e
        · exact e
        · rcases List.mem_cons.1 ((h y).2 (by simp)) with g | g
          · exact g.symm
          · have := f1 x e; have := e1 y g; omega
      subst hxy
      rw [ih e2 f2 fun t => ?_]
      constructor
      · intro ht
        rcases List.mem_cons.1 ((h t).1 (by simp [ht])) with e | e
        · have := e1 t ht; omega
        · exact e
      · intro ht
        rcases List.mem_cons.1 ((h t).2 (by simp [ht])) with e | e
        · have := f1 t ht; omega
        · exact e
/-- append of one word onto what the call owns: what it grows. -/
theorem wpList_appU1 {ops : Array Oper} {rest : List Oper} {o : Oper} {a : Act} {w : World} {Q : Exit → Act → World → Prop} (hgd : o.guard = none) (s x : Operand)
    (ho : o.op = .call { callee := .builtin .append, args := #[s, x], argTypes := #[57, 57] })
    (base : Nat) (v : Value) (L : List Int) (hs : a.eval s = v) (hown : Se.OwnU base w v L) (g : Nat) (k : Int) (hx : a.eval x = .slice (some ⟨g, 0, none⟩) 1 1)
    (hcl : w.cell? ⟨g, 0, none⟩ = some (.int .u64 k)) (hlen : L.length ≤ 1000000) (hbase : base ≤ w.heap.size)
    (h : ∀ v' w', Se.OwnU base w' v' (L ++ [k]) → w.grownBy w' v.ownBlock → (v'.ownBlock = v.ownBlock ∨ v'.ownBlock = some w.heap.size) → wpList Tryz.prog ops Q rest (a.put o.dst v') w') :
    wpList Tryz.prog ops Q (o :: rest) a w := by
  obtain ⟨i0, hi, hz0, hz1, hz2⟩ := info_parts Se.infoU
  refine wpList_append_own_at _ hgd s x 57 ho base 22 i0 _ 1 8 Tryz.underlying57 hi hz0 hz1 hz2 rfl (by omega) v _ _ hs hown ⟨g, 0, none⟩ 1 1 [.int .u64 k] hx rfl ?_ ?_ (by unfold maxLen; omega) (by omega) hbase ?_
  · intro j u hj
    cases j with
    | zero => rw [add_off]; simp only [List.getElem?_cons_zero, Option.some.injEq] at hj; rw [← hj]; exact hcl
    | succ j => simp at hj
  · intro u hu
    rw [List.mem_singleton.1 hu]; rfl
  · intro v' w' k1 k2 _ k4
    refine h v' w' ?_ k2 k4
    unfold Se.OwnU
    rw [List.map_append, List.length_append]
    exact k1
theorem edge_ok {x : Ent} (hm : x.may) (hx : x.wide) {t : Int} (h : edgeV x.val t ∨ edgeP x.ps t) : okU t := by
  unfold okU
  rcases h with ⟨p, hp, h⟩ | ⟨q, hq, y, hy, h⟩
  · have h1 := (Se.Iset.mayP_iff p).1 (hm.val.may p hp)
    have h2 := hx.val p hp
    rcases h with rfl | rfl <;> omega
  · have h1 := (hm.ps.line q hq).1.good y hy
    have h2 := hx.a q hq y hy
    have h3 := h1.1
    have h4 := h1.2.1
    rcases h with rfl | rfl <;> omega
/-- What the range leaves. -/
structure ER2 (K : List Int) (bm r n : Nat) (w wr : World) (u : Value) (L M : List Int) (cnt : Nat) : Prop where
  rng : RngU wr bm r n K M cnt
  own : Se.OwnU w.heap.size wr u L
  mem : ∀ t, t ∈ K ↔ t ∈ L ∨ t ∈ M
  dis : L.Nodup ∧ ∀ t ∈ L, t ∉ M
  bel : Below w.heap.size w wr
  ap : ∀ q, u.ownBlock = some q → q ≠ bm ∧ q ≠ r
  lt : bm < wr.heap.size ∧ r < wr.heap.size ∧ w.heap.size ≤ r
theorem ER2.kept7 {K : List Int} {bm r n cnt : Nat} {w wr w7 : World} {u : Value} {L M : List Int} (h : ER2 K bm r n w wr u L M cnt) (hg7 : wr.grownBy w7 (some r)) : Se.OwnU w.heap.size w7 u L := World.ownsRow.kept h.own hg7 (by
  cases hq : u.ownBlock with
  | none => exact .inl rfl
  | some q => exact .inr (fun e => (h.ap q hq).2 (Option.some.inj e)))
theorem ER2.next {K : List Int} {bm r n cnt cnt' : Nat} {w wr w7 w8 w9 : World} {u v : Value} {L M : List Int} {x : Int} (h : ER2 K bm r n w wr u L M cnt) (hx : x ∈ M) (hr : RngU w7 bm r n K (M.filter fun y => !decide (y = x)) cnt') (hg7 : wr.grownBy w7 (some r)) (hb8 : Below w7.heap.size w7 w8) (ho : Se.OwnU w.heap.size w9 v (L ++ [x])) (hg9 : w8.grownBy w9 u.ownBlock) (hf : v.ownBlock = u.ownBlock ∨ v.ownBlock = some w8.heap.size) : ER2 K bm r n w w9 v (L ++ [x]) (M.filter fun y => !decide (y = x)) cnt' := by
  have s7 := hg7.size
  have s8 := hb8.size
  have s9 := hg9.size
  obtain ⟨l1, l2, l3⟩ := h.lt
  refine ⟨((hr.kept (row := none) ⟨hb8.os, hb8.tape, hb8.output, hb8.size, fun i hi _ => hb8.block i hi⟩ (by simp) (by simp)).kept hg9 (fun e => (h.ap bm e.symm).1 rfl) (fun e => (h.ap r e.symm).2 rfl)), ho, fun t => ?_, ⟨?_, fun t ht => ?_⟩, ?_, fun q hq => ?_, by omega, by omega, l3⟩
  · rw [h.mem, List.mem_append, List.mem_singleton, List.mem_filter]
    constructor
    · rintro (h | h)
      · exact .inl (.inl h)
      · by_cases e : t = x
        · exact .inl (.inr e)
        · exact .inr ⟨h, by simp [e]⟩
    · rintro ((h | h) | h)
      · exact .inl h
      · rw [h]; exact .inr hx
      · exact .inr h.1
  · refine List.nodup_append.2 ⟨h.dis.1, by simp, fun a ha b hb => ?_⟩
    rw [List.mem_singleton.1 hb]
    exact fun e => h.dis.2 a ha (by rw [e]; exact hx)
  · rw [List.mem_filter]
    rintro ⟨h1, h2⟩
    rcases List.mem_append.1 ht with h3 | h3
    · exact h.dis.2 t h3 h1
    · rw [List.mem_singleton.1 h3] at h2
      simp at h2
  · have b7 : Below w.heap.size w w7 := h.bel.grown hg7 h.bel.size fun q hq => by have e : r = q := Option.some.inj hq; omega
    exact (b7.trans (hb8.mono b7.size)).grown hg9 (by have := h.bel.size; omega) fun q hq => (World.ownsRow.lt h.own q hq).1
  · rcases hf with hf | hf
    · exact h.ap q (hf.symm.trans hq)
    · have e : w8.heap.size = q := Option.some.inj (hf.symm.trans hq)
      omega
section
set_option maxRecDepth 100000
set_option maxHeartbeats 8000000
theorem bEnds_any (v : Value) (s : St) (l : List Ent) (hsl : s.ns ++ s.es = l) (w : World) (h : SAt w v s) (hl : ∀ x ∈ l, x.may ∧ x.wide ∧ 0 < x.val.length ∧ 2 * x.val.length + 2 * sumP x.ps ≤ 12) (h0 : 0 < s.ns.length) (h1 : 0 < s.es.length) (hn : s.ns.length ≤ 100) (he : s.es.length ≤ 100)
    (h12 : ∀ K : List Int, K.Nodup → (∀ t ∈ K, edgeIn l t) → K.length ≤ 12) :
    Calls Tryz.prog 46 #[v] w (EndsSt l w) := by
  obtain ⟨sn, se, rfl, hn', he'⟩ := h
  have CC := Lib.hid (fun g W (hb : Below w.heap.size w W) (hg : g < W.heap.size) c0 c1' => concat_any g sn se s.ns s.es w W hb hg c0 c1' hn' he' h0 h1 (by omega) (by omega))
  obtain ⟨A1, c1, rfl, _, _⟩ := hn'
  obtain ⟨A2, c2, rfl, _, _⟩ := he'
  have HLEN := Lib.hid (show l.length ≤ 200 ∧ 0 < l.length by rw [← hsl]; simp; omega)
  rw [hsl] at CC
  clear hsl
  have B0 := Lib.hid (((Below.refl w.heap.size w).alloc (Nat.le_refl _) (.cells #[.slice A1 s.ns.length c1, .slice A2 s.es.length c2] 76)).alloc (by simp) (.map #[] 0))
  have X0 := Lib.hid ((Bx.new w #[.slice A1 s.ns.length c1, .slice A2 s.es.length c2] 76).below ((Below.refl _ _).alloc (Nat.le_refl _) (.map #[] 0)))
  have M0 := Lib.hid (MU.made (w.alloc (.cells #[.slice A1 s.ns.length c1, .slice A2 s.es.length c2] 76)))
  rw [show (w.alloc (.cells #[.slice A1 s.ns.length c1, .slice A2 s.es.length c2] 76)).heap.size = w.heap.size + 1 by simp] at M0
  clear h0 h1 hn he
  have HL := Lib.hid hl
  have H12 := Lib.hid h12
  clear hl h12
  have hmm := @run_makeMap Tryz.prog
  go_enter Tryz.func46, Tryz.ntmps46
  go_upto_region 2 with fail
  obtain ⟨W1, hW1⟩ : ∃ W, (w.alloc (.cells #[.slice A1 s.ns.length c1, .slice A2 s.es.length c2] 76)).alloc (.map #[] 0) = W := ⟨_, rfl⟩
  rw [hW1] at B0 X0 M0
  try rw [hW1]
  clear hW1
  obtain ⟨p1, hp1⟩ : ∃ q, w.heap.size = q := ⟨_, rfl⟩
  obtain ⟨bm, hbm⟩ : ∃ q, w.heap.size + 1 = q := ⟨_, rfl⟩
  have LB := Lib.hid (show w.heap.size ≤ bm by omega)
  rw [hbm] at M0
  try rw [hbm]
  rw [hp1] at X0
  try rw [hp1]
  clear hp1 hbm
  have x0 := X0.out.c
  have G0 := Lib.hid (Bx.new W1 #[.slice A1 s.ns.length c1, .slice A2 s.es.length c2] 74)
  have BG := Lib.hid (B0.out.alloc B0.out.size (.cells #[.slice A1 s.ns.length c1, .slice A2 s.es.length c2] 74))
  have MG := Lib.hid (M0.out.below ((Below.refl W1.heap.size W1).alloc (Nat.le_refl _) (.cells #[.slice A1 s.ns.length c1, .slice A2 s.es.length c2] 74)))
  have CCG := Lib.hid (CC.out W1.heap.size _ BG.out G0.out.lt (G0.out.c 0) (G0.out.c 1))
  go_wp2_with (go_at_call 123; (with_reducible refine (CCG.out).mono ?_); rintro e w2 ⟨u, rs, rfl, ho, hrs, hea, hb⟩; have HO := Lib.hid ho; have HRS := Lib.hid hrs; have HEA := Lib.hid hea; have B2 := Lib.hid (BG.out.trans (hb.mono BG.out.size)); have M2 := Lib.hid (MG.out.below hb); have HB2 := Lib.hid hb; obtain ⟨Au, cu, rfl, _, _, _⟩ := ho.form; clear ho hrs hea hb x0)
  have HRL := Lib.hid (show rs.length = l.length by rw [← HRS.out, List.length_map])
  have E0 := Lib.hid (show EI l (.slice Au rs.length cu) rs bm w w2 0 [] 0 [] 0 from ⟨HO.out.mono BG.out.size, M2.out, fun t => ⟨fun h => by simp at h, fun h => h.elim (fun ⟨j, _, h, _⟩ => absurd h (Nat.not_lt_zero j)) fun h => by simp at h⟩, B2.out, LB.out, Nat.zero_le _⟩)
  have b1 : (rs.length : Int) ≤ 200 := by have := HLEN.out; have := HRL.out; omega
  go_loopw [18] (fun i wr => ∃ (k n : Nat) (K : List Int), k ≤ rs.length ∧ i = .int .i64 k ∧ EI l (.slice Au rs.length cu) rs bm w wr k [] 0 K n ∧ Below w2.heap.size w2 w2) (fun i _ => rs.length - (intOf i).toNat)
  case atStart => exact ⟨0, 0, [], Nat.zero_le _, rfl, E0.out, Below.refl _ _⟩
  case round =>
    obtain ⟨k, n, K, hk, rfl, hei, _⟩ := hrel
    have EK := Lib.hid hei
    clear hei
    by_cases hlt : k < rs.length
    · have hkl : k < l.length := by have := HRL.out; omega
      obtain ⟨A9, c9, e9, _, _, hA9⟩ := EK.out.row.form
      obtain ⟨g, e8, hg0, hg1, hg2, hfr, hcg⟩ := hA9 (by omega)
      simp only [Value.slice.injEq, true_and] at e9
      obtain ⟨rfl, rfl⟩ := e9
      subst e8
      have r := hcg k hlt
      have heq : rs[k].1 = l[k] := by
        have := HRS.out
        simp only [← this, List.getElem_map]
      have hea := HEA.out _ (List.getElem_mem hlt)
      have hxx := HL.out _ (List.getElem_mem hkl)
      have CE := Lib.hid (fun W (hb : Below w.heap.size w W) => eEnds_any (.agg (ER.cells rs[k])) l[k] W (by have := hea.below hb; rw [heq] at this; exact this) hxx.2.1 hxx.1 hxx.2.2.1 hxx.2.2.2)
      have LQ := Lib.hid hg1
      have i0 : (k : Int) < (rs.length : Int) := by omega
      have i1 : (0 : Int) ≤ (k : Int) := by omega
      have HEK := Lib.hid (fun (E : List Int) K n (h : EI l (.slice (some ⟨g, 0, none⟩) rs.length cu) rs bm w wr k E 0 K n) => h)
      have OKE := Lib.hid (fun t h => edge_ok (t := t) hxx.1 hxx.2.1 h)
      have NXT := Lib.hid (fun (E : List Int) wr' K' n' (h : EI l (.slice (some ⟨g, 0, none⟩) rs.length cu) rs bm w wr' k E E.length K' n') (hE : EndsE l[k] E) (h12 : E.length ≤ 12) => h.next hkl hE h12)
      have L12 := Lib.hid (fun (E : List Int) (hE : EndsE l[k] E) => H12.out E (strict_nodup hE.row) (fun t ht => ⟨_, List.getElem_mem hkl, (hE.mem t).1 ht⟩))
      have OKM := Lib.hid (fun (E : List Int) (hE : EndsE l[k] E) i (hi : i < E.length) => OKE.out E[i] ((hE.mem _).1 (List.getElem_mem hi)))
      clear hA9 hcg hfr hxx OKE
      obtain ⟨rk, hrk⟩ : ∃ x, rs[k] = x := ⟨_, rfl⟩
      rw [hrk] at CE r hea
      clear hrk heq
      generalize l[k] = lk at *
      obtain ⟨x, sv, sp⟩ := rk
      obtain ⟨k1, k2⟩ := hea.inv
      obtain ⟨xe, xid, xlab, xfr, xtil, xval, xps⟩ := x
      simp only at k1 k2
      obtain ⟨Av, cv, rfl, _⟩ := k1
      obtain ⟨Ap, cp, rfl, _, _⟩ := k2
      simp only at CE r
      clear hea
      go_upto_region 5 with (refine wpList_load_mid rfl 38 (.tmp 20) rfl g (k * 7) rfl _ _ r Tryz.underlying38 rfl rowEnt ?_)
      have HA1 := Lib.hid ((Below.refl wr.heap.size wr).alloc (Nat.le_refl _) (.cells #[.bool xe, .int .u64 xid, .string xlab, .int .u64 xfr, .int .u64 xtil, .slice Av xval.length cv, .slice Ap xps.length cp] 38))
      have X1 := Lib.hid (Bx.new wr #[.bool xe, .int .u64 xid, .string xlab, .int .u64 xfr, .int .u64 xtil, .slice Av xval.length cv, .slice Ap xps.length cp] 38)
      obtain ⟨V, hV⟩ : ∃ W, wr.alloc (.cells #[.bool xe, .int .u64 xid, .string xlab, .int .u64 xfr, .int .u64 xtil, .slice Av xval.length cv, .slice Ap xps.length cp] 38) = W := ⟨_, rfl⟩
      rw [hV] at HA1 X1
      try rw [hV]
      clear hV r
      obtain ⟨p4, hp4⟩ : ∃ r, wr.heap.size = r := ⟨_, rfl⟩
      have Z4 := Lib.hid hp4
      rw [hp4] at X1
      try rw [hp4]
      clear hp4
      have RB := Lib.hid X1.out.rng
      have BV := Lib.hid (EK.out.bel.trans (HA1.out.mono EK.out.bel.size))
      have CEV := Lib.hid (CE.out V BV.out)
      go_wp2_with (first
        | (refine wpList_load_mid rfl 38 (.tmp 5) rfl p4 0 rfl _ _ RB.out Tryz.underlying38 rfl rowEnt ?_)
        | (go_at_call 27; (with_reducible refine (CEV.out).mono ?_); rintro e w3 ⟨v3, E, rfl, ho, hE, hb⟩; have HO3 := Lib.hid ho; have HE3 := Lib.hid hE; have EK3 := Lib.hid ((EK.out.below HA1.out).below hb); obtain ⟨A3, c3, rfl, _⟩ := OwnU.form ho; clear ho hE hb)
        | fail)
      have ML := Lib.hid EK3.out.map.lt
      have b12 := L12.out E HE3.out
      have E30 := Lib.hid (show EI l (.slice (some ⟨g, 0, none⟩) rs.length cu) rs bm w w3 k E 0 K n from ⟨EK3.out.row, EK3.out.map, fun t => by rw [EK3.out.mem]; simp, EK3.out.bel, EK3.out.low, EK3.out.cnt⟩)
      have b13 : (E.length : Int) ≤ 12 := by omega
      go_loopw [25] (fun i wr => ∃ (m n : Nat) (K : List Int), m ≤ E.length ∧ i = .int .i64 m ∧ EI l (.slice (some ⟨g, 0, none⟩) rs.length cu) rs bm w wr k E m K n ∧ Se.OwnU V.heap.size wr (.slice A3 E.length c3) E) (fun i _ => E.length - (intOf i).toNat)
      case atStart => exact ⟨0, n, K, Nat.zero_le _, rfl, E30.out, HO3.out⟩
      case round =>
        obtain ⟨m, n2, K2, hm, rfl, hei, hou⟩ := hrel
        have EM := Lib.hid hei
        have OM := Lib.hid hou
        clear hei hou
        by_cases hmt : m < E.length
        · obtain ⟨g3, e3, _, hg3⟩ := (OwnU.form OM.out).elim fun A h => h.elim fun c h => (by
            obtain ⟨e, h⟩ := h
            obtain ⟨g, e2, h3, h4⟩ := h (by omega)
            simp only [Value.slice.injEq, true_and] at e
            exact (⟨g, by rw [e.1, e2], h3, h4⟩ : ∃ g, A3 = some ⟨g, 0, none⟩ ∧ V.heap.size ≤ g ∧ g < wr.heap.size))
          subst e3
          have q0 := (OwnU.cells OM.out m hmt).1
          have hok := OKM.out E HE3.out m hmt
          have q1 : wr.cell? ⟨g3, m, none⟩ = some (.int .u64 E[m]) := by
            rw [q0]
            unfold atU
            simp [hmt]
          have PUT := Lib.hid (fun w' (h1 : MU w' bm (n2 + 1) (addU E[m] K2)) (hg : wr.grownBy w' (some bm)) => EM.out.put hmt h1 hg)
          have KEPT := Lib.hid (fun w' (hg : wr.grownBy w' (some bm)) => (World.ownsRow.kept OM.out hg (.inr (EM.out.map.apart OM.out)) : Se.OwnU V.heap.size w' _ E))
          have i4 : (m : Int) < (E.length : Int) := by omega
          have i5 : (0 : Int) ≤ (m : Int) := by omega
          have hcn := EM.out.cnt
          have hkr := hlt
          clear q0
          generalize E[m] = x at *
          go_wp2_with (first
            | (at_mapUpdate; refine wpList_putU rfl _ _ _ rfl bm n2 K2 x rfl EM.out.map (by unfold maxLen; have := HLEN.out; have := HRL.out; omega) rfl hok rfl ?_; intro w4 h4 hg4; have P4 := Lib.hid (PUT.out w4 h4 hg4); have O4 := Lib.hid (KEPT.out w4 hg4); clear h4 hg4)
            | fail)
          exact ⟨⟨m + 1, n2 + 1, _, by omega, by go_num, P4.out, O4.out⟩, by simp [intOf]; omega⟩
        · obtain rfl : m = E.length := by omega
          have NX := Lib.hid (NXT.out E wr K2 n2 EM.out HE3.out b12)
          clear EM OM
          go_wp2_with fail
          exact ⟨⟨k + 1, n2, K2, by omega, by go_num, NX.out, Below.refl _ _⟩, by simp [intOf]; omega⟩
    · have HMEM := Lib.hid (show ∀ t, t ∈ K ↔ edgeIn l t from fun t => by
        rw [EK.out.mem, ← edgesTo_all, show k = l.length by have := HRL.out; omega]
        simp)
      obtain ⟨D9, _, _, _, hnd, hok9⟩ := EK.out.map
      have HND := Lib.hid hnd
      have HK12 := Lib.hid (H12.out K hnd fun t ht => (HMEM.out t).1 ht)
      have HPOS := Lib.hid (show ∃ t, t ∈ K by
        have h0 := HLEN.out.2
        have hx := HL.out _ (List.getElem_mem h0)
        have hv := hx.2.2.1
        exact ⟨_, (HMEM.out _).2 ⟨_, List.getElem_mem h0, .inl ⟨_, List.getElem_mem hv, .inl rfl⟩⟩⟩)
      clear hnd hok9
      obtain ⟨i9, hi, hz0, hz1, hz2⟩ := info_parts Se.infoU
      obtain ⟨w5, hmk, ho5, hg5⟩ := run_make_own (P := Tryz.prog) wr w.heap.size 57 22 i9 _ 1 Tryz.underlying57 hi hz0 hz1 .i64 .i64 K.length (by rw [hz2]; have := HK12.out; omega) (by unfold maxLen; have := HK12.out; omega) EK.out.bel.size
      have M5 := Lib.hid (EK.out.map.kept hg5 (by simp))
      have B5 := Lib.hid (EK.out.bel.grown hg5 EK.out.bel.size fun q hq => by cases hq)
      have L5 := Lib.hid (World.ownsRow.lt ho5 wr.heap.size rfl)
      have LBM := Lib.hid EK.out.map.lt
      have HO5 := Lib.hid (show Se.OwnU w.heap.size w5 (.slice (some ⟨wr.heap.size, 0, none⟩) 0 K.length) [] from ho5)
      clear hi hz0 hz1 hz2 ho5 hg5
      obtain ⟨qs, hqs⟩ : ∃ q, wr.heap.size = q := ⟨_, rfl⟩
      rw [hqs] at hmk HO5 L5 LBM
      clear hqs
      obtain ⟨r, hr⟩ : ∃ q, w5.heap.size = q := ⟨_, rfl⟩
      have HR5 := Lib.hid hr
      rw [hr] at L5
      go_wp2_with (first
        | (at_len; refine wpList_lenU rfl _ rfl bm n K rfl EK.out.map ?_)
        | (at_range; refine wpList_rangeU rfl _ rfl bm n K rfl M5.out ?_; rw [HR5.out]; intro w6 hrg6 hb6 hs6; have R6 := Lib.hid (show ER2 K bm r n w w6 (.slice (some ⟨qs, 0, none⟩) 0 K.length) [] K K.length from ⟨hrg6, HO5.out.below (by rw [HR5.out]; exact hb6), fun t => by simp, ⟨List.nodup_nil, fun t ht => by simp at ht⟩, B5.out.trans ((by rw [HR5.out]; exact hb6 : Below w5.heap.size w5 w6).mono B5.out.size), fun q hq => (by have e : qs = q := Option.some.inj hq; have := L5.out; have := LBM.out; omega), (by have := L5.out; have := LBM.out; have := HR5.out; omega), (by have := HR5.out; omega), (by have := B5.out.size; have := HR5.out; omega)⟩); clear hrg6 hb6 hs6)
        | fail)
      clear hr hmk
      go_frame
      go_loopw [8] (fun u wr2 => ∃ (L M : List Int) (cnt : Nat), ER2 K bm r n w wr2 u L M cnt) (fun _ wr2 => wr2.rangeLeft bm r)
      case atStart => exact ⟨[], K, K.length, R6.out⟩
      case round =>
        obtain ⟨L, M, cnt, her⟩ := hrel
        have ER := Lib.hid her
        clear her
        go_wp2_with (first
          | (at_next; refine wpList_nextU rfl _ rfl bm r n K M cnt rfl ER.out.rng ?_ ?_)
          | fail)
        · intro hM0
          subst hM0
          have HLM := Lib.hid (show ∀ t, t ∈ L ↔ t ∈ K from fun t => by rw [ER.out.mem]; simp)
          have h12 := H12.out L ER.out.dis.1 fun t ht => (HMEM.out t).1 ((HLM.out t).1 ht)
          have h0 : 0 < L.length := by
            obtain ⟨t, ht⟩ := HPOS.out
            exact List.length_pos_of_mem ((HLM.out t).2 ht)
          have CS := Lib.hid (fun v wq (hv : Se.OwnU w.heap.size wq v L) => sort_u w.heap.size v L wq hv h12 h0)
          have OW := Lib.hid ER.out.own
          go_wp2_with (first
            | (go_at_call 103; (refine (CS.out _ _ OW.out).mono ?_); rintro e w8 ⟨rfl, cur, ho, hlen, hmem, hpw, hg⟩; have HO8 := Lib.hid ho; have HL8 := Lib.hid hlen; have HM8 := Lib.hid hmem; have HP8 := Lib.hid hpw; have HG8 := Lib.hid hg; clear ho hlen hmem hpw hg)
            | fail)
          go_ret
          exact ⟨_, cur, rfl, HO8.out, strict_of HP8.out (nodup_of HL8.out HM8.out ER.out.dis.1), fun t => by rw [HM8.out, HLM.out, HMEM.out], ER.out.bel.grown HG8.out ER.out.bel.size fun q hq => (World.ownsRow.lt OW.out q hq).1⟩
        · intro x w7 cnt' hx hrg7 hlt7 hg7 hs7 hen
          have OW7 := Lib.hid (ER.out.kept7 hg7)
          have hLL := H12.out L ER.out.dis.1 fun t ht => (HMEM.out t).1 ((ER.out.mem t).2 (.inl ht))
          have BA := Lib.hid ((Below.refl w7.heap.size w7).alloc (Nat.le_refl _) (.cells #[.int .u64 x] 22))
          have XA := Lib.hid (Bx.new w7 #[.int .u64 x] 22)
          have OW8 := Lib.hid (OW7.out.below BA.out)
          have SZ := Lib.hid (show w.heap.size ≤ (w7.alloc (.cells #[.int .u64 x] 22)).heap.size by have h1 := ER.out.bel.size; have h2 := hg7.size; have h3 := BA.out.size; omega)
          have NX := Lib.hid (fun v9 w9 ho9 hg9 hf9 => ER.out.next (v := v9) (w9 := w9) hx hrg7 hg7 BA.out ho9 hg9 hf9)
          have HLT := Lib.hid hlt7
          have HRL := Lib.hid ER.out.rng.left
          have hXA := XA.out.c 0
          clear hrg7 hg7 hx hs7 hlt7
          go_wp2_with (first
            | (at_builtin; refine wpList_appU1 rfl (.tmp 43) (.tmp 45) rfl w.heap.size _ L rfl OW8.out w7.heap.size x rfl hXA (by omega) SZ.out ?_; intro v9 w9 ho9 hg9 hf9; have N9 := Lib.hid (NX.out v9 w9 ho9 hg9 hf9); clear ho9 hg9 hf9)
            | fail)
          exact ⟨⟨_, _, _, N9.out⟩, by rw [N9.out.rng.left, HRL.out]; exact HLT.out⟩
end
end Go.Proofs.YtmolpogehgeebaaGreat


