/- The document's tree: a list behind a pointer; comparing entries; appending rows of them. -/
import Derived.Test.YtbifgmamjdniaaaC8
import Derived.Laws.OwnMore
namespace Go.Proofs.Ytbifgmamjdniaaa
open Go.RowKit
open Itree (E T dep endT bs ord sz nodes lean rotL rotR bal ins del hasT first AVL Srt eachL over)
theorem infoR : (Try.prog.info? 67).map (fun i => (i.zero, i.size, i.bytes)) = some (some (.agg #[.int .u64 0, .int .u64 0, .int .u64 0]), 3, 24) := by kernel_rfl
/-- A slice of the document's entries that the call owns. -/
def OwnR (base : Nat) (w : World) (v : Value) (L : List E) : Prop := w.ownsRow base 67 3 v L.length (cellsE L)
theorem OwnR.nil (base : Nat) (w : World) : OwnR base w (.slice none 0 0) [] := World.ownsRow_nil _ _ _ _
theorem OwnR.alloc {base : Nat} {w : World} {v : Value} {L : List E} (h : OwnR base w v L) (o : Obj) : OwnR base (w.alloc o) v L := World.ownsRow.alloc h o
theorem cellsE_one (L : List E) : ∀ u ∈ cellsE L, u.oneCell' = true := by
  intro u hu
  simp only [cellsE, List.mem_flatMap, List.mem_cons, List.not_mem_nil, or_false] at hu
  obtain ⟨p, _, rfl | rfl | rfl⟩ := hu <;> rfl
theorem add_plain (b off j : Nat) : (⟨b, off, none⟩ : Addr).add j = ⟨b, off + j, none⟩ := by unfold Addr.add; split <;> simp_all
theorem ECells {w : World} {b off : Nat} {L : List E} (h : ∀ i (h : i < L.length), w.cell? ⟨b, off + i * 3, none⟩ = some (.int .u64 (L[i].a)) ∧ w.cell? ⟨b, off + i * 3 + 1, none⟩ = some (.int .u64 (L[i].b)) ∧ w.cell? ⟨b, off + i * 3 + 2, none⟩ = some (.int .u64 (L[i].n))) : ∀ j u, (cellsE L)[j]? = some u → w.cell? ((⟨b, off, none⟩ : Addr).add j) = some u := by
  intro j u hj
  rw [add_plain]
  have hl : j < (cellsE L).length := by
    by_cases e : j < (cellsE L).length
    · exact e
    · rw [List.getElem?_eq_none (by omega)] at hj
      cases hj
  rw [cellsE_length] at hl
  have hd : j / 3 < L.length := by omega
  have hc := cellsE_get L (j / 3) hd
  have hw := h (j / 3) hd
  have hm : j % 3 = 0 ∨ j % 3 = 1 ∨ j % 3 = 2 := by omega
  rcases hm with hm | hm | hm
  · have e : j / 3 * 3 = j := by omega
    rw [e] at hc hw
    rw [hw.1, ← hc.1, hj]
  · have e : j / 3 * 3 + 1 = j := by omega
    rw [e] at hc
    rw [show off + j / 3 * 3 + 1 = off + j by omega] at hw
    rw [hw.2.1, ← hc.2.1, hj]
  · have e : j / 3 * 3 + 2 = j := by omega
    rw [e] at hc
    rw [show off + j / 3 * 3 + 2 = off + j by omega] at hw
    rw [hw.2.2, ← hc.2.2, hj]
/-- append of entries onto what the call owns. -/
theorem run_appRs (base : Nat) (w : World) (v : Value) (l : List E) (A : Option Addr) (c : Nat) (news : List E) (ty : TypeId) (h : OwnR base w v l) (hA : EAt w A news) (hz : A = none → c = 0)
    (hm : l.length + news.length ≤ 1000000000000) (hb : base ≤ w.heap.size) :
    ∃ v' w', (Builtin.append_ #[27, 27] ty #[v, .slice A news.length c]).run Try.prog w = .ok v' w' ∧ OwnR base w' v' (l ++ news) ∧ w.grownBy w' v.ownBlock := by
  obtain ⟨i0, hi, hz0, hz1, hz2⟩ := info_parts infoR
  have own : ∀ (ad : Addr), (∀ j u, (cellsE news)[j]? = some u → w.cell? (ad.add j) = some u) → ∃ v' w', (Builtin.append_ #[27, 27] ty #[v, .slice (some ad) news.length c]).run Try.prog w = .ok v' w' ∧ OwnR base w' v' (l ++ news) ∧ w.grownBy w' v.ownBlock := fun ad hcl => by
    obtain ⟨v', w', h1, h2, h3, _, _⟩ := run_append_own_at (P := Try.prog) w base 27 ty 67 i0 _ 3 24 Try.underlying27 hi hz0 hz1 hz2 rfl (by omega) v _ _ h ad news.length c (cellsE news) (by rw [cellsE_length]) hcl (cellsE_one news)
      (by unfold maxLen; omega) (by omega) hb
    exact ⟨v', w', h1, by rw [OwnR, cellsE_append, List.length_append]; exact h2, h3⟩
  rcases Nat.eq_zero_or_pos news.length with h0 | h0
  · obtain rfl := List.eq_nil_of_length_eq_zero h0
    cases A with
    | none =>
      obtain rfl := hz rfl
      exact ⟨v, w, run_append_owned_none (P := Try.prog) w base 27 ty 67 i0 3 Try.underlying27 hi v _ _ h, by simpa using h, World.grownBy.refl _ _⟩
    | some ad => exact own ad (fun j u hj => by simp [cellsE] at hj)
  · obtain ⟨b, off, rfl, _, hc⟩ := hA h0
    exact own _ (ECells hc)
theorem wpList_appRs (w : World) {ops : Array Oper} {rest : List Oper} {o : Oper} {a : Act} {Q : Exit → Act → World → Prop} (hg : o.guard = none) (s x : Operand) (ho : o.op = .call { callee := .builtin .append, args := #[s, x], argTypes := #[27, 27] })
    (base : Nat) (v : Value) (l : List E) (hs : a.eval s = v) (h : OwnR base w v l) (A : Option Addr) (n c : Nat) (news : List E) (hx : a.eval x = .slice A n c) (hA : EAt w A news) (hz : A = none → c = 0) (hn : news.length = n)
    (hm : l.length + news.length ≤ 1000000000000) (hb : base ≤ w.heap.size)
    (hK : ∀ v' w', OwnR base w' v' (l ++ news) → Below base w w' → wpList Try.prog ops Q rest (a.put o.dst v') w') : wpList Try.prog ops Q (o :: rest) a w := by
  subst hn
  refine wpList_plain hg fun K hK' => ?_
  obtain ⟨v', w', h1, h2, h3⟩ := run_appRs base w v l A c news o.type h hA hz hm hb
  unfold Oper.wp execOp
  simp only [ho, resolve, invoke, builtin, Sem.run_bind, Sem.run_pure, Result.andThen_ok, List.map_toArray, List.map_cons, List.map_nil, hs, hx, h1]
  exact hK' _ _ (hK v' w' h2 ((Below.refl _ _).grown h3 hb fun k hk => (World.ownsRow.lt h k hk).1))
/-- Does one stand ahead of the other? -/
def ltB (x y : E) : Bool := decide (Itree.lt x y)
theorem ltB_cmp (x y : E) : ltB x y = (decide (cmpP x.a x.b y.a y.b < 0) || (decide (cmpP x.a x.b y.a y.b = 0) && decide (x.n < y.n))) := by
  unfold ltB Itree.lt cmpP orI cmpI
  grind
set_option maxRecDepth 100000 in
set_option maxHeartbeats 1000000 in
theorem ahead_any (x y : E) (w : World) :
    Calls Try.prog 37 #[entV x, entV y] w fun e w' => e = .returned (.bool (ltB x y)) ∧ Below w.heap.size w w' := by
  have h1 := refCompare_any x.a x.b y.a y.b
  rw [ltB_cmp]
  generalize cmpP x.a x.b y.a y.b = c at *
  obtain ⟨W, hW⟩ : ∃ W, (w.alloc (.cells #[.int .u64 x.a, .int .u64 x.b, .int .u64 x.n] 67)).alloc (.cells #[.int .u64 y.a, .int .u64 y.b, .int .u64 y.n] 67) = W := ⟨_, rfl⟩
  have b0 : EBox W w.heap.size x := by rw [← hW]; exact EBox.alloc (ebox_at _ x _ _ rfl) _
  have b1 : EBox W (w.heap.size + 1) y := by rw [← hW]; exact ebox_at _ y _ _ (by simp)
  have HB := Lib.hid (show Below w.heap.size w W by rw [← hW]; exact ((Below.refl _ _).alloc (Nat.le_refl _) _).alloc (by simp) _)
  have H1 := Lib.hid h1
  clear h1
  have B0 := Lib.hid b0
  have B1 := Lib.hid b1
  have x0 := b0.c0
  have x1 := b0.c1
  have y0 := b1.c0
  have y1 := b1.c1
  clear b0 b1
  go_enter Try.func37, Try.ntmps37
  go_upto_region 1 with fail
  try rw [hW]
  clear hW
  go_wp2_with fail
  refine (H1.out _).mono ?_
  rintro e1 w1 ⟨rfl, hb1⟩
  clear x0 x1 y0 y1
  have n0 := (B0.out.below hb1).c2
  have n1 := (B1.out.below hb1).c2
  have HF := Lib.hid (HB.out.trans (hb1.mono HB.out.size))
  clear hb1 B0 B1
  rcases Int.lt_trichotomy c 0 with h | h | h
  · go_wp2
    go_ret
    exact ⟨by simp [h], HF.out⟩
  · subst h
    go_wp2
    go_ret
    exact ⟨by simp, HF.out⟩
  · have h1 : decide (c < 0) = false := by simp; omega
    have h2 : (c == 0) = false := by simp; omega
    go_wp2
    go_ret
    exact ⟨by simp; omega, HF.out⟩
end Go.Proofs.Ytbifgmamjdniaaa
