/- Bytes that a call builds; decimal numerals; the text of a set. -/
import Derived.Test.YtgjahnidjcfbiaaDoorLY
import Derived.Test.YtgjahnidjcfbiaaDoorJ9
import Derived.Shelf.Strconv.AppendUint10
import Derived.Shelf.Lay
import Derived.Ground.NamesProg
import Derived.Laws.IdiomStrings
namespace Go.Proofs.YtgjahnidjcfbiaaDoor
open Go.RowKit Go.Shelf Go.Lib
open Iset (nf has NF Res Wide textL textsL textP dec endT)
theorem blk_lt {W : World} {b i : Nat} {v : Value} (h : W.cell? ⟨b, i, none⟩ = some v) : b < W.heap.size := by
  unfold World.cell? at h
  by_cases hb : b < W.heap.size
  · exact hb
  · have e : W.heap[b]? = none := by simp; omega
    simp [e] at h
/-- What the walks ask of the world: the library's powers of ten, and its two errors. -/
structure Env (w : World) : Prop where
  tab : Lib.TabBelow Tryd.prog w.heap.size w "internal/strconv.uint64pow10" .u64 Lib.pow10Tab
  syn : ∃ ev, w.cell? ⟨2, 0, none⟩ = some ev ∧ (ev = .nilIface ∨ ∃ te pe, ev = .iface te pe)
  rng : ∃ ev, w.cell? ⟨3, 0, none⟩ = some ev ∧ (ev = .nilIface ∨ ∃ te pe, ev = .iface te pe)
theorem Env.below {w w' : World} (h : Env w) (hb : Below w.heap.size w w') : Env w' := by
  refine ⟨fun w2 h2 => h.tab w2 (hb.trans (h2.mono hb.size)), ?_, ?_⟩
  · obtain ⟨ev, h1, h2⟩ := h.syn
    exact ⟨ev, (hb.cell (p := ⟨2, 0, none⟩) (blk_lt h1)).trans h1, h2⟩
  · obtain ⟨ev, h1, h2⟩ := h.rng
    exact ⟨ev, (hb.cell (p := ⟨3, 0, none⟩) (blk_lt h1)).trans h1, h2⟩
theorem infoB : (Tryd.prog.info? 5).map (fun i => (i.zero, i.size, i.bytes)) = some (some (.int .u8 0), 1, 1) := by kernel_rfl
/-- A slice of bytes that the call owns. -/
def OwnB (base : Nat) (w : World) (v : Value) (l : List UInt8) : Prop := w.ownsRow base 5 1 v l.length (Lib.byteCells l)
theorem OwnB.nil (base : Nat) (w : World) : OwnB base w (.slice none 0 0) [] := ⟨rfl, .inl ⟨rfl, rfl⟩⟩
theorem OwnB.alloc {base : Nat} {w : World} {v : Value} {L : List UInt8} (h : OwnB base w v L) (o : Obj) : OwnB base (w.alloc o) v L := World.ownsRow.alloc h o
theorem OwnB.below {base : Nat} {w w' : World} {v : Value} {L : List UInt8} (h : OwnB base w v L) (hb : Below w.heap.size w w') : OwnB base w' v L := by
  refine ⟨h.1, ?_⟩
  rcases h.2 with h0 | ⟨g, cap, cur, e, hg, hc, h1, h2, h3, h4⟩
  · exact .inl h0
  · exact .inr ⟨g, cap, cur, e, hg, (hb.block g (Array.getElem?_eq_some_iff.1 hc).1).trans hc, h1, h2, h3, h4⟩
theorem OwnB.conv {base : Nat} {w : World} {v : Value} {l : List UInt8} (h : OwnB base w v l) : (convert 50 9 v).run Tryd.prog w = .ok (.string ⟨l.toArray⟩) w := by
  rcases h.2 with ⟨rfl, h0⟩ | ⟨g, cap, cur, rfl, hg, hb, h1, h2, h3, h4⟩
  · obtain rfl := List.eq_nil_of_length_eq_zero h0
    exact run_convert_bytes_nil w _ _ Tryd.underlying50 Tryd.underlying5 _ _ _ Tryd.underlying9
  · refine run_convert_bytes_back w _ _ _ ⟨g, 0, none⟩ cap l Tryd.underlying50 Tryd.underlying5 Tryd.underlying9 (fun j hj => ?_)
    rw [add_plain, Nat.zero_add]
    have key : w.cell? ⟨g, j, none⟩ = (Lib.byteCells l)[j]? := by
      rw [← h4, List.getElem?_take_of_lt (by omega), Array.getElem?_toList]
      simp [World.cell?, hb]
    rw [key]
    simp [Lib.byteCells, hj]
/-- append of one byte onto what the call owns. -/
theorem wpList_appB {ops : Array Oper} {rest : List Oper} {o : Oper} {a : Act} {w : World} {Q : Exit → Act → World → Prop} (hgd : o.guard = none) (s x : Operand)
    (ho : o.op = .call { callee := .builtin .append, args := #[s, x], argTypes := #[50, 50] })
    (base : Nat) (v : Value) (L : List UInt8) (c : UInt8) (hs : a.eval s = v) (hown : OwnB base w v L) (g : Nat) (hx : a.eval x = .slice (some ⟨g, 0, none⟩) 1 1)
    (hcl : w.cell? ⟨g, 0, none⟩ = some (.int .u8 c.toNat)) (hlen : L.length ≤ 140000000000000) (hbase : base ≤ w.heap.size)
    (h : ∀ v' w', OwnB base w' v' (L ++ [c]) → Below base w w' → Lib.OthersKept 5 none w w' → wpList Tryd.prog ops Q rest (a.put o.dst v') w') :
    wpList Tryd.prog ops Q (o :: rest) a w := by
  obtain ⟨i0, hi, hz0, hz1, hz2⟩ := info_parts infoB
  refine wpList_append_own_at _ hgd s x 50 ho base 5 i0 _ 1 1 Tryd.underlying50 hi hz0 hz1 hz2 rfl (by omega) v _ _ hs hown ⟨g, 0, none⟩ 1 1 [.int .u8 c.toNat] hx rfl ?_ ?_ (by unfold maxLen; omega) (by omega) hbase ?_
  · intro j u hj
    rw [add_plain, Nat.zero_add]
    match j, hj with
    | 0, hj => simp at hj; subst hj; exact hcl
  · intro u hu
    simp at hu
    subst hu
    rfl
  · intro v' w' h1 h2 h3 _
    refine h v' w' ?_ ((Below.refl _ _).grown h2 hbase fun k hk => (World.ownsRow.lt hown k hk).1) ((Lib.OthersKept.refl _ _ _).grown h2 (Lib.ownsRow_kind hown))
    unfold OwnB Lib.byteCells
    rw [List.map_append, List.length_append]
    exact h1
/-- append of a string. -/
theorem wpList_appS {ops : Array Oper} {rest : List Oper} {o : Oper} {a : Act} {w : World} {Q : Exit → Act → World → Prop} (hgd : o.guard = none) (s x : Operand)
    (ho : o.op = .call { callee := .builtin .append, args := #[s, x], argTypes := #[50, 9] })
    (base : Nat) (v : Value) (L : List UInt8) (t : ByteArray) (hs : a.eval s = v) (hown : OwnB base w v L) (hx : a.eval x = .string t)
    (hlen : L.length + t.size ≤ 140000000000000) (hbase : base ≤ w.heap.size)
    (h : ∀ v' w', OwnB base w' v' (L ++ t.data.toList) → Below base w w' → Lib.OthersKept 5 none w w' → wpList Tryd.prog ops Q rest (a.put o.dst v') w') :
    wpList Tryd.prog ops Q (o :: rest) a w := by
  obtain ⟨i0, hi, hz0, hz1, hz2⟩ := info_parts infoB
  refine Lib.wpList_append_own_string _ hgd s x 50 9 ho base 5 i0 Tryd.underlying50 Tryd.underlying9 hi hz0 hz1 hz2 v _ _ hs hown t hx (by unfold maxLen; omega) (by omega) hbase ?_
  intro v' w' h1 h2 _
  refine h v' w' ?_ ((Below.refl _ _).grown h2 hbase fun k hk => (World.ownsRow.lt hown k hk).1) ((Lib.OthersKept.refl _ _ _).grown h2 (Lib.ownsRow_kind hown))
  unfold OwnB Lib.byteCells
  rw [List.map_append, List.length_append]
  exact h1
theorem AppendUint_any (base : Nat) (u : Int) (v : Value) (l : List UInt8) (w : World) (h0 : 0 ≤ u) (h1 : u < 18446744073709551616) (hown : OwnB base w v l) (hbase : base ≤ w.heap.size) (hl : l.length ≤ 140000000000000) (henv : Env w) :
    Calls Tryd.prog 31 #[v, .int .u64 u, .int .i64 10] w fun e w' => ∃ v', e = .returned v' ∧ OwnB base w' v' (l ++ dec u) ∧ Below base w w' ∧ Lib.OthersKept 5 none w w' := by
  have H : Calls Tryd.prog 46 #[v, .int .u64 u, .int .i64 10] w fun e w' => ∃ v', e = .returned v' ∧ OwnB base w' v' (l ++ dec u) ∧ Below base w w' ∧ Lib.OthersKept 5 none w w' := by
    obtain ⟨n, rfl⟩ : ∃ n : Nat, u = n := ⟨u.toNat, by omega⟩
    have hfin : ∀ (e : Ending) (w' : World), (∃ v', e = .returned v' ∧ w'.ownsRow base 5 1 v' (l.length + (Lib.decDigits n).length) (Lib.byteCells l ++ Lib.byteCells (Lib.decDigits n)) ∧ Below base w w' ∧ Lib.OthersKept 5 none w w') → ∃ v', e = .returned v' ∧ OwnB base w' v' (l ++ dec n) ∧ Below base w w' ∧ Lib.OthersKept 5 none w w' := fun e w' ⟨v', he, ho, hb, hk⟩ => by
      refine ⟨v', he, ?_, hb, hk⟩
      unfold OwnB
      rw [List.length_append, show Lib.byteCells (l ++ dec n) = Lib.byteCells l ++ Lib.byteCells (Lib.decDigits n) by simp [Lib.byteCells, dec]]
      exact ho
    by_cases hs : n < 100
    · exact (Any.internal_strconv_AppendUint_10_small Tryd.appU base l.length n hs v (Lib.byteCells l) w hown hbase (by omega)).mono hfin
    · exact (Any.internal_strconv_AppendUint_10_big Tryd.appU base l.length n (by omega) (by omega) v (Lib.byteCells l) w hown hbase (by omega) henv.tab.here).mono hfin
  have HH := Lib.hid H
  clear H hown henv
  go_enter Tryd.func31, Tryd.ntmps31
  go_wp2_with fail
  refine (HH.out).mono ?_
  rintro e w1 ⟨v1, rfl, ho, hb, hk⟩
  go_wp2
  go_ret
  exact ⟨_, rfl, ho, hb, hk⟩
end Go.Proofs.YtgjahnidjcfbiaaDoor
