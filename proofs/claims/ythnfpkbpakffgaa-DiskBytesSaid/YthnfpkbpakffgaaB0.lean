/- Bytes in memory; memory as it was but for some blocks; maps from names to files. -/
import Derived.Test.YthnfpkbpakffgaaProg
import Derived.Test.YthnfpkbpakffgaaA1
import Derived.WalkKit
import Derived.WalkSpells
import Derived.WalkLawsBesides
import Derived.Handy
import Derived.Lib.Hide
import Derived.Lib.ConvBytes
import Derived.Lib.Small
import Derived.Deep.RegionWith
import Derived.Deep.DeepFit
import Derived.Deep.DeepMust
import Derived.Deep.DeepCutAuto
import Derived.Deep.QuietTactic
import Derived.Deep.RegionHeld3
import Derived.Deep.AppendLies
import Derived.BigQuiet
import Derived.OwnWalk
import Derived.LoopTactic
import Derived.Maps.AppendAt
import Derived.Laws.MakeOwn
import Derived.Laws.BitsAllLaws
import Derived.Laws.EntriesVeiled
import Derived.Maps.Own
import Derived.Maps.OwnOps
import Derived.Maps.OwnSet
import Derived.Maps.RangeWalk
import Derived.Sort.KeysCollected
import Derived.StringKeys
namespace Go.Proofs.Ythnfpkbpakffgaa
open Go.RowKit Go.Maps
open Disk (Nm Fl DS Up ins del upd fnd okName okByte used Wf)
theorem ret1 {k : IntKind} {a b : Int} (h : a = b) : Ending.returned (.int k a) = .returned (.int k b) := by rw [h]
theorem retv {a b : Value} (h : a = b) : Ending.returned a = .returned b := by rw [h]
/-- A byte in a cell; a row of bytes in cells. -/
def bv (b : UInt8) : Value := .int .u8 (b.toNat : Int)
def cellsB (l : List UInt8) : List Value := l.map bv
theorem cellsB_length (l : List UInt8) : (cellsB l).length = l.length := by simp [cellsB]
theorem cellsB_append (a b : List UInt8) : cellsB (a ++ b) = cellsB a ++ cellsB b := by simp [cellsB]
theorem cellsB_one (l : List UInt8) : ∀ u ∈ cellsB l, u.oneCell' = true := by
  intro u hu
  simp only [cellsB, List.mem_map] at hu
  obtain ⟨b, _, rfl⟩ := hu
  rfl
/-- Where the bytes of a slice lie. -/
def At (w : World) (A : Option Addr) (l : List UInt8) : Prop := 0 < l.length → ∃ b off, A = some ⟨b, off, none⟩ ∧ b < w.heap.size ∧ ∀ i, i < l.length → w.cell? ⟨b, off + i, none⟩ = some (bv (l.getD i 0))
theorem At.below {w w' : World} {A : Option Addr} {l : List UInt8} (h : At w A l) (hb : Below w.heap.size w w') : At w' A l := fun h0 => by
  obtain ⟨b, off, e, hl, hc⟩ := h h0
  have hs := hb.size
  exact ⟨b, off, e, by omega, fun i hi => (hb.cell (p := ⟨b, off + i, none⟩) hl).trans (hc i hi)⟩
theorem At.grown {w w' : World} {A : Option Addr} {l : List UInt8} {ad : Addr} (h : At w A l) (hg : w.grownBy w' none) (e : A = some ad) : At w' (some ad) l := by
  subst e
  exact h.below ((Below.refl _ _).grown hg (Nat.le_refl _) (by simp))
theorem add_plain (b off j : Nat) : (⟨b, off, none⟩ : Addr).add j = ⟨b, off + j, none⟩ := by unfold Addr.add; split <;> simp_all
theorem At.cells {w : World} {ad : Addr} {l : List UInt8} (h : At w (some ad) l) : ∀ j u, (cellsB l)[j]? = some u → w.cell? (ad.add j) = some u := by
  intro j u hu
  have hj : j < l.length := by
    rcases Nat.lt_or_ge j l.length with h1 | h1
    · exact h1
    · rw [List.getElem?_eq_none (by simpa [cellsB] using h1)] at hu; cases hu
  obtain ⟨b, off, e, _, hc⟩ := h (by omega)
  injection e with e
  subst e
  rw [add_plain, hc j hj, ← hu]
  simp [cellsB, List.getD, hj]
theorem at_nil (w : World) (A : Option Addr) : At w A [] := fun h => absurd h (Nat.lt_irrefl 0)
theorem At.none_nil {w : World} {l : List UInt8} (h : At w none l) : l = [] := by
  rcases Nat.eq_zero_or_pos l.length with e | e
  · exact List.eq_nil_of_length_eq_zero e
  · obtain ⟨b, off, h, _⟩ := h e; cases h
theorem at_new (w : World) (cs : Array Value) (l : List UInt8) (h : cs.toList = cellsB l) : At (w.alloc (.cells cs 5)) (some ⟨w.heap.size, 0, none⟩) l := by
  intro _
  refine ⟨w.heap.size, 0, rfl, by simp, fun i hi => ?_⟩
  rw [cell_of_row _ _ _ _ _ _ (heap_alloc_new w _)]
  rw [← Array.getElem?_toList, h]
  simp [cellsB, List.getD, hi]
theorem own_at {w : World} {base n cap : Nat} {P : Option Addr} {acc : List UInt8} (h : w.ownsRow base 5 1 (.slice P n cap) n (cellsB acc)) : At w P acc := by
  intro h0
  have hl : acc.length = n := by have := h.1; rw [cellsB_length] at this; omega
  obtain ⟨g, cap', hv, hb, hlt⟩ := h.form (by omega)
  injection hv with hP
  subst hP
  refine ⟨g, 0, rfl, hlt, fun i hi => ?_⟩
  have hc := h.cells (g := g) rfl i (bv (acc.getD i 0)) (by simp [cellsB, List.getD, hi])
  rw [add_plain] at hc
  exact hc
theorem conv_text (w : World) (A : Option Addr) (l : List UInt8) (c : Nat) (hA : At w A l) : (convert 32 9 (.slice A l.length c)).run Try.prog w = .ok (.string ⟨l.toArray⟩) w := by
  cases A with
  | none =>
    obtain rfl := hA.none_nil
    exact run_convert_bytes_nil w _ _ Try.underlying32 Try.underlying5 _ _ _ Try.underlying9
  | some a =>
    refine run_convert_bytes_back w _ _ _ a c l Try.underlying32 Try.underlying5 Try.underlying9 (fun j hj => ?_)
    exact hA.cells j _ (by simp [cellsB, bv, hj])
theorem info8 : (Try.prog.info? 5).map (fun i => (i.zero, i.size, i.bytes)) = some (some (.int .u8 0), 1, 1) := by kernel_rfl
theorem below_drewN' {B : Nat} {a w : World} (h : Below B a w) (n : Nat) : Below B a (w.drewN n) := ⟨h.os, h.tape, h.output, h.size, h.block⟩
theorem quiet_l {P : Program} {f : FuncId} {args : Array Value} {w : World} {n : Nat} {v : Value}
    (h : Calls P f args (w.drewN n) fun e w' => e = .returned v ∧ w.drewN n = w') : Calls P f args (w.drewN n) fun e w' => e = .returned v ∧ ∃ m, w' = w.drewN m :=
  h.mono fun _ _ h => ⟨h.1, n, h.2.symm⟩
/-- What a call leaves behind of cells that lay there before it. -/
theorem bcell {B : Nat} {W w1 : World} (hb : Below B W w1) : (∀ b o, b < B → w1.cell? ⟨b, o, none⟩ = W.cell? ⟨b, o, none⟩) ∧ (∀ b o, b < B → w1.frozen? ⟨b, o, none⟩ = W.frozen? ⟨b, o, none⟩) :=
  ⟨fun b o h => hb.cell (p := ⟨b, o, none⟩) h, fun b o h => hb.frozen (p := ⟨b, o, none⟩) h⟩
/-! ### memory as it was, but for these blocks -/
structure But (S : Nat → Prop) (w w' : World) : Prop where
  os : w'.os = w.os
  tape : w'.tape = w.tape
  output : w'.output = w.output
  size : w.heap.size ≤ w'.heap.size
  block : ∀ k, k < w.heap.size → ¬ S k → w'.heap[k]? = w.heap[k]?
theorem But.refl (S : Nat → Prop) (w : World) : But S w w := ⟨rfl, rfl, rfl, Nat.le_refl _, fun _ _ _ => rfl⟩
theorem But.of_below {S : Nat → Prop} {w w' : World} (h : Below w.heap.size w w') : But S w w' := ⟨h.os, h.tape, h.output, h.size, fun k hk _ => h.block k hk⟩
theorem But.trans {S S' : Nat → Prop} {a b c : World} (h : But S a b) (k : But S' b c) (hs : ∀ x, S' x → S x ∨ a.heap.size ≤ x) : But S a c :=
  ⟨k.os.trans h.os, k.tape.trans h.tape, k.output.trans h.output, Nat.le_trans h.size k.size, fun i hi hn => (k.block i (Nat.lt_of_lt_of_le hi h.size) (fun hm => by
    rcases hs i hm with h1 | h1
    · exact hn h1
    · omega)).trans (h.block i hi hn)⟩
theorem But.on {S : Nat → Prop} {a b c : World} (h : But S a b) (k : Below b.heap.size b c) : But S a c := h.trans (But.of_below (S := fun _ => False) k) (fun _ h => h.elim)
theorem But.sub {S S' : Nat → Prop} {a b : World} (h : But S a b) (hs : ∀ x, S x → S' x) : But S' a b := ⟨h.os, h.tape, h.output, h.size, fun k hk hn => h.block k hk fun hm => hn (hs k hm)⟩
theorem But.below {S : Nat → Prop} {B : Nat} {a b : World} (h : But S a b) (hS : ∀ x, S x → B ≤ x) (hB : B ≤ a.heap.size) : Below B a b :=
  ⟨h.os, h.tape, h.output, h.size, fun k hk => h.block k (Nat.lt_of_lt_of_le hk hB) fun hm => by have := hS k hm; omega⟩
theorem But.set {S : Nat → Prop} {a b : World} (h : But S a b) {p : Addr} (hp : S p.block ∨ a.heap.size ≤ p.block) (u : Value) : But S a (b.setCell p u) :=
  h.trans (S' := fun x => x = p.block) ⟨rfl, rfl, rfl, by simp [World.setCell], fun k _ hn => Below.heap_setCell _ _ _ _ hn⟩ (fun x hx => by subst hx; exact hp)
theorem But.setk {S : Nat → Prop} {a b : World} (h : But S a b) (k o : Nat) (hp : S k ∨ a.heap.size ≤ k) (u : Value) : But S a (b.setCell ⟨k, o, none⟩ u) := h.set (p := ⟨k, o, none⟩) hp u
theorem But.drew {S : Nat → Prop} {a b : World} (h : But S a b) : But S a b.drew := ⟨h.os, h.tape, h.output, h.size, h.block⟩
theorem But.alloc {S : Nat → Prop} {a b : World} (h : But S a b) (o : Obj) : But S a (b.alloc o) := h.on ((Below.refl _ _).alloc (Nat.le_refl _) o)
theorem But.grown {S : Nat → Prop} {a b c : World} {row : Option Nat} (h : But S a b) (hg : b.grownBy c row) (hr : ∀ k, row = some k → S k ∨ a.heap.size ≤ k) : But S a c :=
  h.trans (S' := fun x => row = some x) ⟨hg.os, hg.tape, hg.output, hg.size, fun k hk hn => hg.block k hk (fun e => hn e.symm)⟩ (fun x hx => hr x hx)
theorem But.cell {S : Nat → Prop} {a b : World} (h : But S a b) (k o : Nat) (hk : k < a.heap.size) (hn : ¬ S k) : b.cell? ⟨k, o, none⟩ = a.cell? ⟨k, o, none⟩ := World.cell?_of_block (w := a) (h.block k hk hn)
theorem But.frozen {S : Nat → Prop} {a b : World} (h : But S a b) (k o : Nat) (hk : k < a.heap.size) (hn : ¬ S k) : b.frozen? ⟨k, o, none⟩ = a.frozen? ⟨k, o, none⟩ := World.frozen?_of_block (w := a) (h.block k hk hn)
theorem own_but {S : Nat → Prop} {a b : World} {base : Nat} {e : TypeId} {size : Nat} {v : Value} {n : Nat} {xs : List Value} (h : a.ownsRow base e size v n xs) (hb : But S a b) (hn : ∀ k, v.ownBlock = some k → ¬ S k) : b.ownsRow base e size v n xs := by
  refine ⟨h.1, ?_⟩
  rcases h.2 with h0 | ⟨g, cap, cur, rfl, h1, h2, rest⟩
  · exact .inl h0
  · exact .inr ⟨g, cap, cur, rfl, h1, (hb.block g (Array.getElem?_eq_some_iff.1 h2).1 (hn g rfl)).trans h2, rest⟩
theorem cell_other {w : World} {k i j : Nat} {v : Value} (h : i ≠ j) : (w.setCell ⟨k, i, none⟩ v).cell? ⟨k, j, none⟩ = w.cell? ⟨k, j, none⟩ :=
  World.cell?_setCell_other _ _ _ _ (by intro e; exact h (congrArg Addr.off e))
/-! ### names in memory -/
abbrev nmOf (s : ByteArray) : Nm := s.data.toList
theorem nmOf_mk (x : Nm) : nmOf ⟨x.toArray⟩ = x := by simp [nmOf]
theorem size_nm (s : ByteArray) : s.size = (nmOf s).length := by show s.data.size = _; rw [Array.length_toList]
theorem okName_len {x : Nm} (h : okName x = true) : 1 ≤ x.length ∧ x.length ≤ 32 := by
  unfold okName at h
  simp only [Bool.and_eq_true, decide_eq_true_eq] at h
  exact h.1
theorem okName_max {x : Nm} (h : okName x = true) : x.length ≤ maxLen := by
  have := (okName_len h).2
  unfold maxLen
  omega
/-! ### a map from names to files -/
def ptrV (o : Option Nat) : Value := .pointer (o.map fun k => ⟨k, 0, none⟩)
def ptrD (o : Option Nat) : DataW Unit :=
  match o with
  | none => .nil
  | some k => .lit (.int .i64 k)
theorem ptrD_inj {a b : Option Nat} (h : ptrD a = ptrD b) : a = b := by
  cases a <;> cases b <;> simp [ptrD] at h ⊢
  exact Int.ofNat.inj h
def RP (v : Value) : Option (DataW Unit × List MemPlace) :=
  match v with
  | .pointer none => some (.nil, [])
  | .pointer (some a) => if a.off = 0 ∧ a.spot = none then some (.lit (.int .i64 a.block), []) else none
  | _ => none
theorem RP_mk (o : Option Nat) : RP (ptrV o) = some (ptrD o, []) := by cases o <;> simp [RP, ptrV, ptrD]
theorem RP_inv {v : Value} {y : DataW Unit × List MemPlace} (h : RP v = some y) : ∃ o, v = ptrV o ∧ y = (ptrD o, []) := by
  unfold RP at h
  split at h
  · cases h
    exact ⟨none, rfl, rfl⟩
  · rename_i a
    split at h
    · rename_i ha
      cases h
      obtain ⟨b, off, spot⟩ := a
      obtain ⟨rfl, rfl⟩ := ha
      exact ⟨some b, rfl, rfl⟩
    · cases h
  · cases h
abbrev NK := Nm × Nat
def look (x : Nm) (L : List NK) : Option Nat := (fnd Prod.fst x L).map Prod.snd
theorem look_nil (x : Nm) : look x [] = none := rfl
theorem look_ins (y : Nm) (e : NK) (L : List NK) (h : ∀ a ∈ L, a.1 ≠ e.1) : look y (ins Prod.fst e L) = if y = e.1 then some e.2 else look y L := by
  have key : ∀ (b : NK) (M : List NK), look y (b :: M) = if y = b.1 then some b.2 else look y M := fun b M => by
    unfold look fnd
    rw [List.find?_cons]
    by_cases hb : b.1 = y
    · rw [if_pos hb.symm]; simp [hb]
    · rw [if_neg (fun e => hb e.symm)]; simp [hb]
  induction L with
  | nil => exact key e []
  | cons b L ih =>
    unfold ins
    split
    · exact key e _
    · rw [key, key, ih fun a ha => h a (by simp [ha])]
      by_cases h1 : y = b.1
      · have hne : ¬ y = e.1 := fun h2 => h b (by simp) (h1.symm.trans h2)
        rw [if_pos h1, if_neg hne, if_pos h1]
      · rw [if_neg h1, if_neg h1]
theorem look_del (y x : Nm) (L : List NK) : look y (del Prod.fst x L) = if y = x then none else look y L := by
  induction L with
  | nil => simp [del, look_nil]
  | cons b L ih =>
    have key : ∀ (b : NK) (M : List NK), look y (b :: M) = if y = b.1 then some b.2 else look y M := fun b M => by
      unfold look fnd
      rw [List.find?_cons]
      by_cases hb : b.1 = y
      · rw [if_pos hb.symm]; simp [hb]
      · rw [if_neg (fun e => hb e.symm)]; simp [hb]
    unfold del at ih ⊢
    by_cases e : b.1 = x
    · rw [List.filter_cons_of_neg (by simp [e]), ih, key]
      by_cases h1 : y = x
      · rw [if_pos h1, if_pos h1]
      · rw [if_neg h1, if_neg h1, if_neg (fun h2 => h1 (h2.trans e))]
    · rw [List.filter_cons_of_pos (by simpa using e), key, key, ih]
      by_cases h1 : y = b.1
      · rw [if_pos h1, if_pos h1, if_neg (fun h2 => e (h1.symm.trans h2))]
      · rw [if_neg h1, if_neg h1]
theorem look_isSome {x : Nm} {L : List NK} : (look x L).isSome = true ↔ x ∈ L.map Prod.fst := by
  unfold look
  rw [Option.isSome_map]
  constructor
  · intro h
    obtain ⟨a, ha⟩ := Option.isSome_iff_exists.1 h
    obtain ⟨h1, h2⟩ := Disk.fnd_some ha
    exact List.mem_map.2 ⟨a, h1, h2⟩
  · intro h
    obtain ⟨a, h1, h2⟩ := List.mem_map.1 h
    cases e : fnd Prod.fst x L with
    | some b => rfl
    | none => exact absurd h2 (Disk.fnd_none e a h1)
theorem keyS : Keyed Try.prog 9 := string_keyed Try.underlying9
theorem key_nm (s : ByteArray) (h : (nmOf s).length ≤ maxLen) : keyOf Try.prog 9 (.string s) = some (.string (nmOf s)) := WideMaps.keyOf_string_mk Try.underlying9 (by rw [size_nm]; exact h)
theorem isKey (x : Nm) (h : x.length ≤ maxLen) : WideAt.IsKeyLit (.string x) := by
  have := keyS.key (key_nm ⟨x.toArray⟩ (by rw [nmOf_mk]; exact h))
  rwa [nmOf_mk] at this
theorem zeroP (w : World) : (zeroValue 71).run Try.prog w = .ok (.pointer none) w := by kernel_rfl
/-- Block m is a map of these names to these files. -/
def MapP (w : World) (m : Nat) (L : List NK) : Prop :=
  ∃ D : DataW Unit, w.ownsMap Try.prog 9 RP m L.length D ∧ (∀ x : Nm, Maps.has D (.string x) = (look x L).isSome ∧ D.atKey (.string x) .nil = ptrD (look x L)) ∧ Maps.size D = L.length ∧ Up Prod.fst L ∧ ∀ a ∈ L, a.1.length ≤ maxLen
theorem own_tight {w : World} {b n : Nat} {D : DataW Unit} (h : w.ownsMap Try.prog 9 RP b n D) {j : Nat} (hs : Maps.size D = j) : w.ownsMap Try.prog 9 RP b j D := by
  obtain ⟨es, clock, hb, F, _, rfl⟩ := h
  refine ⟨es, clock, hb, F, Nat.le_of_eq ?_, rfl⟩
  rw [← hs]
  simp [Maps.size, length_sorted]
theorem MapP.up {w : World} {m : Nat} {L : List NK} (h : MapP w m L) : Up Prod.fst L := by obtain ⟨D, _, _, _, h, _⟩ := h; exact h
theorem MapP.lt {w : World} {m : Nat} {L : List NK} (h : MapP w m L) : m < w.heap.size := by obtain ⟨D, h, _⟩ := h; exact h.lt
theorem MapP.but {S : Nat → Prop} {w w' : World} {m : Nat} {L : List NK} (h : MapP w m L) (hb : But S w w') (hn : ¬ S m) : MapP w' m L := by
  obtain ⟨D, h1, h2⟩ := h
  have hlt := h1.lt
  obtain ⟨es, clock, hbk, F, hs, hD⟩ := h1
  exact ⟨D, ⟨es, clock, (hb.block m hlt hn).trans hbk, F, hs, hD⟩, h2⟩
theorem MapP.below {w w' : World} {m : Nat} {L : List NK} (h : MapP w m L) (hb : Below w.heap.size w w') : MapP w' m L := h.but (But.of_below (S := fun _ => False) hb) (fun h => h)
theorem MapP.made (w : World) : MapP (w.alloc (.map #[] 0)) w.heap.size [] :=
  ⟨.map [], World.ownsMap_made _ _ _ _, fun _ => ⟨rfl, rfl⟩, rfl, List.Pairwise.nil, by simp⟩
theorem MapP.lookup {w : World} {m : Nat} {L : List NK} (h : MapP w m L) (s : ByteArray) (hs : (nmOf s).length ≤ maxLen) : (Instr.lookup 61 (.map (some m)) (.string s) false).run Try.prog w = .ok (ptrV (look (nmOf s) L)) w := by
  obtain ⟨D, h1, h2, _⟩ := h
  obtain ⟨v, ps, hr, hv⟩ := h1.lookup (t := 61) (e := 71) keyS Try.underlying61 (zeroP w) (RP_mk none) (key_nm s hs)
  obtain ⟨o, rfl, ho⟩ := RP_inv hv
  rw [hr]
  have : ptrD (look (nmOf s) L) = ptrD o := by
    rw [← (h2 (nmOf s)).2]
    exact congrArg Prod.fst ho
  rw [ptrD_inj this]
theorem MapP.len {w : World} {m : Nat} {L : List NK} (h : MapP w m L) (ty : TypeId) : (Builtin.len_ #[61] ty #[.map (some m)]).run Try.prog w = .ok (.int .i64 L.length) w := by
  obtain ⟨D, h1, h2, h3, _⟩ := h
  rw [← h3]
  exact h1.len (k := 9) (e := 71) Try.underlying61 ty
theorem MapP.put {w : World} {m : Nat} {L : List NK} (h : MapP w m L) (s : ByteArray) (k : Nat) (hs : (nmOf s).length ≤ maxLen) (hl : L.length < maxLen) : ∃ w', (Instr.mapUpdate 61 (.map (some m)) (.string s) (.pointer (some ⟨k, 0, none⟩))).run Try.prog w = .ok () w' ∧ MapP w' m (ins Prod.fst (nmOf s, k) (del Prod.fst (nmOf s) L)) ∧ w.grownBy w' (some m) := by
  obtain ⟨D, h1, h2, h3, h4, h5⟩ := h
  obtain ⟨w', hr, ho, hg⟩ := h1.update (t := 61) (e := 71) keyS Try.underlying61 hl (key_nm s hs) (val := .pointer (some ⟨k, 0, none⟩)) (RP_mk (some k))
  have hsz : Maps.size (D.put (.string (nmOf s)) (ptrD (some k))) = (ins Prod.fst (nmOf s, k) (del Prod.fst (nmOf s) L)).length := by
    rw [size_put (h1.tidy keyS), (h2 (nmOf s)).1, h3, Disk.len_ins]
    by_cases hm : (look (nmOf s) L).isSome = true
    · rw [if_pos hm]
      obtain ⟨a, ha, e⟩ := List.mem_map.1 (look_isSome.1 hm)
      rw [← e]
      exact (Disk.len_del_mem h4 ha).symm
    · rw [if_neg hm]
      have : ∀ a ∈ L, a.1 ≠ nmOf s := fun a ha e => hm (look_isSome.2 (List.mem_map.2 ⟨a, ha, e⟩))
      rw [Disk.del_none this]
  have hne : ∀ a ∈ del Prod.fst (nmOf s) L, a.1 ≠ (nmOf s, k).1 := fun a ha => (Disk.mem_del.1 ha).2
  refine ⟨w', hr, ⟨_, own_tight ho hsz, fun y => ?_, hsz, (h4.del _).ins hne, fun a ha => ?_⟩, hg⟩
  · rw [look_ins _ _ _ hne, look_del]
    by_cases e : y = nmOf s
    · subst e
      rw [if_pos rfl]
      exact ⟨has_put_same h1.isMap (isKey _ hs) _, atKey_put_same h1.isMap (isKey _ hs) _ _⟩
    · have ne : Lit.string y ≠ .string (nmOf s) := fun h => e (by injection h)
      rw [if_neg e, if_neg e, has_put_other ne, atKey_put_other ne]
      exact h2 y
  · rcases Disk.mem_ins.1 ha with rfl | ha
    · exact hs
    · exact h5 a (Disk.mem_del.1 ha).1
theorem MapP.drop {w : World} {m : Nat} {L : List NK} (h : MapP w m L) (s : ByteArray) (hs : (nmOf s).length ≤ maxLen) (ty : TypeId) : ∃ w', (Builtin.delete_ #[61, 9] ty #[.map (some m), .string s]).run Try.prog w = .ok (.tuple #[]) w' ∧ MapP w' m (del Prod.fst (nmOf s) L) ∧ w.grownBy w' (some m) := by
  obtain ⟨D, h1, h2, h3, h4, h5⟩ := h
  obtain ⟨w', hr, ho, hg⟩ := h1.drop (t := 61) (e := 71) keyS Try.underlying61 (key_nm s hs) ty
  have hsz : Maps.size (D.del (.string (nmOf s))) = (del Prod.fst (nmOf s) L).length := by
    have hd := size_del (k := .string (nmOf s)) (h1.tidy keyS)
    rw [(h2 (nmOf s)).1, h3] at hd
    by_cases hm : (look (nmOf s) L).isSome = true
    · rw [if_pos hm] at hd
      obtain ⟨a, ha, e⟩ := List.mem_map.1 (look_isSome.1 hm)
      have := Disk.len_del_mem h4 ha
      rw [e] at this
      omega
    · rw [if_neg hm] at hd
      have : ∀ a ∈ L, a.1 ≠ nmOf s := fun a ha e => hm (look_isSome.2 (List.mem_map.2 ⟨a, ha, e⟩))
      rw [Disk.del_none this]
      omega
  refine ⟨w', hr, ⟨_, own_tight ho hsz, fun y => ?_, hsz, h4.del _, fun a ha => h5 a (Disk.mem_del.1 ha).1⟩, hg.grown⟩
  rw [look_del]
  by_cases e : y = nmOf s
  · subst e
    rw [if_pos rfl]
    exact ⟨has_del_same, atKey_del_same _⟩
  · have ne : Lit.string y ≠ .string (nmOf s) := fun h => e (by injection h)
    rw [if_neg e, has_del_other ne, atKey_del_other ne]
    exact h2 y
/-! ### such a map ranged over: M is still to come -/
def RngP (w : World) (m r : Nat) (L : List NK) (M : List Nm) (cnt : Nat) : Prop :=
  ∃ (D : DataW Unit) (left : Lit → Bool), w.ranges Try.prog 9 RP m r L.length D left cnt ∧ (∀ x : Nm, left (.string x) = decide (x ∈ M)) ∧ M.Nodup ∧ (∀ x ∈ M, x ∈ L.map Prod.fst) ∧
    (∀ x : Nm, Maps.has D (.string x) = (look x L).isSome ∧ D.atKey (.string x) .nil = ptrD (look x L)) ∧ Maps.size D = L.length ∧ Up Prod.fst L ∧ ∀ a ∈ L, a.1.length ≤ maxLen
theorem RngP.map {w : World} {m r : Nat} {L : List NK} {M : List Nm} {cnt : Nat} (h : RngP w m r L M cnt) : MapP w m L := by
  obtain ⟨D, left, h1, h2, h3, h4, h5⟩ := h
  exact ⟨D, h1.owns, h5⟩
theorem RngP.but {S : Nat → Prop} {w w' : World} {m r : Nat} {L : List NK} {M : List Nm} {cnt : Nat} (h : RngP w m r L M cnt) (hb : But S w w') (hm : ¬ S m) (hr : ¬ S r) : RngP w' m r L M cnt := by
  obtain ⟨D, left, h1, h2⟩ := h
  have l1 := h1.owns.lt
  have l2 := h1.lt
  obtain ⟨es, clock, since, seen, c0, hb0, F, hs, hD, hr0, rest⟩ := h1
  exact ⟨D, left, ⟨es, clock, since, seen, c0, (hb.block m l1 hm).trans hb0, F, hs, hD, (hb.block r l2 hr).trans hr0, rest⟩, h2⟩
theorem RngP.left {w : World} {m r : Nat} {L : List NK} {M : List Nm} {cnt : Nat} (h : RngP w m r L M cnt) : w.rangeLeft m r = cnt := by
  obtain ⟨D, left, h1, h2⟩ := h
  exact h1.left_eq
theorem RngP.lt {w : World} {m r : Nat} {L : List NK} {M : List Nm} {cnt : Nat} (h : RngP w m r L M cnt) : r < w.heap.size := by
  obtain ⟨D, left, h1, h2⟩ := h
  exact h1.lt
theorem wpList_range_P (w : World) {ops : Array Oper} {rest : List Oper} {o : Oper} {a : Act} {Q : Exit → Act → World → Prop} (hg : o.guard = none) (x : Operand) (hop : o.op = Op.range 61 x) (m : Nat) (L : List NK) (hm : a.eval x = .map (some m)) (h : MapP w m L)
    (hK : ∀ w', RngP w' m w.heap.size L (L.map Prod.fst) L.length → Below w.heap.size w w' → w'.heap.size = w.heap.size + 1 → wpList Try.prog ops Q rest (a.put o.dst (.pointer (some ⟨w.heap.size, 0, none⟩))) w') : wpList Try.prog ops Q (o :: rest) a w := by
  obtain ⟨D, h1, h2, h3, h4, h5⟩ := h
  refine wpList_range_own w hg x _ hop 9 71 keyS Try.underlying61 _ m _ D hm h1 fun w' r1 r2 r3 => hK w' ⟨D, _, h3 ▸ r1, fun y => ?_, h4.nd, fun _ h => h, h2, h3, h4, h5⟩ ⟨r2.os, r2.tape, r2.output, r2.size, fun i hi => r2.block i hi (by simp)⟩ r3
  rw [(h2 y).1, Bool.eq_iff_iff, look_isSome]
  simp
theorem wpList_next_P (w : World) {ops : Array Oper} {rest : List Oper} {o : Oper} {a : Act} {Q : Exit → Act → World → Prop} (hg : o.guard = none) (it : Operand) (hop : o.op = Op.next it false) (m r : Nat) (L : List NK) (M : List Nm) (cnt : Nat) (hit : a.eval it = .pointer (some ⟨r, 0, none⟩)) (h : RngP w m r L M cnt)
    (hDone : M = [] → wpList Try.prog ops Q rest (a.put o.dst (.tuple #[.bool false])) w)
    (hMore : ∀ (s : ByteArray) (k : Nat) (w' : World) (cnt' : Nat), RowKit.Hid (nmOf s ∈ M ∧ (nmOf s, k) ∈ L) → RngP w' m r L (M.filter fun y => !decide (y = nmOf s)) cnt' → cnt' < cnt → But (fun b => b = r) w w' → w'.heap.size = w.heap.size → (Instr.entry (.pointer (some ⟨r, 0, none⟩))).run Try.prog w' = .ok (.tuple #[.string s, .pointer (some ⟨k, 0, none⟩)]) w' → wpList Try.prog ops Q rest (a.put o.dst (.tuple #[.bool true, .string s, .pointer (some ⟨k, 0, none⟩)])) w') : wpList Try.prog ops Q (o :: rest) a w := by
  obtain ⟨D, left, h1, h2, h3, h4, h5, h6, h7, h8⟩ := h
  refine wpList_next_ranges w hg it hop 9 keyS _ (fun s : ByteArray => Value.string s) ptrV (fun key kl hkey => ?_) (fun v y hv => by obtain ⟨c, rfl, _⟩ := RP_inv hv; exact ⟨c, rfl⟩) m r _ D left cnt hit h1 (fun _ hl => hDone ?_) ?_
  · obtain ⟨x, rfl, _⟩ := Maps.keyOf_str Try.underlying9 hkey
    exact ⟨⟨x.toArray⟩, rfl⟩
  · cases M with
    | nil => rfl
    | cons x M =>
      have := h2 x
      rw [hl] at this
      simp at this
  · intro s c kl y w' cnt' hkey hlk hv hat hrg hlt hgr hsz hen
    have hkl : kl = .string (nmOf s) := by
      obtain ⟨x, e, rfl, _⟩ := Maps.keyOf_str Try.underlying9 hkey
      have : s = ⟨x.toArray⟩ := by injection e
      rw [this, nmOf_mk]
    subst hkl
    have hm : nmOf s ∈ M := by
      have := h2 (nmOf s)
      rw [hlk] at this
      simpa using this.symm
    have hL := h4 _ hm
    have hsome := look_isSome.2 hL
    obtain ⟨k, hk⟩ := Option.isSome_iff_exists.1 hsome
    have hc : c = some k := by
      rw [RP_mk] at hv
      have e1 := hat .nil
      rw [(h5 (nmOf s)).2, hk] at e1
      have e2 : ptrD c = y.1 := congrArg Prod.fst (Option.some.inj hv)
      exact ptrD_inj (e2.trans e1.symm)
    subst hc
    have hkL : (nmOf s, k) ∈ L := by
      unfold look at hk
      obtain ⟨a, ha, e⟩ := Option.map_eq_some_iff.1 hk
      obtain ⟨g1, g2⟩ := Disk.fnd_some ha
      have : a = (nmOf s, k) := by rw [← g2, ← e]
      exact this ▸ g1
    refine hMore s k w' cnt' (Lib.hid ⟨hm, hkL⟩) ⟨D, _, hrg, fun z => ?_, h3.filter _, fun z hz => h4 z (List.mem_filter.1 hz).1, h5, h6, h7, h8⟩ hlt ⟨hgr.os, hgr.tape, hgr.output, hgr.size, fun i hi hn => hgr.block i hi (by intro e; cases e; exact hn rfl)⟩ hsz hen
    have hz : (Lit.string z).sameKey (.string (nmOf s)) = decide (z = nmOf s) := by
      by_cases ez : z = nmOf s
      · subst ez
        have hsm : (nmOf s).length ≤ maxLen := h8 _ hkL
        rw [WideAt.sameKey_self (isKey _ hsm)]
        simp
      · cases hk : (Lit.string z).sameKey (.string (nmOf s)) with
        | false => simp [ez]
        | true => exact absurd (by have := WideAt.sameKey_eq hk; injection this) ez
    show (left (.string z) && !(Lit.string z).sameKey (.string (nmOf s))) = _
    rw [h2 z, hz]
    by_cases ez : z = nmOf s <;> by_cases em : z ∈ M <;> simp [ez, em]
end Go.Proofs.Ythnfpkbpakffgaa
