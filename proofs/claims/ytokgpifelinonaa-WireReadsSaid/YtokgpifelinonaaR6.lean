/- The statement WireLays, walked. -/
import Derived.Test.YtokgpifelinonaaR5
import Derived.Great.BuildSlice
namespace Go.Proofs.Ytokgpifelinonaa
open Go.RowKit
theorem take_in {P : Program} {md : Region.Mode} {ops : Array Oper} {Q : Exit → Act → World → Prop} {S : World → Prop} {i : Nat} {oi : Oper} {v : Value} {fuel : Nat} {listed : Array Bool} {a : Act} {w : World} (d : Option Nat) (hi : ops[i]? = some oi) (hd : oi.dst = d)
    (hs : Region.noSelect ops = true) (hf : Region.free md ops listed i = true) (hr : (Region.ready md ops listed).contains i = true)
    (hQ : ∀ c a w, Q (.panic c) (a.put d v) w → Q (.panic c) a w) (hy : YieldsIf P ops S oi v a) (hS : S w)
    (h : wpAnyH P md ops Q S fuel (listed.setIfInBounds i true) (a.put d v) w) : wpAnyH P md ops Q S (fuel + 1) listed a w := by
  subst hd
  exact wpAnyH_take hi hs hf hr hQ hy hS h
theorem encInt_le (z : Int) (h : fits z) : (encInt z).length ≤ 9 := by
  unfold fits at h
  unfold encInt
  split
  · have := nlen_8 z.toNat (by omega)
    rw [List.length_cons, digs_length]
    omega
  · have := nlen_8 (-(z + 1)).toNat (by omega)
    rw [List.length_cons, flip8_length, digs_length]
    omega
theorem extract_len (s : ByteArray) (k : Nat) (h : k ≤ 300) : (encText (s.extract 0 k).data.toList).length ≤ 602 := by
  have h1 := (escT_length (s.extract 0 k).data.toList).2
  have h2 : (s.extract 0 k).data.toList.length ≤ 300 := by simp; omega
  have h3 : (encText (s.extract 0 k).data.toList).length = (escT (s.extract 0 k).data.toList).length + 2 := by unfold encText; simp
  omega
/-- The struct that came in, in a box of the call's own. -/
def Box (w : World) (g n : Nat) (z : Int) (f : Nat) (s : ByteArray) (c : UInt8) (wk : World) : Prop :=
  Below w.heap.size w wk ∧ g < wk.heap.size ∧ wk.cell? ⟨g, 0, none⟩ = some (.int .u64 n) ∧ wk.cell? ⟨g, 1, none⟩ = some (.int .i64 z) ∧ wk.cell? ⟨g, 2, none⟩ = some (.float .f64 f) ∧ wk.cell? ⟨g, 3, none⟩ = some (.string s) ∧ wk.cell? ⟨g, 4, none⟩ = some (.int .u8 (c.toNat : Int))
theorem Box.step {w wk wk' : World} {g n : Nat} {z : Int} {f : Nat} {s : ByteArray} {c : UInt8} (h : Box w g n z f s c wk) (hb : Below wk.heap.size wk wk') : Box w g n z f s c wk' := by
  obtain ⟨h1, h2, c0, c1, c2, c3, c4⟩ := h
  have sz := hb.size
  exact ⟨h1.trans (hb.mono h1.size), by omega, (hb.cell (p := ⟨g, 0, none⟩) h2).trans c0, (hb.cell (p := ⟨g, 1, none⟩) h2).trans c1, (hb.cell (p := ⟨g, 2, none⟩) h2).trans c2, (hb.cell (p := ⟨g, 3, none⟩) h2).trans c3, (hb.cell (p := ⟨g, 4, none⟩) h2).trans c4⟩
theorem Turning.drew {W wr : World} {ds : Nat → Nat} {i n : Nat} {D : Option Addr} (h : Turning W wr ds i n D) : Turning W wr.drew ds i n D :=
  ⟨h.1.drew, h.2.imp id fun ⟨e, L, hL, hm⟩ => ⟨e, L, hL, hm.below (Below.refl _ _).drew⟩⟩
def five {α : Type} (a b c d e : α) : Nat → α
  | 0 => a
  | 1 => b
  | 2 => c
  | 3 => d
  | _ => e
theorem five_cases {j : Nat} (h : j < 5) : j = 0 ∨ j = 1 ∨ j = 2 ∨ j = 3 ∨ j = 4 := by omega
/-- A slice of the call's own, between two blocks. -/
structure Has (m u : Nat) (A : Option Addr) (L : List UInt8) (w : World) : Prop where
  at_ : At w A L
  fr : ∀ b off, A = some ⟨b, off, none⟩ → m ≤ b ∧ b < u
  ul : u ≤ w.heap.size
theorem Has.below {m u B : Nat} {A : Option Addr} {L : List UInt8} {w w' : World} (h : Has m u A L w) (hb : Below B w w') (hu : u ≤ B) : Has m u A L w' :=
  ⟨fun h0 => by
    obtain ⟨b, off, e, hl, hc⟩ := h.at_ h0
    have hs := hb.size
    exact ⟨b, off, e, by omega, fun i hi => (hb.cell (p := ⟨b, off + i, none⟩) (by have := (h.fr b off e).2; show b < B; omega)).trans (hc i hi)⟩, h.fr, Nat.le_trans h.ul hb.size⟩
theorem Has.step {m u : Nat} {A : Option Addr} {L : List UInt8} {w w' : World} (h : Has m u A L w) (hb : Below w.heap.size w w') : Has m u A L w' := h.below hb h.ul
theorem Has.up {m u v : Nat} {A : Option Addr} {L : List UInt8} {w : World} (h : Has m u A L w) (hu : u ≤ v) (hv : v ≤ w.heap.size) : Has m v A L w := ⟨h.at_, fun b off e => by have := h.fr b off e; omega, hv⟩
theorem Own1.has {base m n c : Nat} {w : World} {A : Option Addr} {L : List UInt8} (h : Own1 base w (.slice A n c) L) (hm : m ≤ base) : Has m w.heap.size A L w := by
  obtain ⟨A', c', e, _, _, hA⟩ := h.at
  injection e with e1 _ _
  subst e1
  exact ⟨hA, fun b off e => by have := h.fresh b off e; omega, Nat.le_refl _⟩
def TellsH (m : Nat) (L : List UInt8) (wk : World) (e : Ending) (w' : World) : Prop := ∃ A c, e = .returned (.slice A L.length c) ∧ Has m w'.heap.size A L w' ∧ Below wk.heap.size wk w'
theorem TellsH.of {m : Nat} {wk w' : World} {L : List UInt8} {e : Ending} (h : Tells wk L e w') (hm : m ≤ wk.heap.size) : TellsH m L wk e w' := by
  obtain ⟨v, h1, h2, h3⟩ := h
  obtain ⟨A, c, rfl, _, _, hA⟩ := h2.at
  exact ⟨A, c, h1, h2.has hm, h3⟩
section
variable {ops : Array Oper} {o : Oper} {a : Act} {K : Act → World → Prop} {Q : Exit → Act → World → Prop} {E : Prop} {w : World}
theorem step_own (dd : Option Nat) (hdd : o.dst = dd) (hw : Region.wanted o (yielded ops a.tmps) = true) (s x : Operand) (ho : o.op = .call { callee := .builtin .append, args := #[s, x], argTypes := #[22, 22] })
    (base : Nat) (v : Value) (l : List UInt8) (hs : a.eval s = v) (h : Own1 base w v l) (A : Option Addr) (n c : Nat) (news : List UInt8) (hx : a.eval x = .slice A n c) (hA : At w A news) (hz : A = none → c = 0) (hn : news.length = n)
    (hm : l.length + news.length ≤ 140737488355328) (hb : base ≤ w.heap.size)
    (hK : ∀ v' w', Own1 base w' v' (l ++ news) → Below base w w' → K (a.put dd v') w') :
    if Region.wanted o (yielded ops a.tmps) = true then Oper.wp Try.prog o a w K Q else E := by
  subst hn hdd
  rw [if_pos hw]
  obtain ⟨v', w', h1, h2, h3, h4⟩ := run_app base w v l A c news o.type h hA hz hm hb
  unfold Oper.wp execOp
  simp only [ho, resolve, invoke, builtin, Sem.run_bind, Sem.run_pure, Result.andThen_ok, List.map_toArray, List.map_cons, List.map_nil, hs, hx, h1]
  exact hK v' w' h2 (below_app h (Below.refl _ _) hb h3)
end
theorem info22 : (Try.prog.info? 22).map (fun i => (i.zero, i.size)) = some (some (.slice none 0 0), 1) := by kernel_rfl
theorem fill_five (A0 A1 A2 A3 A4 : Option Addr) (n0 n1 n2 n3 n4 c0 c1 c2 c3 c4 : Nat) :
    Instr.fill (fun i => some (i * 1, 1)) ((Array.range (5 * 1)).map ((Value.slice none 0 0).cells[· % (Value.slice none 0 0).cells.size]!)) [(0, .slice A0 n0 c0), (1, .slice A1 n1 c1), (2, .slice A2 n2 c2), (3, .slice A3 n3 c3), (4, .slice A4 n4 c4)] =
      some #[.slice A0 n0 c0, .slice A1 n1 c1, .slice A2 n2 c2, .slice A3 n3 c3, .slice A4 n4 c4] := by kernel_rfl
section
variable {ops : Array Oper} {o : Oper} {a : Act} {K : Act → World → Prop} {Q : Exit → Act → World → Prop} {E : Prop} {w : World}
end
end Go.Proofs.Ytokgpifelinonaa
