/- What WireReads' walk begins with: New in memory of its own, a reader made new, readers while own is turned. -/
import Derived.Test.YtokgpifelinonaaR14
namespace Go.Proofs.Ytokgpifelinonaa
open Go.RowKit
set_option maxRecDepth 100000 in
set_option maxHeartbeats 1000000 in
theorem New_fresh (A : Option Addr) (l : List UInt8) (cap : Nat) (w : World) (hA : At w A l) (hz : A = none → cap = 0) (hm : l.length ≤ 140737488355328) :
    Calls Try.prog 6 #[.slice A l.length cap] w fun e w' => ∃ g P c, e = .returned (.pointer (some ⟨g, 0, none⟩)) ∧ w.heap.size ≤ g ∧ Rd w' g 0 P c l ∧ Below w.heap.size w w' ∧ ∀ b off, P = some ⟨b, off, none⟩ → w.heap.size ≤ b := by
  have C := Lib.hid (Clone_any A l cap w hA hz hm)
  have HM := Lib.hid hm
  clear hA hz hm
  go_enter Try.func6, Try.ntmps6
  go_wp2_with (go_at_call 25; ((refine (C.out).mono ?_); rintro e w1 ⟨P, c1, rfl, ho, hb⟩; have HO := Lib.hid ho; have HB := Lib.hid hb; clear ho hb))
  go_ret
  refine ⟨w1.heap.size, P, c1, rfl, HB.out.size, ⟨by simpa using heap_alloc_new w1 _, ⟨Nat.zero_le _, HM.out, ?_⟩, fun h0 => ?_⟩, HB.out.alloc HB.out.size _, fun b off hP => ?_⟩
  · rcases HO.out.2 with ⟨h, h0⟩ | ⟨g, cap', cur, h, _, _, h1, h2, _⟩
    · injection h with _ _ h'; omega
    · injection h with _ _ h'; omega
  · obtain ⟨b, off, e, hl, hc⟩ := own_at HO.out h0
    refine ⟨b, off, e, by simp; omega, by omega, fun i hi => ?_⟩
    rw [World.cell?_alloc_lt _ _ _ hl]
    exact hc i hi
  · subst hP
    exact (World.ownsRow.lt HO.out b rfl).1
theorem Own1.parts {base c : Nat} {w : World} {A : Option Addr} {l : List UInt8} (h : Own1 base w (.slice A l.length c) l) : (A = none ∧ l.length = 0) ∨ ∃ g, A = some ⟨g, 0, none⟩ ∧ Mine w g l ∧ base ≤ g := by
  rcases h.2 with ⟨h1, h0⟩ | ⟨g', cap', cur, hv, hge, hh, hr⟩
  · injection h1 with a _ _
    exact .inl ⟨a, h0⟩
  · injection hv with a _ _
    subst a
    exact .inr ⟨g', rfl, own_mine h, hge⟩
/-- The document's reader, made new. -/
theorem Qd.new {w : World} {A : Option Addr} {c : Nat} {L : List UInt8} {t : TypeId} (hA : At w A L) (hz : A = none → c = 0) (hlc : L.length ≤ c) (hs : L.length ≤ 1000) : Qd (w.alloc (.cells #[.slice A L.length c] t)) w.heap.size L := by
  refine ⟨by simp, ?_, ⟨A, c, by rw [cell_of_row _ _ _ _ _ _ (heap_alloc_new w _)]; rfl, hlc, hz, fun h0 => ?_⟩, hs⟩
  · unfold World.frozen?
    simp only []
    rw [heap_alloc_new w _]
    simp
  · obtain ⟨b, off, e, hl, hc⟩ := hA h0
    refine ⟨b, off, e, by omega, by simp; omega, fun i hi => ?_⟩
    rw [World.cell?_alloc_lt _ _ _ hl]
    exact hc i hi
theorem Rd.fl {w wr : World} {B : Nat → Prop} {g k c : Nat} {P : Option Addr} {l : List UInt8} (h : Rd w g k P c l) (hf : Fl w wr B) (hg : ¬ B g) (hP : 0 < l.length → ∀ b off, P = some ⟨b, off, none⟩ → ¬ B b) : Rd wr g k P c l := by
  refine ⟨(hf.2.2.2.2 g h.lt hg).trans h.1, h.2.1, fun h0 => ?_⟩
  obtain ⟨b, off, h1, h2, h3, h4⟩ := h.2.2 h0
  exact ⟨b, off, h1, Nat.lt_of_lt_of_le h2 hf.2.2.2.1, h3, fun i hi => (hf.cell h2 (hP h0 b off h1)).trans (h4 i hi)⟩
theorem Qd.fl {w wr : World} {B : Nat → Prop} {Q : Nat} {L : List UInt8} (h : Qd w Q L) (hf : Fl w wr B) (hQ : ¬ B Q) (hA : 0 < L.length → ∀ A c b off, w.cell? ⟨Q, 0, none⟩ = some (.slice A L.length c) → A = some ⟨b, off, none⟩ → ¬ B b) : Qd wr Q L := by
  obtain ⟨A, c, hc, hlc, hz, hcells⟩ := h.some_
  refine ⟨Nat.lt_of_lt_of_le h.lt hf.2.2.2.1, (hf.frozen h.lt hQ).trans h.free, ⟨A, c, (hf.cell h.lt hQ).trans hc, hlc, hz, fun h0 => ?_⟩, h.short⟩
  obtain ⟨b, off, h1, h2, h3, h4⟩ := hcells h0
  exact ⟨b, off, h1, h2, Nat.lt_of_lt_of_le h3 hf.2.2.2.1, fun i hi => (hf.cell h3 (hA h0 A c b off hc h1)).trans (h4 i hi)⟩
end Go.Proofs.Ytokgpifelinonaa
