/- CodecOrder's walk. -/
import Derived.Test.YtchklaepilcbbaaGreatmZ1
import Derived.Test.YtchklaepilcbbaaGreatH2
namespace Go.Proofs.YtchklaepilcbbaaGreat
open Go.RowKit
theorem conv_all {w : World} {v : Value} {l : List UInt8} (h : GS w v l) : ∀ k, (convert 25 9 v).run Tryz.prog (w.drewN k) = .ok (.string ⟨l.toArray⟩) (w.drewN k) := fun k =>
  conv_gs (h.below (below_drewN' (Below.refl _ _) k))
theorem Puts.some {P : Prop} {l : List UInt8} {w w' : World} {e : Ending} (h : Puts P l w e w') : ∃ (u : Value) (E : Int), e = .returned (.tuple #[u, .int .i64 E]) := by
  rcases h with ⟨_, u, e, _⟩ | ⟨_, e, _⟩
  · exact ⟨u, 0, e⟩
  · exact ⟨_, 1, e⟩
/-- Two boxes of values, wherever the walk has come to. -/
structure Two (w0 w : World) (v x : VP) : Prop where
  bel : Below w0.heap.size w0 w
  b1 : Bx w w0.heap.size v.cells
  b2 : Bx w (w0.heap.size + 1) x.cells
theorem Two.new (w : World) (v x : VP) : Two w ((w.alloc (.cells v.cells 24)).alloc (.cells x.cells 24)) v x := by
  refine ⟨((Below.refl _ _).alloc (Nat.le_refl _) _).alloc (by simp) _, (Bx.new w _ _).below ((Below.refl _ _).alloc (Nat.le_refl _) _), ?_⟩
  have := Bx.new (w.alloc (.cells v.cells 24)) x.cells 24
  simpa using this
theorem Two.step {w0 w w' : World} {v x : VP} (h : Two w0 w v x) (hb : Below w.heap.size w w') : Two w0 w' v x := ⟨h.bel.trans (hb.mono h.bel.size), h.b1.below hb, h.b2.below hb⟩
section
set_option maxRecDepth 100000
set_option maxHeartbeats 4000000
theorem like_enc {v x : VP} (mv : v.may) (mx : x.may) (hv : v.wide) (hx : x.wide) : likeV v.k v.b v.n v.f v.s x.k x.b x.n x.f x.s = (v.enc == x.enc) := by
  rw [Bool.eq_iff_iff, like_iff, beq_iff_eq]
  exact ⟨fun ⟨h1, h2, h3, h4, h5⟩ => by rw [VP.eq h1 h2 h3 h4 h5], fun h => by rw [enc_inj mv mx hv hx h]; exact ⟨rfl, rfl, rfl, rfl, rfl⟩⟩
end
end Go.Proofs.YtchklaepilcbbaaGreat
