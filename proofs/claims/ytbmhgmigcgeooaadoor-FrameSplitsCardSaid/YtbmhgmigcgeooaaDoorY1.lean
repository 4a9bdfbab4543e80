/- The document's Next. -/
import Derived.Test.YtbmhgmigcgeooaaDoorY0
import Derived.Test.YtbmhgmigcgeooaaDoorH2
namespace Go.Proofs.YtbmhgmigcgeooaaDoor
open Go.RowKit
/-- What the document's Next gives where there is none. -/
def noR : Value := .tuple #[.agg #[.int .i64 0, .slice none 0 0], .int .i64 0]
set_option maxRecDepth 100000 in
theorem ref_own (A : Option Addr) (l : List UInt8) (n c : Nat) (w : World) (hA : At w A l) (hz : A = none → c = 0) (hn : l.length = n) (hm : l.length ≤ 140737488355328) :
    Calls Tryd.prog 35 #[.slice A n c] w fun e w' => ∃ v, e = .returned v ∧ Own1 w.heap.size w' v l ∧ Below w.heap.size w w' := by
  have HA := Lib.hid hA
  have HZ := Lib.hid hz
  clear hA hz
  go_enter Tryd.func35, Tryd.ntmps35
  go_wp2_with (first
    | (at_builtin; refine wpList_app _ rfl (.tmp 4) (.tmp 5) rfl w.heap.size (.slice none 0 0) [] rfl (Own1.nil _ _) A n c l rfl HA.out HZ.out hn (by simp; omega) (Nat.le_refl _) w (Below.refl _ _) ?_; intro v1 w1 ho hb _ _; have O1 := Lib.hid ho; have B1 := Lib.hid hb; clear ho hb)
    | fail)
  go_ret
  exact ⟨_, rfl, O1.out, B1.out⟩
theorem StripCN (A : Option Addr) (l : List UInt8) (n cap : Nat) (w : World) (hA : At w A l) (hc : l.length ≤ cap) (hm : l.length ≤ 140737488355328) (hn : l.length = n) :
    Calls Tryd.prog 34 #[.slice A n cap] w (StripsC w l) := by
  subst hn
  exact stripC_any A l cap w hA hc hm
set_option maxRecDepth 100000 in
set_option maxHeartbeats 1000000 in
theorem next_short (A : Option Addr) (b : List UInt8) (cap : Nat) (w : World) (h : b.length < 3) :
    Calls Tryd.prog 27 #[.slice A b.length cap] w fun e w' => e = .returned noR ∧ Below w.heap.size w w' := by
  go_enter Tryd.func27, Tryd.ntmps27
  go_wp2
  exact bodyPost_ret (v := noR) (by simp [noR, results, Tryd.results27, go_sem]) rfl ⟨rfl, (Below.refl _ _).alloc (Nat.le_refl _) _⟩
set_option maxRecDepth 100000 in
set_option maxHeartbeats 4000000 in
theorem next_no (bb off : Nat) (b : List UInt8) (cap : Nat) (w : World) (hA : At w (some ⟨bb, off, none⟩) b) (h3 : 3 ≤ b.length) (hc : b.length ≤ cap) (hm : b.length ≤ 140737488355328) (hno : nextB b = false) :
    Calls Tryd.prog 27 #[.slice (some ⟨bb, off, none⟩) b.length cap] w fun e w' => e = .returned noR ∧ Below w.heap.size w w' := by
  obtain ⟨b', off', e, hlt, hcell⟩ := hA (by omega)
  injection e with e
  injection e with e1 e2
  subst e1 e2
  have q0 := hcell 0 (by omega)
  have q1 := hcell 1 (by omega)
  have q2 := hcell 2 (by omega)
  unfold bv at q0 q1 q2
  rw [Nat.add_zero] at q0
  clear hcell
  have p0 := (b.getD 0 0).toNat_lt
  have p1 := (b.getD 1 0).toNat_lt
  have p2 := (b.getD 2 0).toNat_lt
  have HK := Lib.hid (show kindB b = (b.getD 0 0).toNat from rfl)
  have HN := Lib.hid (show lenB b = 256 * (b.getD 1 0).toNat + (b.getD 2 0).toNat from rfl)
  generalize b.getD 0 0 = c0 at *
  generalize b.getD 1 0 = c1 at *
  generalize b.getD 2 0 = c2 at *
  obtain ⟨N, hN⟩ : ∃ N, 256 * c1.toNat + c2.toNat = N := ⟨_, rfl⟩
  have hN6 : N ≤ 65535 := by omega
  have HNI := Lib.hid (show 256 * (c1.toNat : Int) + (c2.toNat : Int) = (N : Int) by omega)
  rw [hN] at HN
  clear hN
  have HA := Lib.hid hA
  clear hA
  go_enter Tryd.func27, Tryd.ntmps27
  go_upto_region 3 with fail
  go_quiet (fail)
  obtain ⟨V, hV⟩ : ∃ V, ((w.alloc (Obj.cells #[Value.int IntKind.i64 0, Value.slice none 0 0] 30)).drewN nq) = V := ⟨_, rfl⟩
  have bV : Below w.heap.size w V := by rw [← hV]; exact below_drewN' ((Below.refl _ _).alloc (Nat.le_refl _) _) _
  have xV : Box2 V w.heap.size (.int .i64 0) (.slice none 0 0) := by
    rw [← hV]
    exact (Box2.new w (.int .i64 0) (.slice none 0 0) 30).below (below_drewN' (Below.refl _ _) nq)
  have qV := (bV.cell (p := ⟨bb, off, none⟩) hlt).trans q0
  rw [hV, HNI.out]
  clear hV q0 q1 q2 p1 p2 HNI
  have BV := Lib.hid bV
  have XV := Lib.hid xV
  clear bV xV
  by_cases hall : ((c0.toNat : Int) < 1 ∨ (c0.toNat : Int) > 3) ∨ ((N : Int) > 2048 ∨ (b.length : Int) < 7 + (N : Int))
  · have e0 := (XV.out.set (.int .i64 0) (.slice none 0 0)).c0
    have e1 := (XV.out.set (.int .i64 0) (.slice none 0 0)).c1
    have eb := XV.out.last (Nat.le_refl _) BV.out (.int .i64 0) (.slice none 0 0)
    have x0 := XV.out.c0
    have x1 := XV.out.c1
    have xf := XV.out.fr
    generalize hU : (V.setCell _ _).setCell _ _ = U at e0 e1 eb
    have EB := Lib.hid (And.intro e0 (And.intro e1 eb))
    clear e0 e1 eb
    rcases hall with (h1 | h1) | h1 | h1
    · go_wp2
      exact bodyPost_ret (v := noR) (by simp [noR, results, Tryd.results27, go_sem, EB.out.1, EB.out.2.1]) rfl ⟨rfl, EB.out.2.2⟩
    · have h2 : ¬ (c0.toNat : Int) < 1 := by omega
      go_wp2
      exact bodyPost_ret (v := noR) (by simp [noR, results, Tryd.results27, go_sem, EB.out.1, EB.out.2.1]) rfl ⟨rfl, EB.out.2.2⟩
    · go_wp2
      all_goals exact bodyPost_ret (v := noR) (by simp [noR, results, Tryd.results27, go_sem, EB.out.1, EB.out.2.1]) rfl ⟨rfl, EB.out.2.2⟩
    · go_wp2
      all_goals exact bodyPost_ret (v := noR) (by simp [noR, results, Tryd.results27, go_sem, EB.out.1, EB.out.2.1]) rfl ⟨rfl, EB.out.2.2⟩
  · have h1 : ¬ (c0.toNat : Int) < 1 := fun h => hall (.inl (.inl h))
    have h2 : ¬ (c0.toNat : Int) > 3 := fun h => hall (.inl (.inr h))
    have h4 : ¬ (N : Int) > 2048 := fun h => hall (.inr (.inl h))
    have h5 : ¬ (b.length : Int) < 7 + (N : Int) := fun h => hall (.inr (.inr h))
    clear hall
    have h7 : (b.take (7 + N)).length = 7 + N := by rw [List.length_take]; omega
    have hs : stripE (b.take (7 + N)) ≠ 0 := fun e => by
      refine absurd hno ?_
      rw [show nextB b = true from decide_eq_true ?_]
      · simp
      · rw [HK.out, HN.out]
        refine ⟨h3, by omega, by omega, by omega, by omega, ?_⟩
        unfold stripE at e
        rw [if_neg (by omega), h7] at e
        split at e
        · rename_i h
          rw [List.take_take, show min (7 + N - 4) (7 + N) = 3 + N by omega] at h
          exact h
        · cases e
    have ts : ((stripE (b.take (7 + N)) : Nat) : Int) ≠ 0 := by omega
    have CS := Lib.hid (StripCN (some ⟨bb, off, none⟩) (b.take (7 + N)) (7 + N) cap V (take_at _ (HA.out.below BV.out)) (by omega) (by omega) h7)
    have i7 : ((7 : Int) + (N : Int)).toNat = 7 + N := by omega
    unfold StripsC at CS
    clear hs h7
    generalize stripE (b.take (7 + N)) = z at *
    generalize stripL (b.take (7 + N)) = sl at *
    have x0 := XV.out.c0
    have x1 := XV.out.c1
    have xf := XV.out.fr
    go_upto_region 7 with (first
      | (go_at_call 34; ((with_reducible refine (CS.out).mono ?_); rintro e w5 ⟨A5, c5, rfl, -, -, hb5⟩; have B5 := Lib.hid (BV.out.trans (hb5.mono BV.out.size)); have X5 := Lib.hid (XV.out.below hb5); clear hb5 x0 x1 xf))
      | fail)
    have e0 := (X5.out.set (.int .i64 0) (.slice none 0 0)).c0
    have e1 := (X5.out.set (.int .i64 0) (.slice none 0 0)).c1
    have eb := X5.out.last (Nat.le_refl _) B5.out (.int .i64 0) (.slice none 0 0)
    have x0 := X5.out.c0
    have x1 := X5.out.c1
    have xf := X5.out.fr
    generalize hU : (w5.setCell _ _).setCell _ _ = U at e0 e1 eb
    have EB := Lib.hid (And.intro e0 (And.intro e1 eb))
    clear e0 e1 eb
    go_wp2
    exact bodyPost_ret (v := noR) (by simp [noR, results, Tryd.results27, go_sem, EB.out.1, EB.out.2.1]) rfl ⟨rfl, EB.out.2.2⟩
end Go.Proofs.YtbmhgmigcgeooaaDoor
