/- The statement PeriodCan, walked. -/
import Derived.Test.YtbdlmidkkdmkpaaP16
import Derived.Test.YtbdlmidkkdmkpaaK1
import Derived.Test.YtbdlmidkkdmkpaaQ3
namespace Go.Proofs.Ytbdlmidkkdmkpaa
open Go.RowKit
theorem may_of {a b : Int} (h : a < b) (h2 : b ≤ 1099511627776) : mayB a b = true := by simp [mayB, h, h2]
theorem both_of {a b c d : Int} (h : a < b) (h2 : b ≤ 1099511627776) (h3 : c < d) (h4 : d ≤ 1099511627776) : bothB a b c d = true := by simp [bothB, may_of h h2, may_of h3 h4]
theorem comp_len (r s : Nat) : (compL r s).length ≤ 13 := most13 ((comp_rising r s).imp fun h => Int.ne_of_lt h) fun t ht => seen_range ((mem_comp r s t).1 ht)
theorem comp_each {r s : Nat} (h1 : 1 ≤ r) (h2 : r ≤ 13) (h3 : 1 ≤ s) (h4 : s ≤ 13) : (compL (14 - s) (14 - r)).length = (compL r s).length ∧ ∀ i (h : i < (compL (14 - s) (14 - r)).length) (h' : (compL r s).length - 1 - i < (compL r s).length), (compL (14 - s) (14 - r))[i] = 14 - (compL r s)[(compL r s).length - 1 - i] := by
  have e := comp_conv h1 h2 h3 h4
  generalize compL (14 - s) (14 - r) = M at *
  subst e
  refine ⟨by simp, fun i h h' => ?_⟩
  simp
set_option maxRecDepth 100000 in
set_option maxHeartbeats 20000000 in
theorem Can_walk (x y z u s t : Int) (w : World) (hx : 0 ≤ x) (hy : 0 ≤ y) (hz : 0 ≤ z) (hu : 0 ≤ u) (hs : 0 ≤ s) (ht : 0 ≤ t) :
    Calls Try.prog 6 #[.agg #[.int .u64 x, .int .u64 y], .agg #[.int .u64 z, .int .u64 u], .agg #[.int .u64 s, .int .u64 t]] w fun e w' => e = .returned (.bool true) ∧ Below w.heap.size w w' := by
  obtain ⟨a, b, ha, hab, hbF, c1⟩ := fit_any x y hx hy
  obtain ⟨c, d, hc, hcd, hdF, c2⟩ := fit_any z u hz hu
  obtain ⟨e, f, he, hef, hfF, c3⟩ := fit_any s t hs ht
  have FA := Lib.hid c1
  have FB := Lib.hid c2
  have FC := Lib.hid c3
  clear c1 c2 c3
  obtain ⟨W, hW⟩ : ∃ W, ((w.alloc (.cells #[.int .u64 x, .int .u64 y] 24)).alloc (.cells #[.int .u64 z, .int .u64 u] 24)).alloc (.cells #[.int .u64 s, .int .u64 t] 24) = W := ⟨_, rfl⟩
  have XP := Lib.hid (show Box W w.heap.size x y by rw [← hW]; exact Box.alloc (Box.alloc (box_at _ _ _ _ _ rfl) _) _)
  have XQ := Lib.hid (show Box W (w.heap.size + 1) z u by rw [← hW]; exact Box.alloc (box_at _ _ _ _ _ (by simp)) _)
  have XU := Lib.hid (show Box W (w.heap.size + 1 + 1) s t by rw [← hW]; exact box_at _ _ _ _ _ (by simp))
  have BW := Lib.hid (show Below w.heap.size w W by rw [← hW]; exact (((Below.refl _ _).alloc (Nat.le_refl _) _).alloc (by simp) _).alloc (by simp; omega) _)
  go_enter Try.func6, Try.ntmps6
  go_upto_region 1 with fail
  try rw [hW]
  clear hW
  go_cut [] (fun w' => Box w' w.heap.size a b ∧ Box w' (w.heap.size + 1) c d ∧ Box w' (w.heap.size + 1 + 1) e f ∧ Below w.heap.size w w')
  case first => as_aux_lemma =>
    have P0 := XP
    have Q0 := XQ
    have U0 := XU
    have D0 := BW
    obtain ⟨p0, p1, p2, p3⟩ := P0.out
    obtain ⟨q0, q1, q2, q3⟩ := Q0.out
    obtain ⟨v0, v1, v2, v3⟩ := U0.out
    refine wp_region_held_drew (S := (fun wk => Below w.heap.size w wk)) (by kernel_rfl) (BW.out.drew) (fun hHeld => ?_)
    refine wpAnyH_ready (rs := [0, 2, 4]) (by kernel_rfl) (by simp) ?_
    refine (AllReadyH.cons rfl (fun K hK => ?_) (AllReadyH.cons rfl (fun K hK => ?_) (AllReadyH.cons rfl (fun K hK => ?_) AllReadyH.nil)))
    · go_simp
      refine hK.out _ _ (hHeld) (fun hHeld => ?_)
      clear hK K
      try simp only [Act.put, List.setIfInBounds_toArray, List.set_cons_zero, List.set_cons_succ]
      refine wpAnyH_ready (rs := [1, 2, 4]) (by kernel_rfl) (by simp) ?_
      refine (AllReadyH.cons rfl (fun K hK => ?_) (AllReadyH.cons rfl (fun K hK => ?_) (AllReadyH.cons rfl (fun K hK => ?_) AllReadyH.nil)))
      · go_simp
        refine (FA.out _).mono ?_
        rintro e w1 ⟨rfl, hb1⟩
        have hw1 : Below W.heap.size W w1 := (Below.refl W.heap.size W).drew.trans hb1
        have P1 := Lib.hid (P0.out.below hw1)
        have Q1 := Lib.hid (Q0.out.below hw1)
        have U1 := Lib.hid (U0.out.below hw1)
        have D1 := Lib.hid (D0.out.trans (hw1.mono D0.out.size))
        clear hb1 hw1
        clear p0 p1 p2 p3 q0 q1 q2 q3 v0 v1 v2 v3
        obtain ⟨p0, p1, p2, p3⟩ := P1.out
        obtain ⟨q0, q1, q2, q3⟩ := Q1.out
        obtain ⟨v0, v1, v2, v3⟩ := U1.out
        go_wp2_with fail
        refine hK.out _ _ (D1.out) (fun hHeld => ?_)
        clear hK K
        try simp only [Act.put, List.setIfInBounds_toArray, List.set_cons_zero, List.set_cons_succ]
        refine wpAnyH_ready (rs := [2, 4]) (by kernel_rfl) (by simp) ?_
        refine (AllReadyH.cons rfl (fun K hK => ?_) (AllReadyH.cons rfl (fun K hK => ?_) AllReadyH.nil))
        · go_simp
          refine hK.out _ _ (hHeld) (fun hHeld => ?_)
          clear hK K
          try simp only [Act.put, List.setIfInBounds_toArray, List.set_cons_zero, List.set_cons_succ]
          refine wpAnyH_ready (rs := [3, 4]) (by kernel_rfl) (by simp) ?_
          refine (AllReadyH.cons rfl (fun K hK => ?_) (AllReadyH.cons rfl (fun K hK => ?_) AllReadyH.nil))
          · go_simp
            refine (FB.out _).mono ?_
            rintro e w2 ⟨rfl, hb2⟩
            have P2 := Lib.hid (P1.out.below hb2)
            have Q2 := Lib.hid (Q1.out.below hb2)
            have U2 := Lib.hid (U1.out.below hb2)
            have D2 := Lib.hid (D1.out.trans (hb2.mono D1.out.size))
            clear hb2
            clear p0 p1 p2 p3 q0 q1 q2 q3 v0 v1 v2 v3
            obtain ⟨p0, p1, p2, p3⟩ := P2.out
            obtain ⟨q0, q1, q2, q3⟩ := Q2.out
            obtain ⟨v0, v1, v2, v3⟩ := U2.out
            go_wp2_with fail
            refine hK.out _ _ (D2.out) (fun hHeld => ?_)
            clear hK K
            try simp only [Act.put, List.setIfInBounds_toArray, List.set_cons_zero, List.set_cons_succ]
            refine wpAnyH_ready (rs := [4]) (by kernel_rfl) (by simp) ?_
            refine (AllReadyH.cons rfl (fun K hK => ?_) AllReadyH.nil)
            go_simp
            refine hK.out _ _ (hHeld) (fun hHeld => ?_)
            clear hK K
            try simp only [Act.put, List.setIfInBounds_toArray, List.set_cons_zero, List.set_cons_succ]
            refine wpAnyH_ready (rs := [5]) (by kernel_rfl) (by simp) ?_
            refine (AllReadyH.cons rfl (fun K hK => ?_) AllReadyH.nil)
            go_simp
            refine (FC.out _).mono ?_
            rintro e w3 ⟨rfl, hb3⟩
            have P3 := Lib.hid (P2.out.below hb3)
            have Q3 := Lib.hid (Q2.out.below hb3)
            have U3 := Lib.hid (U2.out.below hb3)
            have D3 := Lib.hid (D2.out.trans (hb3.mono D2.out.size))
            clear hb3
            clear p0 p1 p2 p3 q0 q1 q2 q3 v0 v1 v2 v3
            obtain ⟨p0, p1, p2, p3⟩ := P3.out
            obtain ⟨q0, q1, q2, q3⟩ := Q3.out
            obtain ⟨v0, v1, v2, v3⟩ := U3.out
            go_wp2_with fail
            refine hK.out _ _ (D3.out) (fun hHeld => ?_)
            clear hK K
            try simp only [Act.put, List.setIfInBounds_toArray, List.set_cons_zero, List.set_cons_succ]
            refine wpAnyH_ready (rs := [6]) (by kernel_rfl) (by simp) ?_
            refine (AllReadyH.cons rfl (fun K hK => ?_) AllReadyH.nil)
            go_simp
            refine hK.out _ _ ((hHeld.setCell (by first | omega | (simp; done) | (simp; omega)) _).setCell (by first | omega | (simp; done) | (simp; omega)) _) (fun hHeld => ?_)
            clear hK K
            try simp only [Act.put, List.setIfInBounds_toArray, List.set_cons_zero, List.set_cons_succ]
            refine wpAnyH_ready (rs := [7]) (by kernel_rfl) (by simp) ?_
            refine (AllReadyH.cons rfl (fun K hK => ?_) AllReadyH.nil)
            go_simp
            refine hK.out _ _ ((hHeld.setCell (by first | omega | (simp; done) | (simp; omega)) _).setCell (by first | omega | (simp; done) | (simp; omega)) _) (fun hHeld => ?_)
            clear hK K
            try simp only [Act.put, List.setIfInBounds_toArray, List.set_cons_zero, List.set_cons_succ]
            refine wpAnyH_ready (rs := [8]) (by kernel_rfl) (by simp) ?_
            refine (AllReadyH.cons rfl (fun K hK => ?_) AllReadyH.nil)
            go_simp
            refine hK.out _ _ ((hHeld.setCell (by first | omega | (simp; done) | (simp; omega)) _).setCell (by first | omega | (simp; done) | (simp; omega)) _) (fun hHeld => ?_)
            clear hK K
            try simp only [Act.put, List.setIfInBounds_toArray, List.set_cons_zero, List.set_cons_succ]
            refine wpAnyH_done (by kernel_rfl) ?_ _
            go_wp2
            go_meet
            exact ⟨⟨by go_simp, by go_simp, by intro o; go_simp, by simp; omega⟩, ⟨by go_simp, by go_simp, by intro o; go_simp, by simp; omega⟩, ⟨by go_simp, by go_simp, by intro o; go_simp, by simp; omega⟩, hHeld⟩
          · go_simp
            refine hK.out _ _ (hHeld) (fun hHeld => ?_)
            clear hK K
            try simp only [Act.put, List.setIfInBounds_toArray, List.set_cons_zero, List.set_cons_succ]
            refine wpAnyH_ready (rs := [3]) (by kernel_rfl) (by simp) ?_
            refine (AllReadyH.cons rfl (fun K hK => ?_) AllReadyH.nil)
            go_simp
            refine (FB.out _).mono ?_
            rintro e w2 ⟨rfl, hb2⟩
            have P2 := Lib.hid (P1.out.below hb2)
            have Q2 := Lib.hid (Q1.out.below hb2)
            have U2 := Lib.hid (U1.out.below hb2)
            have D2 := Lib.hid (D1.out.trans (hb2.mono D1.out.size))
            clear hb2
            clear p0 p1 p2 p3 q0 q1 q2 q3 v0 v1 v2 v3
            obtain ⟨p0, p1, p2, p3⟩ := P2.out
            obtain ⟨q0, q1, q2, q3⟩ := Q2.out
            obtain ⟨v0, v1, v2, v3⟩ := U2.out
            go_wp2_with fail
            refine hK.out _ _ (D2.out) (fun hHeld => ?_)
            clear hK K
            try simp only [Act.put, List.setIfInBounds_toArray, List.set_cons_zero, List.set_cons_succ]
            refine wpAnyH_ready (rs := [5]) (by kernel_rfl) (by simp) ?_
            refine (AllReadyH.cons rfl (fun K hK => ?_) AllReadyH.nil)
            go_simp
            refine (FC.out _).mono ?_
            rintro e w3 ⟨rfl, hb3⟩
            have P3 := Lib.hid (P2.out.below hb3)
            have Q3 := Lib.hid (Q2.out.below hb3)
            have U3 := Lib.hid (U2.out.below hb3)
            have D3 := Lib.hid (D2.out.trans (hb3.mono D2.out.size))
            clear hb3
            clear p0 p1 p2 p3 q0 q1 q2 q3 v0 v1 v2 v3
            obtain ⟨p0, p1, p2, p3⟩ := P3.out
            obtain ⟨q0, q1, q2, q3⟩ := Q3.out
            obtain ⟨v0, v1, v2, v3⟩ := U3.out
            go_wp2_with fail
            refine hK.out _ _ (D3.out) (fun hHeld => ?_)
            clear hK K
            try simp only [Act.put, List.setIfInBounds_toArray, List.set_cons_zero, List.set_cons_succ]
            refine wpAnyH_ready (rs := [6]) (by kernel_rfl) (by simp) ?_
            refine (AllReadyH.cons rfl (fun K hK => ?_) AllReadyH.nil)
            go_simp
            refine hK.out _ _ ((hHeld.setCell (by first | omega | (simp; done) | (simp; omega)) _).setCell (by first | omega | (simp; done) | (simp; omega)) _) (fun hHeld => ?_)
            clear hK K
            try simp only [Act.put, List.setIfInBounds_toArray, List.set_cons_zero, List.set_cons_succ]
            refine wpAnyH_ready (rs := [7]) (by kernel_rfl) (by simp) ?_
            refine (AllReadyH.cons rfl (fun K hK => ?_) AllReadyH.nil)
            go_simp
            refine hK.out _ _ ((hHeld.setCell (by first | omega | (simp; done) | (simp; omega)) _).setCell (by first | omega | (simp; done) | (simp; omega)) _) (fun hHeld => ?_)
            clear hK K
            try simp only [Act.put, List.setIfInBounds_toArray, List.set_cons_zero, List.set_cons_succ]
            refine wpAnyH_ready (rs := [8]) (by kernel_rfl) (by simp) ?_
            refine (AllReadyH.cons rfl (fun K hK => ?_) AllReadyH.nil)
            go_simp
            refine hK.out _ _ ((hHeld.setCell (by first | omega | (simp; done) | (simp; omega)) _).setCell (by first | omega | (simp; done) | (simp; omega)) _) (fun hHeld => ?_)
            clear hK K
            try simp only [Act.put, List.setIfInBounds_toArray, List.set_cons_zero, List.set_cons_succ]
            refine wpAnyH_done (by kernel_rfl) ?_ _
            go_wp2
            go_meet
            exact ⟨⟨by go_simp, by go_simp, by intro o; go_simp, by simp; omega⟩, ⟨by go_simp, by go_simp, by intro o; go_simp, by simp; omega⟩, ⟨by go_simp, by go_simp, by intro o; go_simp, by simp; omega⟩, hHeld⟩
        · go_simp
          refine hK.out _ _ (hHeld) (fun hHeld => ?_)
          clear hK K
          try simp only [Act.put, List.setIfInBounds_toArray, List.set_cons_zero, List.set_cons_succ]
          refine wpAnyH_ready (rs := [2]) (by kernel_rfl) (by simp) ?_
          refine (AllReadyH.cons rfl (fun K hK => ?_) AllReadyH.nil)
          go_simp
          refine hK.out _ _ (hHeld) (fun hHeld => ?_)
          clear hK K
          try simp only [Act.put, List.setIfInBounds_toArray, List.set_cons_zero, List.set_cons_succ]
          refine wpAnyH_ready (rs := [3]) (by kernel_rfl) (by simp) ?_
          refine (AllReadyH.cons rfl (fun K hK => ?_) AllReadyH.nil)
          go_simp
          refine (FB.out _).mono ?_
          rintro e w2 ⟨rfl, hb2⟩
          have P2 := Lib.hid (P1.out.below hb2)
          have Q2 := Lib.hid (Q1.out.below hb2)
          have U2 := Lib.hid (U1.out.below hb2)
          have D2 := Lib.hid (D1.out.trans (hb2.mono D1.out.size))
          clear hb2
          clear p0 p1 p2 p3 q0 q1 q2 q3 v0 v1 v2 v3
          obtain ⟨p0, p1, p2, p3⟩ := P2.out
          obtain ⟨q0, q1, q2, q3⟩ := Q2.out
          obtain ⟨v0, v1, v2, v3⟩ := U2.out
          go_wp2_with fail
          refine hK.out _ _ (D2.out) (fun hHeld => ?_)
          clear hK K
          try simp only [Act.put, List.setIfInBounds_toArray, List.set_cons_zero, List.set_cons_succ]
          refine wpAnyH_ready (rs := [5]) (by kernel_rfl) (by simp) ?_
          refine (AllReadyH.cons rfl (fun K hK => ?_) AllReadyH.nil)
          go_simp
          refine (FC.out _).mono ?_
          rintro e w3 ⟨rfl, hb3⟩
          have P3 := Lib.hid (P2.out.below hb3)
          have Q3 := Lib.hid (Q2.out.below hb3)
          have U3 := Lib.hid (U2.out.below hb3)
          have D3 := Lib.hid (D2.out.trans (hb3.mono D2.out.size))
          clear hb3
          clear p0 p1 p2 p3 q0 q1 q2 q3 v0 v1 v2 v3
          obtain ⟨p0, p1, p2, p3⟩ := P3.out
          obtain ⟨q0, q1, q2, q3⟩ := Q3.out
          obtain ⟨v0, v1, v2, v3⟩ := U3.out
          go_wp2_with fail
          refine hK.out _ _ (D3.out) (fun hHeld => ?_)
          clear hK K
          try simp only [Act.put, List.setIfInBounds_toArray, List.set_cons_zero, List.set_cons_succ]
          refine wpAnyH_ready (rs := [6]) (by kernel_rfl) (by simp) ?_
          refine (AllReadyH.cons rfl (fun K hK => ?_) AllReadyH.nil)
          go_simp
          refine hK.out _ _ ((hHeld.setCell (by first | omega | (simp; done) | (simp; omega)) _).setCell (by first | omega | (simp; done) | (simp; omega)) _) (fun hHeld => ?_)
          clear hK K
          try simp only [Act.put, List.setIfInBounds_toArray, List.set_cons_zero, List.set_cons_succ]
          refine wpAnyH_ready (rs := [7]) (by kernel_rfl) (by simp) ?_
          refine (AllReadyH.cons rfl (fun K hK => ?_) AllReadyH.nil)
          go_simp
          refine hK.out _ _ ((hHeld.setCell (by first | omega | (simp; done) | (simp; omega)) _).setCell (by first | omega | (simp; done) | (simp; omega)) _) (fun hHeld => ?_)
          clear hK K
          try simp only [Act.put, List.setIfInBounds_toArray, List.set_cons_zero, List.set_cons_succ]
          refine wpAnyH_ready (rs := [8]) (by kernel_rfl) (by simp) ?_
          refine (AllReadyH.cons rfl (fun K hK => ?_) AllReadyH.nil)
          go_simp
          refine hK.out _ _ ((hHeld.setCell (by first | omega | (simp; done) | (simp; omega)) _).setCell (by first | omega | (simp; done) | (simp; omega)) _) (fun hHeld => ?_)
          clear hK K
          try simp only [Act.put, List.setIfInBounds_toArray, List.set_cons_zero, List.set_cons_succ]
          refine wpAnyH_done (by kernel_rfl) ?_ _
          go_wp2
          go_meet
          exact ⟨⟨by go_simp, by go_simp, by intro o; go_simp, by simp; omega⟩, ⟨by go_simp, by go_simp, by intro o; go_simp, by simp; omega⟩, ⟨by go_simp, by go_simp, by intro o; go_simp, by simp; omega⟩, hHeld⟩
      · go_simp
        refine hK.out _ _ (hHeld) (fun hHeld => ?_)
        clear hK K
        try simp only [Act.put, List.setIfInBounds_toArray, List.set_cons_zero, List.set_cons_succ]
        refine wpAnyH_ready (rs := [1, 4]) (by kernel_rfl) (by simp) ?_
        refine (AllReadyH.cons rfl (fun K hK => ?_) (AllReadyH.cons rfl (fun K hK => ?_) AllReadyH.nil))
        · go_simp
          refine (FA.out _).mono ?_
          rintro e w1 ⟨rfl, hb1⟩
          have hw1 : Below W.heap.size W w1 := (Below.refl W.heap.size W).drew.trans hb1
          have P1 := Lib.hid (P0.out.below hw1)
          have Q1 := Lib.hid (Q0.out.below hw1)
          have U1 := Lib.hid (U0.out.below hw1)
          have D1 := Lib.hid (D0.out.trans (hw1.mono D0.out.size))
          clear hb1 hw1
          clear p0 p1 p2 p3 q0 q1 q2 q3 v0 v1 v2 v3
          obtain ⟨p0, p1, p2, p3⟩ := P1.out
          obtain ⟨q0, q1, q2, q3⟩ := Q1.out
          obtain ⟨v0, v1, v2, v3⟩ := U1.out
          go_wp2_with fail
          refine hK.out _ _ (D1.out) (fun hHeld => ?_)
          clear hK K
          try simp only [Act.put, List.setIfInBounds_toArray, List.set_cons_zero, List.set_cons_succ]
          refine wpAnyH_ready (rs := [3, 4]) (by kernel_rfl) (by simp) ?_
          refine (AllReadyH.cons rfl (fun K hK => ?_) (AllReadyH.cons rfl (fun K hK => ?_) AllReadyH.nil))
          · go_simp
            refine (FB.out _).mono ?_
            rintro e w2 ⟨rfl, hb2⟩
            have P2 := Lib.hid (P1.out.below hb2)
            have Q2 := Lib.hid (Q1.out.below hb2)
            have U2 := Lib.hid (U1.out.below hb2)
            have D2 := Lib.hid (D1.out.trans (hb2.mono D1.out.size))
            clear hb2
            clear p0 p1 p2 p3 q0 q1 q2 q3 v0 v1 v2 v3
            obtain ⟨p0, p1, p2, p3⟩ := P2.out
            obtain ⟨q0, q1, q2, q3⟩ := Q2.out
            obtain ⟨v0, v1, v2, v3⟩ := U2.out
            go_wp2_with fail
            refine hK.out _ _ (D2.out) (fun hHeld => ?_)
            clear hK K
            try simp only [Act.put, List.setIfInBounds_toArray, List.set_cons_zero, List.set_cons_succ]
            refine wpAnyH_ready (rs := [4]) (by kernel_rfl) (by simp) ?_
            refine (AllReadyH.cons rfl (fun K hK => ?_) AllReadyH.nil)
            go_simp
            refine hK.out _ _ (hHeld) (fun hHeld => ?_)
            clear hK K
            try simp only [Act.put, List.setIfInBounds_toArray, List.set_cons_zero, List.set_cons_succ]
            refine wpAnyH_ready (rs := [5]) (by kernel_rfl) (by simp) ?_
            refine (AllReadyH.cons rfl (fun K hK => ?_) AllReadyH.nil)
            go_simp
            refine (FC.out _).mono ?_
            rintro e w3 ⟨rfl, hb3⟩
            have P3 := Lib.hid (P2.out.below hb3)
            have Q3 := Lib.hid (Q2.out.below hb3)
            have U3 := Lib.hid (U2.out.below hb3)
            have D3 := Lib.hid (D2.out.trans (hb3.mono D2.out.size))
            clear hb3
            clear p0 p1 p2 p3 q0 q1 q2 q3 v0 v1 v2 v3
            obtain ⟨p0, p1, p2, p3⟩ := P3.out
            obtain ⟨q0, q1, q2, q3⟩ := Q3.out
            obtain ⟨v0, v1, v2, v3⟩ := U3.out
            go_wp2_with fail
            refine hK.out _ _ (D3.out) (fun hHeld => ?_)
            clear hK K
            try simp only [Act.put, List.setIfInBounds_toArray, List.set_cons_zero, List.set_cons_succ]
            refine wpAnyH_ready (rs := [6]) (by kernel_rfl) (by simp) ?_
            refine (AllReadyH.cons rfl (fun K hK => ?_) AllReadyH.nil)
            go_simp
            refine hK.out _ _ ((hHeld.setCell (by first | omega | (simp; done) | (simp; omega)) _).setCell (by first | omega | (simp; done) | (simp; omega)) _) (fun hHeld => ?_)
            clear hK K
            try simp only [Act.put, List.setIfInBounds_toArray, List.set_cons_zero, List.set_cons_succ]
            refine wpAnyH_ready (rs := [7]) (by kernel_rfl) (by simp) ?_
            refine (AllReadyH.cons rfl (fun K hK => ?_) AllReadyH.nil)
            go_simp
            refine hK.out _ _ ((hHeld.setCell (by first | omega | (simp; done) | (simp; omega)) _).setCell (by first | omega | (simp; done) | (simp; omega)) _) (fun hHeld => ?_)
            clear hK K
            try simp only [Act.put, List.setIfInBounds_toArray, List.set_cons_zero, List.set_cons_succ]
            refine wpAnyH_ready (rs := [8]) (by kernel_rfl) (by simp) ?_
            refine (AllReadyH.cons rfl (fun K hK => ?_) AllReadyH.nil)
            go_simp
            refine hK.out _ _ ((hHeld.setCell (by first | omega | (simp; done) | (simp; omega)) _).setCell (by first | omega | (simp; done) | (simp; omega)) _) (fun hHeld => ?_)
            clear hK K
            try simp only [Act.put, List.setIfInBounds_toArray, List.set_cons_zero, List.set_cons_succ]
            refine wpAnyH_done (by kernel_rfl) ?_ _
            go_wp2
            go_meet
            exact ⟨⟨by go_simp, by go_simp, by intro o; go_simp, by simp; omega⟩, ⟨by go_simp, by go_simp, by intro o; go_simp, by simp; omega⟩, ⟨by go_simp, by go_simp, by intro o; go_simp, by simp; omega⟩, hHeld⟩
          · go_simp
            refine hK.out _ _ (hHeld) (fun hHeld => ?_)
            clear hK K
            try simp only [Act.put, List.setIfInBounds_toArray, List.set_cons_zero, List.set_cons_succ]
            refine wpAnyH_ready (rs := [3]) (by kernel_rfl) (by simp) ?_
            refine (AllReadyH.cons rfl (fun K hK => ?_) AllReadyH.nil)
            go_simp
            refine (FB.out _).mono ?_
            rintro e w2 ⟨rfl, hb2⟩
            have P2 := Lib.hid (P1.out.below hb2)
            have Q2 := Lib.hid (Q1.out.below hb2)
            have U2 := Lib.hid (U1.out.below hb2)
            have D2 := Lib.hid (D1.out.trans (hb2.mono D1.out.size))
            clear hb2
            clear p0 p1 p2 p3 q0 q1 q2 q3 v0 v1 v2 v3
            obtain ⟨p0, p1, p2, p3⟩ := P2.out
            obtain ⟨q0, q1, q2, q3⟩ := Q2.out
            obtain ⟨v0, v1, v2, v3⟩ := U2.out
            go_wp2_with fail
            refine hK.out _ _ (D2.out) (fun hHeld => ?_)
            clear hK K
            try simp only [Act.put, List.setIfInBounds_toArray, List.set_cons_zero, List.set_cons_succ]
            refine wpAnyH_ready (rs := [5]) (by kernel_rfl) (by simp) ?_
            refine (AllReadyH.cons rfl (fun K hK => ?_) AllReadyH.nil)
            go_simp
            refine (FC.out _).mono ?_
            rintro e w3 ⟨rfl, hb3⟩
            have P3 := Lib.hid (P2.out.below hb3)
            have Q3 := Lib.hid (Q2.out.below hb3)
            have U3 := Lib.hid (U2.out.below hb3)
            have D3 := Lib.hid (D2.out.trans (hb3.mono D2.out.size))
            clear hb3
            clear p0 p1 p2 p3 q0 q1 q2 q3 v0 v1 v2 v3
            obtain ⟨p0, p1, p2, p3⟩ := P3.out
            obtain ⟨q0, q1, q2, q3⟩ := Q3.out
            obtain ⟨v0, v1, v2, v3⟩ := U3.out
            go_wp2_with fail
            refine hK.out _ _ (D3.out) (fun hHeld => ?_)
            clear hK K
            try simp only [Act.put, List.setIfInBounds_toArray, List.set_cons_zero, List.set_cons_succ]
            refine wpAnyH_ready (rs := [6]) (by kernel_rfl) (by simp) ?_
            refine (AllReadyH.cons rfl (fun K hK => ?_) AllReadyH.nil)
            go_simp
            refine hK.out _ _ ((hHeld.setCell (by first | omega | (simp; done) | (simp; omega)) _).setCell (by first | omega | (simp; done) | (simp; omega)) _) (fun hHeld => ?_)
            clear hK K
            try simp only [Act.put, List.setIfInBounds_toArray, List.set_cons_zero, List.set_cons_succ]
            refine wpAnyH_ready (rs := [7]) (by kernel_rfl) (by simp) ?_
            refine (AllReadyH.cons rfl (fun K hK => ?_) AllReadyH.nil)
            go_simp
            refine hK.out _ _ ((hHeld.setCell (by first | omega | (simp; done) | (simp; omega)) _).setCell (by first | omega | (simp; done) | (simp; omega)) _) (fun hHeld => ?_)
            clear hK K
            try simp only [Act.put, List.setIfInBounds_toArray, List.set_cons_zero, List.set_cons_succ]
            refine wpAnyH_ready (rs := [8]) (by kernel_rfl) (by simp) ?_
            refine (AllReadyH.cons rfl (fun K hK => ?_) AllReadyH.nil)
            go_simp
            refine hK.out _ _ ((hHeld.setCell (by first | omega | (simp; done) | (simp; omega)) _).setCell (by first | omega | (simp; done) | (simp; omega)) _) (fun hHeld => ?_)
            clear hK K
            try simp only [Act.put, List.setIfInBounds_toArray, List.set_cons_zero, List.set_cons_succ]
            refine wpAnyH_done (by kernel_rfl) ?_ _
            go_wp2
            go_meet
            exact ⟨⟨by go_simp, by go_simp, by intro o; go_simp, by simp; omega⟩, ⟨by go_simp, by go_simp, by intro o; go_simp, by simp; omega⟩, ⟨by go_simp, by go_simp, by intro o; go_simp, by simp; omega⟩, hHeld⟩
        · go_simp
          refine hK.out _ _ (hHeld) (fun hHeld => ?_)
          clear hK K
          try simp only [Act.put, List.setIfInBounds_toArray, List.set_cons_zero, List.set_cons_succ]
          refine wpAnyH_ready (rs := [1]) (by kernel_rfl) (by simp) ?_
          refine (AllReadyH.cons rfl (fun K hK => ?_) AllReadyH.nil)
          go_simp
          refine (FA.out _).mono ?_
          rintro e w1 ⟨rfl, hb1⟩
          have hw1 : Below W.heap.size W w1 := (Below.refl W.heap.size W).drew.trans hb1
          have P1 := Lib.hid (P0.out.below hw1)
          have Q1 := Lib.hid (Q0.out.below hw1)
          have U1 := Lib.hid (U0.out.below hw1)
          have D1 := Lib.hid (D0.out.trans (hw1.mono D0.out.size))
          clear hb1 hw1
          clear p0 p1 p2 p3 q0 q1 q2 q3 v0 v1 v2 v3
          obtain ⟨p0, p1, p2, p3⟩ := P1.out
          obtain ⟨q0, q1, q2, q3⟩ := Q1.out
          obtain ⟨v0, v1, v2, v3⟩ := U1.out
          go_wp2_with fail
          refine hK.out _ _ (D1.out) (fun hHeld => ?_)
          clear hK K
          try simp only [Act.put, List.setIfInBounds_toArray, List.set_cons_zero, List.set_cons_succ]
          refine wpAnyH_ready (rs := [3]) (by kernel_rfl) (by simp) ?_
          refine (AllReadyH.cons rfl (fun K hK => ?_) AllReadyH.nil)
          go_simp
          refine (FB.out _).mono ?_
          rintro e w2 ⟨rfl, hb2⟩
          have P2 := Lib.hid (P1.out.below hb2)
          have Q2 := Lib.hid (Q1.out.below hb2)
          have U2 := Lib.hid (U1.out.below hb2)
          have D2 := Lib.hid (D1.out.trans (hb2.mono D1.out.size))
          clear hb2
          clear p0 p1 p2 p3 q0 q1 q2 q3 v0 v1 v2 v3
          obtain ⟨p0, p1, p2, p3⟩ := P2.out
          obtain ⟨q0, q1, q2, q3⟩ := Q2.out
          obtain ⟨v0, v1, v2, v3⟩ := U2.out
          go_wp2_with fail
          refine hK.out _ _ (D2.out) (fun hHeld => ?_)
          clear hK K
          try simp only [Act.put, List.setIfInBounds_toArray, List.set_cons_zero, List.set_cons_succ]
          refine wpAnyH_ready (rs := [5]) (by kernel_rfl) (by simp) ?_
          refine (AllReadyH.cons rfl (fun K hK => ?_) AllReadyH.nil)
          go_simp
          refine (FC.out _).mono ?_
          rintro e w3 ⟨rfl, hb3⟩
          have P3 := Lib.hid (P2.out.below hb3)
          have Q3 := Lib.hid (Q2.out.below hb3)
          have U3 := Lib.hid (U2.out.below hb3)
          have D3 := Lib.hid (D2.out.trans (hb3.mono D2.out.size))
          clear hb3
          clear p0 p1 p2 p3 q0 q1 q2 q3 v0 v1 v2 v3
          obtain ⟨p0, p1, p2, p3⟩ := P3.out
          obtain ⟨q0, q1, q2, q3⟩ := Q3.out
          obtain ⟨v0, v1, v2, v3⟩ := U3.out
          go_wp2_with fail
          refine hK.out _ _ (D3.out) (fun hHeld => ?_)
          clear hK K
          try simp only [Act.put, List.setIfInBounds_toArray, List.set_cons_zero, List.set_cons_succ]
          refine wpAnyH_ready (rs := [6]) (by kernel_rfl) (by simp) ?_
          refine (AllReadyH.cons rfl (fun K hK => ?_) AllReadyH.nil)
          go_simp
          refine hK.out _ _ ((hHeld.setCell (by first | omega | (simp; done) | (simp; omega)) _).setCell (by first | omega | (simp; done) | (simp; omega)) _) (fun hHeld => ?_)
          clear hK K
          try simp only [Act.put, List.setIfInBounds_toArray, List.set_cons_zero, List.set_cons_succ]
          refine wpAnyH_ready (rs := [7]) (by kernel_rfl) (by simp) ?_
          refine (AllReadyH.cons rfl (fun K hK => ?_) AllReadyH.nil)
          go_simp
          refine hK.out _ _ ((hHeld.setCell (by first | omega | (simp; done) | (simp; omega)) _).setCell (by first | omega | (simp; done) | (simp; omega)) _) (fun hHeld => ?_)
          clear hK K
          try simp only [Act.put, List.setIfInBounds_toArray, List.set_cons_zero, List.set_cons_succ]
          refine wpAnyH_ready (rs := [8]) (by kernel_rfl) (by simp) ?_
          refine (AllReadyH.cons rfl (fun K hK => ?_) AllReadyH.nil)
          go_simp
          refine hK.out _ _ ((hHeld.setCell (by first | omega | (simp; done) | (simp; omega)) _).setCell (by first | omega | (simp; done) | (simp; omega)) _) (fun hHeld => ?_)
          clear hK K
          try simp only [Act.put, List.setIfInBounds_toArray, List.set_cons_zero, List.set_cons_succ]
          refine wpAnyH_done (by kernel_rfl) ?_ _
          go_wp2
          go_meet
          exact ⟨⟨by go_simp, by go_simp, by intro o; go_simp, by simp; omega⟩, ⟨by go_simp, by go_simp, by intro o; go_simp, by simp; omega⟩, ⟨by go_simp, by go_simp, by intro o; go_simp, by simp; omega⟩, hHeld⟩
      · go_simp
        refine hK.out _ _ (hHeld) (fun hHeld => ?_)
        clear hK K
        try simp only [Act.put, List.setIfInBounds_toArray, List.set_cons_zero, List.set_cons_succ]
        refine wpAnyH_ready (rs := [1, 2]) (by kernel_rfl) (by simp) ?_
        refine (AllReadyH.cons rfl (fun K hK => ?_) (AllReadyH.cons rfl (fun K hK => ?_) AllReadyH.nil))
        · go_simp
          refine (FA.out _).mono ?_
          rintro e w1 ⟨rfl, hb1⟩
          have hw1 : Below W.heap.size W w1 := (Below.refl W.heap.size W).drew.trans hb1
          have P1 := Lib.hid (P0.out.below hw1)
          have Q1 := Lib.hid (Q0.out.below hw1)
          have U1 := Lib.hid (U0.out.below hw1)
          have D1 := Lib.hid (D0.out.trans (hw1.mono D0.out.size))
          clear hb1 hw1
          clear p0 p1 p2 p3 q0 q1 q2 q3 v0 v1 v2 v3
          obtain ⟨p0, p1, p2, p3⟩ := P1.out
          obtain ⟨q0, q1, q2, q3⟩ := Q1.out
          obtain ⟨v0, v1, v2, v3⟩ := U1.out
          go_wp2_with fail
          refine hK.out _ _ (D1.out) (fun hHeld => ?_)
          clear hK K
          try simp only [Act.put, List.setIfInBounds_toArray, List.set_cons_zero, List.set_cons_succ]
          refine wpAnyH_ready (rs := [2]) (by kernel_rfl) (by simp) ?_
          refine (AllReadyH.cons rfl (fun K hK => ?_) AllReadyH.nil)
          go_simp
          refine hK.out _ _ (hHeld) (fun hHeld => ?_)
          clear hK K
          try simp only [Act.put, List.setIfInBounds_toArray, List.set_cons_zero, List.set_cons_succ]
          refine wpAnyH_ready (rs := [3]) (by kernel_rfl) (by simp) ?_
          refine (AllReadyH.cons rfl (fun K hK => ?_) AllReadyH.nil)
          go_simp
          refine (FB.out _).mono ?_
          rintro e w2 ⟨rfl, hb2⟩
          have P2 := Lib.hid (P1.out.below hb2)
          have Q2 := Lib.hid (Q1.out.below hb2)
          have U2 := Lib.hid (U1.out.below hb2)
          have D2 := Lib.hid (D1.out.trans (hb2.mono D1.out.size))
          clear hb2
          clear p0 p1 p2 p3 q0 q1 q2 q3 v0 v1 v2 v3
          obtain ⟨p0, p1, p2, p3⟩ := P2.out
          obtain ⟨q0, q1, q2, q3⟩ := Q2.out
          obtain ⟨v0, v1, v2, v3⟩ := U2.out
          go_wp2_with fail
          refine hK.out _ _ (D2.out) (fun hHeld => ?_)
          clear hK K
          try simp only [Act.put, List.setIfInBounds_toArray, List.set_cons_zero, List.set_cons_succ]
          refine wpAnyH_ready (rs := [5]) (by kernel_rfl) (by simp) ?_
          refine (AllReadyH.cons rfl (fun K hK => ?_) AllReadyH.nil)
          go_simp
          refine (FC.out _).mono ?_
          rintro e w3 ⟨rfl, hb3⟩
          have P3 := Lib.hid (P2.out.below hb3)
          have Q3 := Lib.hid (Q2.out.below hb3)
          have U3 := Lib.hid (U2.out.below hb3)
          have D3 := Lib.hid (D2.out.trans (hb3.mono D2.out.size))
          clear hb3
          clear p0 p1 p2 p3 q0 q1 q2 q3 v0 v1 v2 v3
          obtain ⟨p0, p1, p2, p3⟩ := P3.out
          obtain ⟨q0, q1, q2, q3⟩ := Q3.out
          obtain ⟨v0, v1, v2, v3⟩ := U3.out
          go_wp2_with fail
          refine hK.out _ _ (D3.out) (fun hHeld => ?_)
          clear hK K
          try simp only [Act.put, List.setIfInBounds_toArray, List.set_cons_zero, List.set_cons_succ]
          refine wpAnyH_ready (rs := [6]) (by kernel_rfl) (by simp) ?_
          refine (AllReadyH.cons rfl (fun K hK => ?_) AllReadyH.nil)
          go_simp
          refine hK.out _ _ ((hHeld.setCell (by first | omega | (simp; done) | (simp; omega)) _).setCell (by first | omega | (simp; done) | (simp; omega)) _) (fun hHeld => ?_)
          clear hK K
          try simp only [Act.put, List.setIfInBounds_toArray, List.set_cons_zero, List.set_cons_succ]
          refine wpAnyH_ready (rs := [7]) (by kernel_rfl) (by simp) ?_
          refine (AllReadyH.cons rfl (fun K hK => ?_) AllReadyH.nil)
          go_simp
          refine hK.out _ _ ((hHeld.setCell (by first | omega | (simp; done) | (simp; omega)) _).setCell (by first | omega | (simp; done) | (simp; omega)) _) (fun hHeld => ?_)
          clear hK K
          try simp only [Act.put, List.setIfInBounds_toArray, List.set_cons_zero, List.set_cons_succ]
          refine wpAnyH_ready (rs := [8]) (by kernel_rfl) (by simp) ?_
          refine (AllReadyH.cons rfl (fun K hK => ?_) AllReadyH.nil)
          go_simp
          refine hK.out _ _ ((hHeld.setCell (by first | omega | (simp; done) | (simp; omega)) _).setCell (by first | omega | (simp; done) | (simp; omega)) _) (fun hHeld => ?_)
          clear hK K
          try simp only [Act.put, List.setIfInBounds_toArray, List.set_cons_zero, List.set_cons_succ]
          refine wpAnyH_done (by kernel_rfl) ?_ _
          go_wp2
          go_meet
          exact ⟨⟨by go_simp, by go_simp, by intro o; go_simp, by simp; omega⟩, ⟨by go_simp, by go_simp, by intro o; go_simp, by simp; omega⟩, ⟨by go_simp, by go_simp, by intro o; go_simp, by simp; omega⟩, hHeld⟩
        · go_simp
          refine hK.out _ _ (hHeld) (fun hHeld => ?_)
          clear hK K
          try simp only [Act.put, List.setIfInBounds_toArray, List.set_cons_zero, List.set_cons_succ]
          refine wpAnyH_ready (rs := [1]) (by kernel_rfl) (by simp) ?_
          refine (AllReadyH.cons rfl (fun K hK => ?_) AllReadyH.nil)
          go_simp
          refine (FA.out _).mono ?_
          rintro e w1 ⟨rfl, hb1⟩
          have hw1 : Below W.heap.size W w1 := (Below.refl W.heap.size W).drew.trans hb1
          have P1 := Lib.hid (P0.out.below hw1)
          have Q1 := Lib.hid (Q0.out.below hw1)
          have U1 := Lib.hid (U0.out.below hw1)
          have D1 := Lib.hid (D0.out.trans (hw1.mono D0.out.size))
          clear hb1 hw1
          clear p0 p1 p2 p3 q0 q1 q2 q3 v0 v1 v2 v3
          obtain ⟨p0, p1, p2, p3⟩ := P1.out
          obtain ⟨q0, q1, q2, q3⟩ := Q1.out
          obtain ⟨v0, v1, v2, v3⟩ := U1.out
          go_wp2_with fail
          refine hK.out _ _ (D1.out) (fun hHeld => ?_)
          clear hK K
          try simp only [Act.put, List.setIfInBounds_toArray, List.set_cons_zero, List.set_cons_succ]
          refine wpAnyH_ready (rs := [3]) (by kernel_rfl) (by simp) ?_
          refine (AllReadyH.cons rfl (fun K hK => ?_) AllReadyH.nil)
          go_simp
          refine (FB.out _).mono ?_
          rintro e w2 ⟨rfl, hb2⟩
          have P2 := Lib.hid (P1.out.below hb2)
          have Q2 := Lib.hid (Q1.out.below hb2)
          have U2 := Lib.hid (U1.out.below hb2)
          have D2 := Lib.hid (D1.out.trans (hb2.mono D1.out.size))
          clear hb2
          clear p0 p1 p2 p3 q0 q1 q2 q3 v0 v1 v2 v3
          obtain ⟨p0, p1, p2, p3⟩ := P2.out
          obtain ⟨q0, q1, q2, q3⟩ := Q2.out
          obtain ⟨v0, v1, v2, v3⟩ := U2.out
          go_wp2_with fail
          refine hK.out _ _ (D2.out) (fun hHeld => ?_)
          clear hK K
          try simp only [Act.put, List.setIfInBounds_toArray, List.set_cons_zero, List.set_cons_succ]
          refine wpAnyH_ready (rs := [5]) (by kernel_rfl) (by simp) ?_
          refine (AllReadyH.cons rfl (fun K hK => ?_) AllReadyH.nil)
          go_simp
          refine (FC.out _).mono ?_
          rintro e w3 ⟨rfl, hb3⟩
          have P3 := Lib.hid (P2.out.below hb3)
          have Q3 := Lib.hid (Q2.out.below hb3)
          have U3 := Lib.hid (U2.out.below hb3)
          have D3 := Lib.hid (D2.out.trans (hb3.mono D2.out.size))
          clear hb3
          clear p0 p1 p2 p3 q0 q1 q2 q3 v0 v1 v2 v3
          obtain ⟨p0, p1, p2, p3⟩ := P3.out
          obtain ⟨q0, q1, q2, q3⟩ := Q3.out
          obtain ⟨v0, v1, v2, v3⟩ := U3.out
          go_wp2_with fail
          refine hK.out _ _ (D3.out) (fun hHeld => ?_)
          clear hK K
          try simp only [Act.put, List.setIfInBounds_toArray, List.set_cons_zero, List.set_cons_succ]
          refine wpAnyH_ready (rs := [6]) (by kernel_rfl) (by simp) ?_
          refine (AllReadyH.cons rfl (fun K hK => ?_) AllReadyH.nil)
          go_simp
          refine hK.out _ _ ((hHeld.setCell (by first | omega | (simp; done) | (simp; omega)) _).setCell (by first | omega | (simp; done) | (simp; omega)) _) (fun hHeld => ?_)
          clear hK K
          try simp only [Act.put, List.setIfInBounds_toArray, List.set_cons_zero, List.set_cons_succ]
          refine wpAnyH_ready (rs := [7]) (by kernel_rfl) (by simp) ?_
          refine (AllReadyH.cons rfl (fun K hK => ?_) AllReadyH.nil)
          go_simp
          refine hK.out _ _ ((hHeld.setCell (by first | omega | (simp; done) | (simp; omega)) _).setCell (by first | omega | (simp; done) | (simp; omega)) _) (fun hHeld => ?_)
          clear hK K
          try simp only [Act.put, List.setIfInBounds_toArray, List.set_cons_zero, List.set_cons_succ]
          refine wpAnyH_ready (rs := [8]) (by kernel_rfl) (by simp) ?_
          refine (AllReadyH.cons rfl (fun K hK => ?_) AllReadyH.nil)
          go_simp
          refine hK.out _ _ ((hHeld.setCell (by first | omega | (simp; done) | (simp; omega)) _).setCell (by first | omega | (simp; done) | (simp; omega)) _) (fun hHeld => ?_)
          clear hK K
          try simp only [Act.put, List.setIfInBounds_toArray, List.set_cons_zero, List.set_cons_succ]
          refine wpAnyH_done (by kernel_rfl) ?_ _
          go_wp2
          go_meet
          exact ⟨⟨by go_simp, by go_simp, by intro o; go_simp, by simp; omega⟩, ⟨by go_simp, by go_simp, by intro o; go_simp, by simp; omega⟩, ⟨by go_simp, by go_simp, by intro o; go_simp, by simp; omega⟩, hHeld⟩
    · go_simp
      refine hK.out _ _ (hHeld) (fun hHeld => ?_)
      clear hK K
      try simp only [Act.put, List.setIfInBounds_toArray, List.set_cons_zero, List.set_cons_succ]
      refine wpAnyH_ready (rs := [0, 4]) (by kernel_rfl) (by simp) ?_
      refine (AllReadyH.cons rfl (fun K hK => ?_) (AllReadyH.cons rfl (fun K hK => ?_) AllReadyH.nil))
      · go_simp
        refine hK.out _ _ (hHeld) (fun hHeld => ?_)
        clear hK K
        try simp only [Act.put, List.setIfInBounds_toArray, List.set_cons_zero, List.set_cons_succ]
        refine wpAnyH_ready (rs := [1, 4]) (by kernel_rfl) (by simp) ?_
        refine (AllReadyH.cons rfl (fun K hK => ?_) (AllReadyH.cons rfl (fun K hK => ?_) AllReadyH.nil))
        · go_simp
          refine (FA.out _).mono ?_
          rintro e w1 ⟨rfl, hb1⟩
          have hw1 : Below W.heap.size W w1 := (Below.refl W.heap.size W).drew.trans hb1
          have P1 := Lib.hid (P0.out.below hw1)
          have Q1 := Lib.hid (Q0.out.below hw1)
          have U1 := Lib.hid (U0.out.below hw1)
          have D1 := Lib.hid (D0.out.trans (hw1.mono D0.out.size))
          clear hb1 hw1
          clear p0 p1 p2 p3 q0 q1 q2 q3 v0 v1 v2 v3
          obtain ⟨p0, p1, p2, p3⟩ := P1.out
          obtain ⟨q0, q1, q2, q3⟩ := Q1.out
          obtain ⟨v0, v1, v2, v3⟩ := U1.out
          go_wp2_with fail
          refine hK.out _ _ (D1.out) (fun hHeld => ?_)
          clear hK K
          try simp only [Act.put, List.setIfInBounds_toArray, List.set_cons_zero, List.set_cons_succ]
          refine wpAnyH_ready (rs := [3, 4]) (by kernel_rfl) (by simp) ?_
          refine (AllReadyH.cons rfl (fun K hK => ?_) (AllReadyH.cons rfl (fun K hK => ?_) AllReadyH.nil))
          · go_simp
            refine (FB.out _).mono ?_
            rintro e w2 ⟨rfl, hb2⟩
            have P2 := Lib.hid (P1.out.below hb2)
            have Q2 := Lib.hid (Q1.out.below hb2)
            have U2 := Lib.hid (U1.out.below hb2)
            have D2 := Lib.hid (D1.out.trans (hb2.mono D1.out.size))
            clear hb2
            clear p0 p1 p2 p3 q0 q1 q2 q3 v0 v1 v2 v3
            obtain ⟨p0, p1, p2, p3⟩ := P2.out
            obtain ⟨q0, q1, q2, q3⟩ := Q2.out
            obtain ⟨v0, v1, v2, v3⟩ := U2.out
            go_wp2_with fail
            refine hK.out _ _ (D2.out) (fun hHeld => ?_)
            clear hK K
            try simp only [Act.put, List.setIfInBounds_toArray, List.set_cons_zero, List.set_cons_succ]
            refine wpAnyH_ready (rs := [4]) (by kernel_rfl) (by simp) ?_
            refine (AllReadyH.cons rfl (fun K hK => ?_) AllReadyH.nil)
            go_simp
            refine hK.out _ _ (hHeld) (fun hHeld => ?_)
            clear hK K
            try simp only [Act.put, List.setIfInBounds_toArray, List.set_cons_zero, List.set_cons_succ]
            refine wpAnyH_ready (rs := [5]) (by kernel_rfl) (by simp) ?_
            refine (AllReadyH.cons rfl (fun K hK => ?_) AllReadyH.nil)
            go_simp
            refine (FC.out _).mono ?_
            rintro e w3 ⟨rfl, hb3⟩
            have P3 := Lib.hid (P2.out.below hb3)
            have Q3 := Lib.hid (Q2.out.below hb3)
            have U3 := Lib.hid (U2.out.below hb3)
            have D3 := Lib.hid (D2.out.trans (hb3.mono D2.out.size))
            clear hb3
            clear p0 p1 p2 p3 q0 q1 q2 q3 v0 v1 v2 v3
            obtain ⟨p0, p1, p2, p3⟩ := P3.out
            obtain ⟨q0, q1, q2, q3⟩ := Q3.out
            obtain ⟨v0, v1, v2, v3⟩ := U3.out
            go_wp2_with fail
            refine hK.out _ _ (D3.out) (fun hHeld => ?_)
            clear hK K
            try simp only [Act.put, List.setIfInBounds_toArray, List.set_cons_zero, List.set_cons_succ]
            refine wpAnyH_ready (rs := [6]) (by kernel_rfl) (by simp) ?_
            refine (AllReadyH.cons rfl (fun K hK => ?_) AllReadyH.nil)
            go_simp
            refine hK.out _ _ ((hHeld.setCell (by first | omega | (simp; done) | (simp; omega)) _).setCell (by first | omega | (simp; done) | (simp; omega)) _) (fun hHeld => ?_)
            clear hK K
            try simp only [Act.put, List.setIfInBounds_toArray, List.set_cons_zero, List.set_cons_succ]
            refine wpAnyH_ready (rs := [7]) (by kernel_rfl) (by simp) ?_
            refine (AllReadyH.cons rfl (fun K hK => ?_) AllReadyH.nil)
            go_simp
            refine hK.out _ _ ((hHeld.setCell (by first | omega | (simp; done) | (simp; omega)) _).setCell (by first | omega | (simp; done) | (simp; omega)) _) (fun hHeld => ?_)
            clear hK K
            try simp only [Act.put, List.setIfInBounds_toArray, List.set_cons_zero, List.set_cons_succ]
            refine wpAnyH_ready (rs := [8]) (by kernel_rfl) (by simp) ?_
            refine (AllReadyH.cons rfl (fun K hK => ?_) AllReadyH.nil)
            go_simp
            refine hK.out _ _ ((hHeld.setCell (by first | omega | (simp; done) | (simp; omega)) _).setCell (by first | omega | (simp; done) | (simp; omega)) _) (fun hHeld => ?_)
            clear hK K
            try simp only [Act.put, List.setIfInBounds_toArray, List.set_cons_zero, List.set_cons_succ]
            refine wpAnyH_done (by kernel_rfl) ?_ _
            go_wp2
            go_meet
            exact ⟨⟨by go_simp, by go_simp, by intro o; go_simp, by simp; omega⟩, ⟨by go_simp, by go_simp, by intro o; go_simp, by simp; omega⟩, ⟨by go_simp, by go_simp, by intro o; go_simp, by simp; omega⟩, hHeld⟩
          · go_simp
            refine hK.out _ _ (hHeld) (fun hHeld => ?_)
            clear hK K
            try simp only [Act.put, List.setIfInBounds_toArray, List.set_cons_zero, List.set_cons_succ]
            refine wpAnyH_ready (rs := [3]) (by kernel_rfl) (by simp) ?_
            refine (AllReadyH.cons rfl (fun K hK => ?_) AllReadyH.nil)
            go_simp
            refine (FB.out _).mono ?_
            rintro e w2 ⟨rfl, hb2⟩
            have P2 := Lib.hid (P1.out.below hb2)
            have Q2 := Lib.hid (Q1.out.below hb2)
            have U2 := Lib.hid (U1.out.below hb2)
            have D2 := Lib.hid (D1.out.trans (hb2.mono D1.out.size))
            clear hb2
            clear p0 p1 p2 p3 q0 q1 q2 q3 v0 v1 v2 v3
            obtain ⟨p0, p1, p2, p3⟩ := P2.out
            obtain ⟨q0, q1, q2, q3⟩ := Q2.out
            obtain ⟨v0, v1, v2, v3⟩ := U2.out
            go_wp2_with fail
            refine hK.out _ _ (D2.out) (fun hHeld => ?_)
            clear hK K
            try simp only [Act.put, List.setIfInBounds_toArray, List.set_cons_zero, List.set_cons_succ]
            refine wpAnyH_ready (rs := [5]) (by kernel_rfl) (by simp) ?_
            refine (AllReadyH.cons rfl (fun K hK => ?_) AllReadyH.nil)
            go_simp
            refine (FC.out _).mono ?_
            rintro e w3 ⟨rfl, hb3⟩
            have P3 := Lib.hid (P2.out.below hb3)
            have Q3 := Lib.hid (Q2.out.below hb3)
            have U3 := Lib.hid (U2.out.below hb3)
            have D3 := Lib.hid (D2.out.trans (hb3.mono D2.out.size))
            clear hb3
            clear p0 p1 p2 p3 q0 q1 q2 q3 v0 v1 v2 v3
            obtain ⟨p0, p1, p2, p3⟩ := P3.out
            obtain ⟨q0, q1, q2, q3⟩ := Q3.out
            obtain ⟨v0, v1, v2, v3⟩ := U3.out
            go_wp2_with fail
            refine hK.out _ _ (D3.out) (fun hHeld => ?_)
            clear hK K
            try simp only [Act.put, List.setIfInBounds_toArray, List.set_cons_zero, List.set_cons_succ]
            refine wpAnyH_ready (rs := [6]) (by kernel_rfl) (by simp) ?_
            refine (AllReadyH.cons rfl (fun K hK => ?_) AllReadyH.nil)
            go_simp
            refine hK.out _ _ ((hHeld.setCell (by first | omega | (simp; done) | (simp; omega)) _).setCell (by first | omega | (simp; done) | (simp; omega)) _) (fun hHeld => ?_)
            clear hK K
            try simp only [Act.put, List.setIfInBounds_toArray, List.set_cons_zero, List.set_cons_succ]
            refine wpAnyH_ready (rs := [7]) (by kernel_rfl) (by simp) ?_
            refine (AllReadyH.cons rfl (fun K hK => ?_) AllReadyH.nil)
            go_simp
            refine hK.out _ _ ((hHeld.setCell (by first | omega | (simp; done) | (simp; omega)) _).setCell (by first | omega | (simp; done) | (simp; omega)) _) (fun hHeld => ?_)
            clear hK K
            try simp only [Act.put, List.setIfInBounds_toArray, List.set_cons_zero, List.set_cons_succ]
            refine wpAnyH_ready (rs := [8]) (by kernel_rfl) (by simp) ?_
            refine (AllReadyH.cons rfl (fun K hK => ?_) AllReadyH.nil)
            go_simp
            refine hK.out _ _ ((hHeld.setCell (by first | omega | (simp; done) | (simp; omega)) _).setCell (by first | omega | (simp; done) | (simp; omega)) _) (fun hHeld => ?_)
            clear hK K
            try simp only [Act.put, List.setIfInBounds_toArray, List.set_cons_zero, List.set_cons_succ]
            refine wpAnyH_done (by kernel_rfl) ?_ _
            go_wp2
            go_meet
            exact ⟨⟨by go_simp, by go_simp, by intro o; go_simp, by simp; omega⟩, ⟨by go_simp, by go_simp, by intro o; go_simp, by simp; omega⟩, ⟨by go_simp, by go_simp, by intro o; go_simp, by simp; omega⟩, hHeld⟩
        · go_simp
          refine hK.out _ _ (hHeld) (fun hHeld => ?_)
          clear hK K
          try simp only [Act.put, List.setIfInBounds_toArray, List.set_cons_zero, List.set_cons_succ]
          refine wpAnyH_ready (rs := [1]) (by kernel_rfl) (by simp) ?_
          refine (AllReadyH.cons rfl (fun K hK => ?_) AllReadyH.nil)
          go_simp
          refine (FA.out _).mono ?_
          rintro e w1 ⟨rfl, hb1⟩
          have hw1 : Below W.heap.size W w1 := (Below.refl W.heap.size W).drew.trans hb1
          have P1 := Lib.hid (P0.out.below hw1)
          have Q1 := Lib.hid (Q0.out.below hw1)
          have U1 := Lib.hid (U0.out.below hw1)
          have D1 := Lib.hid (D0.out.trans (hw1.mono D0.out.size))
          clear hb1 hw1
          clear p0 p1 p2 p3 q0 q1 q2 q3 v0 v1 v2 v3
          obtain ⟨p0, p1, p2, p3⟩ := P1.out
          obtain ⟨q0, q1, q2, q3⟩ := Q1.out
          obtain ⟨v0, v1, v2, v3⟩ := U1.out
          go_wp2_with fail
          refine hK.out _ _ (D1.out) (fun hHeld => ?_)
          clear hK K
          try simp only [Act.put, List.setIfInBounds_toArray, List.set_cons_zero, List.set_cons_succ]
          refine wpAnyH_ready (rs := [3]) (by kernel_rfl) (by simp) ?_
          refine (AllReadyH.cons rfl (fun K hK => ?_) AllReadyH.nil)
          go_simp
          refine (FB.out _).mono ?_
          rintro e w2 ⟨rfl, hb2⟩
          have P2 := Lib.hid (P1.out.below hb2)
          have Q2 := Lib.hid (Q1.out.below hb2)
          have U2 := Lib.hid (U1.out.below hb2)
          have D2 := Lib.hid (D1.out.trans (hb2.mono D1.out.size))
          clear hb2
          clear p0 p1 p2 p3 q0 q1 q2 q3 v0 v1 v2 v3
          obtain ⟨p0, p1, p2, p3⟩ := P2.out
          obtain ⟨q0, q1, q2, q3⟩ := Q2.out
          obtain ⟨v0, v1, v2, v3⟩ := U2.out
          go_wp2_with fail
          refine hK.out _ _ (D2.out) (fun hHeld => ?_)
          clear hK K
          try simp only [Act.put, List.setIfInBounds_toArray, List.set_cons_zero, List.set_cons_succ]
          refine wpAnyH_ready (rs := [5]) (by kernel_rfl) (by simp) ?_
          refine (AllReadyH.cons rfl (fun K hK => ?_) AllReadyH.nil)
          go_simp
          refine (FC.out _).mono ?_
          rintro e w3 ⟨rfl, hb3⟩
          have P3 := Lib.hid (P2.out.below hb3)
          have Q3 := Lib.hid (Q2.out.below hb3)
          have U3 := Lib.hid (U2.out.below hb3)
          have D3 := Lib.hid (D2.out.trans (hb3.mono D2.out.size))
          clear hb3
          clear p0 p1 p2 p3 q0 q1 q2 q3 v0 v1 v2 v3
          obtain ⟨p0, p1, p2, p3⟩ := P3.out
          obtain ⟨q0, q1, q2, q3⟩ := Q3.out
          obtain ⟨v0, v1, v2, v3⟩ := U3.out
          go_wp2_with fail
          refine hK.out _ _ (D3.out) (fun hHeld => ?_)
          clear hK K
          try simp only [Act.put, List.setIfInBounds_toArray, List.set_cons_zero, List.set_cons_succ]
          refine wpAnyH_ready (rs := [6]) (by kernel_rfl) (by simp) ?_
          refine (AllReadyH.cons rfl (fun K hK => ?_) AllReadyH.nil)
          go_simp
          refine hK.out _ _ ((hHeld.setCell (by first | omega | (simp; done) | (simp; omega)) _).setCell (by first | omega | (simp; done) | (simp; omega)) _) (fun hHeld => ?_)
          clear hK K
          try simp only [Act.put, List.setIfInBounds_toArray, List.set_cons_zero, List.set_cons_succ]
          refine wpAnyH_ready (rs := [7]) (by kernel_rfl) (by simp) ?_
          refine (AllReadyH.cons rfl (fun K hK => ?_) AllReadyH.nil)
          go_simp
          refine hK.out _ _ ((hHeld.setCell (by first | omega | (simp; done) | (simp; omega)) _).setCell (by first | omega | (simp; done) | (simp; omega)) _) (fun hHeld => ?_)
          clear hK K
          try simp only [Act.put, List.setIfInBounds_toArray, List.set_cons_zero, List.set_cons_succ]
          refine wpAnyH_ready (rs := [8]) (by kernel_rfl) (by simp) ?_
          refine (AllReadyH.cons rfl (fun K hK => ?_) AllReadyH.nil)
          go_simp
          refine hK.out _ _ ((hHeld.setCell (by first | omega | (simp; done) | (simp; omega)) _).setCell (by first | omega | (simp; done) | (simp; omega)) _) (fun hHeld => ?_)
          clear hK K
          try simp only [Act.put, List.setIfInBounds_toArray, List.set_cons_zero, List.set_cons_succ]
          refine wpAnyH_done (by kernel_rfl) ?_ _
          go_wp2
          go_meet
          exact ⟨⟨by go_simp, by go_simp, by intro o; go_simp, by simp; omega⟩, ⟨by go_simp, by go_simp, by intro o; go_simp, by simp; omega⟩, ⟨by go_simp, by go_simp, by intro o; go_simp, by simp; omega⟩, hHeld⟩
      · go_simp
        refine hK.out _ _ (hHeld) (fun hHeld => ?_)
        clear hK K
        try simp only [Act.put, List.setIfInBounds_toArray, List.set_cons_zero, List.set_cons_succ]
        refine wpAnyH_ready (rs := [0]) (by kernel_rfl) (by simp) ?_
        refine (AllReadyH.cons rfl (fun K hK => ?_) AllReadyH.nil)
        go_simp
        refine hK.out _ _ (hHeld) (fun hHeld => ?_)
        clear hK K
        try simp only [Act.put, List.setIfInBounds_toArray, List.set_cons_zero, List.set_cons_succ]
        refine wpAnyH_ready (rs := [1]) (by kernel_rfl) (by simp) ?_
        refine (AllReadyH.cons rfl (fun K hK => ?_) AllReadyH.nil)
        go_simp
        refine (FA.out _).mono ?_
        rintro e w1 ⟨rfl, hb1⟩
        have hw1 : Below W.heap.size W w1 := (Below.refl W.heap.size W).drew.trans hb1
        have P1 := Lib.hid (P0.out.below hw1)
        have Q1 := Lib.hid (Q0.out.below hw1)
        have U1 := Lib.hid (U0.out.below hw1)
        have D1 := Lib.hid (D0.out.trans (hw1.mono D0.out.size))
        clear hb1 hw1
        clear p0 p1 p2 p3 q0 q1 q2 q3 v0 v1 v2 v3
        obtain ⟨p0, p1, p2, p3⟩ := P1.out
        obtain ⟨q0, q1, q2, q3⟩ := Q1.out
        obtain ⟨v0, v1, v2, v3⟩ := U1.out
        go_wp2_with fail
        refine hK.out _ _ (D1.out) (fun hHeld => ?_)
        clear hK K
        try simp only [Act.put, List.setIfInBounds_toArray, List.set_cons_zero, List.set_cons_succ]
        refine wpAnyH_ready (rs := [3]) (by kernel_rfl) (by simp) ?_
        refine (AllReadyH.cons rfl (fun K hK => ?_) AllReadyH.nil)
        go_simp
        refine (FB.out _).mono ?_
        rintro e w2 ⟨rfl, hb2⟩
        have P2 := Lib.hid (P1.out.below hb2)
        have Q2 := Lib.hid (Q1.out.below hb2)
        have U2 := Lib.hid (U1.out.below hb2)
        have D2 := Lib.hid (D1.out.trans (hb2.mono D1.out.size))
        clear hb2
        clear p0 p1 p2 p3 q0 q1 q2 q3 v0 v1 v2 v3
        obtain ⟨p0, p1, p2, p3⟩ := P2.out
        obtain ⟨q0, q1, q2, q3⟩ := Q2.out
        obtain ⟨v0, v1, v2, v3⟩ := U2.out
        go_wp2_with fail
        refine hK.out _ _ (D2.out) (fun hHeld => ?_)
        clear hK K
        try simp only [Act.put, List.setIfInBounds_toArray, List.set_cons_zero, List.set_cons_succ]
        refine wpAnyH_ready (rs := [5]) (by kernel_rfl) (by simp) ?_
        refine (AllReadyH.cons rfl (fun K hK => ?_) AllReadyH.nil)
        go_simp
        refine (FC.out _).mono ?_
        rintro e w3 ⟨rfl, hb3⟩
        have P3 := Lib.hid (P2.out.below hb3)
        have Q3 := Lib.hid (Q2.out.below hb3)
        have U3 := Lib.hid (U2.out.below hb3)
        have D3 := Lib.hid (D2.out.trans (hb3.mono D2.out.size))
        clear hb3
        clear p0 p1 p2 p3 q0 q1 q2 q3 v0 v1 v2 v3
        obtain ⟨p0, p1, p2, p3⟩ := P3.out
        obtain ⟨q0, q1, q2, q3⟩ := Q3.out
        obtain ⟨v0, v1, v2, v3⟩ := U3.out
        go_wp2_with fail
        refine hK.out _ _ (D3.out) (fun hHeld => ?_)
        clear hK K
        try simp only [Act.put, List.setIfInBounds_toArray, List.set_cons_zero, List.set_cons_succ]
        refine wpAnyH_ready (rs := [6]) (by kernel_rfl) (by simp) ?_
        refine (AllReadyH.cons rfl (fun K hK => ?_) AllReadyH.nil)
        go_simp
        refine hK.out _ _ ((hHeld.setCell (by first | omega | (simp; done) | (simp; omega)) _).setCell (by first | omega | (simp; done) | (simp; omega)) _) (fun hHeld => ?_)
        clear hK K
        try simp only [Act.put, List.setIfInBounds_toArray, List.set_cons_zero, List.set_cons_succ]
        refine wpAnyH_ready (rs := [7]) (by kernel_rfl) (by simp) ?_
        refine (AllReadyH.cons rfl (fun K hK => ?_) AllReadyH.nil)
        go_simp
        refine hK.out _ _ ((hHeld.setCell (by first | omega | (simp; done) | (simp; omega)) _).setCell (by first | omega | (simp; done) | (simp; omega)) _) (fun hHeld => ?_)
        clear hK K
        try simp only [Act.put, List.setIfInBounds_toArray, List.set_cons_zero, List.set_cons_succ]
        refine wpAnyH_ready (rs := [8]) (by kernel_rfl) (by simp) ?_
        refine (AllReadyH.cons rfl (fun K hK => ?_) AllReadyH.nil)
        go_simp
        refine hK.out _ _ ((hHeld.setCell (by first | omega | (simp; done) | (simp; omega)) _).setCell (by first | omega | (simp; done) | (simp; omega)) _) (fun hHeld => ?_)
        clear hK K
        try simp only [Act.put, List.setIfInBounds_toArray, List.set_cons_zero, List.set_cons_succ]
        refine wpAnyH_done (by kernel_rfl) ?_ _
        go_wp2
        go_meet
        exact ⟨⟨by go_simp, by go_simp, by intro o; go_simp, by simp; omega⟩, ⟨by go_simp, by go_simp, by intro o; go_simp, by simp; omega⟩, ⟨by go_simp, by go_simp, by intro o; go_simp, by simp; omega⟩, hHeld⟩
    · go_simp
      refine hK.out _ _ (hHeld) (fun hHeld => ?_)
      clear hK K
      try simp only [Act.put, List.setIfInBounds_toArray, List.set_cons_zero, List.set_cons_succ]
      refine wpAnyH_ready (rs := [0, 2]) (by kernel_rfl) (by simp) ?_
      refine (AllReadyH.cons rfl (fun K hK => ?_) (AllReadyH.cons rfl (fun K hK => ?_) AllReadyH.nil))
      · go_simp
        refine hK.out _ _ (hHeld) (fun hHeld => ?_)
        clear hK K
        try simp only [Act.put, List.setIfInBounds_toArray, List.set_cons_zero, List.set_cons_succ]
        refine wpAnyH_ready (rs := [1, 2]) (by kernel_rfl) (by simp) ?_
        refine (AllReadyH.cons rfl (fun K hK => ?_) (AllReadyH.cons rfl (fun K hK => ?_) AllReadyH.nil))
        · go_simp
          refine (FA.out _).mono ?_
          rintro e w1 ⟨rfl, hb1⟩
          have hw1 : Below W.heap.size W w1 := (Below.refl W.heap.size W).drew.trans hb1
          have P1 := Lib.hid (P0.out.below hw1)
          have Q1 := Lib.hid (Q0.out.below hw1)
          have U1 := Lib.hid (U0.out.below hw1)
          have D1 := Lib.hid (D0.out.trans (hw1.mono D0.out.size))
          clear hb1 hw1
          clear p0 p1 p2 p3 q0 q1 q2 q3 v0 v1 v2 v3
          obtain ⟨p0, p1, p2, p3⟩ := P1.out
          obtain ⟨q0, q1, q2, q3⟩ := Q1.out
          obtain ⟨v0, v1, v2, v3⟩ := U1.out
          go_wp2_with fail
          refine hK.out _ _ (D1.out) (fun hHeld => ?_)
          clear hK K
          try simp only [Act.put, List.setIfInBounds_toArray, List.set_cons_zero, List.set_cons_succ]
          refine wpAnyH_ready (rs := [2]) (by kernel_rfl) (by simp) ?_
          refine (AllReadyH.cons rfl (fun K hK => ?_) AllReadyH.nil)
          go_simp
          refine hK.out _ _ (hHeld) (fun hHeld => ?_)
          clear hK K
          try simp only [Act.put, List.setIfInBounds_toArray, List.set_cons_zero, List.set_cons_succ]
          refine wpAnyH_ready (rs := [3]) (by kernel_rfl) (by simp) ?_
          refine (AllReadyH.cons rfl (fun K hK => ?_) AllReadyH.nil)
          go_simp
          refine (FB.out _).mono ?_
          rintro e w2 ⟨rfl, hb2⟩
          have P2 := Lib.hid (P1.out.below hb2)
          have Q2 := Lib.hid (Q1.out.below hb2)
          have U2 := Lib.hid (U1.out.below hb2)
          have D2 := Lib.hid (D1.out.trans (hb2.mono D1.out.size))
          clear hb2
          clear p0 p1 p2 p3 q0 q1 q2 q3 v0 v1 v2 v3
          obtain ⟨p0, p1, p2, p3⟩ := P2.out
          obtain ⟨q0, q1, q2, q3⟩ := Q2.out
          obtain ⟨v0, v1, v2, v3⟩ := U2.out
          go_wp2_with fail
          refine hK.out _ _ (D2.out) (fun hHeld => ?_)
          clear hK K
          try simp only [Act.put, List.setIfInBounds_toArray, List.set_cons_zero, List.set_cons_succ]
          refine wpAnyH_ready (rs := [5]) (by kernel_rfl) (by simp) ?_
          refine (AllReadyH.cons rfl (fun K hK => ?_) AllReadyH.nil)
          go_simp
          refine (FC.out _).mono ?_
          rintro e w3 ⟨rfl, hb3⟩
          have P3 := Lib.hid (P2.out.below hb3)
          have Q3 := Lib.hid (Q2.out.below hb3)
          have U3 := Lib.hid (U2.out.below hb3)
          have D3 := Lib.hid (D2.out.trans (hb3.mono D2.out.size))
          clear hb3
          clear p0 p1 p2 p3 q0 q1 q2 q3 v0 v1 v2 v3
          obtain ⟨p0, p1, p2, p3⟩ := P3.out
          obtain ⟨q0, q1, q2, q3⟩ := Q3.out
          obtain ⟨v0, v1, v2, v3⟩ := U3.out
          go_wp2_with fail
          refine hK.out _ _ (D3.out) (fun hHeld => ?_)
          clear hK K
          try simp only [Act.put, List.setIfInBounds_toArray, List.set_cons_zero, List.set_cons_succ]
          refine wpAnyH_ready (rs := [6]) (by kernel_rfl) (by simp) ?_
          refine (AllReadyH.cons rfl (fun K hK => ?_) AllReadyH.nil)
          go_simp
          refine hK.out _ _ ((hHeld.setCell (by first | omega | (simp; done) | (simp; omega)) _).setCell (by first | omega | (simp; done) | (simp; omega)) _) (fun hHeld => ?_)
          clear hK K
          try simp only [Act.put, List.setIfInBounds_toArray, List.set_cons_zero, List.set_cons_succ]
          refine wpAnyH_ready (rs := [7]) (by kernel_rfl) (by simp) ?_
          refine (AllReadyH.cons rfl (fun K hK => ?_) AllReadyH.nil)
          go_simp
          refine hK.out _ _ ((hHeld.setCell (by first | omega | (simp; done) | (simp; omega)) _).setCell (by first | omega | (simp; done) | (simp; omega)) _) (fun hHeld => ?_)
          clear hK K
          try simp only [Act.put, List.setIfInBounds_toArray, List.set_cons_zero, List.set_cons_succ]
          refine wpAnyH_ready (rs := [8]) (by kernel_rfl) (by simp) ?_
          refine (AllReadyH.cons rfl (fun K hK => ?_) AllReadyH.nil)
          go_simp
          refine hK.out _ _ ((hHeld.setCell (by first | omega | (simp; done) | (simp; omega)) _).setCell (by first | omega | (simp; done) | (simp; omega)) _) (fun hHeld => ?_)
          clear hK K
          try simp only [Act.put, List.setIfInBounds_toArray, List.set_cons_zero, List.set_cons_succ]
          refine wpAnyH_done (by kernel_rfl) ?_ _
          go_wp2
          go_meet
          exact ⟨⟨by go_simp, by go_simp, by intro o; go_simp, by simp; omega⟩, ⟨by go_simp, by go_simp, by intro o; go_simp, by simp; omega⟩, ⟨by go_simp, by go_simp, by intro o; go_simp, by simp; omega⟩, hHeld⟩
        · go_simp
          refine hK.out _ _ (hHeld) (fun hHeld => ?_)
          clear hK K
          try simp only [Act.put, List.setIfInBounds_toArray, List.set_cons_zero, List.set_cons_succ]
          refine wpAnyH_ready (rs := [1]) (by kernel_rfl) (by simp) ?_
          refine (AllReadyH.cons rfl (fun K hK => ?_) AllReadyH.nil)
          go_simp
          refine (FA.out _).mono ?_
          rintro e w1 ⟨rfl, hb1⟩
          have hw1 : Below W.heap.size W w1 := (Below.refl W.heap.size W).drew.trans hb1
          have P1 := Lib.hid (P0.out.below hw1)
          have Q1 := Lib.hid (Q0.out.below hw1)
          have U1 := Lib.hid (U0.out.below hw1)
          have D1 := Lib.hid (D0.out.trans (hw1.mono D0.out.size))
          clear hb1 hw1
          clear p0 p1 p2 p3 q0 q1 q2 q3 v0 v1 v2 v3
          obtain ⟨p0, p1, p2, p3⟩ := P1.out
          obtain ⟨q0, q1, q2, q3⟩ := Q1.out
          obtain ⟨v0, v1, v2, v3⟩ := U1.out
          go_wp2_with fail
          refine hK.out _ _ (D1.out) (fun hHeld => ?_)
          clear hK K
          try simp only [Act.put, List.setIfInBounds_toArray, List.set_cons_zero, List.set_cons_succ]
          refine wpAnyH_ready (rs := [3]) (by kernel_rfl) (by simp) ?_
          refine (AllReadyH.cons rfl (fun K hK => ?_) AllReadyH.nil)
          go_simp
          refine (FB.out _).mono ?_
          rintro e w2 ⟨rfl, hb2⟩
          have P2 := Lib.hid (P1.out.below hb2)
          have Q2 := Lib.hid (Q1.out.below hb2)
          have U2 := Lib.hid (U1.out.below hb2)
          have D2 := Lib.hid (D1.out.trans (hb2.mono D1.out.size))
          clear hb2
          clear p0 p1 p2 p3 q0 q1 q2 q3 v0 v1 v2 v3
          obtain ⟨p0, p1, p2, p3⟩ := P2.out
          obtain ⟨q0, q1, q2, q3⟩ := Q2.out
          obtain ⟨v0, v1, v2, v3⟩ := U2.out
          go_wp2_with fail
          refine hK.out _ _ (D2.out) (fun hHeld => ?_)
          clear hK K
          try simp only [Act.put, List.setIfInBounds_toArray, List.set_cons_zero, List.set_cons_succ]
          refine wpAnyH_ready (rs := [5]) (by kernel_rfl) (by simp) ?_
          refine (AllReadyH.cons rfl (fun K hK => ?_) AllReadyH.nil)
          go_simp
          refine (FC.out _).mono ?_
          rintro e w3 ⟨rfl, hb3⟩
          have P3 := Lib.hid (P2.out.below hb3)
          have Q3 := Lib.hid (Q2.out.below hb3)
          have U3 := Lib.hid (U2.out.below hb3)
          have D3 := Lib.hid (D2.out.trans (hb3.mono D2.out.size))
          clear hb3
          clear p0 p1 p2 p3 q0 q1 q2 q3 v0 v1 v2 v3
          obtain ⟨p0, p1, p2, p3⟩ := P3.out
          obtain ⟨q0, q1, q2, q3⟩ := Q3.out
          obtain ⟨v0, v1, v2, v3⟩ := U3.out
          go_wp2_with fail
          refine hK.out _ _ (D3.out) (fun hHeld => ?_)
          clear hK K
          try simp only [Act.put, List.setIfInBounds_toArray, List.set_cons_zero, List.set_cons_succ]
          refine wpAnyH_ready (rs := [6]) (by kernel_rfl) (by simp) ?_
          refine (AllReadyH.cons rfl (fun K hK => ?_) AllReadyH.nil)
          go_simp
          refine hK.out _ _ ((hHeld.setCell (by first | omega | (simp; done) | (simp; omega)) _).setCell (by first | omega | (simp; done) | (simp; omega)) _) (fun hHeld => ?_)
          clear hK K
          try simp only [Act.put, List.setIfInBounds_toArray, List.set_cons_zero, List.set_cons_succ]
          refine wpAnyH_ready (rs := [7]) (by kernel_rfl) (by simp) ?_
          refine (AllReadyH.cons rfl (fun K hK => ?_) AllReadyH.nil)
          go_simp
          refine hK.out _ _ ((hHeld.setCell (by first | omega | (simp; done) | (simp; omega)) _).setCell (by first | omega | (simp; done) | (simp; omega)) _) (fun hHeld => ?_)
          clear hK K
          try simp only [Act.put, List.setIfInBounds_toArray, List.set_cons_zero, List.set_cons_succ]
          refine wpAnyH_ready (rs := [8]) (by kernel_rfl) (by simp) ?_
          refine (AllReadyH.cons rfl (fun K hK => ?_) AllReadyH.nil)
          go_simp
          refine hK.out _ _ ((hHeld.setCell (by first | omega | (simp; done) | (simp; omega)) _).setCell (by first | omega | (simp; done) | (simp; omega)) _) (fun hHeld => ?_)
          clear hK K
          try simp only [Act.put, List.setIfInBounds_toArray, List.set_cons_zero, List.set_cons_succ]
          refine wpAnyH_done (by kernel_rfl) ?_ _
          go_wp2
          go_meet
          exact ⟨⟨by go_simp, by go_simp, by intro o; go_simp, by simp; omega⟩, ⟨by go_simp, by go_simp, by intro o; go_simp, by simp; omega⟩, ⟨by go_simp, by go_simp, by intro o; go_simp, by simp; omega⟩, hHeld⟩
      · go_simp
        refine hK.out _ _ (hHeld) (fun hHeld => ?_)
        clear hK K
        try simp only [Act.put, List.setIfInBounds_toArray, List.set_cons_zero, List.set_cons_succ]
        refine wpAnyH_ready (rs := [0]) (by kernel_rfl) (by simp) ?_
        refine (AllReadyH.cons rfl (fun K hK => ?_) AllReadyH.nil)
        go_simp
        refine hK.out _ _ (hHeld) (fun hHeld => ?_)
        clear hK K
        try simp only [Act.put, List.setIfInBounds_toArray, List.set_cons_zero, List.set_cons_succ]
        refine wpAnyH_ready (rs := [1]) (by kernel_rfl) (by simp) ?_
        refine (AllReadyH.cons rfl (fun K hK => ?_) AllReadyH.nil)
        go_simp
        refine (FA.out _).mono ?_
        rintro e w1 ⟨rfl, hb1⟩
        have hw1 : Below W.heap.size W w1 := (Below.refl W.heap.size W).drew.trans hb1
        have P1 := Lib.hid (P0.out.below hw1)
        have Q1 := Lib.hid (Q0.out.below hw1)
        have U1 := Lib.hid (U0.out.below hw1)
        have D1 := Lib.hid (D0.out.trans (hw1.mono D0.out.size))
        clear hb1 hw1
        clear p0 p1 p2 p3 q0 q1 q2 q3 v0 v1 v2 v3
        obtain ⟨p0, p1, p2, p3⟩ := P1.out
        obtain ⟨q0, q1, q2, q3⟩ := Q1.out
        obtain ⟨v0, v1, v2, v3⟩ := U1.out
        go_wp2_with fail
        refine hK.out _ _ (D1.out) (fun hHeld => ?_)
        clear hK K
        try simp only [Act.put, List.setIfInBounds_toArray, List.set_cons_zero, List.set_cons_succ]
        refine wpAnyH_ready (rs := [3]) (by kernel_rfl) (by simp) ?_
        refine (AllReadyH.cons rfl (fun K hK => ?_) AllReadyH.nil)
        go_simp
        refine (FB.out _).mono ?_
        rintro e w2 ⟨rfl, hb2⟩
        have P2 := Lib.hid (P1.out.below hb2)
        have Q2 := Lib.hid (Q1.out.below hb2)
        have U2 := Lib.hid (U1.out.below hb2)
        have D2 := Lib.hid (D1.out.trans (hb2.mono D1.out.size))
        clear hb2
        clear p0 p1 p2 p3 q0 q1 q2 q3 v0 v1 v2 v3
        obtain ⟨p0, p1, p2, p3⟩ := P2.out
        obtain ⟨q0, q1, q2, q3⟩ := Q2.out
        obtain ⟨v0, v1, v2, v3⟩ := U2.out
        go_wp2_with fail
        refine hK.out _ _ (D2.out) (fun hHeld => ?_)
        clear hK K
        try simp only [Act.put, List.setIfInBounds_toArray, List.set_cons_zero, List.set_cons_succ]
        refine wpAnyH_ready (rs := [5]) (by kernel_rfl) (by simp) ?_
        refine (AllReadyH.cons rfl (fun K hK => ?_) AllReadyH.nil)
        go_simp
        refine (FC.out _).mono ?_
        rintro e w3 ⟨rfl, hb3⟩
        have P3 := Lib.hid (P2.out.below hb3)
        have Q3 := Lib.hid (Q2.out.below hb3)
        have U3 := Lib.hid (U2.out.below hb3)
        have D3 := Lib.hid (D2.out.trans (hb3.mono D2.out.size))
        clear hb3
        clear p0 p1 p2 p3 q0 q1 q2 q3 v0 v1 v2 v3
        obtain ⟨p0, p1, p2, p3⟩ := P3.out
        obtain ⟨q0, q1, q2, q3⟩ := Q3.out
        obtain ⟨v0, v1, v2, v3⟩ := U3.out
        go_wp2_with fail
        refine hK.out _ _ (D3.out) (fun hHeld => ?_)
        clear hK K
        try simp only [Act.put, List.setIfInBounds_toArray, List.set_cons_zero, List.set_cons_succ]
        refine wpAnyH_ready (rs := [6]) (by kernel_rfl) (by simp) ?_
        refine (AllReadyH.cons rfl (fun K hK => ?_) AllReadyH.nil)
        go_simp
        refine hK.out _ _ ((hHeld.setCell (by first | omega | (simp; done) | (simp; omega)) _).setCell (by first | omega | (simp; done) | (simp; omega)) _) (fun hHeld => ?_)
        clear hK K
        try simp only [Act.put, List.setIfInBounds_toArray, List.set_cons_zero, List.set_cons_succ]
        refine wpAnyH_ready (rs := [7]) (by kernel_rfl) (by simp) ?_
        refine (AllReadyH.cons rfl (fun K hK => ?_) AllReadyH.nil)
        go_simp
        refine hK.out _ _ ((hHeld.setCell (by first | omega | (simp; done) | (simp; omega)) _).setCell (by first | omega | (simp; done) | (simp; omega)) _) (fun hHeld => ?_)
        clear hK K
        try simp only [Act.put, List.setIfInBounds_toArray, List.set_cons_zero, List.set_cons_succ]
        refine wpAnyH_ready (rs := [8]) (by kernel_rfl) (by simp) ?_
        refine (AllReadyH.cons rfl (fun K hK => ?_) AllReadyH.nil)
        go_simp
        refine hK.out _ _ ((hHeld.setCell (by first | omega | (simp; done) | (simp; omega)) _).setCell (by first | omega | (simp; done) | (simp; omega)) _) (fun hHeld => ?_)
        clear hK K
        try simp only [Act.put, List.setIfInBounds_toArray, List.set_cons_zero, List.set_cons_succ]
        refine wpAnyH_done (by kernel_rfl) ?_ _
        go_wp2
        go_meet
        exact ⟨⟨by go_simp, by go_simp, by intro o; go_simp, by simp; omega⟩, ⟨by go_simp, by go_simp, by intro o; go_simp, by simp; omega⟩, ⟨by go_simp, by go_simp, by intro o; go_simp, by simp; omega⟩, hHeld⟩
  case rest => as_aux_lemma =>
    obtain ⟨hp, hq, hv, hb⟩ := hcut
    obtain ⟨w0, rfl⟩ : ∃ w0 : World, w0 = wc := ⟨_, rfl⟩
    have B0 := Lib.hid hb
    have K0 := Lib.hid (fun wk (h : Below w0.heap.size w0 wk) => (⟨hp.below h, hq.below h, hv.below h⟩ : Box wk w.heap.size a b ∧ Box wk (w.heap.size + 1) c d ∧ Box wk (w.heap.size + 1 + 1) e f))
    clear hp hq hv hb XP XQ XU BW FA FB FC
    have r1 := Relation_any a b c d
    have r2 := Relation_any c d e f
    have r3 := Relation_any a b e f
    rw [(rel_yes (both_of hab hbF hcd hdF)).1, (rel_yes (both_of hab hbF hcd hdF)).2] at r1
    rw [(rel_yes (both_of hcd hdF hef hfF)).1, (rel_yes (both_of hcd hdF hef hfF)).2] at r2
    rw [(rel_yes (both_of hab hbF hef hfF)).1, (rel_yes (both_of hab hbF hef hfF)).2] at r3
    have k1 := relV_range a b c d
    have k2 := relV_range c d e f
    have k3 := relV_range a b e f
    obtain ⟨r, hr⟩ : ∃ r : Nat, relV a b c d = (r : Int) := ⟨(relV a b c d).toNat, by omega⟩
    obtain ⟨s', hs'⟩ : ∃ s : Nat, relV c d e f = (s : Int) := ⟨(relV c d e f).toNat, by omega⟩
    have hc1 := can a b c d e f hab hcd hef r s' hr hs'
    rw [hr] at r1 k1
    rw [hs'] at r2 k2
    clear hr hs'
    generalize relV a b e f = v at *
    have g1 : 1 ≤ r := by omega
    have g2 : r ≤ 13 := by omega
    have g3 : 1 ≤ s' := by omega
    have g4 : s' ≤ 13 := by omega
    have ca := Compose_any r s' g1 g2 g3 g4
    have cb := Compose_any (14 - s') (14 - r) (by omega) (by omega) (by omega) (by omega)
    rw [show ((14 - s' : Nat) : Int) = 14 - (s' : Int) by omega, show ((14 - r : Nat) : Int) = 14 - (r : Int) by omega] at cb
    obtain ⟨hlen, heach⟩ := comp_each g1 g2 g3 g4
    have HR := Lib.hid (fun t (ht : t ∈ compL r s') => seen_range ((mem_comp r s' t).1 ht))
    have hl := comp_len r s'
    generalize compL r s' = L at *
    generalize compL (14 - s') (14 - r) = M at *
    rw [hlen] at cb
    have R1 := Lib.hid r1
    have R2 := Lib.hid r2
    have R3 := Lib.hid r3
    have CA := Lib.hid ca
    have CB := Lib.hid cb
    have AW := Lib.hid awake_any
    have HC := Lib.hid hc1
    have HE := Lib.hid heach
    have HN := Lib.hid hlen
    clear r1 r2 r3 ca cb hc1 heach hlen
    have wr1 : IntKind.i64.wrap (14 - (s' : Int)) = 14 - (s' : Int) := IntWalk.i64_in _ (by omega)
    have wr2 : IntKind.i64.wrap (14 - (r : Int)) = 14 - (r : Int) := IntWalk.i64_in _ (by omega)
    have C0 := Lib.hid (Below.refl w0.heap.size w0)
    obtain ⟨⟨p0, p1, p2, p3⟩, ⟨q0, q1, q2, q3⟩, v0, v1, v2, v3⟩ := K0.out _ C0.out
    go_wp2_with fail
    refine (R1.out _).mono ?_
    rintro e w1 ⟨rfl, hb1⟩
    have C1 := Lib.hid (C0.out.trans (hb1.mono C0.out.size))
    clear p0 p1 p2 p3 q0 q1 q2 q3 v0 v1 v2 v3
    obtain ⟨⟨p0, p1, p2, p3⟩, ⟨q0, q1, q2, q3⟩, v0, v1, v2, v3⟩ := K0.out _ C1.out
    go_wp2_with fail
    refine (R2.out _).mono ?_
    rintro e w2 ⟨rfl, hb2⟩
    have C2 := Lib.hid (C1.out.trans (hb2.mono C1.out.size))
    clear p0 p1 p2 p3 q0 q1 q2 q3 v0 v1 v2 v3
    obtain ⟨⟨p0, p1, p2, p3⟩, ⟨q0, q1, q2, q3⟩, v0, v1, v2, v3⟩ := K0.out _ C2.out
    go_wp2_with fail
    refine (R3.out _).mono ?_
    rintro e w3 ⟨rfl, hb3⟩
    have C3 := Lib.hid (C2.out.trans (hb3.mono C2.out.size))
    clear p0 p1 p2 p3 q0 q1 q2 q3 v0 v1 v2 v3
    obtain ⟨⟨p0, p1, p2, p3⟩, ⟨q0, q1, q2, q3⟩, v0, v1, v2, v3⟩ := K0.out _ C3.out
    go_wp2_with fail
    refine (CA.out _).mono ?_
    rintro e w4 ⟨A, cp, rfl, hA, hb4⟩
    have C4 := Lib.hid (C3.out.trans (hb4.mono C3.out.size))
    clear p0 p1 p2 p3 q0 q1 q2 q3 v0 v1 v2 v3
    have hct := Contains_any A L cp v w4 hA (by omega)
    rw [show L.contains v = true by simpa using HC.out] at hct
    have HA := Lib.hid hA
    have HCT := Lib.hid hct
    clear hA hct
    go_wp2_with fail
    refine HCT.out.mono ?_
    rintro e w5 ⟨rfl, rfl⟩
    go_wp2_with fail
    refine (CB.out _).mono ?_
    rintro e w5 ⟨A', cp', rfl, hA', hb5⟩
    have C5 := Lib.hid (C4.out.trans (hb5.mono C4.out.size))
    have HA1 := Lib.hid (HA.out.below hb5)
    have HA2 := Lib.hid hA'
    clear hA' hb5 HCT wr1 wr2 R1 R2 R3 CA CB
    go_wp2
    go_loopw [79] (fun v wr => ∃ i : Nat, i ≤ L.length ∧ v = .int .i64 i ∧ Below w5.heap.size w5 wr) (fun v _ => L.length - (intOf v).toNat)
    case atStart => exact ⟨0, Nat.zero_le _, rfl, Below.refl _ _⟩
    case round =>
      obtain ⟨i, hi, rfl, hb⟩ := hrel
      have HB := Lib.hid hb
      clear hb
      by_cases hlt : i < L.length
      · obtain ⟨g, rfl, lg, cg⟩ := (HA1.out.below HB.out) (by omega)
        obtain ⟨h, rfl, lh, ch⟩ := (HA2.out.below HB.out) (by rw [HN.out]; omega)
        have y0 := ch i (by rw [HN.out]; exact hlt)
        have y1 := cg (L.length - 1 - i) (by omega)
        have hee := HE.out i (by rw [HN.out]; exact hlt) (by omega)
        rw [hee] at y0
        have hy2 : 1 ≤ L[L.length - 1 - i] ∧ L[L.length - 1 - i] ≤ 13 := HR.out _ (List.getElem_mem _)
        obtain ⟨yy, hyy⟩ : ∃ yy, L[L.length - 1 - i] = yy := ⟨_, rfl⟩
        rw [hyy] at y0 y1 hy2
        clear hyy hee
        obtain ⟨hy3, hy4⟩ := hy2
        obtain ⟨id, hid⟩ : ∃ id : Nat, L.length - 1 - i = id := ⟨_, rfl⟩
        rw [hid] at y1
        obtain ⟨m1, hm1⟩ : ∃ m1 : Int, (L.length : Int) - 1 = m1 := ⟨_, rfl⟩
        have i0 : (i : Int) < (L.length : Int) := by omega
        have i1 : (0 : Int) ≤ (i : Int) := by omega
        have i2 : (0 : Int) ≤ (id : Int) := by omega
        have i3 : (id : Int) < (L.length : Int) := by omega
        have w1 : IntKind.i64.wrap ((L.length : Int) - 1) = m1 := hm1 ▸ IntWalk.i64_in _ (by omega)
        have w2 : IntKind.i64.wrap (m1 - (i : Int)) = (id : Int) := by rw [show m1 - (i : Int) = (id : Int) by omega]; exact IntWalk.i64_in _ (by omega)
        have w3 : IntKind.i64.wrap (14 - yy) = 14 - yy := IntWalk.i64_in _ (by omega)
        clear cg ch HA1 HA2 HE HN HC HA hid hm1
        go_wp2
        go_quiet (fail)
        go_wp2
        exact ⟨⟨i + 1, by omega, by go_num, bel_drewN _ HB.out⟩, by simp [intOf]; omega⟩
      · obtain rfl : i = L.length := by omega
        clear HA1 HA2 HE HN HC HA hlt hi
        have C6 := Lib.hid (C5.out.trans (HB.out.mono C5.out.size))
        go_wp2_with fail
        refine (AW.out _).mono ?_
        rintro e w7 ⟨rfl, hb7⟩
        go_wp2
        go_ret
        exact ⟨rfl, B0.out.trans ((C6.out.trans (hb7.mono C6.out.size)).mono B0.out.size)⟩
end Go.Proofs.Ytbdlmidkkdmkpaa
