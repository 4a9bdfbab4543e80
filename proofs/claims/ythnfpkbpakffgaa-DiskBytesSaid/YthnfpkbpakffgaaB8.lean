/- A disk's names; its quota, its fuse. -/
import Derived.Test.YthnfpkbpakffgaaB7
namespace Go.Proofs.Ythnfpkbpakffgaa
open Go.RowKit Go.Maps Go.Sort Go.Shelf
open Disk (Nm Fl DS Up ins del upd fnd okName okByte used Wf fileR quotaR quotaD fuseR fuseD)
theorem ownsRow_base {W : World} {base base' : Nat} {e : TypeId} {size : Nat} {v : Value} {k : Nat} {xs : List Value} (h : W.ownsRow base e size v k xs) (hb : base' ≤ base) : W.ownsRow base' e size v k xs := by
  refine ⟨h.1, ?_⟩
  rcases h.2 with hn | ⟨g, cap, cur, hv, hbg, rest⟩
  · exact .inl hn
  · exact .inr ⟨g, cap, cur, hv, Nat.le_trans hb hbg, rest⟩
/-- slices.Sort's two contracts at this program. -/
theorem sortsA (m : Nat) : AnyZ.SortsIn Try.prog sortedA_ren Fence.wide m :=
  ⟨fun blk off cap ss W hH hblk hsz => callsIn_wide.2 (AnyM.slices_Sort_string sortA blk off cap ss W hH hblk hsz),
   fun p cap W => callsIn_wide.2 (AnyM.slices_Sort_string_none sortA p cap W)⟩
/-- A sorted row of names sorts to itself. -/
theorem up_sort {α : Type} {f : α → Nm} {l : List α} (h : Up f l) : (l.map f).mergeSort (fun x y => decide (x ≤ y)) = l.map f := by
  refine List.mergeSort_of_pairwise ?_
  refine List.pairwise_map.2 (h.imp fun {a b} hab => ?_)
  simp only [decide_eq_true_eq]
  exact List.not_lt.1 fun hba => Disk.nm_lt_irrefl _ (Disk.nm_lt_trans hab hba)
theorem keys_perm_map {w : World} {m : Nat} {L : List NK} {D : DataW Unit} (h1 : w.ownsMap Try.prog 9 RP m L.length D) (h2 : ∀ x : Nm, Maps.has D (.string x) = (look x L).isSome) (h4 : Up Prod.fst L) : (L.map Prod.fst).Perm (strKeys D) := by
  obtain ⟨es, rfl, hk⟩ := h1.keysOf
  obtain ⟨es', he, hp⟩ := h1.tidy keyS
  injection he with he
  subst he
  refine perm_strKeys hp (fun p hp => ?_) h4.nd fun x => ?_
  · obtain ⟨v, hv⟩ := hk p hp
    obtain ⟨x, _, hx, _⟩ := Maps.keyOf_str Try.underlying9 hv
    exact ⟨x, hx⟩
  · rw [h2 x]
    exact look_isSome.symm
set_option maxRecDepth 100000 in
set_option maxHeartbeats 1000000 in
/-- The names of a disk's files, rising. -/
theorem names_any {w : World} {c m : Nat} {L : List NK} (q0 : w.cell? ⟨c, 0, none⟩ = some (.map (some m))) (hm : MapP w m L) (hl : L.length ≤ 512) :
    Calls Try.prog 42 #[.pointer (some ⟨c, 0, none⟩)] w fun e w' => ∃ v, e = .returned v ∧ w'.ownsRow w.heap.size 9 1 v L.length ((L.map Prod.fst).map encStr) ∧ Below w.heap.size w w' := by
  obtain ⟨D, hown, h2, h3, h4, h5⟩ := hm
  refine (callsIn_wide (n := 6)).1 ?_
  have hbl := hown.lt
  have hmax : Maps.size D ≤ maxLen := by rw [h3]; unfold maxLen; omega
  have hbytes : Maps.size D * 16 ≤ 140737488355328 := by rw [h3]; omega
  have hseq : SeqGives Fence.wide 2 Try.prog 74 #[.pointer (some ⟨w.heap.size, 0, none⟩)] encStr (fun ss => ss.Perm (strKeys D)) (Maps.size D) (w.alloc (.cells #[.map (some m)] 61)) :=
    AnyZ.keys_gives (ρ := keysA_ren) { keysA with } Fence.wide _ trivial rfl (by omega) w.heap.size m L.length D _ (by simp) (by simp) (by
      obtain ⟨es, clock, hb, Ft, hs, hD⟩ := hown
      exact ⟨es, clock, (Below.heap_alloc _ _ m hbl).trans hb, Ft, hs, hD⟩)
  have cK : ∀ mb W, CallsIn Fence.wide 5 Try.prog 65 #[.map mb] W fun e w' => e = .returned (.func (.func 74) #[] #[.pointer (some ⟨W.heap.size, 0, none⟩)]) ∧ w' = W.alloc (.cells #[.map mb] 61) := fun mb W => AnyZ.keys_in keysA Fence.wide 5 trivial rfl mb W
  have cS := AnyZ.sorted_in sortedA Fence.wide 5 trivial trivial trivial trivial rfl (by omega) (sortsA _) (enters_of Try.func73 (by kernel_rfl) rfl) 74 #[.pointer (some ⟨w.heap.size, 0, none⟩)] trivial (enters_of Try.func74 (by kernel_rfl) rfl) _ _ hmax hbytes _ hseq
  change CallsIn _ _ Try.prog 64 _ _ _ at cS
  have hfK : Fence.wide.fn 65 := trivial
  have hfS : Fence.wide.fn 64 := trivial
  have HD := Lib.hid (And.intro hown (And.intro (fun x => (h2 x).1) (And.intro h3 h4)))
  clear hown h2 h3 h4 h5 hmax hbytes hseq
  refine callsIn_of_wp Try.func42 rfl trivial ?_ rfl
  simp only [Try.ntmps42, List.size_toArray, List.length_cons, List.length_nil, Nat.reduceAdd, Nat.reduceSub, Array.replicate_succ, Array.replicate_zero, List.push_toArray, List.append_toArray, List.nil_append, List.cons_append]
  gi_wp2_with (first
    | (gi_at_call 65; refine (cK _ _).mono ?_; rintro e w' ⟨rfl, rfl⟩)
    | (gi_at_call 64; refine cS.mono ?_; rintro e w' ⟨v, ss, rfl, hS, hrow, hnil, hb⟩))
  go_ret
  obtain ⟨g1, g2, g3, g4⟩ := HD.out
  have hp := hS.trans (keys_perm_map g1 g2 g4).symm
  have hs : ss.mergeSort (fun x y => decide (x ≤ y)) = L.map Prod.fst := (mergeSort_of_perm hp).trans (up_sort g4)
  have hlen : ss.length = L.length := by rw [hp.length_eq, List.length_map]
  rw [hs, hlen] at hrow
  exact ⟨v, rfl, ownsRow_base hrow (by simp), ((Below.refl _ w).alloc (Nat.le_refl _) _).trans (hb.mono (by simp))⟩
theorem encStr_eq (x : Nm) : encStr x = .string ⟨x.toArray⟩ := rfl
/-- The names as a slice. -/
abbrev nmB (x : Nm) : ByteArray := ⟨x.toArray⟩
theorem own_nat {w : World} {base : Nat} {v : Value} {xs : List Nm} (h : w.ownsRow base 9 1 v xs.length (xs.map encStr)) : ∃ A c, v = .slice A xs.length c ∧ NAt w A (xs.map nmB) := by
  rcases h.2 with ⟨rfl, h0⟩ | ⟨g, cap, cur, rfl, _, hg, _⟩
  · exact ⟨none, 0, by rw [h0], fun h1 => by rw [List.length_map, h0] at h1; omega⟩
  · refine ⟨_, _, rfl, fun _ => ⟨g, 0, rfl, (Array.getElem?_eq_some_iff.1 hg).1, fun i hi => ?_⟩⟩
    rw [List.length_map] at hi
    rw [Nat.zero_add, World.ownsRow.cellAt h i (by omega)]
    simp [hi, encStr_eq]
theorem Names_any {w : World} {p : Nat} {d : DS} {S : Nat → Prop} (h0 : IsD w p d S) :
    Calls Try.prog 24 #[.pointer (some ⟨p, 0, none⟩)] w fun e w' => ∃ v, e = .returned v ∧ w'.ownsRow w.heap.size 9 1 v (if d.off = true then [] else d.L.map Fl.nm).length ((if d.off = true then [] else d.L.map Fl.nm).map encStr) ∧ Below w.heap.size w w' := by
  obtain ⟨c, m, C, h⟩ := h0
  have O := Lib.hid (On_any p c d.off w h.ptr h.cont.c3)
  have hlen : (C.map nk).length ≤ 512 := by
    have := h.wf.many
    rw [← h.L, List.length_map] at this
    rwa [List.length_map]
  have hnm : (C.map nk).map Prod.fst = d.L.map Fl.nm := by
    rw [← h.L, List.map_map, List.map_map]
    rfl
  have U := names_any h.cont.c0 h.isc.map hlen
  have hl2 : (C.map nk).length = (d.L.map Fl.nm).length := by rw [← hnm]; simp
  rw [hnm, hl2] at U
  have UU := Lib.hid U
  have q0 := h.ptr
  obtain ⟨o, ho⟩ : ∃ o, d.off = o := ⟨_, rfl⟩
  rw [ho] at O ⊢
  generalize d.L.map Fl.nm = xs at *
  clear h ho U hl2 hnm hlen
  cases o with
  | true =>
    rw [if_pos rfl]
    go_enter Try.func24, Try.ntmps24
    go_wp2_with fail
    refine O.out.mono ?_
    rintro e1 w1 ⟨rfl, rfl⟩
    go_wp2_with fail
    go_ret
    exact ⟨_, rfl, ⟨rfl, .inl ⟨rfl, rfl⟩⟩, Below.refl _ _⟩
  | false =>
    rw [if_neg (by simp)]
    go_enter Try.func24, Try.ntmps24
    go_wp2_with fail
    refine O.out.mono ?_
    rintro e1 w1 ⟨rfl, rfl⟩
    go_wp2_with fail
    refine UU.out.mono ?_
    rintro e2 w2 ⟨v, rfl, hv, b2⟩
    have B2 := Lib.hid (And.intro hv b2)
    clear b2 hv
    go_wp2_with fail
    go_ret
    exact ⟨v, rfl, B2.out.1, B2.out.2⟩
theorem Quota_any {w : World} {p : Nat} {d : DS} {S : Nat → Prop} (h0 : IsD w p d S) (n : Int) :
    Calls Try.prog 54 #[.pointer (some ⟨p, 0, none⟩), .int .i64 n] w fun e w' => e = .returned (.int .i64 (quotaR n)) ∧ WroteD w p S (quotaD n d) w' := by
  obtain ⟨c, m, C, h⟩ := h0
  have O := Lib.hid (made_any p c w h.ptr)
  have M := mayQuota_any n w
  have q0 := h.ptr
  have q1 := h.cont.c1
  have q2 := h.cont.fr 1
  have H := Lib.hid h
  by_cases hn : 0 ≤ n ∧ n ≤ 4194304
  · have hr : quotaR n = 0 := by unfold quotaR; rw [if_pos hn]
    have hd : decide (0 ≤ n ∧ n ≤ 4194304) = true := by simpa using hn
    have hq : quotaD n d = { d with q := n } := by unfold quotaD; rw [if_pos hn]
    rw [hd] at M
    rw [hr]
    have HQ := Lib.hid hq
    clear hr hd hn h hq
    go_enter Try.func54, Try.ntmps54
    go_wp2_with fail
    refine O.out.mono ?_
    rintro e1 w1 ⟨rfl, rfl⟩
    go_wp2_with fail
    refine M.mono ?_
    rintro e1 w1 ⟨rfl, rfl⟩
    go_wp2_with fail
    go_ret
    refine ⟨rfl, S, ⟨c, m, C, ?_⟩, (But.refl S w).setk c 1 (.inl H.out.Sc) _, fun _ h => .inl h⟩
    have hW := H.out.wf.quota n
    rw [HQ.out] at hW ⊢
    have hb : But (fun b => b = c) w (w.setCell ⟨c, 1, none⟩ (.int .i64 n)) := (But.refl (fun b => b = c) w).setk c 1 (.inl rfl) _
    exact ⟨(hb.cell p 0 H.out.plt H.out.pc).trans H.out.ptr, by simpa [World.setCell] using H.out.plt, H.out.cont.q n, H.out.isc.but hb fun b hb' e => H.out.cf (e ▸ hb'), H.out.L, H.out.pc, H.out.pf, H.out.cf, H.out.Sp, H.out.Sc, H.out.Sf, fun b hb' => Nat.lt_of_lt_of_le (H.out.Slt b hb') hb.size, hW⟩
  · have hr : quotaR n = 1 := by unfold quotaR; rw [if_neg hn]
    have hd : decide (0 ≤ n ∧ n ≤ 4194304) = false := by simpa using hn
    have hq : quotaD n d = d := by unfold quotaD; rw [if_neg hn]
    rw [hd] at M
    rw [hr, hq]
    clear hr hd hn h hq
    go_enter Try.func54, Try.ntmps54
    go_wp2_with fail
    refine O.out.mono ?_
    rintro e1 w1 ⟨rfl, rfl⟩
    go_wp2_with fail
    refine M.mono ?_
    rintro e1 w1 ⟨rfl, rfl⟩
    go_wp2_with fail
    go_ret
    exact ⟨rfl, .same ⟨c, m, C, H.out⟩ (Below.refl _ _)⟩
theorem Fuse_any {w : World} {p : Nat} {d : DS} {S : Nat → Prop} (h0 : IsD w p d S) (n : Int) (hmax : n ≤ 9223372036854775807) :
    Calls Try.prog 30 #[.pointer (some ⟨p, 0, none⟩), .int .i64 n] w fun e w' => e = .returned (.int .i64 (fuseR n d)) ∧ WroteD w p S (fuseD n d) w' := by
  obtain ⟨c, m, C, h⟩ := h0
  have U := usable_any p c d.off w h.ptr h.cont.c3 none 0 [] (fun h => absurd h (by simp)) (by simp)
  have q0 := h.ptr
  have q1 := h.cont.c2
  have q2 := h.cont.fr 2
  have H := Lib.hid h
  have HM := Lib.hid hmax
  clear hmax
  by_cases ho : d.off = true
  · have hu : usableR d.off [] = 8 := by rw [ho]; rfl
    have hr : fuseR n d = 8 := by unfold fuseR; rw [if_pos ho]
    have hq : fuseD n d = d := by unfold fuseD; rw [if_pos ho]
    rw [hu] at U
    rw [hr, hq]
    clear hu hr hq ho h
    go_enter Try.func30, Try.ntmps30
    go_wp2_with fail
    refine U.mono ?_
    rintro e1 w1 ⟨rfl, rfl⟩
    go_wp2_with fail
    go_ret
    exact ⟨rfl, .same ⟨c, m, C, H.out⟩ (Below.refl _ _)⟩
  · have ho' : d.off = false := by simpa using ho
    have hu : usableR d.off [] = 0 := by rw [ho']; rfl
    rw [hu] at U
    by_cases hn : n < -1
    · have hr : fuseR n d = 1 := by unfold fuseR; rw [if_neg ho, if_pos hn]
      have hq : fuseD n d = d := by unfold fuseD; rw [if_neg ho, if_pos hn]
      rw [hr, hq]
      clear hu hr hq ho ho' h
      go_enter Try.func30, Try.ntmps30
      go_wp2_with fail
      refine U.mono ?_
      rintro e1 w1 ⟨rfl, rfl⟩
      go_wp2_with fail
      go_ret
      exact ⟨rfl, .same ⟨c, m, C, H.out⟩ (Below.refl _ _)⟩
    · have hr : fuseR n d = 0 := by unfold fuseR; rw [if_neg ho, if_neg hn]
      have hq : fuseD n d = { d with fu := n } := by unfold fuseD; rw [if_neg ho, if_neg hn]
      rw [hr]
      have HQ := Lib.hid hq
      have hn' : -1 ≤ n := by omega
      clear hu hr hq ho ho' h hn
      go_enter Try.func30, Try.ntmps30
      go_wp2_with fail
      refine U.mono ?_
      rintro e1 w1 ⟨rfl, rfl⟩
      go_wp2_with fail
      go_ret
      refine ⟨rfl, S, ⟨c, m, C, ?_⟩, (But.refl S w).setk c 2 (.inl H.out.Sc) _, fun _ h => .inl h⟩
      have hW := H.out.wf.fuse n HM.out
      rw [HQ.out] at hW ⊢
      have hb : But (fun b => b = c) w (w.setCell ⟨c, 2, none⟩ (.int .i64 n)) := (But.refl (fun b => b = c) w).setk c 2 (.inl rfl) _
      exact ⟨(hb.cell p 0 H.out.plt H.out.pc).trans H.out.ptr, by simpa [World.setCell] using H.out.plt, H.out.cont.fu n, H.out.isc.but hb fun b hb' e => H.out.cf (e ▸ hb'), H.out.L, H.out.pc, H.out.pf, H.out.cf, H.out.Sp, H.out.Sc, H.out.Sf, fun b hb' => Nat.lt_of_lt_of_le (H.out.Slt b hb') hb.size, hW⟩
end Go.Proofs.Ythnfpkbpakffgaa
