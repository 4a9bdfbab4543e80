/- What each step makes of a disk's files: Append, Sync, Truncate, Remove, Rename. -/
import Derived.Test.YthnfpkbpakffgaaB9
namespace Go.Proofs.Ythnfpkbpakffgaa
open Go.RowKit Go.Maps Go.Sort Go.Shelf
open Disk (Nm Fl DS Up ins del upd fnd okName okByte used Wf createG appendG appendF syncG syncF renameG truncG cutF removeG)
theorem upd_fl {C : List Ent} (hu : Up Ent.nm C) {e : Ent} (he : e ∈ C) (e' : Ent) (g : Fl → Fl) (hg : g e.fl = e'.fl) : (upd Ent.nm e.nm (fun _ => e') C).map Ent.fl = upd Fl.nm e.nm g (C.map Ent.fl) := by
  unfold upd
  rw [List.map_map, List.map_map]
  refine List.map_congr_left fun a ha => ?_
  show (if a.nm = e.nm then e' else a).fl = if a.nm = e.nm then g a.fl else a.fl
  by_cases h : a.nm = e.nm
  · rw [if_pos h, if_pos h, hu.inj ha he h, hg]
  · rw [if_neg h, if_neg h]
theorem upd_nk {C : List Ent} (hu : Up Ent.nm C) {e : Ent} (he : e ∈ C) (e' : Ent) (hn : e'.nm = e.nm) (hk : e'.k = e.k) : (upd Ent.nm e.nm (fun _ => e') C).map nk = C.map nk := by
  unfold upd
  rw [List.map_map]
  refine List.map_congr_left fun a ha => ?_
  show nk (if a.nm = e.nm then e' else a) = nk a
  by_cases h : a.nm = e.nm
  · rw [if_pos h, hu.inj ha he h]
    show (e'.nm, e'.k) = (e.nm, e.k)
    rw [hn, hk]
  · rw [if_neg h]
/-- One file changed. -/
theorem upd_done {w w' : World} {m : Nat} {C : List Ent} {e : Ent} (h : IsC w m C) (he : e ∈ C) (e' : Ent) (hn : e'.nm = e.nm) (hk : e'.k = e.k) (hf : FileAt w' e') (hb : But e.has w w') (hfr : ∀ b, e'.has b → e.has b ∨ w.heap.size ≤ b) (g : Fl → Fl) (hg : g e.fl = e'.fl) :
    WroteC w m C (upd Fl.nm e.nm g) w' := by
  have hu := h.up
  have hmem : ∀ a ∈ upd Ent.nm e.nm (fun _ => e') C, a = e' ∨ (a ∈ C ∧ a.nm ≠ e.nm) := fun a ha => by
    obtain ⟨b, hb, rfl⟩ := Disk.mem_upd.1 ha
    by_cases h1 : b.nm = e.nm
    · rw [if_pos h1]; exact .inl rfl
    · rw [if_neg h1]; exact .inr ⟨hb, h1⟩
  have hdis : ∀ a ∈ C, a.nm ≠ e.nm → ∀ b, a.has b → ¬ e'.has b := fun a ha hne b h1 h2 => by
    rcases hfr b h2 with h3 | h3
    · exact h.apart a ha e he hne b h1 h3
    · have := (h.files a ha).has_lt h1; omega
  refine ⟨upd Ent.nm e.nm (fun _ => e') C, ⟨?_, fun a ha => ?_, fun a ha a' ha' hne b h1 h2 => ?_, fun a ha h1 => ?_⟩, upd_fl hu he e' g hg, hb.sub fun b hb => .inr ⟨e, he, hb⟩, fun b hb => ?_⟩
  · rw [upd_nk hu he e' hn hk]
    exact h.map.but hb (h.offm e he)
  · rcases hmem a ha with rfl | ⟨ha, hne⟩
    · exact hf
    · exact (h.files a ha).but hb fun b hb => h.apart a ha e he hne b hb
  · rcases hmem a ha with e1 | ⟨g1, n1⟩ <;> rcases hmem a' ha' with e2 | ⟨g2, n2⟩
    · exact hne (by rw [e1, e2])
    · exact hdis a' g2 n2 b h2 (e1 ▸ h1)
    · exact hdis a g1 n1 b h1 (e2 ▸ h2)
    · exact h.apart a g1 a' g2 hne b h1 h2
  · rcases hmem a ha with rfl | ⟨ha, hn1⟩
    · rcases hfr m h1 with h2 | h2
      · exact h.offm e he h2
      · have := h.map.lt; omega
    · exact h.offm a ha h1
  · rcases hb with rfl | ⟨a, ha, hb⟩
    · exact .inl (.inl rfl)
    · rcases hmem a ha with rfl | ⟨ha, hn1⟩
      · exact (hfr b hb).imp_left fun h => .inr ⟨e, he, h⟩
      · exact .inl (.inr ⟨a, ha, hb⟩)
theorem sync_step {w : World} {m : Nat} {C : List Ent} (h : IsC w m C) {e : Ent} (he : e ∈ C) :
    Calls Try.prog 40 #[.pointer (some ⟨e.k, 0, none⟩)] w fun r w' => r = .returned (.tuple #[]) ∧ WroteC w m C (syncG e.nm) w' := by
  have hf := h.files e he
  obtain ⟨A, c, hv, _⟩ := own_slice hf.own
  refine (sync_any e.k A e.bs.length c w _ (by rw [← hv]; exact hf.c0) hf.c1 (hf.fr 1)).mono ?_
  rintro r w' ⟨rfl, rfl⟩
  exact ⟨rfl, upd_done h he ⟨e.nm, e.k, e.v, e.bs, e.bs.length⟩ rfl rfl (file_safe hf _) ((But.refl e.has w).setk e.k 1 (.inl (.inl rfl)) _) (fun b hb => .inl hb) syncF rfl⟩
theorem cut_done {w : World} {m : Nat} {C : List Ent} (h : IsC w m C) {e : Ent} (he : e ∈ C) (j : Nat) (hj : j ≤ e.bs.length) {A : Option Addr} {c : Nat} (hv : e.v = .slice A e.bs.length c) :
    WroteC w m C (truncG e.nm j) ((w.setCell ⟨e.k, 0, none⟩ (.slice A j c)).setCell ⟨e.k, 1, none⟩ (.int .i64 ((min e.s j : Nat) : Int))) := by
  have hf := h.files e he
  have ho := hf.own
  have hn := hf.ne
  rw [hv] at ho hn
  have h1 := file_slice hf (.slice A j c) (e.bs.take j) (by rw [List.length_take, Nat.min_eq_left hj]; exact own_take ho hj) (by cases A <;> first | exact hn | simp [Value.ownBlock])
  have h2 := file_safe h1 (min e.s j)
  have hb : (Value.slice A j c).ownBlock = e.v.ownBlock := by rw [hv]; cases A <;> rfl
  exact upd_done h he ⟨e.nm, e.k, .slice A j c, e.bs.take j, min e.s j⟩ rfl rfl h2 (((But.refl e.has w).setk e.k 0 (.inl (.inl rfl)) _).setk e.k 1 (.inl (.inl rfl)) _) (fun b hb' => .inl (hb'.imp id fun h => hb ▸ h)) (cutF j) rfl
theorem trunc_step {w : World} {m : Nat} {C : List Ent} (h : IsC w m C) {e : Ent} (he : e ∈ C) (hs : e.s ≤ e.bs.length) (hl : e.bs.length ≤ 4194304) (j : Nat) (hj : j ≤ e.bs.length) (bf bj : Nat) (hx : Box2 w bf bj (.pointer (some ⟨e.k, 0, none⟩)) (.int .i64 j)) :
    Calls Try.prog 70 #[.pointer (some ⟨bf, 0, none⟩), .pointer (some ⟨bj, 0, none⟩)] w fun r w' => r = .returned (.tuple #[]) ∧ WroteC w m C (truncG e.nm j) w' := by
  have hf := h.files e he
  obtain ⟨A, c, hv, hA, hz, hc⟩ := own_slice hf.own
  have hAA : (A = none ∧ e.bs.length = 0 ∧ c = 0) ∨ ∃ g, A = some ⟨g, 0, none⟩ := by
    rcases own_shape hf.own with ⟨h1, h2⟩ | ⟨g, c', h1, _⟩
    · rw [h1] at hv
      injection hv with e1 e2 e3
      exact .inl ⟨e1.symm, by rw [h2]; rfl, e3.symm⟩
    · rw [h1] at hv
      injection hv with e1 e2 e3
      exact .inr ⟨g, e1.symm⟩
  have C1 := Lib.hid (cut_any e.k A e.bs.length c e.s j w (by rw [← hv]; exact hf.c0) hf.c1 hf.fr hAA hc hj hs hl)
  have W := Lib.hid (cut_done h he j hj hv)
  obtain ⟨c1, c2, _, _⟩ := hx
  clear h he hf hv hA hz hc hAA hs hl hj
  go_enter Try.func70, Try.ntmps70
  go_wp2_with fail
  refine C1.out.mono ?_
  rintro r w' ⟨rfl, hw⟩
  have HW := Lib.hid hw
  clear hw C1
  go_wp2_with fail
  go_end0
  exact ⟨rfl, by rw [HW.out]; exact W.out⟩
theorem del_done {w w' : World} {m : Nat} {C : List Ent} (h : IsC w m C) (x : Nm) (hm : MapP w' m (del Prod.fst x (C.map nk))) (hg : w.grownBy w' (some m)) : IsC w' m (del Ent.nm x C) ∧ But (fun b => b = m) w w' := by
  have hb : But (fun b => b = m) w w' := (But.refl (fun b => b = m) w).grown hg (fun k hk => .inl (by cases hk; rfl))
  refine ⟨⟨by rw [Disk.map_del (f := Ent.nm) (h := Prod.fst) (r := nk) (fun _ => rfl)]; exact hm, fun a ha => ?_, fun a ha a' ha' => h.apart a (Disk.mem_del.1 ha).1 a' (Disk.mem_del.1 ha').1, fun a ha => h.offm a (Disk.mem_del.1 ha).1⟩, hb⟩
  have ha' := (Disk.mem_del.1 ha).1
  exact (h.files a ha').but hb fun b hb' e' => h.offm a ha' (e' ▸ hb')
theorem remove_step {w : World} {m : Nat} {C : List Ent} (h : IsC w m C) (bd bs p c : Nat) (s : ByteArray) (hx : Box2 w bd bs (.pointer (some ⟨p, 0, none⟩)) (.string s)) (hp : w.cell? ⟨p, 0, none⟩ = some (.pointer (some ⟨c, 0, none⟩))) (hc : w.cell? ⟨c, 0, none⟩ = some (.map (some m))) (hok : okName (nmOf s) = true) :
    Calls Try.prog 41 #[.pointer (some ⟨bd, 0, none⟩), .pointer (some ⟨bs, 0, none⟩)] w fun r w' => r = .returned (.tuple #[]) ∧ WroteC w m C (removeG (nmOf s)) w' := by
  obtain ⟨w', hr, hm, hg⟩ := (h.below (Below.refl _ _).drew).map.drop s (okName_max hok) 0
  obtain ⟨c1, c2, _, _⟩ := hx
  have hd := del_done (h.below (Below.refl _ _).drew) (nmOf s) hm hg
  have W := Lib.hid (show WroteC w m C (removeG (nmOf s)) w' from
    ⟨del Ent.nm (nmOf s) C, hd.1, Disk.map_del (f := Ent.nm) (h := Fl.nm) (r := Ent.fl) (fun _ => rfl) _ _, ((But.refl (foot m C) w).drew.trans hd.2 fun b hb => .inl (.inl hb)), fun b hb => by
      rcases hb with rfl | ⟨e, he, hb⟩
      · exact .inl (.inl rfl)
      · exact .inl (.inr ⟨e, (Disk.mem_del.1 he).1, hb⟩)⟩)
  clear h hm hg hd hok
  go_enter Try.func41, Try.ntmps41
  go_upto_region 0 with fail
  go_region
  go_wp2_with fail
  go_end0
  exact ⟨rfl, W.out⟩
end Go.Proofs.Ythnfpkbpakffgaa
