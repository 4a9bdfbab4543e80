/- What Rename makes of a disk's files. -/
import Derived.Test.YthnfpkbpakffgaaC2
namespace Go.Proofs.Ythnfpkbpakffgaa
open Go.RowKit Go.Maps Go.Sort Go.Shelf
open Disk (Nm Fl DS Up ins del upd fnd okName okByte used Wf createG appendG appendF syncG syncF renameG truncG cutF removeG)
theorem wpList_drop_P {w : World} {ops : Array Oper} {rest : List Oper} {o : Oper} {a : Act} {Q : Exit → Act → World → Prop} (hg : o.guard = none) (x y : Operand) (hop : o.op = .call { callee := .builtin .delete, args := #[x, y], argTypes := #[61, 9] })
    (m : Nat) (L : List NK) (s : ByteArray) (hx : a.eval x = .map (some m)) (hy : a.eval y = .string s) (h : MapP w m L) (hs : (nmOf s).length ≤ maxLen) (hK : ∀ w', MapP w' m (del Prod.fst (nmOf s) L) → w.grownBy w' (some m) → wpList Try.prog ops Q rest (a.put o.dst (.tuple #[])) w') :
    wpList Try.prog ops Q (o :: rest) a w := by
  refine wpList_plain hg fun K' hK' => ?_
  obtain ⟨w', h1, h2, h3⟩ := h.drop s hs o.type
  unfold Oper.wp
  simp [execOp, hop, resolve, invoke, builtin, hx, hy, h1, Result.andThen]
  exact hK' _ _ (hK w' h2 h3)
theorem rename_done {w w1 w2 w3 : World} {m : Nat} {C : List Ent} (h : IsC w m C) {e : Ent} (he : e ∈ C) {s t : ByteArray} (hn : e.nm = nmOf s) (hm1 : MapP w1 m (del Prod.fst (nmOf s) (C.map nk))) (hg1 : w.grownBy w1 (some m)) (hb : Below w1.heap.size w1 w2)
    (hm3 : MapP w3 m (ins Prod.fst (nmOf t, e.k) (del Prod.fst (nmOf t) (del Prod.fst (nmOf s) (C.map nk))))) (hg3 : w2.grownBy w3 (some m)) : WroteC w m C (renameG (nmOf s) (nmOf t)) w3 := by
  obtain ⟨i1, b1⟩ := del_done h (nmOf s) hm1 hg1
  have i2 := i1.below hb
  have f0 : FileAt w2 e := ((h.files e he).but b1 fun b hb e' => h.offm e he (e' ▸ hb)).below hb
  have f2 : FileAt w2 ⟨nmOf t, e.k, e.v, e.bs, e.s⟩ := ⟨f0.c0, f0.c1, f0.fr, f0.lt, f0.own, f0.ne⟩
  have hC : (del Ent.nm (nmOf s) C).map nk = del Prod.fst (nmOf s) (C.map nk) := Disk.map_del (f := Ent.nm) (h := Prod.fst) (r := nk) (fun _ => rfl) _ _
  refine ⟨ins Ent.nm ⟨nmOf t, e.k, e.v, e.bs, e.s⟩ (del Ent.nm (nmOf t) (del Ent.nm (nmOf s) C)), isc_put (e := ⟨nmOf t, e.k, e.v, e.bs, e.s⟩) i2 f2 (by rw [hC]; exact hm3) hg3 (fun b hb => ⟨fun e' => h.offm e he (e' ▸ hb), fun a ha _ ha' => ?_⟩), ?_, ?_, fun b hb => ?_⟩
  · obtain ⟨g1, g2⟩ := Disk.mem_del.1 ha
    exact h.apart a g1 e he (fun h1 => g2 (h1.trans hn)) b ha' hb
  · unfold renameG
    rw [← hn, ← Disk.map_fnd (f := Ent.nm) (h := Fl.nm) (r := Ent.fl) (fun _ => rfl), h.up.fnd he, Disk.map_ins (f := Ent.nm) (h := Fl.nm) (r := Ent.fl) (fun _ => rfl), Disk.map_del (f := Ent.nm) (h := Fl.nm) (r := Ent.fl) (fun _ => rfl), Disk.map_del (f := Ent.nm) (h := Fl.nm) (r := Ent.fl) (fun _ => rfl)]
    rfl
  · exact (((But.refl (foot m C) w).trans b1 fun b hb => .inl (.inl hb)).on hb).grown hg3 (fun k hk => .inl (.inl (by cases hk; rfl)))
  · rcases hb with rfl | ⟨a, ha, hb⟩
    · exact .inl (.inl rfl)
    · rcases Disk.mem_ins.1 ha with rfl | ha
      · exact .inl (.inr ⟨e, he, hb⟩)
      · exact .inl (.inr ⟨a, (Disk.mem_del.1 (Disk.mem_del.1 ha).1).1, hb⟩)
set_option maxRecDepth 100000 in
set_option maxHeartbeats 1000000 in
theorem rename_step {w : World} {m : Nat} {C : List Ent} (h : IsC w m C) (hlen : C.length ≤ 512) {e : Ent} (he : e ∈ C) (b0 b1 b2 b3 : Nat) (s t : ByteArray) (hn : e.nm = nmOf s) (hx : Box2 w b0 b1 (.map (some m)) (.string s)) (hy : Box2 w b2 b3 (.pointer (some ⟨e.k, 0, none⟩)) (.string t)) (n0 : b0 ≠ m) (n1 : b1 ≠ m) (n2 : b2 ≠ m) (n3 : b3 ≠ m) (hok : okName (nmOf s) = true) (hot : okName (nmOf t) = true) :
    Calls Try.prog 62 #[.pointer (some ⟨b0, 0, none⟩), .pointer (some ⟨b1, 0, none⟩), .pointer (some ⟨b2, 0, none⟩), .pointer (some ⟨b3, 0, none⟩)] w fun r w' => r = .returned (.tuple #[]) ∧ WroteC w m C (renameG (nmOf s) (nmOf t)) w' := by
  have hsz : t.size ≤ 32 := by rw [size_nm]; exact (okName_len hot).2
  have CL := Lib.hid (fun W => sClone_any t W hsz)
  have MX := Lib.hid (And.intro (okName_max hok) (okName_max hot))
  have HN := Lib.hid (And.intro n0 (And.intro n1 (And.intro n2 n3)))
  have HD := Lib.hid (fun w1 w2 w3 => rename_done (w1 := w1) (w2 := w2) (w3 := w3) (t := t) h he hn)
  have HX := Lib.hid hx
  have HY := Lib.hid hy
  have hm := h.map
  have HLn := Lib.hid (show (del Prod.fst (nmOf s) (C.map nk)).length < maxLen by
    have := Disk.len_del (f := Prod.fst) (x := nmOf s) (l := C.map nk)
    rw [List.length_map] at this
    unfold maxLen
    omega)
  obtain ⟨c0, c1, _, _⟩ := hx
  clear h hlen he hn n0 n1 n2 n3 hok hot hsz hy
  go_enter Try.func62, Try.ntmps62
  go_wp2_with (first
    | (at_delete; refine wpList_drop_P rfl (.tmp 4) (.tmp 5) rfl m (C.map nk) s rfl rfl hm MX.out.1 ?_; intro w1 hm1 hg1)
    | fail)
  have M1 := Lib.hid hm1
  have G1 := Lib.hid hg1
  have X1 := Lib.hid (HX.out.map hg1 HN.out.1 HN.out.2.1)
  have Y1 := Lib.hid (HY.out.map hg1 HN.out.2.2.1 HN.out.2.2.2)
  clear hm1 hg1 hm c0 c1
  have K0 := Lib.hid (fun (w' : World) (hb : Below w1.heap.size w1 w') => (⟨(X1.out.below hb).1, (Y1.out.below hb).1, (Y1.out.below hb).2.1⟩ : w'.cell? ⟨b0, 0, none⟩ = some (.map (some m)) ∧ w'.cell? ⟨b2, 0, none⟩ = some (.pointer (some ⟨e.k, 0, none⟩)) ∧ w'.cell? ⟨b3, 0, none⟩ = some (.string t)))
  go_upto_region 1 with fail
  go_region_held3 (fun w' => w'.cell? ⟨b0, 0, none⟩ = some (.map (some m)) ∧ w'.cell? ⟨b2, 0, none⟩ = some (.pointer (some ⟨e.k, 0, none⟩)) ∧ w'.cell? ⟨b3, 0, none⟩ = some (.string t)) (first
      | exact K0.out _ HB1.out
      | exact K0.out _ (Below.refl _ _).drew
      | exact X4.out
      | fail) (first
    | (go_at_call 36; (with_reducible refine (CL.out _).mono ?_); rintro e1 w2 ⟨rfl, b2'⟩; have HB1 := Lib.hid (show Below w1.heap.size w1 w2 from (Below.refl _ _).drew.trans b2')
       obtain ⟨w4, hp4, hm4, hg4⟩ := (M1.out.below HB1.out).put t e.k MX.out.2 HLn.out
       have X4 := Lib.hid (show w4.cell? ⟨b0, 0, none⟩ = some (.map (some m)) ∧ w4.cell? ⟨b2, 0, none⟩ = some (.pointer (some ⟨e.k, 0, none⟩)) ∧ w4.cell? ⟨b3, 0, none⟩ = some (.string t) from ⟨((X1.out.below HB1.out).map hg4 HN.out.1 HN.out.2.1).1, ((Y1.out.below HB1.out).map hg4 HN.out.2.2.1 HN.out.2.2.2).1, ((Y1.out.below HB1.out).map hg4 HN.out.2.2.1 HN.out.2.2.2).2.1⟩)
       have Y4 := Lib.hid (And.intro hm4 hg4)
       clear b2' hm4 hg4)
    | fail)
  all_goals
    go_end0
    exact ⟨rfl, HD.out w1 w2 w4 M1.out G1.out HB1.out Y4.out.1 Y4.out.2⟩
end Go.Proofs.Ythnfpkbpakffgaa
