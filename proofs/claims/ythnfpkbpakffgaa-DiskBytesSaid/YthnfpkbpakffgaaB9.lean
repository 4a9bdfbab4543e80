/- What each step makes of a disk's files: the closures that steps are passed as. -/
import Derived.Test.YthnfpkbpakffgaaB8
namespace Go.Proofs.Ythnfpkbpakffgaa
open Go.RowKit Go.Maps Go.Sort Go.Shelf
open Disk (Nm Fl DS Up ins del upd fnd okName okByte used Wf createG appendG appendF syncG syncF renameG truncG cutF removeG)
theorem sClone_any (s : ByteArray) (w : World) (h : s.size ≤ 32) : Calls Try.prog 36 #[.string s] w fun e w' => e = .returned (.string s) ∧ Below w.heap.size w w' := by
  have C : Calls Try.prog 63 #[.string s] w fun e w' => e = .returned (.string s) ∧ Below w.heap.size w w' := AnyPu.stringslite_Clone cloneA s w (by omega)
  go_enter Try.func36, Try.ntmps36
  go_wp2_with fail
  refine C.mono ?_
  rintro e1 w1 ⟨rfl, b1⟩
  have B1 := Lib.hid b1
  clear b1 C
  go_wp2_with fail
  go_ret
  exact ⟨rfl, B1.out⟩
section
variable {ops : Array Oper} {o : Oper} {a : Act} {K : Act → World → Prop} {Q : Exit → Act → World → Prop} {E : Prop} {w : World}
theorem step_put (hw : Region.wanted o (yielded ops a.tmps) = true) (x y z : Operand) (ho : o.op = .mapUpdate 61 x y z) (m : Nat) (L : List NK) (s : ByteArray) (k : Nat) (hx : a.eval x = .map (some m)) (hy : a.eval y = .string s) (hz : a.eval z = .pointer (some ⟨k, 0, none⟩))
    (h : MapP w m L) (hs : (nmOf s).length ≤ maxLen) (hl : L.length < maxLen) (hK : ∀ w', MapP w' m (ins Prod.fst (nmOf s, k) (del Prod.fst (nmOf s) L)) → w.grownBy w' (some m) → K (a.put o.dst undef) w') :
    if Region.wanted o (yielded ops a.tmps) = true then Oper.wp Try.prog o a w K Q else E := by
  rw [if_pos hw]
  obtain ⟨w', h1, h2, h3⟩ := h.put s k hs hl
  unfold Oper.wp execOp
  simp only [ho, Sem.run_bind, Sem.run_pure, hx, hy, hz, h1, Result.andThen_ok]
  exact hK w' h2 h3
theorem step_drop (hw : Region.wanted o (yielded ops a.tmps) = true) (x y : Operand) (ho : o.op = .call { callee := .builtin .delete, args := #[x, y], argTypes := #[61, 9] }) (m : Nat) (L : List NK) (s : ByteArray) (hx : a.eval x = .map (some m)) (hy : a.eval y = .string s)
    (h : MapP w m L) (hs : (nmOf s).length ≤ maxLen) (hK : ∀ w', MapP w' m (del Prod.fst (nmOf s) L) → w.grownBy w' (some m) → K (a.put o.dst (.tuple #[])) w') :
    if Region.wanted o (yielded ops a.tmps) = true then Oper.wp Try.prog o a w K Q else E := by
  rw [if_pos hw]
  obtain ⟨w', h1, h2, h3⟩ := h.drop s hs o.type
  unfold Oper.wp execOp
  simp only [ho, resolve, invoke, builtin, Sem.run_bind, Sem.run_pure, Result.andThen_ok, List.map_toArray, List.map_cons, List.map_nil, hx, hy, h1]
  exact hK w' h2 h3
end
theorem nk_put {C : List Ent} (e : Ent) (x : Nm) (hx : e.nm = x) : (ins Ent.nm e (del Ent.nm x C)).map nk = ins Prod.fst (x, e.k) (del Prod.fst x (C.map nk)) := by
  subst hx
  rw [Disk.map_ins (f := Ent.nm) (h := Prod.fst) (r := nk) (fun _ => rfl), Disk.map_del (f := Ent.nm) (h := Prod.fst) (r := nk) (fun _ => rfl)]
/-- A file put under a name: in the place of whatever had it. -/
theorem isc_put {w w' : World} {m : Nat} {C : List Ent} {e : Ent} (h : IsC w m C) (hf : FileAt w e) (hm : MapP w' m (ins Prod.fst (e.nm, e.k) (del Prod.fst e.nm (C.map nk)))) (hg : w.grownBy w' (some m)) (he : ∀ b, e.has b → b ≠ m ∧ ∀ a ∈ C, a.nm ≠ e.nm → ¬ a.has b) :
    IsC w' m (ins Ent.nm e (del Ent.nm e.nm C)) := by
  have hb : But (fun b => b = m) w w' := (But.refl (fun b => b = m) w).grown hg (fun k hk => .inl (by cases hk; rfl))
  refine ⟨by rw [nk_put e e.nm rfl]; exact hm, fun a ha => ?_, fun a ha a' ha' hne b h1 h2 => ?_, fun a ha h1 => ?_⟩
  · rcases Disk.mem_ins.1 ha with rfl | ha
    · exact hf.but hb fun b hb' => (he b hb').1
    · have ha' := (Disk.mem_del.1 ha).1
      exact (h.files a ha').but hb fun b hb' e' => h.offm a ha' (e' ▸ hb')
  · rcases Disk.mem_ins.1 ha with rfl | ha <;> rcases Disk.mem_ins.1 ha' with rfl | ha'
    · exact hne rfl
    · exact (he b h1).2 a' (Disk.mem_del.1 ha').1 (Disk.mem_del.1 ha').2 h2
    · exact (he b h2).2 a (Disk.mem_del.1 ha).1 (Disk.mem_del.1 ha).2 h1
    · exact h.apart a (Disk.mem_del.1 ha).1 a' (Disk.mem_del.1 ha').1 hne b h1 h2
  · rcases Disk.mem_ins.1 ha with rfl | ha
    · exact (he m h1).1 rfl
    · exact h.offm a (Disk.mem_del.1 ha).1 h1
theorem file_new (w : World) (x : Nm) : FileAt (w.alloc (.cells #[.slice none 0 0, .int .i64 0] 74)) ⟨x, w.heap.size, .slice none 0 0, [], 0⟩ := by
  refine ⟨?_, ?_, fun o => ?_, by simp, ⟨rfl, .inl ⟨rfl, rfl⟩⟩, by simp [Value.ownBlock]⟩ <;> go_simp
theorem below_then {w w1 w2 : World} (h : Below w.heap.size w w1) (k : Below w1.heap.size w1 w2) : Below w.heap.size w w2 := h.trans (k.mono h.size)
/-- Two boxes, beside a map. -/
def Box2 (w : World) (bm bs : Nat) (v1 v2 : Value) : Prop := w.cell? ⟨bm, 0, none⟩ = some v1 ∧ w.cell? ⟨bs, 0, none⟩ = some v2 ∧ bm < w.heap.size ∧ bs < w.heap.size
theorem Box2.but {S : Nat → Prop} {w w' : World} {bm bs : Nat} {v1 v2 : Value} (h : Box2 w bm bs v1 v2) (hb : But S w w') (h1 : ¬ S bm) (h2 : ¬ S bs) : Box2 w' bm bs v1 v2 :=
  ⟨(hb.cell bm 0 h.2.2.1 h1).trans h.1, (hb.cell bs 0 h.2.2.2 h2).trans h.2.1, Nat.lt_of_lt_of_le h.2.2.1 hb.size, Nat.lt_of_lt_of_le h.2.2.2 hb.size⟩
theorem Box2.below {w w' : World} {bm bs : Nat} {v1 v2 : Value} (h : Box2 w bm bs v1 v2) (hb : Below w.heap.size w w') : Box2 w' bm bs v1 v2 := h.but (But.of_below (S := fun _ => False) hb) (fun h => h) (fun h => h)
theorem Box2.map {w w' : World} {bm bs m : Nat} {v1 v2 : Value} (h : Box2 w bm bs v1 v2) (hg : w.grownBy w' (some m)) (h1 : bm ≠ m) (h2 : bs ≠ m) : Box2 w' bm bs v1 v2 :=
  h.but ((But.refl (fun b => b = m) w).grown hg (fun k hk => .inl (by cases hk; rfl))) h1 h2
/-- A new file put under a name that none has. -/
theorem create_done {w w1 w4 : World} {m k : Nat} {C : List Ent} {s : ByteArray} (h : IsC w m C) (hnone : ∀ e ∈ C, e.nm ≠ nmOf s) (hb : Below w.heap.size w w1) (hf : FileAt w1 ⟨nmOf s, k, .slice none 0 0, [], 0⟩) (hk : w.heap.size ≤ k)
    (hm : MapP w4 m (ins Prod.fst (nmOf s, k) (del Prod.fst (nmOf s) (C.map nk)))) (hg : w1.grownBy w4 (some m)) : WroteC w m C (createG (nmOf s)) w4 := by
  have hlt := fun b hb => h.lt (b := b) hb
  refine ⟨ins Ent.nm ⟨nmOf s, k, .slice none 0 0, [], 0⟩ (del Ent.nm (nmOf s) C), isc_put (h.below hb) hf hm hg (fun b hb => ?_), ?_, (But.of_below hb).grown hg (fun j hj => .inl (by cases hj; exact .inl rfl)), fun b hb => ?_⟩
  · have hbk : b = k := by
      rcases hb with h | h
      · exact h
      · simp [Value.ownBlock] at h
    rw [hbk]
    refine ⟨fun e => ?_, fun a ha _ ha' => ?_⟩
    · have := hlt m (.inl rfl); omega
    · have := hlt k (.inr ⟨a, ha, ha'⟩); omega
  · rw [Disk.del_none hnone, Disk.map_ins (f := Ent.nm) (h := Fl.nm) (r := Ent.fl) (fun _ => rfl)]
    rfl
  · rcases hb with rfl | ⟨e, he, hb⟩
    · exact .inl (.inl rfl)
    · rcases Disk.mem_ins.1 he with rfl | he
      · rcases hb with h | h
        · exact .inr (by rw [h]; exact hk)
        · simp [Value.ownBlock] at h
      · exact .inl (.inr ⟨e, (Disk.mem_del.1 he).1, hb⟩)
set_option maxRecDepth 100000 in
set_option maxHeartbeats 1000000 in
theorem create_step {w : World} {m : Nat} {C : List Ent} (h : IsC w m C) (hlen : C.length ≤ 512) (bm bs : Nat) (s : ByteArray) (hx : Box2 w bm bs (.map (some m)) (.string s)) (n1 : bm ≠ m) (n2 : bs ≠ m) (hok : okName (nmOf s) = true) (hnone : ∀ e ∈ C, e.nm ≠ nmOf s) :
    Calls Try.prog 35 #[.pointer (some ⟨bm, 0, none⟩), .pointer (some ⟨bs, 0, none⟩)] w fun e w' => e = .returned (.tuple #[]) ∧ WroteC w m C (createG (nmOf s)) w' := by
  have H := Lib.hid h
  have hsz : s.size ≤ 32 := by rw [size_nm]; exact (okName_len hok).2
  have CL := Lib.hid (fun W => sClone_any s W hsz)
  have HX := Lib.hid hx
  have K0 := Lib.hid (fun (w' : World) (hb : Below w.heap.size w w') => (⟨(hx.below hb).1, (hx.below hb).2.1⟩ : w'.cell? ⟨bm, 0, none⟩ = some (.map (some m)) ∧ w'.cell? ⟨bs, 0, none⟩ = some (.string s)))
  have HO := Lib.hid (And.intro (okName_max hok) (And.intro hnone (show (C.map nk).length < maxLen by rw [List.length_map]; unfold maxLen; omega)))
  have NN := Lib.hid (And.intro n1 n2)
  clear h hnone hok hsz hlen hx n1 n2
  go_enter Try.func35, Try.ntmps35
  go_upto_region 0 with fail
  go_region_held3 (fun w' => w'.cell? ⟨bm, 0, none⟩ = some (.map (some m)) ∧ w'.cell? ⟨bs, 0, none⟩ = some (.string s)) (first
      | exact K0.out _ HB1.out
      | exact K0.out _ (HB1.out.alloc HB1.out.size _)
      | exact K0.out _ (Below.refl _ _).drew
      | exact K0.out _ ((Below.refl _ _).drew.alloc (Nat.le_refl _) _)
      | exact X4.out
      | exact X5.out
      | fail) (first
    | (go_at_call 36; (with_reducible refine (CL.out _).mono ?_); rintro e1 w1 ⟨rfl, b1⟩; have HB1 := Lib.hid (show Below w.heap.size w w1 by first | exact (Below.refl _ _).drew.trans b1 | exact below_then ((Below.refl _ _).drew.alloc (Nat.le_refl _) _) b1 | fail)
       have HX1 := Lib.hid b1
       obtain ⟨w4, hp4, hm4, hg4⟩ := (H.out.below (HB1.out.alloc HB1.out.size (.cells #[.slice none 0 0, .int .i64 0] 74))).map.put s w1.heap.size HO.out.1 HO.out.2.2
       have X4 := Lib.hid (show w4.cell? ⟨bm, 0, none⟩ = some (.map (some m)) ∧ w4.cell? ⟨bs, 0, none⟩ = some (.string s) from ⟨((HX.out.below (HB1.out.alloc HB1.out.size _)).map hg4 NN.out.1 NN.out.2).1, ((HX.out.below (HB1.out.alloc HB1.out.size _)).map hg4 NN.out.1 NN.out.2).2.1⟩)
       have Y4 := Lib.hid (And.intro hm4 hg4)
       obtain ⟨w5, hp5, hm5, hg5⟩ := (H.out.below HB1.out).map.put s w.heap.size HO.out.1 HO.out.2.2
       have X5 := Lib.hid (show w5.cell? ⟨bm, 0, none⟩ = some (.map (some m)) ∧ w5.cell? ⟨bs, 0, none⟩ = some (.string s) from ⟨((HX.out.below HB1.out).map hg5 NN.out.1 NN.out.2).1, ((HX.out.below HB1.out).map hg5 NN.out.1 NN.out.2).2.1⟩)
       have Y5 := Lib.hid (And.intro hm5 hg5)
       clear b1 hm4 hg4 hm5 hg5)
    | fail)
  · go_end0
    exact ⟨rfl, create_done H.out HO.out.2.1 (HB1.out.alloc HB1.out.size _) (file_new w1 _) HB1.out.size Y4.out.1 Y4.out.2⟩
  · go_end0
    exact ⟨rfl, create_done H.out HO.out.2.1 HB1.out ((file_new w.drew _).below HX1.out) (Nat.le_refl _) Y5.out.1 Y5.out.2⟩
end Go.Proofs.Ythnfpkbpakffgaa
