/- Copy. -/
import Derived.Test.YthnfpkbpakffgaaD1
namespace Go.Proofs.Ythnfpkbpakffgaa
open Go.RowKit Go.Maps Go.Sort Go.Shelf
open Disk (Nm Fl DS Up ins del upd fnd okName okByte used Wf)
theorem up_ext {α : Type} {f : α → Nm} {l l' : List α} (h : Up f l) (h' : Up f l') (hm : ∀ a, a ∈ l ↔ a ∈ l') : l = l' := by
  have nd : ∀ {l : List α}, Up f l → l.Nodup := fun {l} h => by
    rw [List.nodup_iff_pairwise_ne]
    exact h.imp fun hab e => Disk.nm_ne_of_lt hab (congrArg f e)
  refine List.Perm.eq_of_pairwise (le := fun a b => f a < f b) (fun a b _ _ h1 h2 => absurd (Disk.nm_lt_trans h1 h2) (Disk.nm_lt_irrefl _)) h h' ((List.perm_ext_iff_of_nodup (nd h) (nd h')).2 hm)
theorem len_sub {l : List Nm} (h : l.Nodup) : ∀ {l' : List Nm}, (∀ a ∈ l, a ∈ l') → l.length ≤ l'.length := by
  induction l with
  | nil => intro l' _; exact Nat.zero_le _
  | cons a l ih =>
    intro l' hs
    obtain ⟨h1, h2⟩ := List.nodup_cons.1 h
    have ha := hs a (by simp)
    have h3 := ih h2 (l' := l'.erase a) fun b hb => (List.mem_erase_of_ne (by rintro rfl; exact h1 hb)).2 (hs b (by simp [hb]))
    have h4 := List.length_erase_of_mem ha
    have h5 := List.length_pos_of_mem ha
    simp only [List.length_cons]
    omega
/-- A disk's files copied so far: those whose names are not in M. -/
def Part (C' : List Ent) (L : List Fl) (M : List Nm) : Prop := ∀ f, f ∈ C'.map Ent.fl ↔ (f ∈ L ∧ f.nm ∉ M)
theorem Part.step {C' : List Ent} {L : List Fl} {M : List Nm} (h : Part C' L M) (hu : Up Fl.nm L) {x : Fl} (hx : x ∈ L) {e : Ent} (he : e.fl = x) : Part (ins Ent.nm e (del Ent.nm e.nm C')) L (M.filter fun y => !decide (y = x.nm)) := by
  intro f
  have hen : e.nm = x.nm := by rw [← he]
  rw [Disk.map_ins (f := Ent.nm) (h := Fl.nm) (r := Ent.fl) (fun _ => rfl), Disk.mem_ins, Disk.map_del (f := Ent.nm) (h := Fl.nm) (r := Ent.fl) (fun _ => rfl), Disk.mem_del, h f, he, hen]
  constructor
  · rintro (rfl | ⟨⟨h1, h2⟩, h3⟩)
    · exact ⟨hx, by simp⟩
    · exact ⟨h1, by simp [h2]⟩
  · rintro ⟨h1, h2⟩
    by_cases hn : f.nm = x.nm
    · exact .inl (hu.inj h1 hx hn)
    · refine .inr ⟨⟨h1, fun hM => h2 ?_⟩, hn⟩
      simp [hM, hn]
theorem Part.all {C' : List Ent} {L : List Fl} (h : Part C' L []) (hu : Up Fl.nm L) (hc : Up Ent.nm C') : C'.map Ent.fl = L :=
  up_ext ((Up.map (f := Ent.nm) (h := Fl.nm) (r := Ent.fl) fun _ => rfl).2 hc) hu fun f => by rw [h f]; simp
/-- A copy under way: its contents in block c, its map in block m, its files in blocks from B up. -/
structure Made (w : World) (c m B : Nat) (C : List Ent) (d : DS) : Prop where
  cont : Cont w c m d.q d.fu d.off
  isc : IsC w m C
  ge : ∀ e ∈ C, ∀ b, e.has b → B ≤ b
theorem Made.but {T : Nat → Prop} {w w' : World} {c m B : Nat} {C : List Ent} {d : DS} (h : Made w c m B C d) (hb : But T w w') (h1 : ¬ T c) (h2 : ¬ T m) (h3 : ∀ b, B ≤ b → ¬ T b) : Made w' c m B C d :=
  ⟨h.cont.but hb h1, h.isc.but hb fun b hb' => by
    rcases hb' with rfl | ⟨e, he, hb'⟩
    · exact h2
    · exact h3 b (h.ge e he b hb'), h.ge⟩
theorem Made.below {w w' : World} {c m B : Nat} {C : List Ent} {d : DS} (h : Made w c m B C d) (hb : Below w.heap.size w w') : Made w' c m B C d := h.but (But.of_below (S := fun _ => False) hb) (fun h => h) (fun h => h) (fun _ _ h => h)
theorem Made.put {w w' : World} {c m B : Nat} {C : List Ent} {d : DS} (h : Made w c m B C d) (hc : c ≠ m) {e : Ent} (hf : FileAt w e) (hm : MapP w' m (ins Prod.fst (e.nm, e.k) (del Prod.fst e.nm (C.map nk)))) (hg : w.grownBy w' (some m)) (he : ∀ b, e.has b → b ≠ m ∧ ∀ a ∈ C, ¬ a.has b) (hB : ∀ b, e.has b → B ≤ b) :
    Made w' c m B (ins Ent.nm e (del Ent.nm e.nm C)) d := by
  have hb : But (fun b => b = m) w w' := (But.refl (fun b => b = m) w).grown hg (fun k hk => .inl (by cases hk; rfl))
  refine ⟨h.cont.but hb hc, isc_put h.isc hf hm hg fun b hb => ⟨(he b hb).1, fun a ha _ => (he b hb).2 a ha⟩, fun a ha b hb => ?_⟩
  rcases Disk.mem_ins.1 ha with rfl | ha
  · exact hB b hb
  · exact h.ge a (Disk.mem_del.1 ha).1 b hb
theorem Made.len {w : World} {c m B : Nat} {C : List Ent} {d : DS} {M : List Nm} (h : Made w c m B C d) (hp : Part C d.L M) (hw : Wf d) : C.length ≤ 512 := by
  have hs : ∀ x ∈ C.map Ent.nm, x ∈ d.L.map Fl.nm := fun x hx => by
    obtain ⟨e, he, rfl⟩ := List.mem_map.1 hx
    exact List.mem_map.2 ⟨e.fl, ((hp e.fl).1 (List.mem_map_of_mem he)).1, rfl⟩
  have := len_sub h.isc.up.nd hs
  rw [List.length_map, List.length_map] at this
  exact Nat.le_trans this hw.many
theorem cell_new2 (W : World) (v u : Value) (ty : TypeId) : (W.alloc (.cells #[v, u] ty)).cell? ⟨W.heap.size, 0, none⟩ = some v ∧ (W.alloc (.cells #[v, u] ty)).cell? ⟨W.heap.size, 1, none⟩ = some u := by
  constructor <;> go_simp
theorem file_mk (W : World) (x : Nm) (bs : List UInt8) (s : Nat) (A : Option Addr) (c : Nat) (ho : W.ownsRow 0 5 1 (.slice A bs.length c) bs.length (cellsB bs)) : FileAt (W.alloc (.cells #[.slice A bs.length c, .int .i64 s] 74)) ⟨x, W.heap.size, .slice A bs.length c, bs, s⟩ := by
  refine ⟨(cell_new2 _ _ _ _).1, (cell_new2 _ _ _ _).2, fun o => ?_, by simp, ho.alloc _, fun h => ?_⟩
  · exact frozen_of_row _ _ _ _ _ (heap_alloc_new W _)
  · have h2 : W.heap.size < W.heap.size := (ho.lt W.heap.size h).2
    omega
set_option maxRecDepth 100000 in
set_option maxHeartbeats 2000000 in
theorem Copy_any {w : World} {p : Nat} {d : DS} {S : Nat → Prop} (h0 : IsD w p d S) :
    Calls Try.prog 12 #[.pointer (some ⟨p, 0, none⟩)] w fun r w' => ∃ q T, r = .returned (.pointer (some ⟨q, 0, none⟩)) ∧ IsD w' q d T ∧ (∀ b, T b → w.heap.size ≤ b) ∧ Below w.heap.size w w' := by
  obtain ⟨c, m, C, h⟩ := h0
  have M := Lib.hid (made_any p c w h.ptr)
  have HI := Lib.hid h
  have q0 := h.ptr
  have c0 := h.cont.c0
  have c1 := h.cont.c1
  have c2 := h.cont.c2
  have c3 := h.cont.c3
  have hmm := @run_makeMap Try.prog
  clear h
  go_enter Try.func12, Try.ntmps12
  go_wp2_with fail
  refine M.out.mono ?_
  rintro e1 w1 ⟨rfl, rfl⟩
  clear M
  go_upto_region 7 with fail
  obtain ⟨W1, hW1⟩ : ∃ W1, w.alloc (.cells #[.map (some (w.heap.size + 1)), .int .i64 d.q, .int .i64 d.fu, .bool d.off] 63) = W1 := ⟨_, rfl⟩
  have s1 : W1.heap.size = w.heap.size + 1 := by rw [← hW1]; simp
  have b1 : Below w.heap.size w W1 := by rw [← hW1]; exact (Below.refl _ _).alloc (Nat.le_refl _) _
  have k1 : Cont W1 w.heap.size (w.heap.size + 1) d.q d.fu d.off := by rw [← hW1]; exact cont_new w _ _ _ _
  rw [hW1]
  obtain ⟨W2, hW2⟩ : ∃ W2, W1.alloc (.map #[] 0) = W2 := ⟨_, rfl⟩
  have s2 : W2.heap.size = w.heap.size + 2 := by rw [← hW2]; simp [s1]
  have b2 : Below W1.heap.size W1 W2 := by rw [← hW2]; exact (Below.refl _ _).alloc (Nat.le_refl _) _
  have m2 : MapP W2 (w.heap.size + 1) [] := by rw [← hW2, ← s1]; exact MapP.made W1
  rw [hW2]
  have MD := Lib.hid (show Made W2 w.heap.size (w.heap.size + 1) (w.heap.size + 2) [] d from ⟨k1.below b2, ⟨m2, (fun e he => by cases he), (fun e he => by cases he), (fun e he => by cases he)⟩, (fun e he => by cases he)⟩)
  have B2 := Lib.hid (below_then b1 b2)
  have I2 := Lib.hid (HI.out.below B2.out)
  have S2 := Lib.hid s2
  have p0 := I2.out.ptr
  have p1 := I2.out.cont.c0
  clear hW1 hW2 s1 b1 k1 s2 b2 m2 q0 c0 c1 c2 c3 hmm
  go_wp2_with (first
    | (at_range; refine wpList_range_P _ rfl _ rfl m _ rfl I2.out.isc.map ?_; intro w0 hrg0 hb0 hs0)
    | fail)
  go_frame
  go_loopw [4] (fun _ wr => ∃ (M : List Nm) (cnt : Nat) (C' : List Ent), RngP wr m W2.heap.size (C.map nk) M cnt ∧ Made wr w.heap.size (w.heap.size + 1) (w.heap.size + 3) C' d ∧ Part C' d.L M ∧ Below w.heap.size w wr) (fun _ wr => wr.rangeLeft m W2.heap.size)
  case atStart =>
    refine ⟨_, _, [], hrg0, ⟨(MD.out.below hb0).cont, (MD.out.below hb0).isc, fun e he => by cases he⟩, fun f => ?_, below_then B2.out hb0⟩
    constructor
    · intro h; cases h
    · rintro ⟨h1, h2⟩
      refine absurd ?_ h2
      rw [← HI.out.L] at h1
      obtain ⟨e, he, rfl⟩ := List.mem_map.1 h1
      rw [List.map_map]
      exact List.mem_map_of_mem he
  case round =>
    clear hrg0 hb0 hs0 p0 p1
    obtain ⟨M, cnt, C', hrg, hmd, hpt, hb⟩ := hrel
    have RG := Lib.hid hrg
    have MR := Lib.hid hmd
    have PT := Lib.hid hpt
    have HB := Lib.hid hb
    clear hrg hmd hpt hb
    go_wp2_with (first
      | (at_next; refine wpList_next_P _ rfl _ rfl m W2.heap.size _ M cnt rfl RG.out ?_ ?_)
      | fail)
    · intro hM
      subst hM
      go_wp2_with fail
      go_ret
      have hk := MR.out
      have hlt : w.heap.size < wr.heap.size := hk.cont.lt
      have hfm : ∀ b, foot (w.heap.size + 1) C' b → w.heap.size ≤ b ∧ b ≠ w.heap.size := fun b hb => by
        rcases hb with rfl | ⟨e, he, hb⟩
        · omega
        · have := hk.ge e he b hb; omega
      obtain ⟨W9, hW9⟩ : ∃ W9, wr.alloc (.cells #[.pointer (some ⟨w.heap.size, 0, none⟩)] 65) = W9 := ⟨_, rfl⟩
      have s9 : W9.heap.size = wr.heap.size + 1 := by rw [← hW9]; simp
      have b9 : Below wr.heap.size wr W9 := by rw [← hW9]; exact (Below.refl _ _).alloc (Nat.le_refl _) _
      have x9 : W9.cell? ⟨wr.heap.size, 0, none⟩ = some (.pointer (some ⟨w.heap.size, 0, none⟩)) := by rw [← hW9]; exact cell_new _ _ _
      try rw [hW9]
      have hk9 := hk.below b9
      refine ⟨wr.heap.size, fun b => w.heap.size ≤ b ∧ b < W9.heap.size, rfl, ⟨w.heap.size, w.heap.size + 1, C', x9, by omega, hk9.cont, hk9.isc, PT.out.all HI.out.wf.up hk.isc.up, by omega, ?_, fun h => (hfm _ h).2 rfl, ⟨by omega, by omega⟩, ⟨Nat.le_refl _, by omega⟩, fun b hb => ⟨(hfm b hb).1, hk9.isc.lt hb⟩, fun b hb => hb.2, HI.out.wf⟩, fun b hb => hb.1, below_then HB.out b9⟩
      intro h
      have := hk.isc.lt h
      omega
    · intro s k w1 cnt1 hsML hrg1 hlt hb1 hs1 hen
      obtain ⟨hsM, x, hx, hxn, rfl⟩ := hsML.out
      have hrlt : W2.heap.size < wr.heap.size := RG.out.lt
      have hr2 := S2.out
      have B1r : But (fun b => b = W2.heap.size) wr w1 := hb1
      have hbig : Below w.heap.size w w1 := HB.out.trans (B1r.below (fun b hb => by omega) HB.out.size)
      have hmlt : m < w.heap.size := HI.out.isc.map.lt
      have M1 := Lib.hid (MR.out.but B1r (by omega) (by omega) (fun b hb => by omega))
      have X1 := Lib.hid ((HI.out.isc.files x hx).below hbig)
      have BS := Lib.hid (bs_le HI.out hx)
      obtain ⟨A, cap, hv, hA, hz, _⟩ := own_slice X1.out.own
      have HA := Lib.hid hA
      have HV := Lib.hid hv
      have RG1 := Lib.hid hrg1
      have LT := Lib.hid hlt
      have BB1 := Lib.hid hbig
      have SM := Lib.hid (And.intro hsM (And.intro hx hxn))
      have CL := Lib.hid (fun W hW => Clone_any A cap x.bs x.bs.length W rfl hW hz BS.out.2.1)
      have k0 : w1.cell? ⟨x.k, 0, none⟩ = some (.slice A x.bs.length cap) := by rw [← hv]; exact X1.out.c0
      have K0 := Lib.hid (fun (w' : World) (hb : Below w1.heap.size w1 w') => (⟨(M1.out.below hb).cont.c0, by rw [← HV.out]; exact (X1.out.below hb).c0, (X1.out.below hb).c1⟩ : w'.cell? ⟨w.heap.size, 0, none⟩ = some (.map (some (w.heap.size + 1))) ∧ w'.cell? ⟨x.k, 0, none⟩ = some (.slice A x.bs.length cap) ∧ w'.cell? ⟨x.k, 1, none⟩ = some (.int .i64 x.s)))
      have LN := Lib.hid (show (C'.map nk).length < maxLen by
        have := MR.out.len PT.out HI.out.wf
        rw [List.length_map]
        unfold maxLen
        omega)
      have OK := Lib.hid (show (nmOf s).length ≤ maxLen by rw [← hxn]; exact okName_max BS.out.2.2)
      clear hsM hx hxn hbig B1r hb1 hrg1 hlt hA hv hz hmlt hrlt hr2 hs1 hsML k0
      go_upto_region 10 with fail
      go_region_held3 (fun w' => w'.cell? ⟨w.heap.size, 0, none⟩ = some (.map (some (w.heap.size + 1))) ∧ w'.cell? ⟨x.k, 0, none⟩ = some (.slice A x.bs.length cap) ∧ w'.cell? ⟨x.k, 1, none⟩ = some (.int .i64 x.s)) (first
          | exact K0.out _ (Below.refl _ _).drew
          | exact K0.out _ H5.out
          | exact K0.out _ (H5.out.alloc H5.out.size _)
          | exact X6.out
          | fail) (first
        | (go_at_call 32; (with_reducible refine (CL.out _ (HA.out.below (Below.refl _ _).drew)).mono ?_); rintro e5 w5 ⟨v5, rfl, o5, b5⟩
           obtain ⟨A5, c5, hv5⟩ := own_form o5
           subst hv5
           have H5 := Lib.hid (show Below w1.heap.size w1 w5 from (Below.refl _ _).drew.trans b5)
           have O5 := Lib.hid o5
           obtain ⟨w6, hp6, hm6, hg6⟩ := (M1.out.below (H5.out.alloc H5.out.size (.cells #[.slice A5 x.bs.length c5, .int .i64 x.s] 74))).isc.map.put s w5.heap.size OK.out LN.out
           have X6 := Lib.hid (show w6.cell? ⟨w.heap.size, 0, none⟩ = some (.map (some (w.heap.size + 1))) ∧ w6.cell? ⟨x.k, 0, none⟩ = some (.slice A x.bs.length cap) ∧ w6.cell? ⟨x.k, 1, none⟩ = some (.int .i64 x.s) from by
             have hxk := HI.out.isc.lt (b := x.k) (.inr ⟨x, SM.out.2.1, .inl rfl⟩)
             have hb6 : But (fun b => b = w.heap.size + 1) (w5.alloc (.cells #[.slice A5 x.bs.length c5, .int .i64 x.s] 74)) w6 := (But.refl (fun b => b = w.heap.size + 1) _).grown hg6 (fun k hk => .inl (by cases hk; rfl))
             have h0 := K0.out _ (H5.out.alloc H5.out.size (.cells #[.slice A5 x.bs.length c5, .int .i64 x.s] 74))
             have hl := (M1.out.below (H5.out.alloc H5.out.size (.cells #[.slice A5 x.bs.length c5, .int .i64 x.s] 74))).cont.lt
             have hxl := (X1.out.below (H5.out.alloc H5.out.size (.cells #[.slice A5 x.bs.length c5, .int .i64 x.s] 74))).lt
             exact ⟨(hb6.cell _ 0 hl (by omega)).trans h0.1, (hb6.cell _ 0 hxl (by omega)).trans h0.2.1, (hb6.cell _ 1 hxl (by omega)).trans h0.2.2⟩)
           have Y6 := Lib.hid (And.intro hm6 hg6)
           clear b5 o5 hm6 hg6)
        | fail)
      obtain ⟨W7, hW7⟩ : ∃ W7, w5.alloc (.cells #[.slice A5 x.bs.length c5, .int .i64 x.s] 74) = W7 := ⟨_, rfl⟩
      have hc0 : c ≠ m := fun e => HI.out.cf (by rw [e]; exact .inl rfl)
      have Z : Made w6 w.heap.size (w.heap.size + 1) (w.heap.size + 3) (ins Ent.nm ⟨nmOf s, w5.heap.size, .slice A5 x.bs.length c5, x.bs, x.s⟩ (del Ent.nm (nmOf s) C')) d ∧ RngP w6 m W2.heap.size (C.map nk) (M.filter fun y => !decide (y = nmOf s)) cnt1 ∧ Below w.heap.size w w6 := by
        obtain ⟨g1, g2⟩ := Y6.out
        have h15 := H5.out.size
        have hs2 := S2.out
        have hrl := RG.out.lt
        have hwr1 : W2.heap.size < w1.heap.size := RG1.out.lt
        have f7 := file_mk w5 (nmOf s) x.bs x.s A5 c5 (ownsRow_base O5.out (Nat.zero_le _)) 
        have b7 : Below w5.heap.size w5 (w5.alloc (.cells #[.slice A5 x.bs.length c5, .int .i64 x.s] 74)) := (Below.refl _ _).alloc (Nat.le_refl _) _
        have b17 := below_then H5.out b7
        have hge : ∀ b, (⟨nmOf s, w5.heap.size, .slice A5 x.bs.length c5, x.bs, x.s⟩ : Ent).has b → w1.heap.size ≤ b := fun b hb => by
          rcases hb with h | h
          · have h' : b = w5.heap.size := h
            omega
          · exact (O5.out.lt b h).1
        have hb6 : But (fun b => b = w.heap.size + 1) (w5.alloc (.cells #[.slice A5 x.bs.length c5, .int .i64 x.s] 74)) w6 := (But.refl (fun b => b = w.heap.size + 1) _).grown g2 (fun k hk => .inl (by cases hk; rfl))
        have hmlt : m < w.heap.size := HI.out.isc.map.lt
        refine ⟨(M1.out.below b17).put (by omega) f7 g1 g2 (fun b hb => ?_) (fun b hb => ?_), (RG1.out.but (But.of_below (S := fun _ => False) b17) (fun h => h) (fun h => h)).but hb6 (by omega) (by omega), ?_⟩
        · have h1 := hge b hb
          refine ⟨by omega, fun a ha h2 => ?_⟩
          have := M1.out.isc.lt (b := b) (.inr ⟨a, ha, h2⟩)
          omega
        · have h1 := hge b hb
          omega
        · exact (below_then BB1.out (b17.mono (Nat.le_refl _))).trans (hb6.below (fun b hb => by omega) (Nat.le_trans BB1.out.size b17.size))
      have ZZ := Lib.hid Z
      have PS := Lib.hid (show Part (ins Ent.nm ⟨nmOf s, w5.heap.size, .slice A5 x.bs.length c5, x.bs, x.s⟩ (del Ent.nm (nmOf s) C')) d.L (M.filter fun y => !decide (y = nmOf s)) by
        have hxm : x.fl ∈ d.L := by rw [← HI.out.L]; exact List.mem_map_of_mem SM.out.2.1
        have := PT.out.step HI.out.wf.up hxm (e := ⟨nmOf s, w5.heap.size, .slice A5 x.bs.length c5, x.bs, x.s⟩) (by rw [← SM.out.2.2])
        have e : x.fl.nm = nmOf s := SM.out.2.2
        rw [e] at this
        exact this)
      clear Z hW7 hc0
      go_wp2_with fail
      go_roundw
      case rel => exact ⟨_, cnt1, _, ZZ.out.2.1, ZZ.out.1, PS.out, ZZ.out.2.2⟩
      case measure => rw [ZZ.out.2.1.left, RG.out.left]; exact LT.out
end Go.Proofs.Ythnfpkbpakffgaa
