/- What a disk tells: Read, Safe, Used, Names; its quota, its fuse. -/
import Derived.Test.YthnfpkbpakffgaaB6
namespace Go.Proofs.Ythnfpkbpakffgaa
open Go.RowKit Go.Maps Go.Sort Go.Shelf
open Disk (Nm Fl DS Up ins del upd fnd okName okByte used Wf fileR quotaR quotaD fuseR fuseD)
theorem bs_le {w : World} {p c m : Nat} {C : List Ent} {d : DS} {S : Nat → Prop} (h : InD w p c m C d S) {x : Ent} (hx : x ∈ C) : x.s ≤ x.bs.length ∧ x.bs.length ≤ 4194304 ∧ okName x.nm = true := by
  have hm : x.fl ∈ d.L := by rw [← h.L]; exact List.mem_map_of_mem hx
  have h1 := h.wf.safe _ hm
  have h2 := Disk.used_mem hm
  have h3 := h.wf.use
  exact ⟨h1, Nat.le_trans h2 h3, h.wf.names _ hm⟩
theorem Read_err {w : World} {p : Nat} {d : DS} {S : Nat → Prop} (h0 : IsD w p d S) (s : ByteArray) (hr : fileR (nmOf s) d ≠ 0) :
    Calls Try.prog 20 #[.pointer (some ⟨p, 0, none⟩), .string s] w fun e w' => e = .returned (.tuple #[.slice none 0 0, .int .i64 (fileR (nmOf s) d)]) ∧ Below w.heap.size w w' := by
  obtain ⟨c, m, C, h⟩ := h0
  have F := Lib.hid (file_err h s hr)
  obtain ⟨r, hr'⟩ : ∃ r, fileR (nmOf s) d = r := ⟨_, rfl⟩
  rw [hr'] at F hr ⊢
  have hne : (r == 0) = false := by simpa using hr
  clear hr hr' h
  go_enter Try.func20, Try.ntmps20
  go_wp2_with fail
  refine F.out.mono ?_
  rintro e1 w1 ⟨rfl, b1⟩
  have B1 := Lib.hid b1
  clear b1 F
  go_wp2_with fail
  go_ret2
  exact ⟨rfl, B1.out⟩
theorem Read_ok {w : World} {p : Nat} {d : DS} {S : Nat → Prop} (h0 : IsD w p d S) (s : ByteArray) (f : Fl) (hr : fileR (nmOf s) d = 0) (hf : fnd Fl.nm (nmOf s) d.L = some f) :
    Calls Try.prog 20 #[.pointer (some ⟨p, 0, none⟩), .string s] w fun e w' => ∃ v, e = .returned (.tuple #[v, .int .i64 0]) ∧ w'.ownsRow w.heap.size 5 1 v f.bs.length (cellsB f.bs) ∧ Below w.heap.size w w' := by
  obtain ⟨c, m, C, h⟩ := h0
  obtain ⟨x, hx, hn, F0⟩ := file_ok h s hr
  have F := Lib.hid F0
  have hxf : x.fl = f := by
    rw [fnd_ent h.L, ← hn, h.isc.up.fnd hx] at hf
    exact Option.some.inj hf
  subst hxf
  have hx2 := h.isc.files x hx
  obtain ⟨l1, l2, _⟩ := bs_le h hx
  obtain ⟨A, cap, hv, hA, hz, _⟩ := own_slice hx2.own
  have X := Lib.hid hx2
  have HV := Lib.hid hv
  have HA := Lib.hid hA
  have HL := Lib.hid l2
  clear hf hr h F0 hx2 hA hv hn l1 l2
  go_enter Try.func20, Try.ntmps20
  go_wp2_with fail
  refine F.out.mono ?_
  rintro e1 w1 ⟨rfl, b1⟩
  have B1 := Lib.hid b1
  have e0 : w1.cell? ⟨x.k, 0, none⟩ = some (.slice A x.bs.length cap) := by rw [← HV.out]; exact (X.out.below b1).c0
  have CL := Lib.hid (Clone_any A cap x.bs x.bs.length w1 rfl (HA.out.below b1) hz HL.out)
  clear b1 F hz
  go_wp2_with fail
  refine CL.out.mono ?_
  rintro e2 w2 ⟨v, rfl, hv, b2⟩
  have V2 := Lib.hid hv
  have B2 := Lib.hid b2
  clear hv b2 CL
  go_wp2_with fail
  go_ret2
  have hs := B1.out.size
  exact ⟨v, rfl, ⟨V2.out.1, V2.out.2.imp id fun ⟨g, cap, cur, a, b, r⟩ => ⟨g, cap, cur, a, Nat.le_trans hs b, r⟩⟩, B1.out.trans (B2.out.mono hs)⟩
theorem Safe_err {w : World} {p : Nat} {d : DS} {S : Nat → Prop} (h0 : IsD w p d S) (s : ByteArray) (hr : fileR (nmOf s) d ≠ 0) :
    Calls Try.prog 25 #[.pointer (some ⟨p, 0, none⟩), .string s] w fun e w' => e = .returned (.tuple #[.int .i64 0, .int .i64 (fileR (nmOf s) d)]) ∧ Below w.heap.size w w' := by
  obtain ⟨c, m, C, h⟩ := h0
  have F := Lib.hid (file_err h s hr)
  obtain ⟨r, hr'⟩ : ∃ r, fileR (nmOf s) d = r := ⟨_, rfl⟩
  rw [hr'] at F hr ⊢
  have hne : (r == 0) = false := by simpa using hr
  clear hr hr' h
  go_enter Try.func25, Try.ntmps25
  go_wp2_with fail
  refine F.out.mono ?_
  rintro e1 w1 ⟨rfl, b1⟩
  have B1 := Lib.hid b1
  clear b1 F
  go_wp2_with fail
  go_ret2
  exact ⟨rfl, B1.out⟩
theorem Safe_ok {w : World} {p : Nat} {d : DS} {S : Nat → Prop} (h0 : IsD w p d S) (s : ByteArray) (f : Fl) (hr : fileR (nmOf s) d = 0) (hf : fnd Fl.nm (nmOf s) d.L = some f) :
    Calls Try.prog 25 #[.pointer (some ⟨p, 0, none⟩), .string s] w fun e w' => e = .returned (.tuple #[.int .i64 f.s, .int .i64 0]) ∧ Below w.heap.size w w' := by
  obtain ⟨c, m, C, h⟩ := h0
  obtain ⟨x, hx, hn, F0⟩ := file_ok h s hr
  have F := Lib.hid F0
  have hxf : x.fl = f := by
    rw [fnd_ent h.L, ← hn, h.isc.up.fnd hx] at hf
    exact Option.some.inj hf
  subst hxf
  have X := Lib.hid (h.isc.files x hx)
  clear hf hr h F0 hn
  go_enter Try.func25, Try.ntmps25
  go_wp2_with fail
  refine F.out.mono ?_
  rintro e1 w1 ⟨rfl, b1⟩
  have B1 := Lib.hid b1
  have e0 : w1.cell? ⟨x.k, 1, none⟩ = some (.int .i64 x.s) := (X.out.below b1).c1
  clear b1 F
  go_wp2_with fail
  go_ret2
  exact ⟨rfl, B1.out⟩
/-- How many bytes these files have. -/
def sumM (M : List Nm) : List Ent → Nat
  | [] => 0
  | e :: C => (if e.nm ∈ M then e.bs.length else 0) + sumM M C
theorem sumM_all (C : List Ent) : ∀ M, (∀ e ∈ C, e.nm ∈ M) → sumM M C = used (C.map Ent.fl) := by
  induction C with
  | nil => intro M _; rfl
  | cons e C ih =>
    intro M h
    unfold sumM
    rw [if_pos (h e (by simp)), ih M fun x hx => h x (by simp [hx]), List.map_cons, Disk.used_cons]
theorem sumM_le (C : List Ent) (M : List Nm) : sumM M C ≤ used (C.map Ent.fl) := by
  induction C with
  | nil => exact Nat.le_refl _
  | cons e C ih =>
    unfold sumM
    rw [List.map_cons, Disk.used_cons]
    show _ ≤ e.bs.length + _
    split <;> omega
theorem sumM_nil (C : List Ent) : sumM [] C = 0 := by
  induction C with
  | nil => rfl
  | cons e C ih => unfold sumM; simp [ih]
theorem sumM_other {C : List Ent} {x : Nm} (h : ∀ e ∈ C, e.nm ≠ x) (M : List Nm) : sumM (M.filter fun y => !decide (y = x)) C = sumM M C := by
  induction C with
  | nil => rfl
  | cons e C ih =>
    unfold sumM
    rw [ih fun a ha => h a (by simp [ha])]
    have : (e.nm ∈ M.filter fun y => !decide (y = x)) = (e.nm ∈ M) := by simp [h e (by simp)]
    simp only [this]
theorem sumM_step {C : List Ent} (hu : Up Ent.nm C) {e : Ent} (he : e ∈ C) {M : List Nm} (hm : e.nm ∈ M) : e.bs.length + sumM (M.filter fun y => !decide (y = e.nm)) C = sumM M C := by
  induction C with
  | nil => cases he
  | cons a C ih =>
    obtain ⟨h1, h2⟩ := List.pairwise_cons.1 hu
    unfold sumM
    rcases List.mem_cons.1 he with rfl | he'
    · have : ¬ e.nm ∈ M.filter fun y => !decide (y = e.nm) := by simp
      rw [if_neg this, if_pos hm, sumM_other fun x hx => fun e' => Disk.nm_ne_of_lt (h1 x hx) e'.symm]
      omega
    · have hne : a.nm ≠ e.nm := Disk.nm_ne_of_lt (h1 e he')
      have h3 : (a.nm ∈ M.filter fun y => !decide (y = e.nm)) = (a.nm ∈ M) := by simp [hne]
      have := ih h2 he'
      simp only [h3]
      omega
theorem mem_of_nk {C : List Ent} {x : Nm} {k : Nat} (h : (x, k) ∈ C.map nk) : ∃ e ∈ C, e.nm = x ∧ e.k = k := by
  obtain ⟨e, he, h1⟩ := List.mem_map.1 h
  exact ⟨e, he, congrArg Prod.fst h1, congrArg Prod.snd h1⟩
set_option maxRecDepth 100000 in
set_option maxHeartbeats 1000000 in
theorem used_any {w : World} {p c m : Nat} {C : List Ent} {d : DS} {S : Nat → Prop} (h : InD w p c m C d S) :
    Calls Try.prog 38 #[.pointer (some ⟨c, 0, none⟩)] w fun e w' => e = .returned (.int .i64 (used d.L)) ∧ Below w.heap.size w w' := by
  have hm := h.isc.map
  have H := Lib.hid h
  have q0 := h.cont.c0
  obtain ⟨T, hT⟩ : ∃ T, used d.L = T := ⟨_, rfl⟩
  have hT2 : T ≤ 4194304 := by rw [← hT]; exact h.wf.use
  have HT := Lib.hid (show used (C.map Ent.fl) = T by rw [h.L]; exact hT)
  rw [hT]
  clear h hT
  go_enter Try.func38, Try.ntmps38
  go_wp2_with (first
    | (at_range; refine wpList_range_P _ rfl _ rfl m _ rfl hm ?_; intro w0 hrg0 hb0 hs0)
    | fail)
  go_frame
  go_loopw [3] (fun v wr => ∃ (n : Nat) (M : List Nm) (cnt : Nat), v = .int .i64 n ∧ RngP wr m w.heap.size (C.map nk) M cnt ∧ n + sumM M C = T ∧ Below w.heap.size w wr) (fun _ wr => wr.rangeLeft m w.heap.size)
  case atStart => exact ⟨0, _, _, rfl, hrg0, by rw [sumM_all C _ (fun e he => by rw [List.map_map]; exact List.mem_map_of_mem he), HT.out]; omega, hb0⟩
  case round =>
    clear hrg0 hb0 hs0 hm q0
    obtain ⟨n, M, cnt, rfl, hrg, hn, hb⟩ := hrel
    have RG := Lib.hid hrg
    have HN := Lib.hid hn
    have HB := Lib.hid hb
    clear hrg hn hb
    go_wp2_with (first
      | (at_next; refine wpList_next_P _ rfl _ rfl m w.heap.size _ M cnt rfl RG.out ?_ ?_)
      | fail)
    · intro hM
      subst hM
      have hnT : n = T := by have := HN.out; rw [sumM_nil] at this; omega
      subst hnT
      go_wp2_with fail
      go_ret
      exact ⟨rfl, HB.out⟩
    · intro s k w1 cnt1 hsML hrg1 hlt hb1 hs1 hen
      obtain ⟨hsM, hsL⟩ := hsML.out
      obtain ⟨x, hx, hxn, rfl⟩ := hsL
      have hbig : But (fun b => b = w.heap.size) w w1 := (But.of_below HB.out).trans hb1 fun y hy => .inl hy
      have hX : FileAt w1 x := (H.out.isc.files x hx).but hbig fun b hb e => by
        have := (H.out.isc.files x hx).has_lt hb
        omega
      obtain ⟨A, cap, hv, hA, hz, _⟩ := own_slice hX.own
      have e0 : w1.cell? ⟨x.k, 0, none⟩ = some (.slice A x.bs.length cap) := by rw [← hv]; exact hX.c0
      have RG1 := Lib.hid hrg1
      have LT := Lib.hid hlt
      have HB1 := Lib.hid (show Below w.heap.size w w1 from ⟨hbig.os, hbig.tape, hbig.output, hbig.size, fun i hi => hbig.block i hi (by omega)⟩)
      have HN1 := Lib.hid (show n + x.bs.length + sumM (M.filter fun y => !decide (y = nmOf s)) C = T by
        have h1 := sumM_step H.out.isc.up hx (M := M) (by rw [hxn]; exact hsM)
        rw [hxn] at h1
        have := HN.out
        omega)
      have n1 : n + x.bs.length ≤ 4194304 := by have := HN1.out; omega
      have hw1 : IntKind.i64.wrap ((n : Int) + (x.bs.length : Int)) = (n : Int) + (x.bs.length : Int) := IntWalk.i64_in _ (by omega)
      clear hX hv hA hz hrg1 hlt hb1 hsM hsML hbig hs1
      go_wp2_with fail
      go_roundw
      case rel => exact ⟨n + x.bs.length, _, cnt1, by rw [Int.natCast_add], RG1.out, HN1.out, HB1.out⟩
      case measure => rw [RG1.out.left, RG.out.left]; exact LT.out
theorem Used_any {w : World} {p : Nat} {d : DS} {S : Nat → Prop} (h0 : IsD w p d S) :
    Calls Try.prog 26 #[.pointer (some ⟨p, 0, none⟩)] w fun e w' => e = .returned (.int .i64 (if d.off = true then 0 else used d.L : Nat)) ∧ Below w.heap.size w w' := by
  obtain ⟨c, m, C, h⟩ := h0
  have O := Lib.hid (On_any p c d.off w h.ptr h.cont.c3)
  have U := Lib.hid (used_any h)
  have q0 := h.ptr
  obtain ⟨o, ho⟩ : ∃ o, d.off = o := ⟨_, rfl⟩
  rw [ho] at O ⊢
  generalize used d.L = T at *
  clear h ho
  cases o with
  | true =>
    rw [if_pos rfl]
    go_enter Try.func26, Try.ntmps26
    go_wp2_with fail
    refine O.out.mono ?_
    rintro e1 w1 ⟨rfl, rfl⟩
    go_wp2_with fail
    go_ret
    exact ⟨rfl, Below.refl _ _⟩
  | false =>
    rw [if_neg (by simp)]
    go_enter Try.func26, Try.ntmps26
    go_wp2_with fail
    refine O.out.mono ?_
    rintro e1 w1 ⟨rfl, rfl⟩
    go_wp2_with fail
    refine U.out.mono ?_
    rintro e2 w2 ⟨rfl, b2⟩
    have B2 := Lib.hid b2
    clear b2
    go_wp2_with fail
    go_ret
    exact ⟨rfl, B2.out⟩
end Go.Proofs.Ythnfpkbpakffgaa
