/- What a line means at an instant: the library's search of the first that is so, and At. -/
/- What a list that is no line is answered. -/
/- PieceKnown's walk: lists that are no lines; the chapter's rows. -/
import Derived.Test.YtaaekjmiapelgaaGreatmH3
import Derived.Test.YtaaekjmiapelgaaGreatmB11
import Derived.Test.YtaaekjmiapelgaaGreatmB13
import Derived.Test.YtaaekjmiapelgaaGreatmH7
namespace Go.Proofs.YtaaekjmiapelgaaGreat
open Go.RowKit
/-- The first place that is so, or none. -/
def FirstAt (l : List Pie) (t : Int) (w : World) (e : Ending) (w' : World) : Prop :=
  ((e = .returned (.int .i64 (-1)) ∧ ∀ x ∈ l, Se.hasB x.a x.b t = false) ∨ ∃ (k : Nat) (hk : k < l.length), e = .returned (.int .i64 k) ∧ Se.hasB l[k].a l[k].b t = true) ∧ Below w.heap.size w w'
open Classical in
/-- What At answers. -/
noncomputable def meansAt (l : List Pie) (t : Int) : VP := if Pl.Line okV l then Pl.means VP.none l t else VP.none
theorem hasB_iff (a b t : Int) : Se.hasB a b t = true ↔ (a < b ∧ b ≤ 1099511627776) ∧ a ≤ t ∧ t < b := by
  unfold Se.hasB Se.mayB
  simp [and_assoc]
theorem meansAt_no {l : List Pie} {t : Int} (h : ∀ x ∈ l, Se.hasB x.a x.b t = false) : meansAt l t = VP.none := by
  unfold meansAt
  split
  · rename_i hL
    refine Pl.means_none _ _ _ fun x hx hh => ?_
    have := h x hx
    rw [(hasB_iff _ _ _).2 ⟨⟨(hL.good x hx).1, (hL.good x hx).2.1⟩, hh⟩] at this
    cases this
  · rfl
theorem meansAt_bad {l : List Pie} (t : Int) (h : ¬ Pl.Line okV l) : meansAt l t = VP.none := by
  unfold meansAt
  rw [if_neg h]
theorem meansAt_yes {l : List Pie} {t : Int} {k : Nat} (hL : Pl.Line okV l) (hk : k < l.length) (h : Se.hasB l[k].a l[k].b t = true) : meansAt l t = l[k].v := by
  unfold meansAt
  rw [if_pos hL]
  have := (hasB_iff _ _ _).1 h
  exact Pl.means_at _ hL.par (List.getElem_mem hk) this.2.1 this.2.2
section
set_option maxRecDepth 100000
set_option maxHeartbeats 8000000
theorem At1_any (x : Pie) (t : Int) (q : Nat) (w : World) (h : Bx w q #[.int .u64 t]) : Calls Tryz.prog 61 #[Pie.val x, .pointer (some ⟨q, 0, none⟩)] w fun e w' => e = .returned (.bool (Se.hasB x.a x.b t)) ∧ Below w.heap.size w w' := by
  have C := Lib.hid (fun W => Se.Has_any x.a x.b t W)
  obtain ⟨a, b, ⟨k, vb, n, f, s⟩⟩ := x
  simp only at C
  generalize Se.hasB a b t = r at *
  have hsf := store_float
  have X0 := Lib.hid (h.below ((Below.refl w.heap.size w).alloc (Nat.le_refl _) (.cells (Pie.cells ⟨a, b, ⟨k, vb, n, f, s⟩⟩) 43)))
  have x0 := X0.out.c 0
  have hq := h.lt
  clear h
  go_enter Tryz.func61, Tryz.ntmps61
  go_wp2_with (go_at_call 62; (with_reducible refine (C.out _).mono ?_); rintro e w1 ⟨rfl, hb⟩)
  go_ret
  exact ⟨rfl, ((Below.refl w.heap.size w).alloc (Nat.le_refl _) _).trans (hb.mono (by simp))⟩
theorem Index_any (v : Value) (l : List Pie) (t : Int) (q : Nat) (w : World) (h : SL w v l) (hq : Bx w q #[.int .u64 t]) (hl : l.length ≤ 1000000000000) :
    Calls Tryz.prog 60 #[v, .func (.func 61) #[] #[.pointer (some ⟨q, 0, none⟩)]] w (FirstAt l t w) := by
  obtain ⟨A, c, rfl, hA, hm⟩ := h
  have HA := Lib.hid hA
  have HQ := Lib.hid hq
  clear hA hq
  have hsf := store_float
  go_enter Tryz.func60, Tryz.ntmps60
  go_wp2
  go_loopw [8] (fun i wr => ∃ k : Nat, k ≤ l.length ∧ i = .int .i64 k ∧ (∀ j (hj : j < l.length), j < k → Se.hasB l[j].a l[j].b t = false) ∧ Below w.heap.size w wr) (fun i _ => l.length - (intOf i).toNat)
  case atStart => exact ⟨0, Nat.zero_le _, rfl, by omega, Below.refl _ _⟩
  case round =>
    obtain ⟨k, hk, rfl, hp, hb⟩ := hrel
    have HP := Lib.hid hp
    have HB := Lib.hid hb
    clear hp hb
    by_cases hlt : k < l.length
    · obtain ⟨g, off, rfl, lg, cg⟩ := (HA.out.below HB.out) (by omega)
      have r := cg k hlt
      have i0 : (k : Int) < (l.length : Int) := by omega
      have i1 : (0 : Int) ≤ (k : Int) := by omega
      clear cg
      obtain ⟨x, hx⟩ : ∃ x, l[k] = x := ⟨_, rfl⟩
      rw [hx] at r
      have HX := Lib.hid hx
      clear hx
      have CA := Lib.hid (fun W (hb : Below wr.heap.size wr W) => At1_any x t q W ((HQ.out.below HB.out).below hb))
      obtain ⟨a, b, ⟨kk, vb, n, f, s⟩⟩ := x
      simp only at CA
      generalize hc : Se.hasB a b t = cc at CA
      have HC := Lib.hid hc
      clear hc
      cases cc
      · go_wp2_with (first
          | (refine wpList_load_mid rfl 43 (.tmp 14) rfl g (off + k * 7) rfl _ _ r Tryz.underlying43 rfl rowL ?_)
          | (go_at_call 61; (with_reducible refine (CA.out _ (Below.refl _ _)).mono ?_); rintro e w1 ⟨rfl, hb⟩; have HB1 := Lib.hid (HB.out.trans (hb.mono HB.out.size)); clear hb)
          | fail)
        exact ⟨⟨k + 1, hlt, by go_num, fun j hj hjk => by
          by_cases hjk' : j < k
          · exact HP.out j hj hjk'
          · obtain rfl : j = k := by omega
            rw [HX.out]; exact HC.out, HB1.out⟩, by simp [intOf]; omega⟩
      · go_wp2_with (first
          | (refine wpList_load_mid rfl 43 (.tmp 14) rfl g (off + k * 7) rfl _ _ r Tryz.underlying43 rfl rowL ?_)
          | (go_at_call 61; (with_reducible refine (CA.out _ (Below.refl _ _)).mono ?_); rintro e w1 ⟨rfl, hb⟩; have HB1 := Lib.hid (HB.out.trans (hb.mono HB.out.size)); clear hb)
          | fail)
        go_ret
        exact ⟨.inr ⟨k, hlt, rfl, by rw [HX.out]; exact HC.out⟩, HB1.out⟩
    · obtain rfl : k = l.length := by omega
      go_wp2
      go_ret
      exact ⟨.inl ⟨rfl, fun x hx => by
        obtain ⟨j, hj, rfl⟩ := List.getElem_of_mem hx
        exact HP.out j hj hj⟩, HB.out⟩
theorem At_any (v : Value) (l : List Pie) (t : Int) (w : World) (h : SL w v l) (hw : ∀ x ∈ l, x.v.wide) (hl : l.length ≤ 1000000000000) :
    Calls Tryz.prog 22 #[v, .int .u64 t] w fun e w' => e = .returned (meansAt l t).val ∧ Below w.heap.size w w' := by
  have CI := Lib.hid (fun W q (hb : Below w.heap.size w W) (hx : Bx W q #[.int .u64 t]) => Index_any v l t q W (h.below hb) hx hl)
  have CY := Lib.hid (fun W (hb : Below w.heap.size w W) => Is_any v l W (h.below hb) hw)
  obtain ⟨A, c, rfl, hA, hm⟩ := h
  have HA := Lib.hid hA
  clear hA hw
  have hsf := store_float
  have Q0 := Lib.hid ((Bx.new w #[.int .u64 t] 23).below ((Below.refl _ _).alloc (Nat.le_refl _) (.cells #[.int .i64 0, .bool false, .int .i64 0, .float .f64 0, .string ⟨#[]⟩] 28)))
  have Y0 := Lib.hid (Bx.new (w.alloc (.cells #[.int .u64 t] 23)) #[.int .i64 0, .bool false, .int .i64 0, .float .f64 0, .string ⟨#[]⟩] 28)
  rw [show (w.alloc (.cells #[.int .u64 t] 23)).heap.size = w.heap.size + 1 by simp] at Y0
  have HB0 := Lib.hid (((Below.refl w.heap.size w).alloc (Nat.le_refl _) (.cells #[.int .u64 t] 23)).alloc (by simp) (.cells #[.int .i64 0, .bool false, .int .i64 0, .float .f64 0, .string ⟨#[]⟩] 28))
  go_enter Tryz.func22, Tryz.ntmps22
  go_upto_region 1 with fail
  obtain ⟨W0, hW0⟩ : ∃ W, (w.alloc (.cells #[.int .u64 t] 23)).alloc (.cells #[.int .i64 0, .bool false, .int .i64 0, .float .f64 0, .string ⟨#[]⟩] 28) = W := ⟨_, rfl⟩
  rw [hW0] at Q0 Y0 HB0
  try rw [hW0]
  clear hW0
  go_wp2_with fail
  refine (CI.out _ _ HB0.out Q0.out).mono ?_
  rintro e w1 ⟨hi, hb⟩
  have B1 := Lib.hid (HB0.out.trans (hb.mono HB0.out.size))
  have Y1 := Lib.hid (Y0.out.below hb)
  clear hb
  rcases hi with ⟨rfl, hno⟩ | ⟨k, hk, rfl, hyes⟩
  · have HN := Lib.hid (meansAt_no hno)
    have y0 := Y1.out.c
    have y1 := Y1.out.fr
    clear hno
    go_wp2_with fail
    obtain ⟨s0, s1, s2, s3, s4⟩ := set5 w1 (w.heap.size + 1) (.int .i64 0) (.bool false) (.int .i64 0) (.float .f64 0) (.string ⟨#[]⟩) _ rfl y0
    refine bodyPost_ret (v := vagg 0 false 0 0 ⟨#[]⟩) (by simp [results, Tryz.results22, go_sem, s0, s1, s2, s3, s4]) rfl ?_
    exact ⟨by rw [HN.out]; rfl, set5_below _ _ _ _ _ _ (by omega) B1.out⟩
  · have i0 : (k : Int) < (l.length : Int) := by omega
    have i1 : (0 : Int) ≤ (k : Int) := by omega
    have i2 : ¬ (k : Int) < 0 := by omega
    have HK := Lib.hid hk
    have HY := Lib.hid hyes
    clear hyes
    go_wp2_with fail
    refine (CY.out _ B1.out).mono ?_
    rintro e w2 ⟨cc, rfl, hc, hb⟩
    have B2 := Lib.hid (B1.out.trans (hb.mono B1.out.size))
    have Y2 := Lib.hid (Y1.out.below hb)
    clear hb
    have y0 := Y2.out.c
    have y1 := Y2.out.fr
    cases cc
    · have HN := Lib.hid (meansAt_bad (l := l) t fun h => by simpa using hc.2 h)
      clear hc
      go_wp2_with fail
      obtain ⟨s0, s1, s2, s3, s4⟩ := set5 w2 (w.heap.size + 1) (.int .i64 0) (.bool false) (.int .i64 0) (.float .f64 0) (.string ⟨#[]⟩) _ rfl y0
      refine bodyPost_ret (v := vagg 0 false 0 0 ⟨#[]⟩) (by simp [results, Tryz.results22, go_sem, s0, s1, s2, s3, s4]) rfl ?_
      exact ⟨by rw [HN.out]; rfl, set5_below _ _ _ _ _ _ (by omega) B2.out⟩
    · have HN := Lib.hid (meansAt_yes (hc.1 rfl) HK.out HY.out)
      have ok := Lib.hid (hc.1 rfl)
      obtain ⟨g, off, rfl, lg, cg⟩ := (HA.out.below B2.out) (by omega)
      have r := cg k HK.out
      have CL := Lib.hid (fun W => clone_any (l[k]'HK.out).v (may_size (ok.out.good _ (List.getElem_mem HK.out)).2.2.2.1) W)
      clear cg hc
      generalize l[k]'HK.out = x at r HN CL
      obtain ⟨a, b, ⟨kk, vb, n, f, s⟩⟩ := x
      have r2 : w2.cell? ⟨g, off + k * 7 + 2, none⟩ = some (.int .i64 kk) := r 2 _ rfl
      have r3 : w2.cell? ⟨g, off + k * 7 + 3, none⟩ = some (.bool vb) := r 3 _ rfl
      have r4 : w2.cell? ⟨g, off + k * 7 + 4, none⟩ = some (.int .i64 n) := r 4 _ rfl
      have r5 : w2.cell? ⟨g, off + k * 7 + 5, none⟩ = some (.float .f64 f) := r 5 _ rfl
      have r6 : w2.cell? ⟨g, off + k * 7 + 6, none⟩ = some (.string s) := r 6 _ rfl
      clear r
      go_wp2_with (go_at_call 47; (with_reducible refine (CL.out _).mono ?_); rintro e w3 ⟨rfl, hb⟩; have B3 := Lib.hid (B2.out.trans (hb.mono B2.out.size)); clear y0 y1; have y0 := (Y2.out.below hb).c; have y1 := (Y2.out.below hb).fr)
      obtain ⟨s0, s1, s2, s3, s4⟩ := set5 w3 (w.heap.size + 1) (.int .i64 kk) (.bool vb) (.int .i64 n) (.float .f64 f) (.string s) _ rfl y0
      refine bodyPost_ret (v := vagg kk vb n f s) (by simp [results, Tryz.results22, go_sem, s0, s1, s2, s3, s4]) rfl ?_
      exact ⟨by rw [HN.out], set5_below _ _ _ _ _ _ (by omega) B3.out⟩
end
end Go.Proofs.YtaaekjmiapelgaaGreat

namespace Go.Proofs.YtaaekjmiapelgaaGreat
open Go.RowKit
/-- A list that is no line. -/
def Bad (w : World) (u : Value) : Prop := ∃ l, SL w u l ∧ (∀ x ∈ l, x.v.wide) ∧ ¬ Pl.Line okV l ∧ l.length ≤ 10
theorem Bad.below {w w' : World} {u : Value} (h : Bad w u) (hb : Below w.heap.size w w') : Bad w' u := by
  obtain ⟨l, h1, h2⟩ := h
  exact ⟨l, h1.below hb, h2⟩
/-- Nothing is answered. -/
def NoneR (w : World) (e : Ending) (w' : World) : Prop := e = .returned (.slice none 0 0) ∧ Below w.heap.size w w'
section
set_option maxRecDepth 100000
set_option maxHeartbeats 8000000
theorem bad_is (u : Value) (w : World) (h : Bad w u) : Calls Tryz.prog 19 #[u] w fun e w' => e = .returned (.bool false) ∧ Below w.heap.size w w' := by
  obtain ⟨l, h1, h2, h3, _⟩ := h
  exact (Is_any u l w h1 h2).mono fun _ _ g => g.no h3
theorem bad_set (u : Value) (c d : Int) (v : VP) (w : World) (h : Bad w u) : Calls Tryz.prog 9 #[u, .agg #[.int .u64 c, .int .u64 d], v.val] w (Refused 5 w) := by
  obtain ⟨l, h1, h2, h3, _⟩ := h
  exact Set_form u l c d v w h1 h2 h3
theorem bad_within (u tv : Value) (w : World) (h : Bad w u) : Calls Tryz.prog 11 #[u, tv] w (Refused 5 w) := by
  obtain ⟨l, h1, h2, h3, _⟩ := h
  exact Within_form u tv l w h1 h2 h3
theorem bad_at (u : Value) (t : Int) (w : World) (h : Bad w u) : Calls Tryz.prog 22 #[u, .int .u64 t] w fun e w' => e = .returned VP.none.val ∧ Below w.heap.size w w' := by
  obtain ⟨l, h1, h2, h3, h4⟩ := h
  refine (At_any u l t w h1 h2 (by omega)).mono fun e w' g => ?_
  rw [meansAt_bad t h3] at g
  exact g
theorem bad_instants (u f : Value) (w : World) (h : Bad w u) : Calls Tryz.prog 63 #[u, f] w (NoneR w) := by
  have CI := Lib.hid (fun W (hb : Below w.heap.size w W) => bad_is u W (h.below hb))
  clear h
  go_enter Tryz.func63, Tryz.ntmps63
  go_wp2_with (go_at_call 19; (with_reducible refine (CI.out _ (Below.refl _ _)).mono ?_); rintro e w1 ⟨rfl, hb⟩)
  go_ret
  exact ⟨rfl, hb⟩
theorem bad_ends (u : Value) (w : World) (h : Bad w u) : Calls Tryz.prog 15 #[u] w (NoneR w) := by
  have CI := Lib.hid (fun W (hb : Below w.heap.size w W) => bad_is u W (h.below hb))
  clear h
  go_enter Tryz.func15, Tryz.ntmps15
  go_wp2_with (go_at_call 19; (with_reducible refine (CI.out _ (Below.refl _ _)).mono ?_); rintro e w1 ⟨rfl, hb⟩)
  go_ret
  exact ⟨rfl, hb⟩
theorem bad_span (u : Value) (w : World) (h : Bad w u) : Calls Tryz.prog 25 #[u] w (NoneR w) := by
  have CI := Lib.hid (fun W f (hb : Below w.heap.size w W) => bad_instants u f W (h.below hb))
  clear h
  go_enter Tryz.func25, Tryz.ntmps25
  go_wp2_with (go_at_call 63; (with_reducible refine (CI.out _ _ (Below.refl _ _)).mono ?_); rintro e w1 ⟨rfl, hb⟩)
  go_ret
  exact ⟨rfl, hb⟩
theorem bad_where (u : Value) (v : VP) (w : World) (h : Bad w u) : Calls Tryz.prog 27 #[u, v.val] w (NoneR w) := by
  have CI := Lib.hid (fun W f (hb : Below w.heap.size w W) => bad_instants u f W (h.below hb))
  obtain ⟨k, b, n, f, s⟩ := v
  have HB := Lib.hid ((Below.refl w.heap.size w).alloc (Nat.le_refl _) (.cells #[.int .i64 k, .bool b, .int .i64 n, .float .f64 f, .string s] 28))
  have hsf := store_float
  clear h
  go_enter Tryz.func27, Tryz.ntmps27
  go_wp2_with (go_at_call 63; (with_reducible refine (CI.out _ _ HB.out).mono ?_); rintro e w1 ⟨rfl, hb⟩)
  go_ret
  exact ⟨rfl, HB.out.trans (hb.mono HB.out.size)⟩
end
end Go.Proofs.YtaaekjmiapelgaaGreat

namespace Go.Proofs.YtaaekjmiapelgaaGreat
open Go.RowKit
def TK1 : List T3 := [(1, 2, 5), (2, 3, 5)]
def TK2 : List T3 := [(3, 4, 1), (1, 2, 1)]
def TK3 : List T3 := [(1, 3, 1), (2, 4, 2)]
def TK4 : List T3 := [(2, 2, 1)]
def TK5 : List T3 := [(1, 1099511627777, 1)]
def TG : List T3 := [(1, 5, 1), (5, 9, 2)]
def TG2 : List T3 := [(1, 6, 1), (6, 9, 2)]
def TH : List T3 := [(1, 5, 1)]
def nodeV : VP := ⟨5, false, 1, 0, ByteArray.empty⟩
def edgeV : VP := ⟨6, false, 1, 0, ByteArray.empty⟩
def ptV : VP := ⟨3, false, 0, 4607182418800017408, ByteArray.empty⟩
theorem nodeV_wide : nodeV.wide := by unfold VP.wide WideV nodeV fits; simp
theorem edgeV_wide : edgeV.wide := by unfold VP.wide WideV edgeV fits; simp
theorem ptV_wide : ptV.wide := by unfold VP.wide WideV ptV fits; simp
theorem ptV_may : ptV.may := by unfold VP.may MayV ptV; simp [canonF, isNaNF]
theorem ptV_ok : okV ptV := ⟨ptV_wide, ptV_may, by simp [ptV], by simp [ptV], by simp [ptV]⟩
theorem TG_line : Pl.Line okV (line3 TG) := line3_line _ (by simp [TG, fits]) (by simp [TG, line3, Pl.Chain, Pl.follows, numV])
theorem TG2_line : Pl.Line okV (line3 TG2) := line3_line _ (by simp [TG2, fits]) (by simp [TG2, line3, Pl.Chain, Pl.follows, numV])
theorem TH_line : Pl.Line okV (line3 TH) := line3_line _ (by simp [TH, fits]) (by simp [TH, line3, Pl.Chain])
def LH : List Pie := [⟨1, 5, numV 1⟩, ⟨5, 9, ptV⟩]
theorem LH_line : Pl.Line okV LH := ⟨fun x hx => by
    rcases List.mem_cons.1 hx with rfl | hx
    · exact TH_line.good _ (by simp [TH, line3])
    · obtain rfl := List.mem_singleton.1 hx
      exact ⟨by simp, by simp, ptV_ok⟩, by simp [LH, Pl.Chain, Pl.follows, numV, ptV]⟩
theorem mG (t : Int) : Pl.means VP.none (line3 TG2) t = if 5 ≤ t ∧ t < 6 then numV 1 else Pl.means VP.none (line3 TG) t := by
  simp only [line3, TG2, TG, List.map_cons, List.map_nil, Pl.means]
  all_goals ((repeat' split) <;> first | rfl | omega)
theorem mH (t : Int) : Pl.means VP.none LH t = if 5 ≤ t ∧ t < 9 then ptV else Pl.means VP.none (line3 TH) t := by
  simp only [line3, LH, TH, List.map_cons, List.map_nil, Pl.means]
  all_goals ((repeat' split) <;> first | rfl | omega)
theorem TK1_no : ¬ Pl.Line okV (line3 TK1) := fun h => by have := h.chain.1; simp [Pl.follows] at this
theorem TK2_no : ¬ Pl.Line okV (line3 TK2) := fun h => by have := h.chain.1; simp [Pl.follows] at this
theorem TK3_no : ¬ Pl.Line okV (line3 TK3) := fun h => by have := h.chain.1; simp [Pl.follows] at this
theorem TK4_no : ¬ Pl.Line okV (line3 TK4) := fun h => by have := (h.good ⟨2, 2, numV 1⟩ (by simp [TK4, line3])).1; simp at this
theorem TK5_no : ¬ Pl.Line okV (line3 TK5) := fun h => by have := (h.good ⟨1, 1099511627777, numV 1⟩ (by simp [TK5, line3])).2.1; simp at this
theorem bad3 (T : List T3) (w : World) (u : Value) (h : SL w u (line3 T)) (hn : ¬ Pl.Line okV (line3 T)) (hf : ∀ t ∈ T, fits t.2.2) (hl : (line3 T).length ≤ 10) : Bad w u := ⟨_, h, fun x hx => (line3_wide T hf x hx).1, hn, hl⟩
theorem bad6 (w : World) (u : Value) (h : SL w u [⟨1, 2, nodeV⟩]) : Bad w u := ⟨_, h, by simpa using nodeV_wide, fun h => (h.good ⟨1, 2, nodeV⟩ (by simp)).2.2.2.2.2.1 rfl, by simp⟩
section
set_option maxRecDepth 100000
set_option maxHeartbeats 8000000
theorem Point_one (w : World) : Calls Tryz.prog 39 #[.float .f64 4607182418800017408] w fun e w' => e = .returned ptV.val ∧ Below w.heap.size w w' := by
  have hsf := store_float
  have C := Lib.hid (fun w => Canon_any 4607182418800017408 w (by omega))
  go_enter Tryz.func39, Tryz.ntmps39
  go_wp2_with (go_at_call 74; ((with_reducible refine (C.out _).mono ?_); rintro e w' ⟨rfl, rfl⟩))
  rw [show canonF 4607182418800017408 = 4607182418800017408 by decide]
  go_returns
  exact ⟨rfl, (Below.refl _ _).alloc (Nat.le_refl _) _⟩
theorem SetG (sv : Value) (w : World) (h : SL w sv (line3 TG)) : Calls Tryz.prog 9 #[sv, .agg #[.int .u64 5, .int .u64 6], (numV 1).val] w (SetTo (line3 TG2) w) :=
  (Set_ok sv _ 5 6 (numV 1) w h (line_w TG_line) TG_line (by omega) ⟨numV_may _, by simp [numV]⟩ (numV_ok _ (by unfold fits; omega)).1 (by simp [line3, TG])).mono fun _ _ h => setTo h TG2_line mG
theorem SetH (sv : Value) (w : World) (h : SL w sv (line3 TH)) : Calls Tryz.prog 9 #[sv, .agg #[.int .u64 5, .int .u64 9], ptV.val] w (SetTo LH w) :=
  (Set_ok sv _ 5 9 ptV w h (line_w TH_line) TH_line (by omega) ptV_ok.set ptV_wide (by simp [line3, TH])).mono fun _ _ h => setTo h LH_line mH
theorem SetEdge (w : World) : Calls Tryz.prog 9 #[.slice none 0 0, .agg #[.int .u64 1, .int .u64 2], edgeV.val] w (Refused 1 w) :=
  Set_arg _ [] 1 2 edgeV w (SL.nil w) (by simp) (Pl.Line.nil okV) (by omega) (fun h => h.2.2 rfl) edgeV_wide
theorem SetFar (w : World) : Calls Tryz.prog 9 #[.slice none 0 0, .agg #[.int .u64 5, .int .u64 1099511627777], VP.none.val] w (Refused 32 w) :=
  Set_empty _ [] 5 1099511627777 VP.none w (SL.nil w) (by simp) (Pl.Line.nil okV) (by omega)
theorem lay_TK1 (u : Value) (w : World) (h : UL w u (flat3 TK1)) : Calls Tryz.prog 37 #[u] w fun e w' => ∃ u, e = .returned u ∧ OwnL w.heap.size w' u (line3 TK1) ∧ Below w.heap.size w w' := line_any u TK1 w h (by simp [TK1]) (by simp [TK1])
theorem lay_TK2 (u : Value) (w : World) (h : UL w u (flat3 TK2)) : Calls Tryz.prog 37 #[u] w fun e w' => ∃ u, e = .returned u ∧ OwnL w.heap.size w' u (line3 TK2) ∧ Below w.heap.size w w' := line_any u TK2 w h (by simp [TK2]) (by simp [TK2])
theorem lay_TK3 (u : Value) (w : World) (h : UL w u (flat3 TK3)) : Calls Tryz.prog 37 #[u] w fun e w' => ∃ u, e = .returned u ∧ OwnL w.heap.size w' u (line3 TK3) ∧ Below w.heap.size w w' := line_any u TK3 w h (by simp [TK3]) (by simp [TK3])
theorem lay_TK4 (u : Value) (w : World) (h : UL w u (flat3 TK4)) : Calls Tryz.prog 37 #[u] w fun e w' => ∃ u, e = .returned u ∧ OwnL w.heap.size w' u (line3 TK4) ∧ Below w.heap.size w w' := line_any u TK4 w h (by simp [TK4]) (by simp [TK4])
theorem lay_TK5 (u : Value) (w : World) (h : UL w u (flat3 TK5)) : Calls Tryz.prog 37 #[u] w fun e w' => ∃ u, e = .returned u ∧ OwnL w.heap.size w' u (line3 TK5) ∧ Below w.heap.size w w' := line_any u TK5 w h (by simp [TK5]) (by simp [TK5])
theorem lay_TG (u : Value) (w : World) (h : UL w u (flat3 TG)) : Calls Tryz.prog 37 #[u] w fun e w' => ∃ u, e = .returned u ∧ OwnL w.heap.size w' u (line3 TG) ∧ Below w.heap.size w w' := line_any u TG w h (by simp [TG]) (by simp [TG])
theorem lay_TH (u : Value) (w : World) (h : UL w u (flat3 TH)) : Calls Tryz.prog 37 #[u] w fun e w' => ∃ u, e = .returned u ∧ OwnL w.heap.size w' u (line3 TH) ∧ Below w.heap.size w w' := line_any u TH w h (by simp [TH]) (by simp [TH])
theorem Known_walk (w : World) : Calls Tryz.prog 7 #[] w fun e w' => e = .returned (.bool true) ∧ Below w.heap.size w w' := by
  have N1 := Lib.hid (fun W => Number_any 1 W)
  have BS := Lib.hid (fun W u (h : Bad W u) => bad_set u 1 2 (numV 1) W h)
  have BW := Lib.hid (fun W u (h : Bad W u) => bad_where u (numV 1) W h)
  have BI := Lib.hid (fun W u (h : Bad W u) => bad_within u (.slice none 0 0) W h)
  have BX := Lib.hid (fun W u (h : Bad W u) => bad_is u W h)
  have BP := Lib.hid (fun W u (h : Bad W u) => bad_span u W h)
  have BE := Lib.hid (fun W u (h : Bad W u) => bad_ends u W h)
  have BA := Lib.hid (fun W u (h : Bad W u) => (bad_at u 1 W h).mono fun e w' g => (show e = .returned (.agg #[.int .i64 0, .bool false, .int .i64 0, .float .f64 0, .string ⟨#[]⟩]) ∧ Below W.heap.size W w' from g))
  have CG := Lib.hid SetG
  have CH := Lib.hid SetH
  have CE := Lib.hid SetEdge
  have CF := Lib.hid SetFar
  have CP := Lib.hid Point_one
  have CK := Lib.hid wakes_any
  have LC := Lib.hid (fun W sv tv (h : SL W sv (line3 TG2)) (ht : UL W tv (flat3 TG2)) => (like_any sv tv (line3 TG2) TG2 W h ht (by simp [line3, TG2]) (line_wm TG2_line) (by simp [TG2]) (by simp [TG2])).mono fun _ _ h => h.yes rfl)
  have CI := Lib.hid (fun W => (Is_any (.slice none 0 0) [] W (SL.nil W) (by simp)).mono fun _ _ h => h.yes (Pl.Line.nil okV))
  have CS := Lib.hid (fun W u (h : SL W u []) => (pSame_any (.slice none 0 0) u [] [] W (SL.nil W) h (by simp) (by simp)).mono fun _ _ h => h.yes rfl)
  obtain ⟨nv, hnv⟩ : ∃ n, (numV 1).val = n := ⟨_, rfl⟩
  rw [hnv] at N1 BS BW CG
  clear hnv
  have CTK1 := Lib.hid lay_TK1
  have CTK2 := Lib.hid lay_TK2
  have CTK3 := Lib.hid lay_TK3
  have CTK4 := Lib.hid lay_TK4
  have CTK5 := Lib.hid lay_TK5
  have CTG := Lib.hid lay_TG
  have CTH := Lib.hid lay_TH
  have hsf := store_float
  have hfd : ∀ w', Sem.run Tryz.prog (Instr.field 28 (.agg #[.int .i64 0, .bool false, .int .i64 0, .float .f64 0, .string ⟨#[]⟩]) 0) w' = Result.ok (.int .i64 0) w' := fun w' => by kernel_rfl
  go_enter Tryz.func7, Tryz.ntmps7
  go_wp2_with fail
  have BB := Lib.hid (Below.refl w.heap.size w)
  have A0 := Lib.hid (show Below w.heap.size w (w.alloc (.cells #[.int .u64 1, .int .u64 2, .int .u64 5, .int .u64 2, .int .u64 3, .int .u64 5] 23)) from (Below.refl _ _).alloc (Nat.le_refl _) _)
  have U0 := Lib.hid (show UL (w.alloc (.cells #[.int .u64 1, .int .u64 2, .int .u64 5, .int .u64 2, .int .u64 3, .int .u64 5] 23)) (.slice (some ⟨w.heap.size, 0, none⟩) 6 6) (flat3 TK1) from ul_new w (flat3 TK1) 23 6 rfl)
  refine (CTK1.out _ _ U0.out).mono ?_
  rintro e w1 ⟨u1, rfl, ho, hb⟩
  have hb2 := A0.out.trans (hb.mono A0.out.size)
  have Q1 := Lib.hid (bad3 TK1 w1 u1 ho.at TK1_no (by simp [TK1, fits]) (by simp [TK1, line3]))
  obtain ⟨AA1, n1, c1, rfl⟩ : ∃ A n c, u1 = .slice A n c := by obtain ⟨A, c, e, _⟩ := ho.at; exact ⟨A, _, c, e⟩
  have BB := Lib.hid (BB.out.trans (hb2.mono BB.out.size))
  clear ho hb hb2 A0 U0
  go_wp2_with fail
  have A0 := Lib.hid (show Below w1.heap.size w1 (w1.alloc (.cells #[.int .u64 3, .int .u64 4, .int .u64 1, .int .u64 1, .int .u64 2, .int .u64 1] 23)) from (Below.refl _ _).alloc (Nat.le_refl _) _)
  have U0 := Lib.hid (show UL (w1.alloc (.cells #[.int .u64 3, .int .u64 4, .int .u64 1, .int .u64 1, .int .u64 2, .int .u64 1] 23)) (.slice (some ⟨w1.heap.size, 0, none⟩) 6 6) (flat3 TK2) from ul_new w1 (flat3 TK2) 23 6 rfl)
  refine (CTK2.out _ _ U0.out).mono ?_
  rintro e w2 ⟨u2, rfl, ho, hb⟩
  have hb2 := A0.out.trans (hb.mono A0.out.size)
  have Q1 := Lib.hid (Q1.out.below hb2)
  have Q2 := Lib.hid (bad3 TK2 w2 u2 ho.at TK2_no (by simp [TK2, fits]) (by simp [TK2, line3]))
  obtain ⟨AA2, n2, c2, rfl⟩ : ∃ A n c, u2 = .slice A n c := by obtain ⟨A, c, e, _⟩ := ho.at; exact ⟨A, _, c, e⟩
  have BB := Lib.hid (BB.out.trans (hb2.mono BB.out.size))
  clear ho hb hb2 A0 U0
  go_wp2_with fail
  have A0 := Lib.hid (show Below w2.heap.size w2 (w2.alloc (.cells #[.int .u64 1, .int .u64 3, .int .u64 1, .int .u64 2, .int .u64 4, .int .u64 2] 23)) from (Below.refl _ _).alloc (Nat.le_refl _) _)
  have U0 := Lib.hid (show UL (w2.alloc (.cells #[.int .u64 1, .int .u64 3, .int .u64 1, .int .u64 2, .int .u64 4, .int .u64 2] 23)) (.slice (some ⟨w2.heap.size, 0, none⟩) 6 6) (flat3 TK3) from ul_new w2 (flat3 TK3) 23 6 rfl)
  refine (CTK3.out _ _ U0.out).mono ?_
  rintro e w3 ⟨u3, rfl, ho, hb⟩
  have hb2 := A0.out.trans (hb.mono A0.out.size)
  have Q1 := Lib.hid (Q1.out.below hb2)
  have Q2 := Lib.hid (Q2.out.below hb2)
  have Q3 := Lib.hid (bad3 TK3 w3 u3 ho.at TK3_no (by simp [TK3, fits]) (by simp [TK3, line3]))
  obtain ⟨AA3, n3, c3, rfl⟩ : ∃ A n c, u3 = .slice A n c := by obtain ⟨A, c, e, _⟩ := ho.at; exact ⟨A, _, c, e⟩
  have BB := Lib.hid (BB.out.trans (hb2.mono BB.out.size))
  clear ho hb hb2 A0 U0
  go_wp2_with fail
  have A0 := Lib.hid (show Below w3.heap.size w3 (w3.alloc (.cells #[.int .u64 2, .int .u64 2, .int .u64 1] 23)) from (Below.refl _ _).alloc (Nat.le_refl _) _)
  have U0 := Lib.hid (show UL (w3.alloc (.cells #[.int .u64 2, .int .u64 2, .int .u64 1] 23)) (.slice (some ⟨w3.heap.size, 0, none⟩) 3 3) (flat3 TK4) from ul_new w3 (flat3 TK4) 23 3 rfl)
  refine (CTK4.out _ _ U0.out).mono ?_
  rintro e w4 ⟨u4, rfl, ho, hb⟩
  have hb2 := A0.out.trans (hb.mono A0.out.size)
  have Q1 := Lib.hid (Q1.out.below hb2)
  have Q2 := Lib.hid (Q2.out.below hb2)
  have Q3 := Lib.hid (Q3.out.below hb2)
  have Q4 := Lib.hid (bad3 TK4 w4 u4 ho.at TK4_no (by simp [TK4, fits]) (by simp [TK4, line3]))
  obtain ⟨AA4, n4, c4, rfl⟩ : ∃ A n c, u4 = .slice A n c := by obtain ⟨A, c, e, _⟩ := ho.at; exact ⟨A, _, c, e⟩
  have BB := Lib.hid (BB.out.trans (hb2.mono BB.out.size))
  clear ho hb hb2 A0 U0
  go_wp2_with fail
  have A0 := Lib.hid (show Below w4.heap.size w4 (w4.alloc (.cells #[.int .u64 1, .int .u64 1099511627777, .int .u64 1] 23)) from (Below.refl _ _).alloc (Nat.le_refl _) _)
  have U0 := Lib.hid (show UL (w4.alloc (.cells #[.int .u64 1, .int .u64 1099511627777, .int .u64 1] 23)) (.slice (some ⟨w4.heap.size, 0, none⟩) 3 3) (flat3 TK5) from ul_new w4 (flat3 TK5) 23 3 rfl)
  refine (CTK5.out _ _ U0.out).mono ?_
  rintro e w5 ⟨u5, rfl, ho, hb⟩
  have hb2 := A0.out.trans (hb.mono A0.out.size)
  have Q1 := Lib.hid (Q1.out.below hb2)
  have Q2 := Lib.hid (Q2.out.below hb2)
  have Q3 := Lib.hid (Q3.out.below hb2)
  have Q4 := Lib.hid (Q4.out.below hb2)
  have Q5 := Lib.hid (bad3 TK5 w5 u5 ho.at TK5_no (by simp [TK5, fits]) (by simp [TK5, line3]))
  obtain ⟨AA5, n5, c5, rfl⟩ : ∃ A n c, u5 = .slice A n c := by obtain ⟨A, c, e, _⟩ := ho.at; exact ⟨A, _, c, e⟩
  have BB := Lib.hid (BB.out.trans (hb2.mono BB.out.size))
  clear ho hb hb2 A0 U0
  go_upto_region 3 with fail
  have A0 := Lib.hid (show Below w5.heap.size w5 (w5.alloc (.cells #[.int .u64 1, .int .u64 2, .int .i64 5, .bool false, .int .i64 1, .float .f64 0, .string ⟨#[]⟩] 43)) from (Below.refl _ _).alloc (Nat.le_refl _) _)
  have Q6 := Lib.hid (bad6 _ _ (sl_new w5 ⟨1, 2, nodeV⟩ 43 1))
  have A1 := Lib.hid (show Below w5.heap.size w5 (((w5.alloc (.cells #[.int .u64 1, .int .u64 2, .int .i64 5, .bool false, .int .i64 1, .float .f64 0, .string ⟨#[]⟩] 43)).alloc (.cells #[.slice AA1 n1 c1, .slice AA2 n2 c2, .slice AA3 n3 c3, .slice AA4 n4 c4, .slice AA5 n5 c5, .slice (some ⟨w5.heap.size, 0, none⟩) 1 1] 73)).alloc (.cells #[.int .u64 1, .int .u64 2] 25)) from (A0.out.alloc (by simp) _).alloc (by simp; omega) _)
  have A2 := Lib.hid (show Below (w5.alloc (.cells #[.int .u64 1, .int .u64 2, .int .i64 5, .bool false, .int .i64 1, .float .f64 0, .string ⟨#[]⟩] 43)).heap.size (w5.alloc (.cells #[.int .u64 1, .int .u64 2, .int .i64 5, .bool false, .int .i64 1, .float .f64 0, .string ⟨#[]⟩] 43)) (((w5.alloc (.cells #[.int .u64 1, .int .u64 2, .int .i64 5, .bool false, .int .i64 1, .float .f64 0, .string ⟨#[]⟩] 43)).alloc (.cells #[.slice AA1 n1 c1, .slice AA2 n2 c2, .slice AA3 n3 c3, .slice AA4 n4 c4, .slice AA5 n5 c5, .slice (some ⟨w5.heap.size, 0, none⟩) 1 1] 73)).alloc (.cells #[.int .u64 1, .int .u64 2] 25)) from ((Below.refl _ _).alloc (Nat.le_refl _) _).alloc (by simp) _)
  have XA := Lib.hid ((Bx.new (w5.alloc (.cells #[.int .u64 1, .int .u64 2, .int .i64 5, .bool false, .int .i64 1, .float .f64 0, .string ⟨#[]⟩] 43)) #[.slice AA1 n1 c1, .slice AA2 n2 c2, .slice AA3 n3 c3, .slice AA4 n4 c4, .slice AA5 n5 c5, .slice (some ⟨w5.heap.size, 0, none⟩) 1 1] 73).below ((Below.refl _ _).alloc (Nat.le_refl _) (.cells #[.int .u64 1, .int .u64 2] 25)))
  have XP := Lib.hid (Bx.new ((w5.alloc (.cells #[.int .u64 1, .int .u64 2, .int .i64 5, .bool false, .int .i64 1, .float .f64 0, .string ⟨#[]⟩] 43)).alloc (.cells #[.slice AA1 n1 c1, .slice AA2 n2 c2, .slice AA3 n3 c3, .slice AA4 n4 c4, .slice AA5 n5 c5, .slice (some ⟨w5.heap.size, 0, none⟩) 1 1] 73)) #[.int .u64 1, .int .u64 2] 25)
  have Q6 := Lib.hid (show Bad (((w5.alloc (.cells #[.int .u64 1, .int .u64 2, .int .i64 5, .bool false, .int .i64 1, .float .f64 0, .string ⟨#[]⟩] 43)).alloc (.cells #[.slice AA1 n1 c1, .slice AA2 n2 c2, .slice AA3 n3 c3, .slice AA4 n4 c4, .slice AA5 n5 c5, .slice (some ⟨w5.heap.size, 0, none⟩) 1 1] 73)).alloc (.cells #[.int .u64 1, .int .u64 2] 25)) (.slice (some ⟨w5.heap.size, 0, none⟩) 1 1) from Q6.out.below A2.out)
  have Q1 := Lib.hid (Q1.out.below A1.out)
  have Q2 := Lib.hid (Q2.out.below A1.out)
  have Q3 := Lib.hid (Q3.out.below A1.out)
  have Q4 := Lib.hid (Q4.out.below A1.out)
  have Q5 := Lib.hid (Q5.out.below A1.out)
  have BB := Lib.hid (BB.out.trans (A1.out.mono BB.out.size))
  rw [show (w5.alloc (.cells #[.int .u64 1, .int .u64 2, .int .i64 5, .bool false, .int .i64 1, .float .f64 0, .string ⟨#[]⟩] 43)).heap.size = w5.heap.size + 1 by simp] at XA
  rw [show ((w5.alloc (.cells #[.int .u64 1, .int .u64 2, .int .i64 5, .bool false, .int .i64 1, .float .f64 0, .string ⟨#[]⟩] 43)).alloc (.cells #[.slice AA1 n1 c1, .slice AA2 n2 c2, .slice AA3 n3 c3, .slice AA4 n4 c4, .slice AA5 n5 c5, .slice (some ⟨w5.heap.size, 0, none⟩) 1 1] 73)).heap.size = w5.heap.size + 1 + 1 by simp] at XP
  obtain ⟨w6, h6⟩ : ∃ W, ((w5.alloc (.cells #[.int .u64 1, .int .u64 2, .int .i64 5, .bool false, .int .i64 1, .float .f64 0, .string ⟨#[]⟩] 43)).alloc (.cells #[.slice AA1 n1 c1, .slice AA2 n2 c2, .slice AA3 n3 c3, .slice AA4 n4 c4, .slice AA5 n5 c5, .slice (some ⟨w5.heap.size, 0, none⟩) 1 1] 73)).alloc (.cells #[.int .u64 1, .int .u64 2] 25) = W := ⟨_, rfl⟩
  rw [h6] at XA XP Q1 Q2 Q3 Q4 Q5 Q6 BB
  try rw [h6]
  clear h6 A0 A1 A2
  obtain ⟨pA, hA⟩ : ∃ p, w5.heap.size + 1 = p := ⟨_, rfl⟩
  obtain ⟨pP, hP⟩ : ∃ p, w5.heap.size + 1 + 1 = p := ⟨_, rfl⟩
  rw [hP] at XP
  rw [hA] at XA
  try rw [hP]
  try rw [hA]
  clear hA hP
  obtain ⟨uN, hu6⟩ : ∃ u, Value.slice (some ⟨w5.heap.size, 0, none⟩) 1 1 = u := ⟨_, rfl⟩
  rw [hu6] at XA Q6
  clear hu6
  go_wp2_with fail
  go_loopw [3] (fun i wr => ∃ k : Nat, k ≤ 6 ∧ i = .int .i64 k ∧ Below w6.heap.size w6 wr) (fun i _ => 6 - (intOf i).toNat)
  case atStart => exact ⟨0, Nat.zero_le _, rfl, Below.refl _ _⟩
  case round =>
    obtain ⟨k, hk, rfl, hb⟩ := hrel
    have HB := Lib.hid hb
    clear hb
    by_cases hlt : k < 6
    · obtain ⟨u, hu, hq⟩ : ∃ u, (#[.slice AA1 n1 c1, .slice AA2 n2 c2, .slice AA3 n3 c3, .slice AA4 n4 c4, .slice AA5 n5 c5, uN] : Array Value)[k]? = some u ∧ Bad w6 u := by
        obtain rfl | rfl | rfl | rfl | rfl | rfl : k = 0 ∨ k = 1 ∨ k = 2 ∨ k = 3 ∨ k = 4 ∨ k = 5 := by omega
        · exact ⟨_, rfl, Q1.out⟩
        · exact ⟨_, rfl, Q2.out⟩
        · exact ⟨_, rfl, Q3.out⟩
        · exact ⟨_, rfl, Q4.out⟩
        · exact ⟨_, rfl, Q5.out⟩
        · exact ⟨_, rfl, Q6.out⟩
      have F := Lib.hid (hq.below HB.out)
      have K0 : Hid (∀ w', Below wr.heap.size wr w' → w'.cell? ⟨pA, k, none⟩ = some u ∧ (∀ j, w'.cell? ⟨pP, j, none⟩ = #[Value.int .u64 1, .int .u64 2][j]?)) := Lib.hid fun w' hb => ⟨((XA.out.below (HB.out.trans (hb.mono HB.out.size))).c k).trans hu, (XP.out.below (HB.out.trans (hb.mono HB.out.size))).c⟩
      have i0 : (k : Int) < 6 := by omega
      have i1 : (0 : Int) ≤ (k : Int) := by omega
      clear hu hq
      go_upto_region 6 with fail
      go_region_held3 (fun w' => w'.cell? ⟨pA, k, none⟩ = some u ∧ (∀ j, w'.cell? ⟨pP, j, none⟩ = #[Value.int .u64 1, .int .u64 2][j]?)) (first
        | exact K0.out _ (Below.refl _ _).drew
        | exact K0.out _ HV2.out
        | exact K0.out _ HV1.out
        | fail) (first
        | (go_at_call 38; (with_reducible refine (N1.out _).mono ?_); rintro e v1 ⟨rfl, hb⟩; have HV1 := Lib.hid (show Below wr.heap.size wr v1 from (Below.refl _ _).drew.trans hb); have F1 := Lib.hid (F.out.below HV1.out); clear hb)
        | (go_at_call 9; (with_reducible refine (BS.out _ _ F1.out).mono ?_); rintro e v2 ⟨rfl, hb⟩; have HV2 := Lib.hid (show Below wr.heap.size wr v2 from HV1.out.trans (hb.mono HV1.out.size)); clear hb)
        | fail)
      have x0 := (K0.out _ HV2.out).1
      have F2 := Lib.hid (F.out.below HV2.out)
      go_upto_region 8 with (go_at_call 11; (with_reducible refine (BI.out _ _ F2.out).mono ?_); rintro e v3 ⟨rfl, hb⟩; have HV3 := Lib.hid (show Below wr.heap.size wr v3 from HV2.out.trans (hb.mono HV2.out.size)); clear hb)
      have HD := Lib.hid (show Below wr.heap.size wr v3.drew from HV3.out.trans ((Below.refl _ _).drew.mono HV3.out.size))
      have FD := Lib.hid (F.out.below HD.out)
      clear x0
      go_region_held3 (fun w' => w'.cell? ⟨pA, k, none⟩ = some u ∧ (∀ j, w'.cell? ⟨pP, j, none⟩ = #[Value.int .u64 1, .int .u64 2][j]?)) (first
        | exact K0.out _ HD.out
        | exact K0.out _ HV9.out
        | exact K0.out _ HV8.out
        | exact K0.out _ HV7.out
        | exact K0.out _ HV6.out
        | exact K0.out _ HV5.out
        | exact K0.out _ HV4.out
        | fail) (first
        | (go_at_call 19; (with_reducible refine (BX.out _ _ FD.out).mono ?_); rintro e v4 ⟨rfl, hb⟩; have HV4 := Lib.hid (show Below wr.heap.size wr v4 from HD.out.trans (hb.mono HD.out.size)); have F4 := Lib.hid (F.out.below HV4.out); clear hb)
        | (go_at_call 25; (with_reducible refine (BP.out _ _ F4.out).mono ?_); rintro e v5 ⟨rfl, hb⟩; have HV5 := Lib.hid (show Below wr.heap.size wr v5 from HV4.out.trans (hb.mono HV4.out.size)); have F5 := Lib.hid (F.out.below HV5.out); clear hb)
        | (go_at_call 15; (with_reducible refine (BE.out _ _ F5.out).mono ?_); rintro e v6 ⟨rfl, hb⟩; have HV6 := Lib.hid (show Below wr.heap.size wr v6 from HV5.out.trans (hb.mono HV5.out.size)); clear hb)
        | (go_at_call 38; (with_reducible refine (N1.out _).mono ?_); rintro e v7 ⟨rfl, hb⟩; have HV7 := Lib.hid (show Below wr.heap.size wr v7 from HV6.out.trans (hb.mono HV6.out.size)); have F7 := Lib.hid (F.out.below HV7.out); clear hb)
        | (go_at_call 27; (with_reducible refine (BW.out _ _ F7.out).mono ?_); rintro e v8 ⟨rfl, hb⟩; have HV8 := Lib.hid (show Below wr.heap.size wr v8 from HV7.out.trans (hb.mono HV7.out.size)); have F8 := Lib.hid (F.out.below HV8.out); clear hb)
        | (go_at_call 22; (with_reducible refine (BA.out _ _ F8.out).mono ?_); rintro e v9 ⟨rfl, hb⟩; have HV9 := Lib.hid (show Below wr.heap.size wr v9 from HV8.out.trans (hb.mono HV8.out.size)); clear hb)
        | fail)
      have HE := Lib.hid (HB.out.trans (HV9.out.mono HB.out.size))
      have hk1 : k + 1 ≤ 6 := by omega
      go_wp2_with fail
      exact ⟨⟨k + 1, hk1, by go_num, HE.out⟩, by simp [intOf]; omega⟩
    · obtain rfl : k = 6 := by omega
      clear hlt hk
      have x0 := (XP.out.below HB.out).c
      have BB := Lib.hid (BB.out.trans (HB.out.mono BB.out.size))
      clear HB XP XA Q1 Q2 Q3 Q4 Q5 Q6
      go_wp2_with fail
      refine (CE.out _).mono ?_
      rintro e z1 ⟨rfl, hb⟩
      have BB := Lib.hid (BB.out.trans (hb.mono BB.out.size))
      clear hb x0
      go_wp2_with fail
      refine (CF.out _).mono ?_
      rintro e z2 ⟨rfl, hb⟩
      have BB := Lib.hid (BB.out.trans (hb.mono BB.out.size))
      clear hb
      go_wp2_with fail
      have A0 := Lib.hid (show Below z2.heap.size z2 (z2.alloc (.cells #[.int .u64 1, .int .u64 5, .int .u64 1, .int .u64 5, .int .u64 9, .int .u64 2] 23)) from (Below.refl _ _).alloc (Nat.le_refl _) _)
      have U0 := Lib.hid (show UL (z2.alloc (.cells #[.int .u64 1, .int .u64 5, .int .u64 1, .int .u64 5, .int .u64 9, .int .u64 2] 23)) (.slice (some ⟨z2.heap.size, 0, none⟩) 6 6) (flat3 TG) from ul_new z2 (flat3 TG) 23 6 rfl)
      refine (CTG.out _ _ U0.out).mono ?_
      rintro e z3 ⟨uG, rfl, ho, hb⟩
      have BB := Lib.hid (BB.out.trans ((A0.out.trans (hb.mono A0.out.size)).mono BB.out.size))
      have OG := Lib.hid ho.at
      clear hb ho A0 U0
      go_wp2_with fail
      refine (N1.out _).mono ?_
      rintro e z4 ⟨rfl, hb⟩
      have BB := Lib.hid (BB.out.trans (hb.mono BB.out.size))
      have OG := Lib.hid (OG.out.below hb)
      clear hb
      go_wp2_with fail
      refine (CG.out _ _ OG.out).mono ?_
      rintro e z5 ⟨uG2, rfl, ho, hb⟩
      have BB := Lib.hid (BB.out.trans (hb.mono BB.out.size))
      have OG := Lib.hid ho.at
      clear hb ho
      go_wp2_with fail
      have A0 := Lib.hid (show Below z5.heap.size z5 (z5.alloc (.cells #[.int .u64 1, .int .u64 5, .int .u64 1] 23)) from (Below.refl _ _).alloc (Nat.le_refl _) _)
      have U0 := Lib.hid (show UL (z5.alloc (.cells #[.int .u64 1, .int .u64 5, .int .u64 1] 23)) (.slice (some ⟨z5.heap.size, 0, none⟩) 3 3) (flat3 TH) from ul_new z5 (flat3 TH) 23 3 rfl)
      refine (CTH.out _ _ U0.out).mono ?_
      rintro e z6 ⟨uH, rfl, ho, hb⟩
      have hb2 := A0.out.trans (hb.mono A0.out.size)
      have BB := Lib.hid (BB.out.trans (hb2.mono BB.out.size))
      have OG := Lib.hid (OG.out.below hb2)
      have OH := Lib.hid ho.at
      clear hb ho hb2 A0 U0
      go_wp2_with fail
      refine (CP.out _).mono ?_
      rintro e z7 ⟨rfl, hb⟩
      have BB := Lib.hid (BB.out.trans (hb.mono BB.out.size))
      have OG := Lib.hid (OG.out.below hb)
      have OH := Lib.hid (OH.out.below hb)
      clear hb
      go_wp2_with fail
      refine (CH.out _ _ OH.out).mono ?_
      rintro e z8 ⟨uH2, rfl, ho, hb⟩
      have BB := Lib.hid (BB.out.trans (hb.mono BB.out.size))
      have OG := Lib.hid (OG.out.below hb)
      obtain ⟨AH, cH, rfl, _⟩ := ho.at
      rw [show LH.length = 2 from rfl]
      clear hb ho OH
      go_wp2_with fail
      have A0 := Lib.hid (show Below z8.heap.size z8 (z8.alloc (.cells #[.int .u64 1, .int .u64 6, .int .u64 1, .int .u64 6, .int .u64 9, .int .u64 2] 23)) from (Below.refl _ _).alloc (Nat.le_refl _) _)
      have U0 := Lib.hid (show UL (z8.alloc (.cells #[.int .u64 1, .int .u64 6, .int .u64 1, .int .u64 6, .int .u64 9, .int .u64 2] 23)) (.slice (some ⟨z8.heap.size, 0, none⟩) 6 6) (flat3 TG2) from ul_new z8 (flat3 TG2) 23 6 rfl)
      refine (LC.out _ _ _ (OG.out.below A0.out) U0.out).mono ?_
      rintro e z9 ⟨rfl, hb⟩
      have BB := Lib.hid (BB.out.trans ((A0.out.trans (hb.mono A0.out.size)).mono BB.out.size))
      clear hb OG A0 U0
      go_wp2_with fail
      refine (CI.out _).mono ?_
      rintro e z10 ⟨rfl, hb⟩
      have BB := Lib.hid (BB.out.trans (hb.mono BB.out.size))
      clear hb
      go_wp2_with fail
      have A0 := Lib.hid (show Below z10.heap.size z10 (z10.alloc (.cells #[] 43)) from (Below.refl _ _).alloc (Nat.le_refl _) _)
      refine (CS.out _ _ ⟨_, _, rfl, fun h => absurd h (by simp), by simp⟩).mono ?_
      rintro e z11 ⟨rfl, hb⟩
      have BB := Lib.hid (BB.out.trans ((A0.out.trans (hb.mono A0.out.size)).mono BB.out.size))
      clear hb A0
      go_wp2_with fail
      refine (CK.out _).mono ?_
      rintro e z12 ⟨rfl, hb⟩
      have BB := Lib.hid (BB.out.trans (hb.mono BB.out.size))
      clear hb
      go_wp2_with fail
      go_ret
      exact ⟨rfl, BB.out⟩
end
end Go.Proofs.YtaaekjmiapelgaaGreat

