/- TreeFinds' walk. -/
import Derived.Test.YtbifgmamjdniaaaM2
import Derived.Test.YtbifgmamjdniaaaM3
import Derived.Test.YtbifgmamjdniaaaM4
import Derived.Deep.CutBlock
namespace Go.Proofs.Ytbifgmamjdniaaa
open Go.RowKit Go.Maps
open Itree (E T dep endT bs ord sz nodes lean rotL rotR bal ins del hasT first AVL Srt eachL over)
def PAt2 (w : World) (A : Option Addr) (n : Nat) (f : Nat → Int × Int) : Prop := 0 < n → ∃ b off, A = some ⟨b, off, none⟩ ∧ b < w.heap.size ∧ ∀ i, i < n → w.cell? ⟨b, off + i * 2, none⟩ = some (.int .u64 (f i).1) ∧ w.cell? ⟨b, off + i * 2 + 1, none⟩ = some (.int .u64 (f i).2) ∧ (0 ≤ (f i).1 ∧ (f i).1 ≤ 18446744073709551615) ∧ (0 ≤ (f i).2 ∧ (f i).2 ≤ 18446744073709551615)
def BAt (w : World) (A : Option Addr) (n : Nat) (f : Nat → Bool) : Prop := 0 < n → ∃ b off, A = some ⟨b, off, none⟩ ∧ b < w.heap.size ∧ ∀ i, i < n → w.cell? ⟨b, off + i, none⟩ = some (.bool (f i))
theorem PAt2.below {w w' : World} {A : Option Addr} {n : Nat} {f : Nat → Int × Int} (h : PAt2 w A n f) (hb : Below w.heap.size w w') : PAt2 w' A n f := fun h0 => by
  obtain ⟨b, off, e, hl, hc⟩ := h h0
  refine ⟨b, off, e, Nat.lt_of_lt_of_le hl hb.size, fun i hi => ?_⟩
  obtain ⟨c0, c1, c4⟩ := hc i hi
  exact ⟨(hb.cell (p := ⟨b, off + i * 2, none⟩) hl).trans c0, (hb.cell (p := ⟨b, off + i * 2 + 1, none⟩) hl).trans c1, c4⟩
theorem BAt.below {w w' : World} {A : Option Addr} {n : Nat} {f : Nat → Bool} (h : BAt w A n f) (hb : Below w.heap.size w w') : BAt w' A n f := fun h0 => by
  obtain ⟨b, off, e, hl, hc⟩ := h h0
  exact ⟨b, off, e, Nat.lt_of_lt_of_le hl hb.size, fun i hi => (hb.cell (p := ⟨b, off + i, none⟩) hl).trans (hc i hi)⟩
/-- The two variables that stay. -/
def Cx (w : World) (hq hb bm : Nat) (qa qb : Int) : Prop := w.cell? ⟨hq, 0, none⟩ = some (.int .u64 qa) ∧ w.cell? ⟨hq, 1, none⟩ = some (.int .u64 qb) ∧ w.cell? ⟨hb, 0, none⟩ = some (.map (some bm))
theorem Cx.same {w w' : World} {hq hb bm : Nat} {qa qb : Int} {X : List Nat} (h : Cx w hq hb bm qa qb) (hs : SameX X w w') (h1 : hq ∈ X) (h2 : hb ∈ X) : Cx w' hq hb bm qa qb := ⟨(hs hq h1 0).trans h.1, (hs hq h1 1).trans h.2.1, (hs hb h2 0).trans h.2.2⟩
theorem Cx.below {w w' : World} {hq hb bm : Nat} {qa qb : Int} (h : Cx w hq hb bm qa qb) (hl : hq < w.heap.size ∧ hb < w.heap.size) (hs : Below w.heap.size w w') : Cx w' hq hb bm qa qb := ⟨(hs.cell (p := ⟨hq, 0, none⟩) hl.1).trans h.1, (hs.cell (p := ⟨hq, 1, none⟩) hl.1).trans h.2.1, (hs.cell (p := ⟨hb, 0, none⟩) hl.2).trans h.2.2⟩
/-- Between two rounds. -/
def Fs (W w : World) (hq hb q bm : Nat) (qa qb : Int) (i : Nat) : Prop := ∃ (L : List E) (n : Nat), L.length ≤ i ∧ n ≤ i ∧ (∀ x ∈ L, okE x) ∧ Fd W w [hb, hq] q bm n L L ∧ Cx w hq hb bm qa qb
theorem fs_start {W w1 w2 : World} {q : Nat} {R : List Nat} {qa qb : Int} {V : World} (hb : Below W.heap.size W w1) (h : TL w2 q R []) (hf : ∀ k ∈ q :: R, w1.heap.size ≤ k) (h2 : Below w1.heap.size w1 w2) (hq : Nat) (hl : hq < w1.heap.size) (c0 : w1.cell? ⟨hq, 0, none⟩ = some (.int .u64 qa)) (c1 : w1.cell? ⟨hq, 1, none⟩ = some (.int .u64 qb)) (hV : V = (w2.alloc (.map #[] 0)).alloc (.cells #[.map (some w2.heap.size)] 51)) : Fs W V hq (w2.heap.size + 1) q w2.heap.size qa qb 0 := by
  have f1 := Fd.new (X := [hq]) (hb.trans (h2.mono hb.size)) h (fun k hk => ⟨Nat.le_trans hb.size (hf k hk), by have := hf k hk; simp; omega⟩) (fun k hk => by simp at hk; subst hk; exact Nat.lt_of_lt_of_le hl h2.size) rfl
  have f2 := f1.push _ hV
  have e : (w2.alloc (.map #[] 0)).heap.size = w2.heap.size + 1 := by simp
  rw [e] at f2
  have b3 : Below w1.heap.size w1 V := by
    rw [hV]
    exact (h2.alloc h2.size _).alloc (by simp; have := h2.size; omega) _
  refine ⟨[], 0, Nat.le_refl _, Nat.le_refl _, by simp, f2, (b3.cell (p := ⟨hq, 0, none⟩) hl).trans c0, (b3.cell (p := ⟨hq, 1, none⟩) hl).trans c1, ?_⟩
  rw [hV, ← e]
  exact World.cell?_alloc_new _ _ _ 0
theorem Fs.mono {W w : World} {hq hb q bm : Nat} {qa qb : Int} {i j : Nat} (h : Fs W w hq hb q bm qa qb i) (hij : i ≤ j) : Fs W w hq hb q bm qa qb j := by
  obtain ⟨L, n, h1, h2, h3⟩ := h
  exact ⟨L, n, by omega, by omega, h3⟩
theorem Fs.below {W w w' : World} {hq hb q bm : Nat} {qa qb : Int} {i : Nat} (h : Fs W w hq hb q bm qa qb i) (hl : Below w.heap.size w w') : Fs W w' hq hb q bm qa qb i := by
  obtain ⟨L, n, h1, h2, h3, fd, cx⟩ := h
  exact ⟨L, n, h1, h2, h3, fd.below hl, cx.below ⟨fd.x hq (by simp), fd.x hb (by simp)⟩ hl⟩
theorem Fs.since {W w : World} {hq hb q bm : Nat} {qa qb : Int} {i : Nat} (h : Fs W w hq hb q bm qa qb i) : Below W.heap.size W w := by
  obtain ⟨L, n, h1, h2, h3, fd, cx⟩ := h
  exact fd.since
def Bx (w : World) (hp he : Nat) (pa pb pn : Int) : Prop := w.cell? ⟨hp, 0, none⟩ = some (.int .u64 pa) ∧ w.cell? ⟨hp, 1, none⟩ = some (.int .u64 pb) ∧ w.cell? ⟨he, 0, none⟩ = some (.int .u64 pa) ∧ w.cell? ⟨he, 1, none⟩ = some (.int .u64 pb) ∧ w.cell? ⟨he, 2, none⟩ = some (.int .u64 pn)
theorem Bx.same {w w' : World} {hp he : Nat} {pa pb pn : Int} {X : List Nat} (h : Bx w hp he pa pb pn) (hs : SameX X w w') (h1 : hp ∈ X) (h2 : he ∈ X) : Bx w' hp he pa pb pn :=
  ⟨(hs hp h1 0).trans h.1, (hs hp h1 1).trans h.2.1, (hs he h2 0).trans h.2.2.1, (hs he h2 1).trans h.2.2.2.1, (hs he h2 2).trans h.2.2.2.2⟩
theorem SameX.of_below {X : List Nat} {w w' : World} (hb : Below w.heap.size w w') (hx : ∀ k ∈ X, k < w.heap.size) : SameX X w w' := fun k hk o => hb.cell (p := ⟨k, o, none⟩) (hx k hk)
theorem fs_boxes {W w : World} {hq hb q bm : Nat} {qa qb : Int} {i : Nat} (h : Fs W w hq hb q bm qa qb i) (pa pb pn : Int) (X : World) (hX : (w.alloc (.cells #[.int .u64 pa, .int .u64 pb] 32)).alloc (.cells #[.int .u64 pa, .int .u64 pb, .int .u64 pn] 53) = X) :
    ∃ (L : List E) (n : Nat), L.length ≤ i ∧ n ≤ i ∧ (∀ x ∈ L, okE x) ∧ Fd W X [w.heap.size + 1, w.heap.size, hb, hq] q bm n L L ∧ Cx X hq hb bm qa qb ∧ Bx X w.heap.size (w.heap.size + 1) pa pb pn := by
  obtain ⟨L, n, h1, h2, h3, fd, cx⟩ := h
  have f1 := fd.push (.cells #[.int .u64 pa, .int .u64 pb] 32) rfl
  have f2 := f1.push (.cells #[.int .u64 pa, .int .u64 pb, .int .u64 pn] 53) hX.symm
  have e : (w.alloc (.cells #[.int .u64 pa, .int .u64 pb] 32)).heap.size = w.heap.size + 1 := by simp
  rw [e] at f2
  have b1 : Below w.heap.size w (w.alloc (.cells #[.int .u64 pa, .int .u64 pb] 32)) := (Below.refl _ _).alloc (Nat.le_refl _) _
  have b2 : Below w.heap.size w X := by rw [← hX]; exact b1.alloc (by simp) _
  have p0 : Box (w.alloc (.cells #[.int .u64 pa, .int .u64 pb] 32)) w.heap.size pa pb := box_at w pa pb _ _ rfl
  have b3 : Below (w.alloc (.cells #[.int .u64 pa, .int .u64 pb] 32)).heap.size (w.alloc (.cells #[.int .u64 pa, .int .u64 pb] 32)) X := by rw [← hX]; exact (Below.refl _ _).alloc (Nat.le_refl _) _
  have p1 := p0.below b3
  have p2 : EBox X (w.heap.size + 1) ⟨pa, pb, pn⟩ := by rw [← hX, ← e]; exact ebox_at _ ⟨pa, pb, pn⟩ _ _ rfl
  exact ⟨L, n, h1, h2, h3, f2, cx.below ⟨fd.x hq (by simp), fd.x hb (by simp)⟩ b2, p1.c0, p1.c1, p2.c0, p2.c1, p2.c2⟩
theorem fs_box {W w : World} {hq hb q bm : Nat} {qa qb : Int} {i : Nat} (h : Fs W w hq hb q bm qa qb i) (pa pb pn : Int) (X : World) (hX : w.alloc (.cells #[.int .u64 pa, .int .u64 pb, .int .u64 pn] 53) = X) :
    ∃ (L : List E) (n : Nat), L.length ≤ i ∧ n ≤ i ∧ (∀ x ∈ L, okE x) ∧ Fd W X [w.heap.size, hb, hq] q bm n L L ∧ Cx X hq hb bm qa qb ∧ EBox X w.heap.size ⟨pa, pb, pn⟩ := by
  obtain ⟨L, n, h1, h2, h3, fd, cx⟩ := h
  have f2 := fd.push (.cells #[.int .u64 pa, .int .u64 pb, .int .u64 pn] 53) hX.symm
  have b2 : Below w.heap.size w X := by rw [← hX]; exact (Below.refl _ _).alloc (Nat.le_refl _) _
  have p2 : EBox X w.heap.size ⟨pa, pb, pn⟩ := by rw [← hX]; exact ebox_at _ ⟨pa, pb, pn⟩ _ _ rfl
  exact ⟨L, n, h1, h2, h3, f2, cx.below ⟨fd.x hq (by simp), fd.x hb (by simp)⟩ b2, p2⟩
def Ex (w : World) (he : Nat) (pa pb pn : Int) : Prop := w.cell? ⟨he, 0, none⟩ = some (.int .u64 pa) ∧ w.cell? ⟨he, 1, none⟩ = some (.int .u64 pb) ∧ w.cell? ⟨he, 2, none⟩ = some (.int .u64 pn)
theorem Ex.same {w w' : World} {he : Nat} {pa pb pn : Int} {X : List Nat} (h : Ex w he pa pb pn) (hs : SameX X w w') (h2 : he ∈ X) : Ex w' he pa pb pn :=
  ⟨(hs he h2 0).trans h.1, (hs he h2 1).trans h.2.1, (hs he h2 2).trans h.2.2⟩
theorem delL_len' (x : E) (L : List E) : (delL x L).length ≤ L.length := List.length_filter_le _ _
theorem is2_app (x : E) (t : Int) (h : Nat) (w : World) (hc : w.cell? ⟨h, 0, none⟩ = some (.int .u64 t)) (hl : h < w.heap.size) :
    Calls Try.prog 27 (#[entV x] ++ #[.pointer (some ⟨h, 0, none⟩)]) w fun e w' => e = .returned (.bool ((fun e : E => hasB e.a e.b t) x)) ∧ Below w.heap.size w w' := by
  have e : (#[entV x] ++ #[Value.pointer (some ⟨h, 0, none⟩)] : Array Value) = #[entV x, .pointer (some ⟨h, 0, none⟩)] := by simp
  rw [e]
  exact is2_any x t h w hc hl
theorem is3_app (x : E) (p p' : Int) (h : Nat) (w : World) (hc : w.cell? ⟨h, 0, none⟩ = some (.int .u64 p)) (hc2 : w.cell? ⟨h, 1, none⟩ = some (.int .u64 p')) (hl : h < w.heap.size) :
    Calls Try.prog 29 (#[entV x] ++ #[.pointer (some ⟨h, 0, none⟩)]) w fun e w' => e = .returned (.bool ((fun e : E => meetB e.a e.b p p') x)) ∧ Below w.heap.size w w' := by
  have e : (#[entV x] ++ #[Value.pointer (some ⟨h, 0, none⟩)] : Array Value) = #[entV x, .pointer (some ⟨h, 0, none⟩)] := by simp
  rw [e]
  exact is3_any x p p' h w hc hc2 hl
theorem is4_app (x : E) (w : World) :
    Calls Try.prog 31 (#[entV x] ++ #[]) w fun e w' => e = .returned (.bool ((fun _ : E => true) x)) ∧ Below w.heap.size w w' := by
  have e : (#[entV x] ++ #[] : Array Value) = #[entV x] := by simp
  rw [e]
  exact is4_any x w
/-- The three asked of a list told. -/
theorem just2 (t : Int) (h : Nat) (L : List E) (w : World) (hb bm n : Nat) (v : Value) (hc : w.cell? ⟨hb, 0, none⟩ = some (.map (some bm))) (hbl : hb < w.heap.size) (hm : MapS kkE w bm n L) (hnd : L.Nodup) (hok : ∀ x ∈ L, okE x) (hG : IsE w v (L.filter fun e => hasB e.a e.b t)) (hs : Srt L) (hl : L.length ≤ 1000) (ht : w.cell? ⟨h, 0, none⟩ = some (.int .u64 t)) (hh : h < w.heap.size) :
    Calls Try.prog 25 #[v, .func (.func 27) #[] #[.pointer (some ⟨h, 0, none⟩)], .pointer (some ⟨hb, 0, none⟩)] w fun e w' => e = .returned (.bool true) ∧ Below w.heap.size w w' :=
  just_any _ _ eg2 (fun e => hasB e.a e.b t) L _ w hb bm n v hc hbl hm hnd hok hG rfl (hs.filter _) hl (fun V y hV => is2_app y t h V ((hV.cell (p := ⟨h, 0, none⟩) hh).trans ht) (Nat.lt_of_lt_of_le hh hV.size))
theorem just3 (p p' : Int) (h : Nat) (L : List E) (w : World) (hb bm n : Nat) (v : Value) (hc : w.cell? ⟨hb, 0, none⟩ = some (.map (some bm))) (hbl : hb < w.heap.size) (hm : MapS kkE w bm n L) (hnd : L.Nodup) (hok : ∀ x ∈ L, okE x) (hG : IsE w v (L.filter fun e => meetB e.a e.b p p')) (hs : Srt L) (hl : L.length ≤ 1000) (ht : w.cell? ⟨h, 0, none⟩ = some (.int .u64 p)) (ht2 : w.cell? ⟨h, 1, none⟩ = some (.int .u64 p')) (hh : h < w.heap.size) :
    Calls Try.prog 25 #[v, .func (.func 29) #[] #[.pointer (some ⟨h, 0, none⟩)], .pointer (some ⟨hb, 0, none⟩)] w fun e w' => e = .returned (.bool true) ∧ Below w.heap.size w w' :=
  just_any _ _ eg3 (fun e => meetB e.a e.b p p') L _ w hb bm n v hc hbl hm hnd hok hG rfl (hs.filter _) hl (fun V y hV => is3_app y p p' h V ((hV.cell (p := ⟨h, 0, none⟩) hh).trans ht) ((hV.cell (p := ⟨h, 1, none⟩) hh).trans ht2) (Nat.lt_of_lt_of_le hh hV.size))
theorem just4 (L : List E) (w : World) (hb bm n : Nat) (v : Value) (hc : w.cell? ⟨hb, 0, none⟩ = some (.map (some bm))) (hbl : hb < w.heap.size) (hm : MapS kkE w bm n L) (hnd : L.Nodup) (hok : ∀ x ∈ L, okE x) (hG : IsE w v L) (hs : Srt L) (hl : L.length ≤ 1000) :
    Calls Try.prog 25 #[v, .func (.func 31) #[] #[], .pointer (some ⟨hb, 0, none⟩)] w fun e w' => e = .returned (.bool true) ∧ Below w.heap.size w w' :=
  just_any _ _ eg4 (fun _ => true) L L w hb bm n v hc hbl hm hnd hok hG (List.filter_eq_self.2 (fun _ _ => rfl)) hs hl (fun V y _ => is4_app y V)
set_option maxRecDepth 100000 in
set_option maxHeartbeats 4000000 in
theorem Finds_walk (A B : Option Addr) (n m c d : Nat) (f : Nat → Int × Int) (fb : Nat → Bool) (qa qb : Int) (hqa : 0 ≤ qa ∧ qa ≤ 18446744073709551615) (hqb : 0 ≤ qb ∧ qb ≤ 18446744073709551615) (w : World) (hA : PAt2 w A n f) (hB : BAt w B m fb) (hm : m ≤ 140737488355328) : Calls Try.prog 4 #[.slice A n c, .slice B m d, .agg #[.int .u64 qa, .int .u64 qb]] w fun e w' => e = .returned (.bool true) ∧ Below w.heap.size w w' := by
  obtain ⟨V0, hV0⟩ : ∃ V, w.alloc (.cells #[.int .u64 qa, .int .u64 qb] 32) = V := ⟨_, rfl⟩
  have b1 : Below w.heap.size w V0 := by rw [← hV0]; exact (Below.refl _ _).alloc (Nat.le_refl _) _
  have C0 := Lib.hid (show V0.cell? ⟨w.heap.size, 0, none⟩ = some (.int .u64 qa) ∧ V0.cell? ⟨w.heap.size, 1, none⟩ = some (.int .u64 qb) ∧ w.heap.size < V0.heap.size by
    have pb : Box V0 w.heap.size qa qb := by rw [← hV0]; exact box_at w qa qb _ _ rfl
    exact ⟨pb.c0, pb.c1, by rw [← hV0]; simp⟩)
  have B1 := Lib.hid b1
  have HA := Lib.hid hA
  have HB := Lib.hid hB
  have HQ := Lib.hid (And.intro hqa hqb)
  clear b1 hA hB hqa hqb
  go_enter Try.func4, Try.ntmps4
  go_upto_region 1 with fail
  try rw [hV0]
  clear hV0
  generalize hhq : w.heap.size = hq at C0
  go_wp2_with fail
  refine (cNew _).mono ?_
  rintro e0 w1 ⟨q, R, rfl, t1, b1, f1⟩
  have T1 := Lib.hid t1
  have B2 := Lib.hid b1
  clear t1 b1
  go_wp2_with fail
  refine (awake_any _).mono ?_
  rintro e0 w2 ⟨rfl, b2⟩
  obtain ⟨V, hV⟩ : ∃ V, (w2.alloc (.map #[] 0)).alloc (.cells #[.map (some w2.heap.size)] 51) = V := ⟨_, rfl⟩
  have FS := Lib.hid (fs_start (qa := qa) (qb := qb) B1.out (T1.out.below b2) f1 (B2.out.trans (b2.mono B2.out.size)) hq C0.out.2.2 C0.out.1 C0.out.2.1 hV.symm)
  clear b2 f1 T1 B2 C0
  have hmm := @run_makeMap Try.prog
  go_upto_block 0 with fail
  try rw [hV]
  clear hV hmm
  generalize w2.heap.size + 1 = hb at *
  generalize w2.heap.size = bm at *
  go_cut [9, 10, 11, 12] from 26 to 61 (fun _ _ _ _ w' => Fs w w' hq hb q bm qa qb 120)
  case first => as_aux_lemma =>
    go_wp2_with fail
    go_loopw [26] (fun v wr => ∃ i : Nat, v = .int .i64 i ∧ i ≤ n ∧ i ≤ 120 ∧ Fs w wr hq hb q bm qa qb i) (fun v _ => n - (intOf v).toNat)
    case atStart => exact ⟨0, rfl, Nat.zero_le _, Nat.zero_le _, FS.out⟩
    case round =>
      clear FS
      obtain ⟨i, rfl, hi, hi2, hfs⟩ := hrel
      have FS := Lib.hid hfs
      clear hfs
      by_cases hin : i < n
      · obtain ⟨b, off, rfl, hb', hc⟩ := (HA.out.below FS.out.since) (by omega)
        obtain ⟨z0, z1, z2, z3⟩ := hc i hin
        generalize (f i).1 = pa at *
        generalize (f i).2 = pb at *
        have i0 : (i : Int) < (n : Int) := by omega
        have i1 : (0 : Int) ≤ (i : Int) := by omega
        clear hc hb'
        by_cases h120 : i = 120
        · subst h120
          go_wp2
          go_meet
          case rel => exact FS.out.below ((Below.refl _ _).alloc (Nat.le_refl _) _)
        · have e1 : ((i : Int) == 120) = false := by simp; omega
          have e2 : ¬ (i : Int) = 120 := by omega
          have e3 : (i : Int).tmod 5 = (i : Int) % 5 := Int.tmod_eq_emod_of_nonneg i1
          have e4 : IntKind.u64.wrap ((i : Int) % 5) = (i : Int) % 5 := by rw [IntKind.wrap_u64]; omega
          have e5 : 0 ≤ (i : Int) % 5 ∧ (i : Int) % 5 < 5 := by omega
          go_upto_region 10 with fail
          obtain ⟨X, hX⟩ : ∃ X, (wr.alloc (.cells #[.int .u64 pa, .int .u64 pb] 32)).alloc (.cells #[.int .u64 pa, .int .u64 pb, .int .u64 ((i : Int) % 5)] 53) = X := ⟨_, rfl⟩
          obtain ⟨L, nn, hL, hnn, okL, fx, cx, bx⟩ := fs_boxes FS.out pa pb ((i : Int) % 5) X hX
          have OKL := Lib.hid okL
          have FX := Lib.hid fx
          have CX := Lib.hid cx
          have BX := Lib.hid bx
          try rw [hX]
          clear hX fx cx bx FS okL z0 z1
          generalize wr.heap.size + 1 = he at *
          generalize wr.heap.size = hp at *
          obtain ⟨p0, p1, q0, q1, q2⟩ := BX.out
          have okx : okE ⟨pa, pb, (i : Int) % 5⟩ := ⟨z2, z3, by show 0 ≤ (i : Int) % 5; omega, by show (i : Int) % 5 ≤ _; omega⟩
          go_wp2_with fail
          refine (fdInsert ⟨pa, pb, (i : Int) % 5⟩ FX.out z2.1 (by omega)).mono ?_
          rintro e1 w3 ⟨rfl, F1, s1⟩
          have C1 := Lib.hid (CX.out.same s1 (by simp) (by simp))
          have B1 := Lib.hid (BX.out.same s1 (by simp) (by simp))
          have MY := Lib.hid FX.out.may
          clear p0 p1 q0 q1 q2 s1 CX BX FX
          obtain ⟨p0, p1, q0, q1, q2⟩ := B1.out
          have g0 := C1.out.2.2
          cases hm : mayB pa pb with
          | false =>
            have r1 : insR ⟨pa, pb, (i : Int) % 5⟩ L = 1 := by simp [insR, hm]
            have r2 : insL ⟨pa, pb, (i : Int) % 5⟩ L = L := by simp [insL, hm]
            have hn : (⟨pa, pb, (i : Int) % 5⟩ : E) ∉ L := fun h => by have := MY.out _ h; rw [hm] at this; cases this
            rw [r1]
            clear r1
            rw [r2] at F1
            clear r2
            go_wp2_with fail
            refine (May_any pa pb _).mono ?_
            rintro e2 w4 ⟨rfl, b4⟩
            rw [hm]
            have S4 := SameX.of_below b4 F1.x
            have F2 := Lib.hid (F1.below b4)
            have C2 := Lib.hid (C1.out.same S4 (by simp) (by simp))
            have B2 := Lib.hid (B1.out.same S4 (by simp) (by simp))
            clear F1 C1 B1 S4 b4 p0 p1 q0 q1 q2 g0
            obtain ⟨p0, p1, q0, q1, q2⟩ := B2.out
            have g0 := C2.out.2.2
            have lk := fdLook ⟨pa, pb, (i : Int) % 5⟩ F2.out okx
            rw [if_neg hn] at lk
            clear hn hm MY
            go_wp2_with fail
            go_roundw
            case rel => exact ⟨i + 1, by go_num, by omega, by omega, L, nn, by omega, by omega, OKL.out, F2.out.pop (by simp), C2.out⟩
            case measure => simp [intOf]; omega
          | true =>
            by_cases hx : (⟨pa, pb, (i : Int) % 5⟩ : E) ∈ L
            · have r1 : insR ⟨pa, pb, (i : Int) % 5⟩ L = 9 := by simp [insR, hm, hx]
              have r2 : insL ⟨pa, pb, (i : Int) % 5⟩ L = L := by simp [insL, hm, hx]
              rw [r1]
              clear r1
              rw [r2] at F1
              clear r2
              go_wp2_with fail
              refine (May_any pa pb _).mono ?_
              rintro e2 w4 ⟨rfl, b4⟩
              rw [hm]
              have S4 := SameX.of_below b4 F1.x
              have F2 := Lib.hid (F1.below b4)
              have C2 := Lib.hid (C1.out.same S4 (by simp) (by simp))
              have B2 := Lib.hid (B1.out.same S4 (by simp) (by simp))
              clear F1 C1 B1 S4 b4 p0 p1 q0 q1 q2 g0
              obtain ⟨p0, p1, q0, q1, q2⟩ := B2.out
              have g0 := C2.out.2.2
              have lk := fdLook ⟨pa, pb, (i : Int) % 5⟩ F2.out okx
              rw [if_pos hx] at lk
              clear hx hm MY
              go_wp2_with fail
              go_roundw
              case rel => exact ⟨i + 1, by go_num, by omega, by omega, L, nn, by omega, by omega, OKL.out, F2.out.pop (by simp), C2.out⟩
              case measure => simp [intOf]; omega
            · have r1 : insR ⟨pa, pb, (i : Int) % 5⟩ L = 0 := by simp [insR, hm, hx]
              have r2 : insL ⟨pa, pb, (i : Int) % 5⟩ L = put ⟨pa, pb, (i : Int) % 5⟩ L := by simp [insL, hm, hx]
              rw [r1]
              clear r1
              rw [r2] at F1
              clear r2
              go_wp2_with fail
              refine (May_any pa pb _).mono ?_
              rintro e2 w4 ⟨rfl, b4⟩
              rw [hm]
              have S4 := SameX.of_below b4 F1.x
              have F2 := Lib.hid (F1.below b4)
              have C2 := Lib.hid (C1.out.same S4 (by simp) (by simp))
              have B2 := Lib.hid (B1.out.same S4 (by simp) (by simp))
              clear F1 C1 B1 S4 b4 p0 p1 q0 q1 q2 g0
              obtain ⟨p0, p1, q0, q1, q2⟩ := B2.out
              have g0 := C2.out.2.2
              have lk := fdLook ⟨pa, pb, (i : Int) % 5⟩ F2.out okx
              rw [if_neg hx] at lk
              obtain ⟨w5, hput, f5, s5⟩ := fdPut ⟨pa, pb, (i : Int) % 5⟩ F2.out okx (by unfold maxLen; omega)
              have hax : addK (⟨pa, pb, (i : Int) % 5⟩ : E) L = ⟨pa, pb, (i : Int) % 5⟩ :: L := by simp [addK, hx]
              rw [hax] at f5
              have F5 := Lib.hid ((f5.same (K' := put ⟨pa, pb, (i : Int) % 5⟩ L) (fun y => by rw [put_mem, List.mem_cons]) (by rw [put_len, List.length_cons])).pop (X' := [hb, hq]) (by simp))
              have C5 := Lib.hid (C2.out.same s5 (by simp) (by simp))
              have PO := Lib.hid (show ∀ y ∈ put ⟨pa, pb, (i : Int) % 5⟩ L, okE y from fun y hy => by
                rcases (put_mem _ L y).1 hy with rfl | hy
                · exact okx
                · exact OKL.out y hy)
              have PL := put_len (⟨pa, pb, (i : Int) % 5⟩ : E) L
              clear hx hm MY hax f5 s5 okx
              go_wp2_with fail
              go_roundw
              case rel => exact ⟨i + 1, by go_num, by omega, by omega, _, nn + 1, by omega, by omega, PO.out, F5.out, C5.out⟩
              case measure => simp [intOf]; omega
      · obtain rfl : i = n := by omega
        go_wp2
        go_meet
        case rel => exact FS.out.mono hi2
  case rest =>
    have FS2 := Lib.hid hcut
    clear hcut FS
    go_wp2_with fail
    go_loopw [64] (fun v wr => ∃ j : Nat, v = .int .i64 j ∧ j ≤ m ∧ Fs w wr hq hb q bm qa qb 120) (fun v _ => m - (intOf v).toNat)
    case atStart => exact ⟨0, rfl, Nat.zero_le _, FS2.out⟩
    case round =>
      clear FS2
      obtain ⟨j, rfl, hj, hfs⟩ := hrel
      have FS := Lib.hid hfs
      clear hfs
      by_cases hjm : j < m
      · obtain ⟨b2, off2, rfl, hb2, hc2⟩ := (HB.out.below FS.out.since) (by omega)
        have y0 := hc2 j hjm
        have j0 : (j : Int) < (m : Int) := by omega
        have j1 : (0 : Int) ≤ (j : Int) := by omega
        clear hc2 hb2
        by_cases hjn : j < n
        · by_cases h120 : j < 120
          · cases hg : fb j with
            | false =>
              rw [hg] at y0
              have d1 : decide ((j : Int) < (n : Int)) = true := by simp; omega
              have d2 : decide ((j : Int) < 120) = true := by simp; omega
              clear hg
              go_wp2_with fail
              go_roundw
              case rel => exact ⟨j + 1, by go_num, by omega, FS.out⟩
              case measure => simp [intOf]; omega
            | true =>
              rw [hg] at y0
              have d1 : decide ((j : Int) < (n : Int)) = true := by simp; omega
              have d2 : decide ((j : Int) < 120) = true := by simp; omega
              obtain ⟨b, off, rfl, hb', hc⟩ := (HA.out.below FS.out.since) (by omega)
              obtain ⟨z0, z1, z2, z3⟩ := hc j hjn
              generalize (f j).1 = pa at *
              generalize (f j).2 = pb at *
              have j2 : (j : Int) < (n : Int) := by omega
              have e3 : (j : Int).tmod 5 = (j : Int) % 5 := Int.tmod_eq_emod_of_nonneg j1
              have e4 : IntKind.u64.wrap ((j : Int) % 5) = (j : Int) % 5 := by rw [IntKind.wrap_u64]; omega
              have e5 : 0 ≤ (j : Int) % 5 ∧ (j : Int) % 5 < 5 := by omega
              clear hc hb' hg
              go_upto_region 21 with fail
              obtain ⟨X, hX⟩ : ∃ X, wr.alloc (.cells #[.int .u64 pa, .int .u64 pb, .int .u64 ((j : Int) % 5)] 53) = X := ⟨_, rfl⟩
              obtain ⟨L, nn, hL, hnn, okL, fx, cx, ex⟩ := fs_box FS.out pa pb ((j : Int) % 5) X hX
              have OKL := Lib.hid okL
              have FX := Lib.hid fx
              have CX := Lib.hid cx
              have BX := Lib.hid (show Ex X wr.heap.size pa pb ((j : Int) % 5) from ⟨ex.c0, ex.c1, ex.c2⟩)
              have ND := Lib.hid fx.nodup
              try rw [hX]
              clear hX fx cx ex FS okL z0 z1 y0
              generalize wr.heap.size = he at *
              obtain ⟨q0, q1, q2⟩ := BX.out
              have okx : okE ⟨pa, pb, (j : Int) % 5⟩ := ⟨z2, z3, by show 0 ≤ (j : Int) % 5; omega, by show (j : Int) % 5 ≤ _; omega⟩
              go_wp2_with fail
              refine (fdDelete ⟨pa, pb, (j : Int) % 5⟩ FX.out (by omega)).mono ?_
              rintro e1 w3 ⟨rfl, f1, s1⟩
              have F1 := Lib.hid f1
              have C1 := Lib.hid (CX.out.same s1 (by simp) (by simp))
              have B2 := Lib.hid (BX.out.same s1 (by simp))
              clear q0 q1 q2 s1 CX BX FX f1
              obtain ⟨q0, q1, q2⟩ := B2.out
              have g0 := C1.out.2.2
              by_cases hx : (⟨pa, pb, (j : Int) % 5⟩ : E) ∈ L
              ·
                have r1 : delR ⟨pa, pb, (j : Int) % 5⟩ L = 0 := by simp [delR, hx]
                have lk := fdLook ⟨pa, pb, (j : Int) % 5⟩ F1.out okx
                rw [if_pos hx] at lk
                rw [r1]
                clear r1 hx
                obtain ⟨w5, hdrop, f5, s5⟩ := fdDrop ⟨pa, pb, (j : Int) % 5⟩ F1.out okx ND.out
                have F5 := Lib.hid (f5.pop (X' := [hb, hq]) (by simp))
                have C5 := Lib.hid (C1.out.same s5 (by simp) (by simp))
                have DL := delL_len' (⟨pa, pb, (j : Int) % 5⟩ : E) L
                clear f5 s5 okx
                go_wp2_with fail
                go_roundw
                case rel => exact ⟨j + 1, by go_num, by omega, _, nn, by omega, hnn, delOk _ OKL.out, F5.out, C5.out⟩
                case measure => simp [intOf]; omega
              ·
                have r1 : delR ⟨pa, pb, (j : Int) % 5⟩ L = 6 := by simp [delR, hx]
                have lk := fdLook ⟨pa, pb, (j : Int) % 5⟩ F1.out okx
                rw [if_neg hx] at lk
                rw [r1]
                clear r1 hx
                obtain ⟨w5, hdrop, f5, s5⟩ := fdDrop ⟨pa, pb, (j : Int) % 5⟩ F1.out okx ND.out
                have F5 := Lib.hid (f5.pop (X' := [hb, hq]) (by simp))
                have C5 := Lib.hid (C1.out.same s5 (by simp) (by simp))
                have DL := delL_len' (⟨pa, pb, (j : Int) % 5⟩ : E) L
                clear f5 s5 okx
                go_wp2_with fail
                go_roundw
                case rel => exact ⟨j + 1, by go_num, by omega, _, nn, by omega, hnn, delOk _ OKL.out, F5.out, C5.out⟩
                case measure => simp [intOf]; omega
          · have d1 : decide ((j : Int) < (n : Int)) = true := by simp; omega
            have d2 : decide ((j : Int) < 120) = false := by simp; omega
            go_wp2_with fail
            go_roundw
            case rel => exact ⟨j + 1, by go_num, by omega, FS.out⟩
            case measure => simp [intOf]; omega
        · have d1 : decide ((j : Int) < (n : Int)) = false := by simp; omega
          go_wp2_with fail
          go_roundw
          case rel => exact ⟨j + 1, by go_num, by omega, FS.out⟩
          case measure => simp [intOf]; omega
      · obtain rfl : j = m := by omega
        obtain ⟨L, nn, hL, hnn, okL, fd, cx⟩ := FS.out
        have OKL := Lib.hid okL
        have FD := Lib.hid fd
        have CX := Lib.hid cx
        clear FS okL fd cx
        have q0 := CX.out.1
        have q1 := CX.out.2.1
        go_wp2_with fail
        obtain ⟨W5, hW5⟩ : ∃ W5, wr.alloc (.cells #[.int .u64 qa, .int .u64 qb, .int .u64 (IntKind.u64.wrap (qb - 1))] 30) = W5 := ⟨_, rfl⟩
        have b5 : Below wr.heap.size wr W5 := by rw [← hW5]; exact (Below.refl _ _).alloc (Nat.le_refl _) _
        have TS := Lib.hid (show ∀ i, i < 3 → ∃ t, (0 ≤ t ∧ t ≤ 18446744073709551615) ∧ W5.cell? ⟨wr.heap.size, i, none⟩ = some (.int .u64 t) by
          intro i hi
          rw [← hW5]
          match i, hi with
          | 0, _ => exact ⟨qa, HQ.out.1, World.cell?_alloc_new _ _ _ 0⟩
          | 1, _ => exact ⟨qb, HQ.out.2, World.cell?_alloc_new _ _ _ 1⟩
          | 2, _ => exact ⟨IntKind.u64.wrap (qb - 1), by rw [IntKind.wrap_u64]; omega, World.cell?_alloc_new _ _ _ 2⟩)
        have SB := Lib.hid (show wr.heap.size < W5.heap.size by rw [← hW5]; simp)
        have FE := Lib.hid (FD.out.below b5)
        have CE := Lib.hid (CX.out.below ⟨FD.out.x hq (by simp), FD.out.x hb (by simp)⟩ b5)
        have XL := Lib.hid (show hq < W5.heap.size ∧ hb < W5.heap.size from ⟨FE.out.x hq (by simp), FE.out.x hb (by simp)⟩)
        try rw [hW5]
        clear hW5 b5 q0 q1 FD CX
        generalize wr.heap.size = sb at *
        go_loopw [115] (fun v wq => ∃ i : Nat, v = .int .i64 i ∧ i ≤ 3 ∧ Below W5.heap.size W5 wq) (fun v _ => 3 - (intOf v).toNat)
        case atStart => exact ⟨0, rfl, by omega, Below.refl _ _⟩
        case round =>
          obtain ⟨i, rfl, hi, hbw⟩ := hrel
          have BW := Lib.hid hbw
          clear hbw
          have FD := Lib.hid (FE.out.below BW.out)
          have CX := Lib.hid (CE.out.below XL.out BW.out)
          by_cases hi3 : i < 3
          · obtain ⟨t, ht, hz⟩ := TS.out i hi3
            have z0 := (BW.out.cell (p := ⟨sb, i, none⟩) SB.out).trans hz
            have i0 : (i : Int) < 3 := by omega
            have i1 : (0 : Int) ≤ (i : Int) := by omega
            clear hz
            go_upto_region 30 with fail
            obtain ⟨X, hX⟩ : ∃ X, wr.alloc (.cells #[.int .u64 t] 30) = X := ⟨_, rfl⟩
            have bx : Below wr.heap.size wr X := by rw [← hX]; exact (Below.refl _ _).alloc (Nat.le_refl _) _
            have t0 : X.cell? ⟨wr.heap.size, 0, none⟩ = some (.int .u64 t) := by rw [← hX]; exact World.cell?_alloc_new _ _ _ 0
            have tl : wr.heap.size < X.heap.size := by rw [← hX]; simp
            have FX := Lib.hid (FD.out.below bx)
            have BX := Lib.hid (BW.out.trans (bx.mono BW.out.size))
            have TT := Lib.hid (And.intro t0 tl)
            try rw [hX]
            clear hX bx z0 FD CX tl
            generalize wr.heap.size = ha at *
            go_wp2_with fail
            refine (fdStab t ht FX.out (by omega)).mono ?_
            rintro e1 w3 ⟨v, rfl, o3, b3⟩
            have F3 := Lib.hid (FX.out.below b3)
            have B3 := Lib.hid (BX.out.trans (b3.mono BX.out.size))
            have T3 := Lib.hid (And.intro ((b3.cell (p := ⟨ha, 0, none⟩) TT.out.2).trans TT.out.1) (Nat.lt_of_lt_of_le TT.out.2 b3.size))
            have O3 := Lib.hid o3
            clear o3 b3 t0
            go_wp2_with fail
            refine (just2 t ha L w3 hb bm nn v ((CE.out.below XL.out B3.out).2.2) (Nat.lt_of_lt_of_le XL.out.2 B3.out.size) F3.out.map F3.out.nodup OKL.out O3.out F3.out.srt (by omega) T3.out.1 T3.out.2).mono ?_
            rintro e2 w4 ⟨rfl, b4⟩
            have B4 := Lib.hid (B3.out.trans (b4.mono B3.out.size))
            clear b4
            go_wp2_with fail
            go_roundw
            case rel => exact ⟨i + 1, by go_num, by omega, B4.out⟩
            case measure => simp [intOf]; omega
          · obtain rfl : i = 3 := by omega
            have q0 := CX.out.1
            have q1 := CX.out.2.1
            have g0 := CX.out.2.2
            go_upto_region 34 with fail
            have F0 := Lib.hid (FD.out.below (Below.refl _ _).drew)
            have KC := Lib.hid (fun (w' : World) (h : Below wr.heap.size wr w') => show w'.cell? ⟨hq, 0, none⟩ = some (.int .u64 qa) ∧ w'.cell? ⟨hq, 1, none⟩ = some (.int .u64 qb) ∧ w'.cell? ⟨hb, 0, none⟩ = some (.map (some bm)) ∧ (Builtin.len_ #[51] 3 #[.map (some bm)]).run Try.prog w' = .ok (.int .i64 L.length) w' from ⟨(CX.out.below ⟨FD.out.x hq (by simp), FD.out.x hb (by simp)⟩ h).1, (CX.out.below ⟨FD.out.x hq (by simp), FD.out.x hb (by simp)⟩ h).2.1, (CX.out.below ⟨FD.out.x hq (by simp), FD.out.x hb (by simp)⟩ h).2.2, MapS.len (FD.out.map.below h) _⟩)
            have KL := Lib.hid (show hq < wr.heap.size ∧ hb < wr.heap.size from ⟨FD.out.x hq (by simp), FD.out.x hb (by simp)⟩)
            clear q0 q1 g0
            go_region_held3 (fun w' => w'.cell? ⟨hq, 0, none⟩ = some (.int .u64 qa) ∧ w'.cell? ⟨hq, 1, none⟩ = some (.int .u64 qb) ∧ w'.cell? ⟨hb, 0, none⟩ = some (.map (some bm)) ∧ (Builtin.len_ #[51] 3 #[.map (some bm)]).run Try.prog w' = .ok (.int .i64 L.length) w') (first | exact KC.out _ (Below.refl _ _).drew | exact KC.out _ B4.out | exact KC.out _ B3.out | exact KC.out _ B2.out | exact KC.out _ B1.out) (first
                | (go_at_call 16; (go_split_ands; (with_reducible refine (fdOverlap qa qb F0.out (by omega)).mono ?_); rintro e1 w1 ⟨v1, rfl, o1, b1⟩; have O1 := Lib.hid o1; have B1 := Lib.hid (show Below wr.heap.size wr w1 from (Below.refl _ _).drew.trans b1); have F1 := Lib.hid (F0.out.below b1); clear o1 b1))
                | (go_at_call 25; (go_split_ands; (refine (just3 qa qb hq L _ hb bm nn v1 ((KC.out _ B1.out).2.2.1) (Nat.lt_of_lt_of_le KL.out.2 B1.out.size) F1.out.map F1.out.nodup OKL.out O1.out F1.out.srt (by omega) (KC.out _ B1.out).1 (KC.out _ B1.out).2.1 (Nat.lt_of_lt_of_le KL.out.1 B1.out.size)).mono ?_); rintro e2 w2 ⟨rfl, b2⟩; have B2 := Lib.hid (B1.out.trans (b2.mono B1.out.size)); have F2 := Lib.hid (F1.out.below b2); clear b2 O1 B1 F1))
                | (go_at_call 20; (go_split_ands; (with_reducible refine (fdAll F2.out (by omega)).mono ?_); rintro e3 w3 ⟨v3, rfl, o3, b3⟩; have O3 := Lib.hid o3; have B3 := Lib.hid (B2.out.trans (b3.mono B2.out.size)); have F3 := Lib.hid (F2.out.below b3); clear o3 b3 B2 F2))
                | (go_at_call 25; (go_split_ands; (refine (just4 L _ hb bm nn v3 ((KC.out _ B3.out).2.2.1) (Nat.lt_of_lt_of_le KL.out.2 B3.out.size) F3.out.map F3.out.nodup OKL.out O3.out F3.out.srt (by omega)).mono ?_); rintro e4 w4 ⟨rfl, b4⟩; have B4 := Lib.hid (B3.out.trans (b4.mono B3.out.size)); have F4 := Lib.hid (F3.out.below b4); clear b4 O3 B3 F3))
                | (go_at_call 21; (go_split_ands; (with_reducible refine (fdLen F4.out).mono ?_); rintro e5 w5 ⟨rfl, rfl⟩))
                | fail)
            all_goals (
              go_wp2_with fail
              go_ret
              exact ⟨rfl, F4.out.since⟩)
end Go.Proofs.Ytbifgmamjdniaaa
