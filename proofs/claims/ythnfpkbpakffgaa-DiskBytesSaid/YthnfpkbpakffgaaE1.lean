/- What a call asks for; the law's function run. -/
import Derived.Test.YthnfpkbpakffgaaD5
namespace Go.Proofs.Ythnfpkbpakffgaa
open Go.RowKit Go.Maps Go.Sort Go.Shelf
open Disk (Nm Fl DS Up ins del upd fnd okName okByte used Wf fileR createR createD appendR appendD syncR syncD renameR renameD truncR truncD removeR removeD quotaR quotaD fuseR fuseD crashD)
/-- A call. -/
structure Opp where
  what : Int
  nm : ByteArray
  tn : ByteArray
  n : Int
  A : Option Addr
  nb : Nat
  cb : Nat
  b : List UInt8
  P : Option Addr
  np : Nat
  cp : Nat
  ps : List Nat
def Opp.cells (o : Opp) : Array Value := #[.int .i64 o.what, .string o.nm, .string o.tn, .int .i64 o.n, .slice o.A o.nb o.cb, .slice o.P o.np o.cp]
/-- What is so of a call that came in. -/
structure OpOk (w : World) (K : Nat → Prop) (o : Opp) : Prop where
  hA : At w o.A o.b
  lA : o.b.length = o.nb
  zA : o.A = none → o.cb = 0
  mA : o.nb ≤ maxLen
  kA : 0 < o.b.length → ∀ bb off, o.A = some ⟨bb, off, none⟩ → K bb
  hP : PAt w o.P o.ps
  lP : o.ps.length = o.np
  mP : o.np ≤ maxLen
  kP : 0 < o.ps.length → ∀ bb off, o.P = some ⟨bb, off, none⟩ → K bb
  n1 : o.n ≤ 9223372036854775807
theorem OpOk.kept {w w' : World} {K : Nat → Prop} {o : Opp} (h : OpOk w K o) (hb : Kept K w w') : OpOk w' K o :=
  ⟨h.hA.but hb fun h0 bb off e hn => hn (h.kA h0 bb off e), h.lA, h.zA, h.mA, h.kA, h.hP.but hb fun h0 bb off e hn => hn (h.kP h0 bb off e), h.lP, h.mP, h.kP, h.n1⟩
theorem OpOk.more {w : World} {K K' : Nat → Prop} {o : Opp} (h : OpOk w K o) (hk : ∀ b, K b → K' b) : OpOk w K' o :=
  ⟨h.hA, h.lA, h.zA, h.mA, fun h0 bb off e => hk _ (h.kA h0 bb off e), h.hP, h.lP, h.mP, fun h0 bb off e => hk _ (h.kP h0 bb off e), h.n1⟩
def runR (o : Opp) (d : DS) : Int :=
  if o.what = 0 then createR (nmOf o.nm) d else if o.what = 1 ∨ o.what = 2 then appendR (nmOf o.nm) o.b d else if o.what = 3 then syncR (nmOf o.nm) d else if o.what = 4 then renameR (nmOf o.nm) (nmOf o.tn) d
  else if o.what = 5 then truncR (nmOf o.nm) o.n d else if o.what = 6 then removeR (nmOf o.nm) d else if o.what = 7 then quotaR o.n else if o.what = 8 then fuseR o.n d else 0
def runD (o : Opp) (d : DS) : DS :=
  if o.what = 0 then createD (nmOf o.nm) d else if o.what = 1 ∨ o.what = 2 then appendD (nmOf o.nm) o.b d else if o.what = 3 then syncD (nmOf o.nm) d else if o.what = 4 then renameD (nmOf o.nm) (nmOf o.tn) d
  else if o.what = 5 then truncD (nmOf o.nm) o.n d else if o.what = 6 then removeD (nmOf o.nm) d else if o.what = 7 then quotaD o.n d else if o.what = 8 then fuseD o.n d else crashD o.ps o.b d
/-- Six cells in a block. -/
def Cells6 (w : World) (b off : Nat) (o : Opp) : Prop :=
  w.cell? ⟨b, off, none⟩ = some (.int .i64 o.what) ∧ w.cell? ⟨b, off + 1, none⟩ = some (.string o.nm) ∧ w.cell? ⟨b, off + 2, none⟩ = some (.string o.tn) ∧ w.cell? ⟨b, off + 3, none⟩ = some (.int .i64 o.n) ∧ w.cell? ⟨b, off + 4, none⟩ = some (.slice o.A o.nb o.cb) ∧ w.cell? ⟨b, off + 5, none⟩ = some (.slice o.P o.np o.cp)
theorem Cells6.but {T : Nat → Prop} {w w' : World} {b off : Nat} {o : Opp} (h : Cells6 w b off o) (hl : b < w.heap.size) (hb : But T w w') (hn : ¬ T b) : Cells6 w' b off o :=
  ⟨(hb.cell b off hl hn).trans h.1, (hb.cell b _ hl hn).trans h.2.1, (hb.cell b _ hl hn).trans h.2.2.1, (hb.cell b _ hl hn).trans h.2.2.2.1, (hb.cell b _ hl hn).trans h.2.2.2.2.1, (hb.cell b _ hl hn).trans h.2.2.2.2.2⟩
theorem cells6_new (w : World) (o : Opp) : Cells6 (w.alloc (.cells o.cells 35)) w.heap.size 0 o := by
  unfold Opp.cells
  refine ⟨?_, ?_, ?_, ?_, ?_, ?_⟩ <;> go_simp
section
variable {w : World} {ds : List (Nat × DS)} {K : Nat → Prop} {i p : Nat} {d : DS}
set_option maxRecDepth 100000 in
theorem run_create (h : Many w ds K) (hi : ds[i]? = some (p, d)) (o : Opp) (ho : OpOk w K o) (hw : o.what = 0) :
    Calls Try.prog 22 #[.pointer (some ⟨p, 0, none⟩), .agg o.cells] w fun r w' => r = .returned (.int .i64 (runR o d)) ∧ Turned w ds K i p (runD o d) w' := by
  have hb : Below w.heap.size w (w.alloc (.cells o.cells 35)) := (Below.refl _ _).alloc (Nat.le_refl _) _
  obtain ⟨e0, e1, e2, e3, e4, e5⟩ := cells6_new w o
  have hm := h.below hb
  have hk := ho.kept (Kept.of_below hb)
  obtain ⟨W, hW⟩ : ∃ W, w.alloc (.cells o.cells 35) = W := ⟨_, rfl⟩
  rw [hW] at hb e0 e1 e2 e3 e4 e5 hm hk
  have C := Lib.hid (kCreate hm hi o.nm)
  have HR := Lib.hid (show runR o d = createR (nmOf o.nm) d ∧ runD o d = createD (nmOf o.nm) d by constructor <;> simp [runR, runD, hw])
  rw [hw] at e0
  clear hw
  have HB := Lib.hid hb
  clear hm hk hb h ho
  obtain ⟨x0, hx0⟩ : ∃ x, o.cells = x := ⟨_, rfl⟩
  rw [hx0] at hW ⊢
  clear hx0
  go_enter Try.func22, Try.ntmps22
  go_wp2_with fail
  try rw [hW]
  refine C.out.mono ?_
  rintro r w' ⟨rfl, g1, g2⟩
  have G := Lib.hid (And.intro g1 g2)
  clear g1 g2 C
  go_wp2_with fail
  go_ret
  rw [HR.out.1, HR.out.2]
  exact ⟨rfl, G.out.1, (Kept.of_below HB.out).trans G.out.2⟩
set_option maxRecDepth 100000 in
theorem run_append1 (h : Many w ds K) (hi : ds[i]? = some (p, d)) (o : Opp) (ho : OpOk w K o) (hw : o.what = 1) :
    Calls Try.prog 22 #[.pointer (some ⟨p, 0, none⟩), .agg o.cells] w fun r w' => r = .returned (.int .i64 (runR o d)) ∧ Turned w ds K i p (runD o d) w' := by
  have hb : Below w.heap.size w (w.alloc (.cells o.cells 35)) := (Below.refl _ _).alloc (Nat.le_refl _) _
  obtain ⟨e0, e1, e2, e3, e4, e5⟩ := cells6_new w o
  have hm := h.below hb
  have hk := ho.kept (Kept.of_below hb)
  obtain ⟨W, hW⟩ : ∃ W, w.alloc (.cells o.cells 35) = W := ⟨_, rfl⟩
  rw [hW] at hb e0 e1 e2 e3 e4 e5 hm hk
  have C := Lib.hid (kAppend hm hi o.nm o.A o.nb o.cb o.b hk.hA hk.lA hk.zA hk.mA hk.kA)
  have HR := Lib.hid (show runR o d = appendR (nmOf o.nm) o.b d ∧ runD o d = appendD (nmOf o.nm) o.b d by constructor <;> simp [runR, runD, hw])
  rw [hw] at e0
  clear hw
  have HB := Lib.hid hb
  clear hm hk hb h ho
  obtain ⟨x0, hx0⟩ : ∃ x, o.cells = x := ⟨_, rfl⟩
  rw [hx0] at hW ⊢
  clear hx0
  go_enter Try.func22, Try.ntmps22
  go_wp2_with fail
  try rw [hW]
  refine C.out.mono ?_
  rintro r w' ⟨rfl, g1, g2⟩
  have G := Lib.hid (And.intro g1 g2)
  clear g1 g2 C
  go_wp2_with fail
  go_ret
  rw [HR.out.1, HR.out.2]
  exact ⟨rfl, G.out.1, (Kept.of_below HB.out).trans G.out.2⟩
set_option maxRecDepth 100000 in
theorem run_append2 (h : Many w ds K) (hi : ds[i]? = some (p, d)) (o : Opp) (ho : OpOk w K o) (hw : o.what = 2) :
    Calls Try.prog 22 #[.pointer (some ⟨p, 0, none⟩), .agg o.cells] w fun r w' => r = .returned (.int .i64 (runR o d)) ∧ Turned w ds K i p (runD o d) w' := by
  have hb : Below w.heap.size w (w.alloc (.cells o.cells 35)) := (Below.refl _ _).alloc (Nat.le_refl _) _
  obtain ⟨e0, e1, e2, e3, e4, e5⟩ := cells6_new w o
  have hm := h.below hb
  have hk := ho.kept (Kept.of_below hb)
  obtain ⟨W, hW⟩ : ∃ W, w.alloc (.cells o.cells 35) = W := ⟨_, rfl⟩
  rw [hW] at hb e0 e1 e2 e3 e4 e5 hm hk
  have C := Lib.hid (kAppend hm hi o.nm o.A o.nb o.cb o.b hk.hA hk.lA hk.zA hk.mA hk.kA)
  have HR := Lib.hid (show runR o d = appendR (nmOf o.nm) o.b d ∧ runD o d = appendD (nmOf o.nm) o.b d by constructor <;> simp [runR, runD, hw])
  rw [hw] at e0
  clear hw
  have HB := Lib.hid hb
  clear hm hk hb h ho
  obtain ⟨x0, hx0⟩ : ∃ x, o.cells = x := ⟨_, rfl⟩
  rw [hx0] at hW ⊢
  clear hx0
  go_enter Try.func22, Try.ntmps22
  go_wp2_with fail
  try rw [hW]
  refine C.out.mono ?_
  rintro r w' ⟨rfl, g1, g2⟩
  have G := Lib.hid (And.intro g1 g2)
  clear g1 g2 C
  go_wp2_with fail
  go_ret
  rw [HR.out.1, HR.out.2]
  exact ⟨rfl, G.out.1, (Kept.of_below HB.out).trans G.out.2⟩
set_option maxRecDepth 100000 in
theorem run_sync (h : Many w ds K) (hi : ds[i]? = some (p, d)) (o : Opp) (ho : OpOk w K o) (hw : o.what = 3) :
    Calls Try.prog 22 #[.pointer (some ⟨p, 0, none⟩), .agg o.cells] w fun r w' => r = .returned (.int .i64 (runR o d)) ∧ Turned w ds K i p (runD o d) w' := by
  have hb : Below w.heap.size w (w.alloc (.cells o.cells 35)) := (Below.refl _ _).alloc (Nat.le_refl _) _
  obtain ⟨e0, e1, e2, e3, e4, e5⟩ := cells6_new w o
  have hm := h.below hb
  have hk := ho.kept (Kept.of_below hb)
  obtain ⟨W, hW⟩ : ∃ W, w.alloc (.cells o.cells 35) = W := ⟨_, rfl⟩
  rw [hW] at hb e0 e1 e2 e3 e4 e5 hm hk
  have C := Lib.hid (kSync hm hi o.nm)
  have HR := Lib.hid (show runR o d = syncR (nmOf o.nm) d ∧ runD o d = syncD (nmOf o.nm) d by constructor <;> simp [runR, runD, hw])
  rw [hw] at e0
  clear hw
  have HB := Lib.hid hb
  clear hm hk hb h ho
  obtain ⟨x0, hx0⟩ : ∃ x, o.cells = x := ⟨_, rfl⟩
  rw [hx0] at hW ⊢
  clear hx0
  go_enter Try.func22, Try.ntmps22
  go_wp2_with fail
  try rw [hW]
  refine C.out.mono ?_
  rintro r w' ⟨rfl, g1, g2⟩
  have G := Lib.hid (And.intro g1 g2)
  clear g1 g2 C
  go_wp2_with fail
  go_ret
  rw [HR.out.1, HR.out.2]
  exact ⟨rfl, G.out.1, (Kept.of_below HB.out).trans G.out.2⟩
set_option maxRecDepth 100000 in
theorem run_rename (h : Many w ds K) (hi : ds[i]? = some (p, d)) (o : Opp) (ho : OpOk w K o) (hw : o.what = 4) :
    Calls Try.prog 22 #[.pointer (some ⟨p, 0, none⟩), .agg o.cells] w fun r w' => r = .returned (.int .i64 (runR o d)) ∧ Turned w ds K i p (runD o d) w' := by
  have hb : Below w.heap.size w (w.alloc (.cells o.cells 35)) := (Below.refl _ _).alloc (Nat.le_refl _) _
  obtain ⟨e0, e1, e2, e3, e4, e5⟩ := cells6_new w o
  have hm := h.below hb
  have hk := ho.kept (Kept.of_below hb)
  obtain ⟨W, hW⟩ : ∃ W, w.alloc (.cells o.cells 35) = W := ⟨_, rfl⟩
  rw [hW] at hb e0 e1 e2 e3 e4 e5 hm hk
  have C := Lib.hid (kRename hm hi o.nm o.tn)
  have HR := Lib.hid (show runR o d = renameR (nmOf o.nm) (nmOf o.tn) d ∧ runD o d = renameD (nmOf o.nm) (nmOf o.tn) d by constructor <;> simp [runR, runD, hw])
  rw [hw] at e0
  clear hw
  have HB := Lib.hid hb
  clear hm hk hb h ho
  obtain ⟨x0, hx0⟩ : ∃ x, o.cells = x := ⟨_, rfl⟩
  rw [hx0] at hW ⊢
  clear hx0
  go_enter Try.func22, Try.ntmps22
  go_wp2_with fail
  try rw [hW]
  refine C.out.mono ?_
  rintro r w' ⟨rfl, g1, g2⟩
  have G := Lib.hid (And.intro g1 g2)
  clear g1 g2 C
  go_wp2_with fail
  go_ret
  rw [HR.out.1, HR.out.2]
  exact ⟨rfl, G.out.1, (Kept.of_below HB.out).trans G.out.2⟩
set_option maxRecDepth 100000 in
theorem run_trunc (h : Many w ds K) (hi : ds[i]? = some (p, d)) (o : Opp) (ho : OpOk w K o) (hw : o.what = 5) :
    Calls Try.prog 22 #[.pointer (some ⟨p, 0, none⟩), .agg o.cells] w fun r w' => r = .returned (.int .i64 (runR o d)) ∧ Turned w ds K i p (runD o d) w' := by
  have hb : Below w.heap.size w (w.alloc (.cells o.cells 35)) := (Below.refl _ _).alloc (Nat.le_refl _) _
  obtain ⟨e0, e1, e2, e3, e4, e5⟩ := cells6_new w o
  have hm := h.below hb
  have hk := ho.kept (Kept.of_below hb)
  obtain ⟨W, hW⟩ : ∃ W, w.alloc (.cells o.cells 35) = W := ⟨_, rfl⟩
  rw [hW] at hb e0 e1 e2 e3 e4 e5 hm hk
  have C := Lib.hid (kTruncate hm hi o.nm o.n)
  have HR := Lib.hid (show runR o d = truncR (nmOf o.nm) o.n d ∧ runD o d = truncD (nmOf o.nm) o.n d by constructor <;> simp [runR, runD, hw])
  rw [hw] at e0
  clear hw
  have HB := Lib.hid hb
  clear hm hk hb h ho
  obtain ⟨x0, hx0⟩ : ∃ x, o.cells = x := ⟨_, rfl⟩
  rw [hx0] at hW ⊢
  clear hx0
  go_enter Try.func22, Try.ntmps22
  go_wp2_with fail
  try rw [hW]
  refine C.out.mono ?_
  rintro r w' ⟨rfl, g1, g2⟩
  have G := Lib.hid (And.intro g1 g2)
  clear g1 g2 C
  go_wp2_with fail
  go_ret
  rw [HR.out.1, HR.out.2]
  exact ⟨rfl, G.out.1, (Kept.of_below HB.out).trans G.out.2⟩
set_option maxRecDepth 100000 in
theorem run_remove (h : Many w ds K) (hi : ds[i]? = some (p, d)) (o : Opp) (ho : OpOk w K o) (hw : o.what = 6) :
    Calls Try.prog 22 #[.pointer (some ⟨p, 0, none⟩), .agg o.cells] w fun r w' => r = .returned (.int .i64 (runR o d)) ∧ Turned w ds K i p (runD o d) w' := by
  have hb : Below w.heap.size w (w.alloc (.cells o.cells 35)) := (Below.refl _ _).alloc (Nat.le_refl _) _
  obtain ⟨e0, e1, e2, e3, e4, e5⟩ := cells6_new w o
  have hm := h.below hb
  have hk := ho.kept (Kept.of_below hb)
  obtain ⟨W, hW⟩ : ∃ W, w.alloc (.cells o.cells 35) = W := ⟨_, rfl⟩
  rw [hW] at hb e0 e1 e2 e3 e4 e5 hm hk
  have C := Lib.hid (kRemove hm hi o.nm)
  have HR := Lib.hid (show runR o d = removeR (nmOf o.nm) d ∧ runD o d = removeD (nmOf o.nm) d by constructor <;> simp [runR, runD, hw])
  rw [hw] at e0
  clear hw
  have HB := Lib.hid hb
  clear hm hk hb h ho
  obtain ⟨x0, hx0⟩ : ∃ x, o.cells = x := ⟨_, rfl⟩
  rw [hx0] at hW ⊢
  clear hx0
  go_enter Try.func22, Try.ntmps22
  go_wp2_with fail
  try rw [hW]
  refine C.out.mono ?_
  rintro r w' ⟨rfl, g1, g2⟩
  have G := Lib.hid (And.intro g1 g2)
  clear g1 g2 C
  go_wp2_with fail
  go_ret
  rw [HR.out.1, HR.out.2]
  exact ⟨rfl, G.out.1, (Kept.of_below HB.out).trans G.out.2⟩
set_option maxRecDepth 100000 in
theorem run_quota (h : Many w ds K) (hi : ds[i]? = some (p, d)) (o : Opp) (ho : OpOk w K o) (hw : o.what = 7) :
    Calls Try.prog 22 #[.pointer (some ⟨p, 0, none⟩), .agg o.cells] w fun r w' => r = .returned (.int .i64 (runR o d)) ∧ Turned w ds K i p (runD o d) w' := by
  have hb : Below w.heap.size w (w.alloc (.cells o.cells 35)) := (Below.refl _ _).alloc (Nat.le_refl _) _
  obtain ⟨e0, e1, e2, e3, e4, e5⟩ := cells6_new w o
  have hm := h.below hb
  have hk := ho.kept (Kept.of_below hb)
  obtain ⟨W, hW⟩ : ∃ W, w.alloc (.cells o.cells 35) = W := ⟨_, rfl⟩
  rw [hW] at hb e0 e1 e2 e3 e4 e5 hm hk
  have C := Lib.hid (kQuota hm hi o.n)
  have HR := Lib.hid (show runR o d = quotaR o.n ∧ runD o d = quotaD o.n d by constructor <;> simp [runR, runD, hw])
  rw [hw] at e0
  clear hw
  have HB := Lib.hid hb
  clear hm hk hb h ho
  obtain ⟨x0, hx0⟩ : ∃ x, o.cells = x := ⟨_, rfl⟩
  rw [hx0] at hW ⊢
  clear hx0
  go_enter Try.func22, Try.ntmps22
  go_wp2_with fail
  try rw [hW]
  refine C.out.mono ?_
  rintro r w' ⟨rfl, g1, g2⟩
  have G := Lib.hid (And.intro g1 g2)
  clear g1 g2 C
  go_wp2_with fail
  go_ret
  rw [HR.out.1, HR.out.2]
  exact ⟨rfl, G.out.1, (Kept.of_below HB.out).trans G.out.2⟩
set_option maxRecDepth 100000 in
theorem run_fuse (h : Many w ds K) (hi : ds[i]? = some (p, d)) (o : Opp) (ho : OpOk w K o) (hw : o.what = 8) :
    Calls Try.prog 22 #[.pointer (some ⟨p, 0, none⟩), .agg o.cells] w fun r w' => r = .returned (.int .i64 (runR o d)) ∧ Turned w ds K i p (runD o d) w' := by
  have hb : Below w.heap.size w (w.alloc (.cells o.cells 35)) := (Below.refl _ _).alloc (Nat.le_refl _) _
  obtain ⟨e0, e1, e2, e3, e4, e5⟩ := cells6_new w o
  have hm := h.below hb
  have hk := ho.kept (Kept.of_below hb)
  obtain ⟨W, hW⟩ : ∃ W, w.alloc (.cells o.cells 35) = W := ⟨_, rfl⟩
  rw [hW] at hb e0 e1 e2 e3 e4 e5 hm hk
  have C := Lib.hid (kFuse hm hi o.n hk.n1)
  have HR := Lib.hid (show runR o d = fuseR o.n d ∧ runD o d = fuseD o.n d by constructor <;> simp [runR, runD, hw])
  rw [hw] at e0
  clear hw
  have HB := Lib.hid hb
  clear hm hk hb h ho
  obtain ⟨x0, hx0⟩ : ∃ x, o.cells = x := ⟨_, rfl⟩
  rw [hx0] at hW ⊢
  clear hx0
  go_enter Try.func22, Try.ntmps22
  go_wp2_with fail
  try rw [hW]
  refine C.out.mono ?_
  rintro r w' ⟨rfl, g1, g2⟩
  have G := Lib.hid (And.intro g1 g2)
  clear g1 g2 C
  go_wp2_with fail
  go_ret
  rw [HR.out.1, HR.out.2]
  exact ⟨rfl, G.out.1, (Kept.of_below HB.out).trans G.out.2⟩
set_option maxRecDepth 100000 in
theorem run_crash (h : Many w ds K) (hi : ds[i]? = some (p, d)) (o : Opp) (ho : OpOk w K o) (hw : o.what ≠ 0 ∧ o.what ≠ 1 ∧ o.what ≠ 2 ∧ o.what ≠ 3 ∧ o.what ≠ 4 ∧ o.what ≠ 5 ∧ o.what ≠ 6 ∧ o.what ≠ 7 ∧ o.what ≠ 8) :
    Calls Try.prog 22 #[.pointer (some ⟨p, 0, none⟩), .agg o.cells] w fun r w' => r = .returned (.int .i64 (runR o d)) ∧ Turned w ds K i p (runD o d) w' := by
  have hb : Below w.heap.size w (w.alloc (.cells o.cells 35)) := (Below.refl _ _).alloc (Nat.le_refl _) _
  obtain ⟨e0, e1, e2, e3, e4, e5⟩ := cells6_new w o
  have hm := h.below hb
  have hk := ho.kept (Kept.of_below hb)
  obtain ⟨W, hW⟩ : ∃ W, w.alloc (.cells o.cells 35) = W := ⟨_, rfl⟩
  rw [hW] at hb e0 e1 e2 e3 e4 e5 hm hk
  have C := Lib.hid (kCrash hm hi o.P o.np o.cp o.ps hk.hP hk.lP hk.mP hk.kP o.A o.nb o.cb o.b hk.hA hk.lA hk.mA hk.kA)
  have HR := Lib.hid (show runR o d = 0 ∧ runD o d = crashD o.ps o.b d by
    obtain ⟨n0, n1, n2, n3, n4, n5, n6, n7, n8⟩ := hw
    constructor <;> simp [runR, runD, n0, n1, n2, n3, n4, n5, n6, n7, n8])
  obtain ⟨n0, n1, n2, n3, n4, n5, n6, n7, n8⟩ := hw
  have m0 : (o.what == 0) = false := by simpa using n0
  have m1 : (o.what == 1) = false := by simpa using n1
  have m2 : (o.what == 2) = false := by simpa using n2
  have m3 : (o.what == 3) = false := by simpa using n3
  have m4 : (o.what == 4) = false := by simpa using n4
  have m5 : (o.what == 5) = false := by simpa using n5
  have m6 : (o.what == 6) = false := by simpa using n6
  have m7 : (o.what == 7) = false := by simpa using n7
  have m8 : (o.what == 8) = false := by simpa using n8
  clear n0 n1 n2 n3 n4 n5 n6 n7 n8
  have HB := Lib.hid hb
  clear hm hk hb h ho
  obtain ⟨x0, hx0⟩ : ∃ x, o.cells = x := ⟨_, rfl⟩
  rw [hx0] at hW ⊢
  clear hx0
  go_enter Try.func22, Try.ntmps22
  go_wp2_with fail
  try rw [hW]
  refine C.out.mono ?_
  rintro r w' ⟨rfl, g1, g2⟩
  have G := Lib.hid (And.intro g1 g2)
  clear g1 g2 C
  go_wp2_with fail
  go_ret
  rw [HR.out.1, HR.out.2]
  exact ⟨rfl, G.out.1, (Kept.of_below HB.out).trans G.out.2⟩
theorem run_any (h : Many w ds K) (hi : ds[i]? = some (p, d)) (o : Opp) (ho : OpOk w K o) :
    Calls Try.prog 22 #[.pointer (some ⟨p, 0, none⟩), .agg o.cells] w fun r w' => r = .returned (.int .i64 (runR o d)) ∧ Turned w ds K i p (runD o d) w' := by
  by_cases n0 : o.what = 0
  · exact run_create h hi o ho n0
  by_cases n1 : o.what = 1
  · exact run_append1 h hi o ho n1
  by_cases n2 : o.what = 2
  · exact run_append2 h hi o ho n2
  by_cases n3 : o.what = 3
  · exact run_sync h hi o ho n3
  by_cases n4 : o.what = 4
  · exact run_rename h hi o ho n4
  by_cases n5 : o.what = 5
  · exact run_trunc h hi o ho n5
  by_cases n6 : o.what = 6
  · exact run_remove h hi o ho n6
  by_cases n7 : o.what = 7
  · exact run_quota h hi o ho n7
  by_cases n8 : o.what = 8
  · exact run_fuse h hi o ho n8
  exact run_crash h hi o ho ⟨n0, n1, n2, n3, n4, n5, n6, n7, n8⟩
end
end Go.Proofs.Ythnfpkbpakffgaa
