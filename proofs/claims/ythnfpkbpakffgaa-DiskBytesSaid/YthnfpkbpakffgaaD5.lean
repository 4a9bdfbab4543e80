/- The awake test. -/
import Derived.Test.YthnfpkbpakffgaaD4
import Derived.Lib.SlBytesConst
namespace Go.Proofs.Ythnfpkbpakffgaa
open Go.RowKit Go.Maps Go.Sort Go.Shelf
open Disk (Nm Fl DS Up ins del upd fnd okName okByte used Wf fileR createR createD appendR appendD syncR syncD fuseR fuseD crashD newD)
section
variable {w : World} {ds : List (Nat × DS)} {K : Nat → Prop} {i p : Nat} {d : DS}
theorem at_new' (w : World) (cs : Array Value) (mk : Nat × Nat) (l : List UInt8) (h : cs.toList = cellsB l) : At (w.alloc (.cells cs 5 mk)) (some ⟨w.heap.size, 0, none⟩) l := by
  intro _
  refine ⟨w.heap.size, 0, rfl, by simp, fun i hi => ?_⟩
  rw [cell_of_row _ _ _ _ _ _ (heap_alloc_new w _)]
  rw [← Array.getElem?_toList, h]
  simp [cellsB, List.getD, hi]
theorem kAppendLit (h : Many w ds K) (hi : ds[i]? = some (p, d)) (s : ByteArray) (mk : Nat × Nat) (cs : Array Value) (l : List UInt8) (n : Nat) (hc : cs.toList = cellsB l) (hn : l.length = n) (hm : n ≤ maxLen) : Calls Try.prog 14 #[.pointer (some ⟨p, 0, none⟩), .string s, .slice (some ⟨w.heap.size, 0, none⟩) n n] (w.alloc (.cells cs 5 mk)) fun r w' => r = .returned (.int .i64 (appendR (nmOf s) l d)) ∧ Turned w ds K i p (appendD (nmOf s) l d) w' := by
  have hb : Below w.heap.size w (w.alloc (.cells cs 5 mk)) := (Below.refl _ _).alloc (Nat.le_refl _) _
  have h1 : Many (w.alloc (.cells cs 5 mk)) ds (fun b => K b ∨ b = w.heap.size) := h.keep hb fun b hb => hb.imp id fun e => by simp; omega
  refine (kAppend h1 hi s (some ⟨w.heap.size, 0, none⟩) n n l (at_new' w cs mk l hc) hn (fun h => by cases h) hm (fun _ bb off e => by cases e; exact .inr rfl)).mono ?_
  rintro r w' ⟨e, g1, g2⟩
  exact ⟨e, g1.less fun b hb => .inl hb, (Kept.of_below hb).trans (But.sub g2 fun b hb hk => hb (.inl hk))⟩
theorem kCrashLit (h : Many w ds K) (hi : ds[i]? = some (p, d)) (q : Nat) (t : UInt8) (hq : q ≤ 65535) : Calls Try.prog 17 #[.pointer (some ⟨p, 0, none⟩), .slice (some ⟨w.heap.size, 0, none⟩) 1 1, .slice (some ⟨w.heap.size + 1, 0, none⟩) 1 1] ((w.alloc (.cells #[.int .u16 q] 54)).alloc (.cells #[.int .u8 t.toNat] 5)) fun r w' => r = .returned (.int .i64 0) ∧ Turned w ds K i p (crashD [q] [t] d) w' := by
  have hb : Below w.heap.size w (w.alloc (.cells #[.int .u16 q] 54)) := (Below.refl _ _).alloc (Nat.le_refl _) _
  have s1 : (w.alloc (.cells #[.int .u16 q] 54)).heap.size = w.heap.size + 1 := by simp
  have x1 : (w.alloc (.cells #[.int .u16 q] 54)).cell? ⟨w.heap.size, 0, none⟩ = some (.int .u16 q) := cell_new _ _ _
  obtain ⟨W1, hW1⟩ : ∃ W1, w.alloc (.cells #[.int .u16 q] 54) = W1 := ⟨_, rfl⟩
  rw [hW1] at hb s1 x1 ⊢
  have hb2 : Below W1.heap.size W1 (W1.alloc (.cells #[.int .u8 t.toNat] 5)) := (Below.refl _ _).alloc (Nat.le_refl _) _
  have s2 : (W1.alloc (.cells #[.int .u8 t.toNat] 5)).heap.size = W1.heap.size + 1 := by simp
  have a2 := at_new W1 #[.int .u8 t.toNat] [t] rfl
  obtain ⟨W2, hW2⟩ : ∃ W2, W1.alloc (.cells #[.int .u8 t.toNat] 5) = W2 := ⟨_, rfl⟩
  rw [hW2] at hb2 s2 a2 ⊢
  have h2 : Many W2 ds (fun b => K b ∨ b = w.heap.size ∨ b = w.heap.size + 1) := h.keep (below_then hb hb2) fun b hb => hb.imp id fun e => by omega
  have hp : PAt W2 (some ⟨w.heap.size, 0, none⟩) [q] := by
    refine ⟨fun i => ?_, fun _ => ⟨w.heap.size, 0, rfl, by omega, fun i hi => ?_⟩⟩
    · cases i with
      | zero => exact hq
      | succ i => exact Nat.zero_le _
    · have h0 : i = 0 := by simp at hi; omega
      subst h0
      exact (hb2.cell (p := ⟨w.heap.size, 0, none⟩) (by show w.heap.size < W1.heap.size; omega)).trans x1
  rw [s1] at a2
  refine (kCrash h2 hi (some ⟨w.heap.size, 0, none⟩) 1 1 [q] hp rfl (by simp [maxLen]) (fun _ bb off e => by cases e; exact .inr (.inl rfl)) (some ⟨w.heap.size + 1, 0, none⟩) 1 1 [t] a2 rfl (by simp [maxLen]) (fun _ bb off e => by cases e; exact .inr (.inr rfl))).mono ?_
  rintro r w' ⟨e, g1, g2⟩
  exact ⟨e, g1.less fun b hb => .inl hb, (Kept.of_below (below_then hb hb2)).trans (But.sub g2 fun b hb hk => hb (.inl hk))⟩
end
theorem make6 (W : World) : (Instr.makeSlice 32 (.int .i64 6) (.int .i64 6)).run Try.prog W = .ok (.slice (some ⟨W.heap.size, 0, none⟩) 6 6) (W.alloc (.cells #[.int .u8 0, .int .u8 0, .int .u8 0, .int .u8 0, .int .u8 0, .int .u8 0] 5)) := by kernel_rfl
def d0 : DS := newD 10
def d1 : DS := ⟨[⟨[97], [], 0⟩], 10, -1, false⟩
def d2 : DS := ⟨[⟨[97], [97, 98, 99], 0⟩], 10, -1, false⟩
def d3 : DS := ⟨[⟨[97], [97, 98, 99], 3⟩], 10, -1, false⟩
def d4 : DS := ⟨[⟨[97], [97, 98, 99, 100, 101, 102, 103], 3⟩], 10, -1, false⟩
def d5 : DS := ⟨[⟨[97], [97, 98, 99, 100, 100], 5⟩], 10, -1, false⟩
def d7 : DS := ⟨[⟨[97], [97, 98, 99, 100, 100], 5⟩], 10, 1, false⟩
def d8 : DS := ⟨[⟨[97], [97, 98, 99, 100, 100], 5⟩, ⟨[98], [], 0⟩], 10, 0, false⟩
def d9 : DS := ⟨[⟨[97], [97, 98, 99, 100, 100], 5⟩, ⟨[98], [], 0⟩], 10, -1, true⟩
theorem fact_c1 : createR (nmOf ⟨#[97]⟩) d0 = 0 ∧ createD (nmOf ⟨#[97]⟩) d0 = d1 := by exact ⟨by kernel_rfl, by kernel_rfl⟩
theorem fact_c2 : appendR (nmOf ⟨#[97]⟩) [97, 98, 99] d1 = 0 ∧ appendD (nmOf ⟨#[97]⟩) [97, 98, 99] d1 = d2 := by exact ⟨by kernel_rfl, by kernel_rfl⟩
theorem fact_c3 : syncR (nmOf ⟨#[97]⟩) d2 = 0 ∧ syncD (nmOf ⟨#[97]⟩) d2 = d3 := by exact ⟨by kernel_rfl, by kernel_rfl⟩
theorem fact_c4 : appendR (nmOf ⟨#[97]⟩) [100, 101, 102, 103] d3 = 0 ∧ appendD (nmOf ⟨#[97]⟩) [100, 101, 102, 103] d3 = d4 := by exact ⟨by kernel_rfl, by kernel_rfl⟩
theorem fact_c5 : crashD [2] [1] d4 = d5 := by kernel_rfl
theorem fact_c6 : appendR (nmOf ⟨#[97]⟩) [0, 0, 0, 0, 0, 0] d5 = 7 ∧ appendD (nmOf ⟨#[97]⟩) [0, 0, 0, 0, 0, 0] d5 = d5 := by exact ⟨by kernel_rfl, by kernel_rfl⟩
theorem fact_c7 : fuseR 1 d5 = 0 ∧ fuseD 1 d5 = d7 := by exact ⟨by kernel_rfl, by kernel_rfl⟩
theorem fact_c8 : createR (nmOf ⟨#[98]⟩) d7 = 0 ∧ createD (nmOf ⟨#[98]⟩) d7 = d8 := by exact ⟨by kernel_rfl, by kernel_rfl⟩
theorem fact_c9 : createR (nmOf ⟨#[99]⟩) d8 = 8 ∧ createD (nmOf ⟨#[99]⟩) d8 = d9 := by exact ⟨by kernel_rfl, by kernel_rfl⟩
theorem fact_e1 : fileR (nmOf ⟨#[97]⟩) d5 = 0 ∧ readB (nmOf ⟨#[97]⟩) d5 = [97, 98, 99, 100, 100] := by exact ⟨by kernel_rfl, by kernel_rfl⟩
theorem fact_e2 : fileR (nmOf ⟨#[97]⟩) d9 = 8 := by kernel_rfl
theorem conv_same (w : World) (C : Array Value) (n c : Nat) : (convert 32 32 (.slice (some ⟨w.heap.size, 0, none⟩) n c)).run Try.prog (w.alloc (.cells C 5)) = .ok (.slice (some ⟨w.heap.size, 0, none⟩) n c) (w.alloc (.cells C 5 (C.size, C.size + 1))) := Lib.run_convert_bytes_const w _ _ C n c Try.underlying32 Try.underlying5
theorem step_to {w0 w : World} {p : Nat} {d d' : DS} {x y : Int} {F : FuncId} {args : Array Value} {W : World} (hb : Below w0.heap.size w0 w)
    (h : Calls Try.prog F args W fun r w' => r = .returned (.int .i64 x) ∧ Turned w [(p, d)] (fun b => b < w0.heap.size) 0 p d' w') (hx : x = y) {e : DS} (he : d' = e) :
    Calls Try.prog F args W fun r w' => r = .returned (.int .i64 y) ∧ Many w' [(p, e)] (fun b => b < w0.heap.size) ∧ Below w0.heap.size w0 w' := by
  subst hx he
  exact h.mono fun r w' ⟨e, g1, g2⟩ => ⟨e, g1, hb.trans (g2.below (fun b hb => hb) hb.size)⟩
set_option maxRecDepth 100000 in
set_option maxHeartbeats 2000000 in
/-- The awake test: true, in every world. -/
theorem wakes_any (w : World) : Calls Try.prog 11 #[] w fun r w' => r = .returned (.bool true) ∧ Below w.heap.size w w' := by
  have N := Lib.hid (New_yes 10 w (by omega) (by omega))
  have cvs := conv_same
  go_enter Try.func11, Try.ntmps11
  go_wp2_with fail
  refine N.out.mono ?_
  rintro r0 w0 ⟨p, S0, rfl, hI, hS, hb⟩
  have T0 := Lib.hid (show Many w0 [(p, d0)] (fun b => b < w.heap.size) from many_one hI hS hb fun b h => h)
  have B0 := Lib.hid hb
  clear hI hS hb N
  have C1 := Lib.hid (step_to B0.out (kCreate T0.out (i := 0) rfl ⟨#[97]⟩) fact_c1.1 fact_c1.2)
  go_wp2_with fail
  refine C1.out.mono ?_
  rintro r1 w1 ⟨rfl, t1, b1⟩
  have T1 := Lib.hid t1
  have B1 := Lib.hid b1
  clear t1 b1 C1 T0 B0
  have C2 := Lib.hid (step_to B1.out (kAppendLit T1.out (i := 0) rfl ⟨#[97]⟩ (3, 4) #[.int .u8 97, .int .u8 98, .int .u8 99] [97, 98, 99] 3 rfl rfl (by simp [maxLen])) fact_c2.1 fact_c2.2)
  go_wp2_with fail
  refine C2.out.mono ?_
  rintro r2 w2 ⟨rfl, t2, b2⟩
  have T2 := Lib.hid t2
  have B2 := Lib.hid b2
  clear t2 b2 C2 T1 B1
  have C3 := Lib.hid (step_to B2.out (kSync T2.out (i := 0) rfl ⟨#[97]⟩) fact_c3.1 fact_c3.2)
  go_wp2_with fail
  refine C3.out.mono ?_
  rintro r3 w3 ⟨rfl, t3, b3⟩
  have T3 := Lib.hid t3
  have B3 := Lib.hid b3
  clear t3 b3 C3 T2 B2
  have C4 := Lib.hid (step_to B3.out (kAppendLit T3.out (i := 0) rfl ⟨#[97]⟩ (4, 5) #[.int .u8 100, .int .u8 101, .int .u8 102, .int .u8 103] [100, 101, 102, 103] 4 rfl rfl (by simp [maxLen])) fact_c4.1 fact_c4.2)
  go_wp2_with fail
  refine C4.out.mono ?_
  rintro r4 w4 ⟨rfl, t4, b4⟩
  have T4 := Lib.hid t4
  have B4 := Lib.hid b4
  clear t4 b4 C4 T3 B3
  have C5 := Lib.hid (step_to B4.out (kCrashLit T4.out (i := 0) rfl 2 1 (by omega)) rfl fact_c5)
  go_wp2_with fail
  refine C5.out.mono ?_
  rintro r5 w5 ⟨rfl, t5, b5⟩
  have T5 := Lib.hid t5
  have B5 := Lib.hid b5
  clear t5 b5 C5 T4 B4
  have R1 := Lib.hid (kRead T5.out (i := 0) rfl ⟨#[97]⟩)
  rw [fact_e1.1, fact_e1.2] at R1
  go_wp2_with fail
  refine R1.out.mono ?_
  rintro r6 w6 ⟨v, rfl, ho, hb⟩
  obtain ⟨A, c, rfl, hA, _, _⟩ := own_slice ho
  have T6 := Lib.hid (T5.out.below hb)
  have B6 := Lib.hid (B5.out.trans (hb.mono B5.out.size))
  have cv : (convert 32 9 (.slice A 5 c)).run Try.prog w6 = .ok (.string ⟨#[97, 98, 99, 100, 100]⟩) w6 := conv_text w6 A [97, 98, 99, 100, 100] c hA
  clear ho hb T5 B5 R1 hA
  have mk := make6 w6
  have C7 := Lib.hid (step_to B6.out (kAppendLit T6.out (i := 0) rfl ⟨#[97]⟩ (0, 0) #[.int .u8 0, .int .u8 0, .int .u8 0, .int .u8 0, .int .u8 0, .int .u8 0] [0, 0, 0, 0, 0, 0] 6 rfl rfl (by simp [maxLen])) fact_c6.1 fact_c6.2)
  go_wp2_with fail
  refine C7.out.mono ?_
  rintro r7 w7 ⟨rfl, t7, b7⟩
  have T7 := Lib.hid t7
  have B7 := Lib.hid b7
  clear t7 b7 C7 T6 B6
  have C8 := Lib.hid (step_to B7.out (kFuse T7.out (i := 0) rfl 1 (by omega)) fact_c7.1 fact_c7.2)
  go_wp2_with fail
  refine C8.out.mono ?_
  rintro r8 w8 ⟨rfl, t8, b8⟩
  have T8 := Lib.hid t8
  have B8 := Lib.hid b8
  clear t8 b8 C8 T7 B7
  have C9 := Lib.hid (step_to B8.out (kCreate T8.out (i := 0) rfl ⟨#[98]⟩) fact_c8.1 fact_c8.2)
  go_wp2_with fail
  refine C9.out.mono ?_
  rintro r9 w9 ⟨rfl, t9, b9⟩
  have T9 := Lib.hid t9
  have B9 := Lib.hid b9
  clear t9 b9 C9 T8 B8
  have C10 := Lib.hid (step_to B9.out (kCreate T9.out (i := 0) rfl ⟨#[99]⟩) fact_c9.1 fact_c9.2)
  go_wp2_with fail
  refine C10.out.mono ?_
  rintro r10 w10 ⟨rfl, t10, b10⟩
  have T10 := Lib.hid t10
  have B10 := Lib.hid b10
  clear t10 b10 C10 T9 B9
  have R2 := Lib.hid (kRead T10.out (i := 0) rfl ⟨#[97]⟩)
  rw [fact_e2] at R2
  go_wp2_with fail
  refine R2.out.mono ?_
  rintro r11 w11 ⟨v, rfl, ho, hb⟩
  have T11 := Lib.hid (T10.out.below hb)
  have B11 := Lib.hid (B10.out.trans (hb.mono B10.out.size))
  clear ho hb T10 B10 R2
  have O := Lib.hid (kOn T11.out (i := 0) rfl)
  go_wp2_with fail
  refine O.out.mono ?_
  rintro r12 w12 ⟨rfl, rfl⟩
  go_wp2_with fail
  go_ret
  exact ⟨rfl, B11.out⟩
end Go.Proofs.Ythnfpkbpakffgaa
