/- Mark, bytes.Equal, Strip: rows of bytes, sealed and opened. -/
import Derived.Test.YtbmhgmigcgeooaaDoorP2
import Derived.Test.YtbmhgmigcgeooaaDoorM2
namespace Go.Proofs.YtbmhgmigcgeooaaDoor
open Go.RowKit
/-- What a call gives back: a new slice of these bytes; all that lay there stays. -/
def Gives (w : World) (l : List UInt8) (e : Ending) (w' : World) : Prop :=
  ∃ cap, e = .returned (.slice (some ⟨w.heap.size, 0, none⟩) l.length cap) ∧ w'.ownsRow w.heap.size 5 1 (.slice (some ⟨w.heap.size, 0, none⟩) l.length cap) l.length (cellsB l) ∧ Below w.heap.size w w'
theorem Gives.mk {w w' : World} {l : List UInt8} {n cap : Nat} (hl : l.length = n) (h : w'.ownsRow w.heap.size 5 1 (.slice (some ⟨w.heap.size, 0, none⟩) n cap) n (cellsB l)) (hb : Below w.heap.size w w') :
    Gives w l (.returned (.slice (some ⟨w.heap.size, 0, none⟩) n cap)) w' := by
  subst hl
  exact ⟨cap, rfl, h, hb⟩
theorem Gives.at_ {w w' : World} {l : List UInt8} {cap : Nat} (h : w'.ownsRow w.heap.size 5 1 (.slice (some ⟨w.heap.size, 0, none⟩) l.length cap) l.length (cellsB l)) : At w' (some ⟨w.heap.size, 0, none⟩) l := own_at h
theorem cells_sumB (s : BitVec 32) : cellsB (sumB s) = [.int .u8 ((s.toNat : Int) / 16777216), .int .u8 ((s.toNat : Int) / 65536 % 256), .int .u8 ((s.toNat : Int) / 256 % 256), .int .u8 ((s.toNat : Int) % 256)] := by
  have h := s.isLt
  simp only [cellsB, sumB, List.map_cons, List.map_nil, bv, byteAt_toNat]
  congr 2
  · omega
  · simp
theorem at_four {w : World} {v0 v1 v2 v3 : Value} (s : BitVec 32) (h : cellsB (sumB s) = [v0, v1, v2, v3]) : At (w.alloc (.cells #[v0, v1, v2, v3] 5)) (some ⟨w.heap.size, 0, none⟩) (sumB s) := at_new w _ _ (by rw [h])
set_option maxRecDepth 100000 in
set_option maxHeartbeats 1000000 in
theorem Mark_any (A : Option Addr) (l : List UInt8) (cap : Nat) (w : World) (h : Env w) (hA : At w A l) (hz : A = none → cap = 0) (hm : l.length + 4 ≤ 140737488355328) :
    Calls Tryd.prog 23 #[.slice A l.length cap] w (Gives w (markL l)) := by
  obtain ⟨i0, hi, hz0, hz1, hz2⟩ := info_parts info8
  have C := Lib.hid (Sum_any A l cap w h hA (by omega))
  have HA := Lib.hid hA
  have h0 : A = none → l.length = 0 ∧ cap = 0 := fun e => ⟨by subst e; rw [hA.none_nil]; rfl, hz e⟩
  have H0 := Lib.hid h0
  have HB : Hid (i0.bytes * (l.length + 4) ≤ 281474976710656) := by rw [hz2]; show _ ≤ _; omega
  have HM : Hid (l.length + 4 ≤ maxLen) := by show _ ≤ _; unfold maxLen; omega
  have HS := Lib.hid (cells_sumB (moreV 0#32 l))
  have hs := (moreV 0#32 l).isLt
  clear h hA hz h0
  go_enter Tryd.func23, Tryd.ntmps23
  go_wp2_with (first
    | (go_at_call 30; ((refine (C.out).mono ?_); rintro e w' ⟨rfl, rfl⟩))
    | (at_make; refine wpList_make_own _ rfl _ _ _ rfl w.heap.size 5 i0 _ 1 Tryd.underlying22 hi hz0 hz1 .i64 .i64 _ (l.length + 4) rfl rfl (by omega) HB.out HM.out (Nat.le_refl _) ?_; intro w1 hown1 hg1; have HG1 := Lib.hid hg1; clear hg1)
    | (at_builtin; refine wpList_append_fits_any _ rfl _ _ _ rfl w.heap.size 5 i0 1 Tryd.underlying22 hi hz1 w.heap.size 0 (l.length + 4) [] rfl hown1 A l.length cap (cellsB l) rfl (by rw [cellsB_length]; omega) H0.out (fun ad h => At.cells (w := w1) (HA.out.grown HG1.out h)) (cellsB_one l) (by omega) ?_; intro w2 hown2 hg2; have HG2 := Lib.hid (((Below.refl _ _).grown HG1.out (Nat.le_refl _) (by simp)).grown hg2 HG1.out.size (by simp)); have H2 := Lib.hid hown2; clear hown2 hg2)
    | (at_builtin; refine wpList_append_fits_any _ rfl _ _ _ rfl w.heap.size 5 i0 1 Tryd.underlying22 hi hz1 w.heap.size l.length (l.length + 4) (cellsB l) rfl (by have h2 := H2.out; rw [Nat.zero_add, List.nil_append] at h2; exact h2.alloc _) _ 4 4 (cellsB (sumB (moreV 0#32 l))) rfl rfl (fun h => by cases h) (fun ad h => At.cells (h ▸ at_four _ HS.out)) (cellsB_one _) (by omega) ?_; intro w3 hown3 hg3))
  go_ret
  rw [← cellsB_append] at hown3
  refine Gives.mk (markL_length l) hown3 ?_
  exact (HG2.out.alloc HG2.out.size _).grown hg3 (by have := HG2.out.size; simp; omega) (by simp)
end Go.Proofs.YtbmhgmigcgeooaaDoor
