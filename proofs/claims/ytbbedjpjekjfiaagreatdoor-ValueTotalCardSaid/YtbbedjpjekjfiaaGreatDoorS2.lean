/- NumSums, walked: for every slice of whole numbers it answers true. -/
import Derived.Test.YtbbedjpjekjfiaaGreatDoorS1
namespace Go.Proofs.YtbbedjpjekjfiaaGreatDoor
open Go.RowKit
theorem CellsAt.take {w : World} {A : Option Addr} {zs : List Int} (h : CellsAt w A zs) (k : Nat) : CellsAt w A (zs.take k) := fun h0 => by
  simp only [List.length_take] at h0
  obtain ⟨b, off, e, hl, hc⟩ := h (by omega)
  refine ⟨b, off, e, hl, fun i hi => ?_⟩
  simp only [List.length_take] at hi
  rw [hc i (by omega)]
  simp [List.getD, show i < k by omega]
set_option maxRecDepth 100000 in
set_option maxHeartbeats 1000000 in
theorem sums_walk (A : Option Addr) (cap : Nat) (zs : List Int) (w : World) (hw : WideS w A cap zs) (h : Env w) :
    Calls Tryz.prog 3 #[.slice A zs.length cap] w fun e w' => e = .returned (.bool true) ∧ Below w.heap.size w w' := by
  obtain ⟨h1, h2, hz, hc, _⟩ := hw
  unfold maxLen at h2
  have HE := Lib.hid h
  by_cases hl : zs.length ≤ 1000
  · have HS := Lib.hid (fun w (hc : CellsAt w A zs) => Sum_any A zs cap w hl hz hc)
    have HR := Lib.hid (fun w (hc : CellsAt w A zs) => refSum_any A zs cap w hl hz hc)
    have HC := Lib.hid hc
    clear hc hz h
    go_enter Tryz.func3, Tryz.ntmps3
    go_wp2_with (first | (go_at_call 14; ((with_reducible refine (HS.out _ HC.out).mono ?_); rintro e w1 ⟨rfl, hb1⟩); have B1 := Lib.hid hb1; clear hb1) | (go_at_call 15; ((with_reducible refine (HR.out _ (HC.out.below B1.out)).mono ?_); rintro e w' ⟨rfl, rfl⟩)) | (go_at_call 16; ((with_reducible refine (awake_any _ (HE.out.below B1.out)).mono ?_); rintro e w5 ⟨rfl, hb5⟩; have B5 := Lib.hid hb5; clear hb5)))
    go_ret
    exact ⟨rfl, B1.out.trans (B5.out.mono B1.out.size)⟩
  · have e : (zs.take 1000).length = 1000 := by simp; omega
    have HS := Lib.hid (fun w (hc : CellsAt w A (zs.take 1000)) => Sum_any A (zs.take 1000) cap w (by omega) (fun n hn => hz n (List.mem_of_mem_take hn)) hc)
    have HR := Lib.hid (fun w (hc : CellsAt w A (zs.take 1000)) => refSum_any A (zs.take 1000) cap w (by omega) (fun n hn => hz n (List.mem_of_mem_take hn)) hc)
    have HC := Lib.hid (hc.take 1000)
    rw [e] at HS HR
    clear hc hz h e
    go_enter Tryz.func3, Tryz.ntmps3
    go_wp2_with (first | (go_at_call 14; ((with_reducible refine (HS.out _ HC.out).mono ?_); rintro e w1 ⟨rfl, hb1⟩); have B1 := Lib.hid hb1; clear hb1) | (go_at_call 15; ((with_reducible refine (HR.out _ (HC.out.below B1.out)).mono ?_); rintro e w' ⟨rfl, rfl⟩)) | (go_at_call 16; ((with_reducible refine (awake_any _ (HE.out.below B1.out)).mono ?_); rintro e w5 ⟨rfl, hb5⟩; have B5 := Lib.hid hb5; clear hb5)))
    go_ret
    exact ⟨rfl, B1.out.trans (B5.out.mono B1.out.size)⟩
end Go.Proofs.YtbbedjpjekjfiaaGreatDoor
