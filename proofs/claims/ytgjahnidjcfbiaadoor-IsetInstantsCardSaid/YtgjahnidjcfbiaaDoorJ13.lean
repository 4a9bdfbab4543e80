/- The reading of a set's text. -/
import Derived.Test.YtgjahnidjcfbiaaDoorLY
import Derived.Test.YtgjahnidjcfbiaaDoorJ12
import Derived.Shelf.Pu.ParseUintPublic10
import Derived.Lib.ParseIntBCases
import Derived.Ground.MpProg
namespace Go.Proofs.YtgjahnidjcfbiaaDoor
open Go.RowKit Go.Shelf Go.Lib
open Iset (nf has NF Res Wide textL cutAt readEndL readPL Reads Parsed)
/-- What a reading of an end gives. -/
def EndBy (s : ByteArray) (w : World) (e : Ending) (w' : World) : Prop :=
  ∃ (n : Int) (f : Bool), e = .returned (.tuple #[.int .u64 n, .bool f]) ∧ readEndL s.data.toList = (if f = true then some n else none) ∧ Below w.heap.size w w'
theorem bytes_below {w w' : World} {e : TypeId} {s : ByteArray} (h : w' = w ∨ w' = Lib.bytesWorld w e s) : Below w.heap.size w w' := by
  rcases h with rfl | rfl
  · exact Below.refl _ _
  · exact Lib.bytesWorld_below _ _ _
set_option maxRecDepth 100000 in
set_option maxHeartbeats 1000000 in
theorem End_any (s : ByteArray) (w : World) (hs : s.size ≤ 140737488355328) (henv : Env w) : Calls Tryd.prog 45 #[.string s] w (EndBy s w) := by
  by_cases hst : s.toList = [42]
  · have hR := Lib.hid (show readEndL s.data.toList = some 1099511627776 by rw [← toList_data, hst]; rfl)
    have hb : (s.toList == [42]) = true := by simp [hst]
    clear hst henv
    go_enter Tryd.func45, Tryd.ntmps45
    go_wp2
    go_ret2
    exact ⟨1099511627776, true, rfl, hR.out, Below.refl _ _⟩
  · have hb : (s.toList == [42]) = false := by simpa using hst
    have hne : s.data.toList ≠ [42] := by rw [← toList_data]; exact hst
    have hR : readEndL s.data.toList = match Lib.parseMag s.data.toList with | .ok u => some (u : Int) | _ => none := by
      rw [readEndL, if_neg hne]
      cases Lib.parseMag s.data.toList <;> rfl
    obtain ⟨e1, hs1, hv1⟩ := henv.syn
    obtain ⟨e2, hs2, hv2⟩ := henv.rng
    clear hst hne henv
    rcases hm : Lib.parseMag s.data.toList with u | _ | _
    · skip
      have H := Lib.hid (Any.strconv_ParseUint_10_at64_ok Tryd.parseU s (by omega) u (by rw [Lib.parseUintB_64, hm]) w)
      rw [hm] at hR
      have HR := Lib.hid hR
      clear hm hR hs1 hs2 hv1 hv2
      go_enter Tryd.func45, Tryd.ntmps45
      go_wp2_with fail
      refine (H.out).mono ?_
      rintro e w1 ⟨rfl, hw⟩
      have HB := Lib.hid (bytes_below hw)
      clear hw
      go_upto_region 4 with fail
      go_quiet (fail)
      go_wp2
      go_ret2
      exact ⟨u, true, rfl, HR.out, bel_drewN _ HB.out⟩
    · skip
      have H := Lib.hid (Any.strconv_ParseUint_10_at64_syntax Tryd.parseU s (by omega) (by rw [Lib.parseUintB_64, hm]) e1 w hs1 hv1)
      rw [hm] at hR
      have HR := Lib.hid hR
      clear hm hR hs1 hs2 hv1 hv2
      go_enter Tryd.func45, Tryd.ntmps45
      go_wp2_with fail
      refine (H.out).mono ?_
      rintro e w1 ⟨N, rfl, _, _, hb1⟩
      have HB := Lib.hid hb1
      clear hb1
      go_upto_region 4 with fail
      go_quiet (fail)
      go_wp2
      go_ret2
      exact ⟨0, false, rfl, HR.out, bel_drewN _ HB.out⟩
    · skip
      have H := Lib.hid (Any.strconv_ParseUint_10_at64_range Tryd.parseU s (by omega) (by rw [Lib.parseUintB_64, hm]) e2 w hs2 hv2)
      rw [hm] at hR
      have HR := Lib.hid hR
      clear hm hR hs1 hs2 hv1 hv2
      go_enter Tryd.func45, Tryd.ntmps45
      go_wp2_with fail
      refine (H.out).mono ?_
      rintro e w1 ⟨N, rfl, _, _, hb1⟩
      have HB := Lib.hid hb1
      clear hb1
      go_upto_region 4 with fail
      go_quiet (fail)
      go_wp2
      go_ret2
      exact ⟨18446744073709551615, false, rfl, HR.out, bel_drewN _ HB.out⟩
end Go.Proofs.YtgjahnidjcfbiaaDoor
