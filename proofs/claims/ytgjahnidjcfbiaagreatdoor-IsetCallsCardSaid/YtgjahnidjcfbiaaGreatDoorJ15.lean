/- Parse. -/
import Derived.Test.YtgjahnidjcfbiaaGreatDoorJ14
namespace Go.Proofs.YtgjahnidjcfbiaaGreatDoor
open Go.RowKit Go.Shelf Go.Lib
open Iset (nf has NF Res Wide textL readPL Reads Parsed)
/-- How many bytes a string has. -/
def strV (v : Value) : Nat := match v with
  | .string s => s.size
  | _ => 0
/-- What Parse gives. -/
def ParsedBy (s : ByteArray) (base : Nat) (w : World) (e : Ending) (w' : World) : Prop :=
  (∃ v R, e = .returned (.tuple #[v, .int .i64 0]) ∧ Parsed s.data.toList (some R) ∧ OwnP base w' v R ∧ Below base w w') ∨
  (e = .returned (.tuple #[.slice none 0 0, .int .i64 5]) ∧ Parsed s.data.toList none ∧ Below base w w')
/-- Where the reading stands. -/
def Upto (s : List UInt8) (L : List (Int × Int)) (r : List UInt8) : Prop := Wide L ∧ (∀ M, Reads s M ↔ ∃ M', M = L ++ M' ∧ Reads r M') ∧ 3 * L.length + r.length ≤ s.length
theorem Upto.start (s : List UInt8) : Upto s [] s := ⟨fun p hp => by simp at hp, fun M => ⟨fun h => ⟨M, rfl, h⟩, fun ⟨M', h, k⟩ => by rw [List.nil_append] at h; rw [h]; exact k⟩, by simp⟩
theorem Upto.next {s r t : List UInt8} {L : List (Int × Int)} {p : Int × Int} (h : Upto s L r) (hr : readPL r = some (p, t)) : Upto s (L ++ [p]) t := by
  obtain ⟨h1, h2, h3⟩ := h
  have hf := Iset.readPL_fits hr
  have hl := Iset.readPL_shorter hr
  refine ⟨fun q hq => ?_, fun M => ?_, by simp; omega⟩
  · simp only [List.mem_append, List.mem_singleton] at hq
    rcases hq with hq | rfl
    · exact h1 q hq
    · exact ⟨hf.1.1, hf.2.1⟩
  · rw [h2]
    constructor
    · rintro ⟨M', rfl, hM⟩
      cases hM with
      | nil => simp [readPL] at hr
      | cons hp hM =>
        rw [hr] at hp
        injection hp with hp
        injection hp with e1 e2
        subst e1 e2
        exact ⟨_, by simp, hM⟩
    · rintro ⟨M', rfl, hM⟩
      exact ⟨p :: M', by simp, .cons hr hM⟩
theorem Upto.bad {s r : List UInt8} {L : List (Int × Int)} (h : Upto s L r) (hne : r ≠ []) (hr : readPL r = none) : ∀ M, ¬ Reads s M := by
  intro M hM
  obtain ⟨M', rfl, hM'⟩ := (h.2.1 M).1 hM
  cases hM' with
  | nil => exact hne rfl
  | cons hp _ =>
    rw [hr] at hp
    cases hp
theorem Upto.done {s : List UInt8} {L : List (Int × Int)} (h : Upto s L []) : Reads s L := (h.2.1 L).2 ⟨[], by simp, .nil⟩
set_option maxRecDepth 100000 in
set_option maxHeartbeats 8000000 in
theorem Parse_any (s : ByteArray) (w : World) (hs : s.size ≤ 1000000000000) (henv : Env w) : Calls Tryz.prog 37 #[.string s] w (ParsedBy s w.heap.size w) := by
  by_cases hst : s.toList = [91, 41]
  · have hP := Lib.hid (show Parsed s.data.toList (some []) from ⟨NF.nil, fun p hp => by simp at hp, by rw [← toList_data, hst]; rfl⟩)
    have hb : (s.toList == [91, 41]) = true := by simp [hst]
    clear hst henv
    go_enter Tryz.func37, Tryz.ntmps37
    go_wp2
    go_ret2
    exact .inl ⟨_, [], rfl, hP.out, OwnP.nil _ _, Below.refl _ _⟩
  · have hb : (s.toList == [91, 41]) = false := by simpa using hst
    have hne : s.data.toList ≠ [91, 41] := by rw [← toList_data]; exact hst
    have HNE := Lib.hid hne
    have HE := Lib.hid henv
    have HS := Lib.hid (Upto.start s.data.toList)
    have HPer := Lib.hid (fun (t : ByteArray) (w' : World) (ht : t.size ≤ 140737488355328) (hb : Below w.heap.size w w') => Per_any t w' ht (henv.below hb))
    have HText := Lib.hid (fun v L (w' : World) (hv : IsP w' v L) (hw : Wide L) (hl : L.length ≤ 1000000000000) (hb : Below w.heap.size w w') => Text_any v L w' hv hw hl (henv.below hb))
    clear hst hne henv
    go_enter Tryz.func37, Tryz.ntmps37
    go_wp2
    clear hb
    go_loopw [4, 5] (fun v t wr => ∃ (L : List (Int × Int)) (r : ByteArray), t = .string r ∧ Upto s.data.toList L r.data.toList ∧ OwnP w.heap.size wr v L ∧ Below w.heap.size w wr) (fun _ t _ => strV t)
    case atStart => exact ⟨[], s, rfl, HS.out, OwnP.nil _ _, Below.refl _ _⟩
    case round =>
      obtain ⟨L, r, rfl, hu, ho, hb⟩ := hrel
      have hlr : 3 * L.length + r.size ≤ s.size := by
        have := hu.2.2
        simpa using this
      have HU := Lib.hid hu
      have HO := Lib.hid ho
      have HB := Lib.hid hb
      clear hu ho hb
      by_cases hr : r.toList = []
      · have hr1 : r.toList.isEmpty = true := by simp [hr]
        have HU1 : Hid (Upto s.data.toList L []) := Lib.hid (by have := HU.out; rwa [← toList_data r, hr] at this)
        have hwide := HU.out.1
        go_wp2_with fail
        refine (HText.out _ L _ HO.out.at hwide (by omega) HB.out).mono ?_
        rintro e w1 ⟨t, rfl, ht, hb1⟩
        have HB1 := Lib.hid (HB.out.trans (hb1.mono HB.out.size))
        have HO1 := Lib.hid (HO.out.below hb1)
        have HT := Lib.hid ht
        clear hb1 ht
        by_cases he : t.toList = s.toList
        · have HP := Lib.hid (Iset.parsed_some HU1.out.done hwide (by rw [← HT.out, ← toList_data, he, toList_data]) HNE.out)
          have he1 : (t.toList == s.toList) = true := by simp [he]
          clear he hwide
          go_wp2
          go_ret2
          exact .inl ⟨_, L, rfl, HP.out, HO1.out, HB1.out⟩
        · have HP := Lib.hid (Iset.parsed_unlike HU1.out.done (by rw [← HT.out, ← toList_data t, ← toList_data s]; exact he) HNE.out)
          have he1 : (t.toList == s.toList) = false := by simpa using he
          clear he hwide
          go_wp2
          go_ret2
          exact .inr ⟨rfl, HP.out, HB1.out⟩
      · have hr1 : r.toList.isEmpty = false := by simpa using hr
        have HR := Lib.hid hr
        clear hr
        go_wp2_with fail
        refine (HPer.out r _ (by omega) HB.out).mono ?_
        rintro e w1 ⟨n, m, q, f, rfl, hq, hb1⟩
        have HB1 := Lib.hid (HB.out.trans (hb1.mono HB.out.size))
        have HO1 := Lib.hid (HO.out.below hb1)
        cases f
        · have HP := Lib.hid (Iset.parsed_unread (HU.out.bad (by rw [← toList_data]; exact HR.out) hq) HNE.out)
          clear hq hb1
          go_wp2
          go_ret2
          exact .inr ⟨rfl, HP.out, (HB1.out.alloc HB1.out.size _)⟩
        · have HU2 := Lib.hid (HU.out.next hq)
          have hsh := Iset.readPL_shorter hq
          have hsh2 : q.size < r.size := by simp at hsh; omega
          clear hq hb1 hsh
          have hs1 := HB1.out.size
          have X0 := Lib.hid (box_at w1 n m 29 w1.heap.size rfl)
          obtain ⟨x0, x1, x2, x3⟩ := X0.out
          go_wp2_with (at_builtin; refine wpList_appP rfl (.tmp 22) (.tmp 24) rfl w.heap.size _ L rfl ((HO1.out.alloc _).alloc _) (w1.heap.size + 1) n m rfl (by go_simp) (by go_simp) (by omega) (by simp; omega) ?_; intro v2 w2 ho2 hb2 _; have HO2 := Lib.hid ho2; have HB2 := Lib.hid (((HB1.out.alloc hs1 (.cells #[.int .u64 n, .int .u64 m] 29)).alloc (by simp; omega) (.cells #[.int .u64 n, .int .u64 m] 29)).trans hb2); clear ho2 hb2)
          exact ⟨⟨_, q, rfl, HU2.out, HO2.out, HB2.out⟩, by simp [strV]; omega⟩
end Go.Proofs.YtgjahnidjcfbiaaGreatDoor
