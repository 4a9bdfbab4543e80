/- Closed calls: lists of ends, what the laws' own rows answer. -/
import Derived.Test.YtgjahnidjcfbiaaGreatDoorJ17
namespace Go.Proofs.YtgjahnidjcfbiaaGreatDoor
open Go.RowKit Go.Shelf Go.Lib
open Iset (nf has NF Res Wide textL Parsed Reads readPL)
theorem isU_lit (w : World) (E : List Int) (hl : E.length ≤ 1000) : IsU (w.alloc (.cells (E.map (Value.int .u64)).toArray 23)) (.slice (some ⟨w.heap.size, 0, none⟩) E.length E.length) E := by
  refine ⟨_, _, rfl, Nat.le_refl _, by unfold maxLen; omega, fun _ => ⟨_, 0, rfl, by simp, fun i hi => ?_⟩⟩
  rw [Nat.zero_add]
  simp [World.cell?_alloc_new, hi]
theorem pairs_wide : ∀ (E : List Int), (∀ z ∈ E, 0 ≤ z) → Wide (pairs E)
  | [], _ => fun p hp => by simp [pairs] at hp
  | [_], _ => fun p hp => by simp [pairs] at hp
  | a :: b :: l, h => fun p hp => by
    simp only [pairs, List.mem_cons] at hp
    rcases hp with rfl | hp
    · exact ⟨h a (by simp), h b (by simp)⟩
    · exact pairs_wide l (fun z hz => h z (by simp [hz])) p hp
/-- P of ends that stand there. -/
theorem cP (E : List Int) (L : List (Int × Int)) (n : Nat) (w : World) (hl : E.length ≤ 1000) (hL : pairs E = L) (hn : L.length ≤ n) (hE : ∀ z ∈ E, 0 ≤ z) :
    Calls Tryz.prog 36 #[.slice (some ⟨w.heap.size, 0, none⟩) E.length E.length] (w.alloc (.cells (E.map (Value.int .u64)).toArray 23)) fun e w' => ∃ v, e = .returned v ∧ SetAt w' v L n ∧ Below w.heap.size w w' :=
  (P_any _ E _ (isU_lit w E hl) (by omega)).mono fun e w' ⟨v, he, ho, hb⟩ => ⟨v, he, ⟨hL ▸ ho.at, hL ▸ pairs_wide E hE, hn⟩, ((Below.refl _ _).alloc (Nat.le_refl _) _).trans (hb.mono (by simp))⟩
/-- P of no ends at all: as its argument is nil. -/
theorem parsed_notNF {s : List UInt8} {L : List (Int × Int)} (h : Reads s L) (hL : ¬ NF L) (hne : s ≠ [91, 41]) : Parsed s none := by
  intro R h1 h2 h3
  have hR : R ≠ [] := fun e => hne (by rw [← h3, e]; rfl)
  have := Iset.reads_texts R h1 h2
  rw [← Iset.textL_some hR, h3] at this
  exact hL (h.det this ▸ h1)
theorem cParseBad (s : ByteArray) (w : World) (hs : s.size ≤ 1000000000000) (henv : Env w) (h : Parsed s.data.toList none) :
    Calls Tryz.prog 37 #[.string s] w fun e w' => e = .returned (.tuple #[.slice none 0 0, .int .i64 5]) ∧ Below w.heap.size w w' :=
  (Parse_any s w hs henv).mono fun e w' hp => by
    rcases hp with ⟨v, R, he, hR, _, _⟩ | ⟨he, _, hb⟩
    · cases h.uniq hR
    · exact ⟨he, hb⟩
theorem cParseGood (s : ByteArray) (w : World) (hs : s.size ≤ 1000000000000) (henv : Env w) (R : List (Int × Int)) (n : Nat) (h : Parsed s.data.toList (some R)) (hn : R.length ≤ n) :
    Calls Tryz.prog 37 #[.string s] w fun e w' => ∃ v, e = .returned (.tuple #[v, .int .i64 0]) ∧ SetAt w' v R n ∧ Below w.heap.size w w' :=
  (Parse_any s w hs henv).mono fun e w' hp => by
    rcases hp with ⟨v, S, he, hR, ho, hb⟩ | ⟨he, hS, hb⟩
    · have e1 := h.uniq hR
      injection e1 with e1
      subst e1
      exact ⟨v, he, ⟨ho.at, h.2.1, hn⟩, hb⟩
    · cases h.uniq hS
theorem nf_eq {a b : List (Int × Int)} (hb : NF b) (h : ∀ t, has a t = has b t) : nf a = b := NF.ext (Iset.nf_nf a) hb fun t => by rw [Iset.nf_has, h]
theorem nfb {l : List (Int × Int)} (h1 : ∀ p ∈ l, Iset.mayP p = true) (h2 : l.Pairwise fun p q => p.2 < q.1) : NF l := ⟨h1, h2⟩
/-- The rows of the awake test. -/
theorem row_of : nf [(5, 9), (1, 5), (7, 8), (9, 9)] = [(1, 9)] := nf_eq (nfb (by decide) (by decide)) fun t => by
  rw [Bool.eq_iff_iff]
  simp [has, Iset.hasP, Iset.mayP]
  omega
theorem row_meet {R : List (Int × Int)} (h : Res kAnd [(1, 5), (7, 9)] [(3, 8)] R) : R = [(3, 5), (7, 8)] := NF.ext h.nf (nfb (by decide) (by decide)) fun t => by
  rw [h.has, Bool.eq_iff_iff]
  simp [has, Iset.hasP, Iset.mayP]
  omega
theorem row_minus {R : List (Int × Int)} (h : Res kLess [(1, 5), (7, 9)] [(3, 8)] R) : R = [(1, 3), (8, 9)] := NF.ext h.nf (nfb (by decide) (by decide)) fun t => by
  rw [h.has, Bool.eq_iff_iff]
  simp [has, Iset.hasP, Iset.mayP]
  omega
theorem row_not {R : List (Int × Int)} (h : NotOf [(0, 3)] R) : R = [(3, 1099511627776)] := NF.ext h.1 (nfb (by decide) (by decide)) fun t => by
  rw [h.2.1, Bool.eq_iff_iff]
  simp [has, Iset.hasP, Iset.mayP]
  omega
theorem row_not2 {R : List (Int × Int)} (h : NotOf [] R) : R = [(0, 1099511627776)] := NF.ext h.1 (nfb (by decide) (by decide)) fun t => by
  rw [h.2.1, Bool.eq_iff_iff]
  simp [has, Iset.hasP, Iset.mayP]
theorem row_text : textL (nf [(1, 1099511627776)]) = [91, 49, 44, 42, 41] := by
  rw [Iset.nf_of_NF (nfb (by decide) (by decide)), Iset.textL_some (by simp)]
  simp [Iset.textsL, Iset.textP, Iset.dec, Iset.endT, Lib.decDigits_one]
theorem row_none : textL (nf []) = [91, 41] := by rw [Iset.nf_of_NF NF.nil]; rfl
theorem row_bad1 : Parsed [91, 49, 44, 50, 41, 91, 50, 44, 51, 41] none :=
  parsed_notNF (L := [(1, 2), (2, 3)]) (.cons (r := [91, 50, 44, 51, 41]) (by decide +kernel) (.cons (r := []) (by decide +kernel) .nil)) (fun h => absurd h.apart (by decide)) (by decide)
theorem row_bad2 : Parsed [91, 49, 44, 48, 49, 41] none :=
  parsed_notNF (L := [(1, 1)]) (.cons (r := []) (by decide +kernel) .nil) (fun h => absurd (h.may (1, 1) (by simp)) (by decide)) (by decide)
end Go.Proofs.YtgjahnidjcfbiaaGreatDoor
