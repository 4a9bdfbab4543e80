/-
  No cell of these rows narrows 'for every input' (looked for: loops, veiled, ifaces, maps, wideKeys, modest, calm, conditions, laid).
  DERIVED. THE GIVEN ROWS OF THIS SEAT. 6 by the template 'for every input the law returns true; each argument reads behind the call as it read before'; 0 by the template 'total and deterministic' (their statements: YtbdlmidkkdmkpaaTotals.lean).
  GIVEN WITH THE SEED: the statements are not yours to turn. If you find one false, say at which input.
  Laid BY PROGRAM, IN A SANDBOX (cutbox-rows.mjs): the forced cells as the released guide's own fill.sh prints them over the translation 0fd7172c5e064e30… (all of the seat's roots in one cut). By AI agents, Wed Nov 11 2026. No macro, syntax, notation, axiom, sorry.
-/
import Derived.Test.YtbdlmidkkdmkpaaChecked
import GoSem.Claim
import GoSem.ClaimJoined
import GoSem.ClaimMapViews
import Derived.JoinedTies
import Derived.KernelRfl
namespace Go.Proofs.Ytbdlmidkkdmkpaa
/- THE CELL 'sum', in the pinned program and in every row, IS THE sha256 OF THE DUMP (.gsa) THAT YtbdlmidkkdmkpaaProg.lean LOADS. Nothing in Lean hashes anything: it is a label: what it is worth is what the hold of that sum in a sandbox is worth. -/
noncomputable def Try.pinned : Pinned := { name := "ytbdlmidkkdmkpaa", sum := "0fd7172c5e064e303b984843a0b40ddcbaa917529ebe1028be94a0a3dab97760", checked := Try.checked }
namespace Rows
def none {H : Type} : Left H := { results := [], args := [] }

/-- 'almanaclaw05.PeriodTwo': WHATEVER THE INPUT: true; the input reads as it did. -/
def periodTwoSpec : ChangeSpec := { name := "periodTwo", fn := fun _ => fun
  | [d1, d2, d3] => { results := [.lit (.bool true)], args := [d1, d2, d3] }
  | _ => none }
def periodTwoRow : OpenClaim := { program := "ytbdlmidkkdmkpaa", sum := "0fd7172c5e064e303b984843a0b40ddcbaa917529ebe1028be94a0a3dab97760", func := "almanac/almanaclaw05.PeriodTwo", spec := "periodTwo", unfollowed := true, recurses := true, apart := false }
def PeriodTwoSaid : Prop := periodTwoRow.holds Try.pinned (OpenSpec.ofChange periodTwoSpec)

/-- ITS FALSE NEIGHBOUR: 'it returns false'. Refute it at one input. -/
def periodTwoWrong : ChangeSpec := { name := "periodTwo", fn := fun _ => fun
  | [d1, d2, d3] => { results := [.lit (.bool false)], args := [d1, d2, d3] }
  | _ => none }
def PeriodTwoWrongFalsely : Prop := periodTwoRow.holds Try.pinned (OpenSpec.ofChange periodTwoWrong)

/-- 'almanaclaw05.PeriodComposes': WHATEVER THE INPUT: true; the input reads as it did. -/
def periodComposesSpec : ChangeSpec := { name := "periodComposes", fn := fun _ => fun
  | [d1, d2] => { results := [.lit (.bool true)], args := [d1, d2] }
  | _ => none }
def periodComposesRow : OpenClaim := { program := "ytbdlmidkkdmkpaa", sum := "0fd7172c5e064e303b984843a0b40ddcbaa917529ebe1028be94a0a3dab97760", func := "almanac/almanaclaw05.PeriodComposes", spec := "periodComposes", unfollowed := true, recurses := true, apart := false }
def PeriodComposesSaid : Prop := periodComposesRow.holds Try.pinned (OpenSpec.ofChange periodComposesSpec)

/-- ITS FALSE NEIGHBOUR: 'it returns false'. Refute it at one input. -/
def periodComposesWrong : ChangeSpec := { name := "periodComposes", fn := fun _ => fun
  | [d1, d2] => { results := [.lit (.bool false)], args := [d1, d2] }
  | _ => none }
def PeriodComposesWrongFalsely : Prop := periodComposesRow.holds Try.pinned (OpenSpec.ofChange periodComposesWrong)

/-- 'almanaclaw05.PeriodOne': WHATEVER THE INPUT: true; the input reads as it did. -/
def periodOneSpec : ChangeSpec := { name := "periodOne", fn := fun _ => fun
  | [d1, d2, d3] => { results := [.lit (.bool true)], args := [d1, d2, d3] }
  | _ => none }
def periodOneRow : OpenClaim := { program := "ytbdlmidkkdmkpaa", sum := "0fd7172c5e064e303b984843a0b40ddcbaa917529ebe1028be94a0a3dab97760", func := "almanac/almanaclaw05.PeriodOne", spec := "periodOne", unfollowed := true, recurses := true, apart := false }
def PeriodOneSaid : Prop := periodOneRow.holds Try.pinned (OpenSpec.ofChange periodOneSpec)

/-- ITS FALSE NEIGHBOUR: 'it returns false'. Refute it at one input. -/
def periodOneWrong : ChangeSpec := { name := "periodOne", fn := fun _ => fun
  | [d1, d2, d3] => { results := [.lit (.bool false)], args := [d1, d2, d3] }
  | _ => none }
def PeriodOneWrongFalsely : Prop := periodOneRow.holds Try.pinned (OpenSpec.ofChange periodOneWrong)

/-- 'almanaclaw05.PeriodCan': WHATEVER THE INPUT: true; the input reads as it did. -/
def periodCanSpec : ChangeSpec := { name := "periodCan", fn := fun _ => fun
  | [d1, d2, d3] => { results := [.lit (.bool true)], args := [d1, d2, d3] }
  | _ => none }
def periodCanRow : OpenClaim := { program := "ytbdlmidkkdmkpaa", sum := "0fd7172c5e064e303b984843a0b40ddcbaa917529ebe1028be94a0a3dab97760", func := "almanac/almanaclaw05.PeriodCan", spec := "periodCan", unfollowed := true, recurses := true, apart := false }
def PeriodCanSaid : Prop := periodCanRow.holds Try.pinned (OpenSpec.ofChange periodCanSpec)

/-- ITS FALSE NEIGHBOUR: 'it returns false'. Refute it at one input. -/
def periodCanWrong : ChangeSpec := { name := "periodCan", fn := fun _ => fun
  | [d1, d2, d3] => { results := [.lit (.bool false)], args := [d1, d2, d3] }
  | _ => none }
def PeriodCanWrongFalsely : Prop := periodCanRow.holds Try.pinned (OpenSpec.ofChange periodCanWrong)

/-- 'almanaclaw05.PeriodParts': WHATEVER THE INPUT: true; the input reads as it did. -/
def periodPartsSpec : ChangeSpec := { name := "periodParts", fn := fun _ => fun
  | [d1, d2, d3] => { results := [.lit (.bool true)], args := [d1, d2, d3] }
  | _ => none }
def periodPartsRow : OpenClaim := { program := "ytbdlmidkkdmkpaa", sum := "0fd7172c5e064e303b984843a0b40ddcbaa917529ebe1028be94a0a3dab97760", func := "almanac/almanaclaw05.PeriodParts", spec := "periodParts", unfollowed := true, recurses := true, apart := false }
def PeriodPartsSaid : Prop := periodPartsRow.holds Try.pinned (OpenSpec.ofChange periodPartsSpec)

/-- ITS FALSE NEIGHBOUR: 'it returns false'. Refute it at one input. -/
def periodPartsWrong : ChangeSpec := { name := "periodParts", fn := fun _ => fun
  | [d1, d2, d3] => { results := [.lit (.bool false)], args := [d1, d2, d3] }
  | _ => none }
def PeriodPartsWrongFalsely : Prop := periodPartsRow.holds Try.pinned (OpenSpec.ofChange periodPartsWrong)

/-- 'almanaclaw05.PeriodKnown': WHATEVER THE INPUT: true; the input reads as it did. -/
def periodKnownSpec : ChangeSpec := { name := "periodKnown", fn := fun _ => fun
  | [] => { results := [.lit (.bool true)], args := [] }
  | _ => none }
def periodKnownRow : OpenClaim := { program := "ytbdlmidkkdmkpaa", sum := "0fd7172c5e064e303b984843a0b40ddcbaa917529ebe1028be94a0a3dab97760", func := "almanac/almanaclaw05.PeriodKnown", spec := "periodKnown", unfollowed := true, recurses := true, apart := false }
def PeriodKnownSaid : Prop := periodKnownRow.holds Try.pinned (OpenSpec.ofChange periodKnownSpec)

/-- ITS FALSE NEIGHBOUR: 'it returns false'. Refute it at one input. -/
def periodKnownWrong : ChangeSpec := { name := "periodKnown", fn := fun _ => fun
  | [] => { results := [.lit (.bool false)], args := [] }
  | _ => none }
def PeriodKnownWrongFalsely : Prop := periodKnownRow.holds Try.pinned (OpenSpec.ofChange periodKnownWrong)

/- THE SECOND FORM. 'bulk': how many values and letters a reading holds, each counted each time it is reached (what is shared counts as often as it is met; a slice's spare places count too). A statement '..UptoSaid' is the law's where the arguments, and the package variables that the reading takes, are together of bulk at most 1048576: NARROWER than '..Said'. Prove '..Said' where nothing that the law and all that it calls make is longer than what came in: it says more and counts as full. Else prove '..UptoSaid'. A law counts once. -/
mutual
def uptoBulk {H : Type} : DataW H → Nat
  | .lit (.string bytes) => bytes.length + 1
  | .lit _ => 1
  | .nil => 1
  | .ptr d => uptoBulk d + 1
  | .slice elems spare => uptoBulkAll elems + uptoBulkAll spare + 1
  | .agg parts => uptoBulkAll parts + 1
  | .iface _ d => uptoBulk d + 1
  | .map entries => uptoBulkEntries entries + 1
  | .held _ => 1
def uptoBulkAll {H : Type} : List (DataW H) → Nat
  | [] => 0
  | d :: r => uptoBulk d + uptoBulkAll r
def uptoBulkEntries {H : Type} : List (Lit × DataW H) → Nat
  | [] => 0
  | x :: r => uptoBulkEntry x + uptoBulkEntries r
def uptoBulkEntry {H : Type} : Lit × DataW H → Nat
  | (.string bytes, d) => bytes.length + uptoBulk d + 1
  | (_, d) => uptoBulk d + 1
 end
def uptoSmall : (H : Type) → List (DataW H) → Bool := fun _ ds => decide (uptoBulkAll ds ≤ 1048576)
def OpenSpec.upto (s : _root_.Go.ChangeSpec) : _root_.Go.OpenSpec := { _root_.Go.OpenSpec.ofChange s with cond := some uptoSmall }

/-- 'almanaclaw05.PeriodTwo', WHERE WHAT IT READS IS OF BULK AT MOST 1048576: true; the input reads as it did. -/
def periodTwoUptoRow : OpenClaim := { program := "ytbdlmidkkdmkpaa", sum := "0fd7172c5e064e303b984843a0b40ddcbaa917529ebe1028be94a0a3dab97760", func := "almanac/almanaclaw05.PeriodTwo", spec := "periodTwo", unfollowed := true, recurses := true, apart := false, narrowed := true }
def PeriodTwoUptoSaid : Prop := periodTwoUptoRow.holds Try.pinned (OpenSpec.upto periodTwoSpec)

/-- 'almanaclaw05.PeriodComposes', WHERE WHAT IT READS IS OF BULK AT MOST 1048576: true; the input reads as it did. -/
def periodComposesUptoRow : OpenClaim := { program := "ytbdlmidkkdmkpaa", sum := "0fd7172c5e064e303b984843a0b40ddcbaa917529ebe1028be94a0a3dab97760", func := "almanac/almanaclaw05.PeriodComposes", spec := "periodComposes", unfollowed := true, recurses := true, apart := false, narrowed := true }
def PeriodComposesUptoSaid : Prop := periodComposesUptoRow.holds Try.pinned (OpenSpec.upto periodComposesSpec)

/-- 'almanaclaw05.PeriodOne', WHERE WHAT IT READS IS OF BULK AT MOST 1048576: true; the input reads as it did. -/
def periodOneUptoRow : OpenClaim := { program := "ytbdlmidkkdmkpaa", sum := "0fd7172c5e064e303b984843a0b40ddcbaa917529ebe1028be94a0a3dab97760", func := "almanac/almanaclaw05.PeriodOne", spec := "periodOne", unfollowed := true, recurses := true, apart := false, narrowed := true }
def PeriodOneUptoSaid : Prop := periodOneUptoRow.holds Try.pinned (OpenSpec.upto periodOneSpec)

/-- 'almanaclaw05.PeriodCan', WHERE WHAT IT READS IS OF BULK AT MOST 1048576: true; the input reads as it did. -/
def periodCanUptoRow : OpenClaim := { program := "ytbdlmidkkdmkpaa", sum := "0fd7172c5e064e303b984843a0b40ddcbaa917529ebe1028be94a0a3dab97760", func := "almanac/almanaclaw05.PeriodCan", spec := "periodCan", unfollowed := true, recurses := true, apart := false, narrowed := true }
def PeriodCanUptoSaid : Prop := periodCanUptoRow.holds Try.pinned (OpenSpec.upto periodCanSpec)

/-- 'almanaclaw05.PeriodParts', WHERE WHAT IT READS IS OF BULK AT MOST 1048576: true; the input reads as it did. -/
def periodPartsUptoRow : OpenClaim := { program := "ytbdlmidkkdmkpaa", sum := "0fd7172c5e064e303b984843a0b40ddcbaa917529ebe1028be94a0a3dab97760", func := "almanac/almanaclaw05.PeriodParts", spec := "periodParts", unfollowed := true, recurses := true, apart := false, narrowed := true }
def PeriodPartsUptoSaid : Prop := periodPartsUptoRow.holds Try.pinned (OpenSpec.upto periodPartsSpec)

/-- 'almanaclaw05.PeriodKnown', WHERE WHAT IT READS IS OF BULK AT MOST 1048576: true; the input reads as it did. -/
def periodKnownUptoRow : OpenClaim := { program := "ytbdlmidkkdmkpaa", sum := "0fd7172c5e064e303b984843a0b40ddcbaa917529ebe1028be94a0a3dab97760", func := "almanac/almanaclaw05.PeriodKnown", spec := "periodKnown", unfollowed := true, recurses := true, apart := false, narrowed := true }
def PeriodKnownUptoSaid : Prop := periodKnownUptoRow.holds Try.pinned (OpenSpec.upto periodKnownSpec)

end Rows
end Go.Proofs.Ytbdlmidkkdmkpaa
