/-
  NARROWER THAN 'FOR EVERY INPUT', by the rows' own cells (each row's printed sentence says how): FramePuts: laid · FrameSplits: laid · FrameTorn: laid · FrameGroups: laid · FrameKnown: laid.
  DERIVED. THE GIVEN ROWS OF THIS SEAT. 5 by the template 'for every input the law returns true; each argument reads behind the call as it read before'; 0 by the template 'total and deterministic' (their statements: YtbmhgmigcgeooaaDoorTotals.lean).
  GIVEN WITH THE SEED: the statements are not yours to turn. If you find one false, say at which input.
  Laid BY PROGRAM, IN A SANDBOX (cutbox-rows.mjs): the forced cells as the released guide's own fill.sh prints them over the translation 722460809cd99dfe… (all of the seat's roots in one cut). By AI agents, Wed Nov 11 2026. No macro, syntax, notation, axiom, sorry.
-/
import Derived.Test.YtbmhgmigcgeooaaDoorChecked
import GoSem.Claim
import GoSem.ClaimJoined
import GoSem.ClaimMapViews
import Derived.JoinedTies
import Derived.KernelRfl
namespace Go.Proofs.YtbmhgmigcgeooaaDoor
/- THE CELL 'sum', in the pinned program and in every row, IS THE sha256 OF THE DUMP (.gsa) THAT YtbmhgmigcgeooaaDoorProg.lean LOADS. Nothing in Lean hashes anything: it is a label: what it is worth is what the hold of that sum in a sandbox is worth. -/
noncomputable def Tryd.pinned : Pinned := { name := "ytbmhgmigcgeooaadoor", sum := "722460809cd99dfe3c8eccab9f657bfda6a2747650256511199dc6a7adbf9885", checked := Tryd.checked }
namespace Rows
def none {H : Type} : Left H := { results := [], args := [] }

/- WHAT THE LISTED PACKAGE-LEVEL VARIABLES READ AS WHEN THE CALL BEGINS. Each datum BY PROGRAM (the guide's laid-datum.mjs) off the statement by which the dump's own 'gosem.cut.vars' lays the variable. In a bare row this is a premise. The card (YtbmhgmigcgeooaaDoorCards.lean) ties it to the program's text. -/
def laid_almanac_crc_steps {H : Type} : DataW H := .agg [.lit (.int .u32 0), .lit (.int .u32 79764919), .lit (.int .u32 159529838), .lit (.int .u32 222504665), .lit (.int .u32 319059676), .lit (.int .u32 398814059), .lit (.int .u32 445009330), .lit (.int .u32 507990021), .lit (.int .u32 638119352), .lit (.int .u32 583659535), .lit (.int .u32 797628118), .lit (.int .u32 726387553), .lit (.int .u32 890018660), .lit (.int .u32 835552979), .lit (.int .u32 1015980042), .lit (.int .u32 944750013)]

/-- 'almanaclaw09.FramePuts': WHATEVER THE INPUT: true; the input reads as it did. -/
def framePutsSpec : ChangeSpec := { name := "framePuts", fn := fun _ => fun
  | [d1, d2] => { results := [.lit (.bool true)], args := [d1, d2] }
  | _ => none }
def framePutsRow : OpenClaim := { program := "ytbmhgmigcgeooaadoor", sum := "722460809cd99dfe3c8eccab9f657bfda6a2747650256511199dc6a7adbf9885", func := "almanac/almanaclaw09.FramePuts", spec := "framePuts", unfollowed := true, recurses := true, named := ["almanac/crc.steps"], apart := false, laid := [("almanac/crc.steps", laid_almanac_crc_steps)] }
def FramePutsSaid : Prop := framePutsRow.holds Tryd.pinned (OpenSpec.ofChange framePutsSpec)

/-- ITS FALSE NEIGHBOUR: 'it returns false'. Refute it at one input. -/
def framePutsWrong : ChangeSpec := { name := "framePuts", fn := fun _ => fun
  | [d1, d2] => { results := [.lit (.bool false)], args := [d1, d2] }
  | _ => none }
def FramePutsWrongFalsely : Prop := framePutsRow.holds Tryd.pinned (OpenSpec.ofChange framePutsWrong)

/-- 'almanaclaw09.FrameSplits': WHATEVER THE INPUT: true; the input reads as it did. -/
def frameSplitsSpec : ChangeSpec := { name := "frameSplits", fn := fun _ => fun
  | [d] => { results := [.lit (.bool true)], args := [d] }
  | _ => none }
def frameSplitsRow : OpenClaim := { program := "ytbmhgmigcgeooaadoor", sum := "722460809cd99dfe3c8eccab9f657bfda6a2747650256511199dc6a7adbf9885", func := "almanac/almanaclaw09.FrameSplits", spec := "frameSplits", unfollowed := true, recurses := true, named := ["almanac/crc.steps"], apart := false, laid := [("almanac/crc.steps", laid_almanac_crc_steps)] }
def FrameSplitsSaid : Prop := frameSplitsRow.holds Tryd.pinned (OpenSpec.ofChange frameSplitsSpec)

/-- ITS FALSE NEIGHBOUR: 'it returns false'. Refute it at one input. -/
def frameSplitsWrong : ChangeSpec := { name := "frameSplits", fn := fun _ => fun
  | [d] => { results := [.lit (.bool false)], args := [d] }
  | _ => none }
def FrameSplitsWrongFalsely : Prop := frameSplitsRow.holds Tryd.pinned (OpenSpec.ofChange frameSplitsWrong)

/-- 'almanaclaw09.FrameTorn': WHATEVER THE INPUT: true; the input reads as it did. -/
def frameTornSpec : ChangeSpec := { name := "frameTorn", fn := fun _ => fun
  | [d1, d2, d3] => { results := [.lit (.bool true)], args := [d1, d2, d3] }
  | _ => none }
def frameTornRow : OpenClaim := { program := "ytbmhgmigcgeooaadoor", sum := "722460809cd99dfe3c8eccab9f657bfda6a2747650256511199dc6a7adbf9885", func := "almanac/almanaclaw09.FrameTorn", spec := "frameTorn", inPlace := ["internal/bytealg.MakeNoZero"], unfollowed := true, recurses := true, named := ["almanac/crc.steps"], apart := false, laid := [("almanac/crc.steps", laid_almanac_crc_steps)] }
def FrameTornSaid : Prop := frameTornRow.holds Tryd.pinned (OpenSpec.ofChange frameTornSpec)

/-- ITS FALSE NEIGHBOUR: 'it returns false'. Refute it at one input. -/
def frameTornWrong : ChangeSpec := { name := "frameTorn", fn := fun _ => fun
  | [d1, d2, d3] => { results := [.lit (.bool false)], args := [d1, d2, d3] }
  | _ => none }
def FrameTornWrongFalsely : Prop := frameTornRow.holds Tryd.pinned (OpenSpec.ofChange frameTornWrong)

/-- 'almanaclaw09.FrameGroups': WHATEVER THE INPUT: true; the input reads as it did. -/
def frameGroupsSpec : ChangeSpec := { name := "frameGroups", fn := fun _ => fun
  | [d1, d2] => { results := [.lit (.bool true)], args := [d1, d2] }
  | _ => none }
def frameGroupsRow : OpenClaim := { program := "ytbmhgmigcgeooaadoor", sum := "722460809cd99dfe3c8eccab9f657bfda6a2747650256511199dc6a7adbf9885", func := "almanac/almanaclaw09.FrameGroups", spec := "frameGroups", inPlace := ["internal/bytealg.MakeNoZero"], unfollowed := true, recurses := true, named := ["almanac/crc.steps"], apart := false, laid := [("almanac/crc.steps", laid_almanac_crc_steps)] }
def FrameGroupsSaid : Prop := frameGroupsRow.holds Tryd.pinned (OpenSpec.ofChange frameGroupsSpec)

/-- ITS FALSE NEIGHBOUR: 'it returns false'. Refute it at one input. -/
def frameGroupsWrong : ChangeSpec := { name := "frameGroups", fn := fun _ => fun
  | [d1, d2] => { results := [.lit (.bool false)], args := [d1, d2] }
  | _ => none }
def FrameGroupsWrongFalsely : Prop := frameGroupsRow.holds Tryd.pinned (OpenSpec.ofChange frameGroupsWrong)

/-- 'almanaclaw09.FrameKnown': WHATEVER THE INPUT: true; the input reads as it did. -/
def frameKnownSpec : ChangeSpec := { name := "frameKnown", fn := fun _ => fun
  | [] => { results := [.lit (.bool true)], args := [] }
  | _ => none }
def frameKnownRow : OpenClaim := { program := "ytbmhgmigcgeooaadoor", sum := "722460809cd99dfe3c8eccab9f657bfda6a2747650256511199dc6a7adbf9885", func := "almanac/almanaclaw09.FrameKnown", spec := "frameKnown", unfollowed := true, recurses := true, named := ["almanac/crc.steps"], apart := false, laid := [("almanac/crc.steps", laid_almanac_crc_steps)] }
def FrameKnownSaid : Prop := frameKnownRow.holds Tryd.pinned (OpenSpec.ofChange frameKnownSpec)

/-- ITS FALSE NEIGHBOUR: 'it returns false'. Refute it at one input. -/
def frameKnownWrong : ChangeSpec := { name := "frameKnown", fn := fun _ => fun
  | [] => { results := [.lit (.bool false)], args := [] }
  | _ => none }
def FrameKnownWrongFalsely : Prop := frameKnownRow.holds Tryd.pinned (OpenSpec.ofChange frameKnownWrong)

/- THE SECOND FORM. 'bulk': how many values and letters a reading holds, each counted each time it is reached (what is shared counts as often as it is met; a slice's spare places count too). A statement '..UptoSaid' is the law's where the arguments, and the package variables that the reading takes, are together of bulk at most 1048576: NARROWER than '..Said'. Prove '..Said' where nothing that the law and all that it calls make is longer than what came in: it says more and counts as full. Else prove '..UptoSaid'. A law counts once. -/
mutual
def uptoBulk {H : Type} : DataW H → Nat
  | .lit (.string bytes) => bytes.length + 1
  | .lit _ => 1
  | .nil => 1
  | .ptr d => uptoBulk d + 1
  | .slice elems spare => uptoBulkAll elems + uptoBulkAll spare + 1
  | .agg parts => uptoBulkAll parts + 1
  | .iface _ d => uptoBulk d + 1
  | .map entries => uptoBulkEntries entries + 1
  | .held _ => 1
def uptoBulkAll {H : Type} : List (DataW H) → Nat
  | [] => 0
  | d :: r => uptoBulk d + uptoBulkAll r
def uptoBulkEntries {H : Type} : List (Lit × DataW H) → Nat
  | [] => 0
  | x :: r => uptoBulkEntry x + uptoBulkEntries r
def uptoBulkEntry {H : Type} : Lit × DataW H → Nat
  | (.string bytes, d) => bytes.length + uptoBulk d + 1
  | (_, d) => uptoBulk d + 1
 end
def uptoSmall : (H : Type) → List (DataW H) → Bool := fun _ ds => decide (uptoBulkAll ds ≤ 1048576)
def OpenSpec.upto (s : _root_.Go.ChangeSpec) : _root_.Go.OpenSpec := { _root_.Go.OpenSpec.ofChange s with cond := some uptoSmall }

/-- 'almanaclaw09.FramePuts', WHERE WHAT IT READS IS OF BULK AT MOST 1048576: true; the input reads as it did. -/
def framePutsUptoRow : OpenClaim := { program := "ytbmhgmigcgeooaadoor", sum := "722460809cd99dfe3c8eccab9f657bfda6a2747650256511199dc6a7adbf9885", func := "almanac/almanaclaw09.FramePuts", spec := "framePuts", unfollowed := true, recurses := true, named := ["almanac/crc.steps"], apart := false, laid := [("almanac/crc.steps", laid_almanac_crc_steps)], narrowed := true }
def FramePutsUptoSaid : Prop := framePutsUptoRow.holds Tryd.pinned (OpenSpec.upto framePutsSpec)

/-- 'almanaclaw09.FrameSplits', WHERE WHAT IT READS IS OF BULK AT MOST 1048576: true; the input reads as it did. -/
def frameSplitsUptoRow : OpenClaim := { program := "ytbmhgmigcgeooaadoor", sum := "722460809cd99dfe3c8eccab9f657bfda6a2747650256511199dc6a7adbf9885", func := "almanac/almanaclaw09.FrameSplits", spec := "frameSplits", unfollowed := true, recurses := true, named := ["almanac/crc.steps"], apart := false, laid := [("almanac/crc.steps", laid_almanac_crc_steps)], narrowed := true }
def FrameSplitsUptoSaid : Prop := frameSplitsUptoRow.holds Tryd.pinned (OpenSpec.upto frameSplitsSpec)

/-- 'almanaclaw09.FrameTorn', WHERE WHAT IT READS IS OF BULK AT MOST 1048576: true; the input reads as it did. -/
def frameTornUptoRow : OpenClaim := { program := "ytbmhgmigcgeooaadoor", sum := "722460809cd99dfe3c8eccab9f657bfda6a2747650256511199dc6a7adbf9885", func := "almanac/almanaclaw09.FrameTorn", spec := "frameTorn", inPlace := ["internal/bytealg.MakeNoZero"], unfollowed := true, recurses := true, named := ["almanac/crc.steps"], apart := false, laid := [("almanac/crc.steps", laid_almanac_crc_steps)], narrowed := true }
def FrameTornUptoSaid : Prop := frameTornUptoRow.holds Tryd.pinned (OpenSpec.upto frameTornSpec)

/-- 'almanaclaw09.FrameGroups', WHERE WHAT IT READS IS OF BULK AT MOST 1048576: true; the input reads as it did. -/
def frameGroupsUptoRow : OpenClaim := { program := "ytbmhgmigcgeooaadoor", sum := "722460809cd99dfe3c8eccab9f657bfda6a2747650256511199dc6a7adbf9885", func := "almanac/almanaclaw09.FrameGroups", spec := "frameGroups", inPlace := ["internal/bytealg.MakeNoZero"], unfollowed := true, recurses := true, named := ["almanac/crc.steps"], apart := false, laid := [("almanac/crc.steps", laid_almanac_crc_steps)], narrowed := true }
def FrameGroupsUptoSaid : Prop := frameGroupsUptoRow.holds Tryd.pinned (OpenSpec.upto frameGroupsSpec)

/-- 'almanaclaw09.FrameKnown', WHERE WHAT IT READS IS OF BULK AT MOST 1048576: true; the input reads as it did. -/
def frameKnownUptoRow : OpenClaim := { program := "ytbmhgmigcgeooaadoor", sum := "722460809cd99dfe3c8eccab9f657bfda6a2747650256511199dc6a7adbf9885", func := "almanac/almanaclaw09.FrameKnown", spec := "frameKnown", unfollowed := true, recurses := true, named := ["almanac/crc.steps"], apart := false, laid := [("almanac/crc.steps", laid_almanac_crc_steps)], narrowed := true }
def FrameKnownUptoSaid : Prop := frameKnownUptoRow.holds Tryd.pinned (OpenSpec.upto frameKnownSpec)

end Rows
end Go.Proofs.YtbmhgmigcgeooaaDoor
