/-
  NARROWER THAN 'FOR EVERY INPUT', by the rows' own cells (each row's printed sentence says how): CrcCalls: laid · CrcFinds: laid · CrcBack: laid · CrcMore: laid · CrcLinear: laid · CrcKnown: laid.
  DERIVED. THE GIVEN ROWS OF THIS SEAT. 6 by the template 'for every input the law returns true; each argument reads behind the call as it read before'; 0 by the template 'total and deterministic' (their statements: YtgaipgpendemfaaDoorTotals.lean).
  GIVEN WITH THE SEED: the statements are not yours to turn. If you find one false, say at which input.
  Laid BY PROGRAM, IN A SANDBOX (cutbox-rows.mjs): the forced cells as the released guide's own fill.sh prints them over the translation ad41fecf19e16b36… (all of the seat's roots in one cut). By AI agents, Wed Nov 11 2026. No macro, syntax, notation, axiom, sorry.
-/
import Derived.Test.YtgaipgpendemfaaDoorChecked
import GoSem.Claim
import GoSem.ClaimJoined
import GoSem.ClaimMapViews
import Derived.JoinedTies
import Derived.KernelRfl
namespace Go.Proofs.YtgaipgpendemfaaDoor
/- THE CELL 'sum', in the pinned program and in every row, IS THE sha256 OF THE DUMP (.gsa) THAT YtgaipgpendemfaaDoorProg.lean LOADS. Nothing in Lean hashes anything: it is a label: what it is worth is what the hold of that sum in a sandbox is worth. -/
noncomputable def Tryd.pinned : Pinned := { name := "ytgaipgpendemfaadoor", sum := "ad41fecf19e16b3674ae8376a30eb70766914259e947aa222d1deeb8f409a91c", checked := Tryd.checked }
namespace Rows
def none {H : Type} : Left H := { results := [], args := [] }

/- WHAT THE LISTED PACKAGE-LEVEL VARIABLES READ AS WHEN THE CALL BEGINS. Each datum BY PROGRAM (the guide's laid-datum.mjs) off the statement by which the dump's own 'gosem.cut.vars' lays the variable. In a bare row this is a premise. The card (YtgaipgpendemfaaDoorCards.lean) ties it to the program's text. -/
def laid_almanac_crc_steps {H : Type} : DataW H := .agg [.lit (.int .u32 0), .lit (.int .u32 79764919), .lit (.int .u32 159529838), .lit (.int .u32 222504665), .lit (.int .u32 319059676), .lit (.int .u32 398814059), .lit (.int .u32 445009330), .lit (.int .u32 507990021), .lit (.int .u32 638119352), .lit (.int .u32 583659535), .lit (.int .u32 797628118), .lit (.int .u32 726387553), .lit (.int .u32 890018660), .lit (.int .u32 835552979), .lit (.int .u32 1015980042), .lit (.int .u32 944750013)]

/-- 'almanaclaw04.CrcCalls': WHATEVER THE INPUT: true; the input reads as it did. -/
def crcCallsSpec : ChangeSpec := { name := "crcCalls", fn := fun _ => fun
  | [d1, d2, d3] => { results := [.lit (.bool true)], args := [d1, d2, d3] }
  | _ => none }
def crcCallsRow : OpenClaim := { program := "ytgaipgpendemfaadoor", sum := "ad41fecf19e16b3674ae8376a30eb70766914259e947aa222d1deeb8f409a91c", func := "almanac/almanaclaw04.CrcCalls", spec := "crcCalls", named := ["almanac/crc.steps"], apart := false, laid := [("almanac/crc.steps", laid_almanac_crc_steps)] }
def CrcCallsSaid : Prop := crcCallsRow.holds Tryd.pinned (OpenSpec.ofChange crcCallsSpec)

/-- ITS FALSE NEIGHBOUR: 'it returns false'. Refute it at one input. -/
def crcCallsWrong : ChangeSpec := { name := "crcCalls", fn := fun _ => fun
  | [d1, d2, d3] => { results := [.lit (.bool false)], args := [d1, d2, d3] }
  | _ => none }
def CrcCallsWrongFalsely : Prop := crcCallsRow.holds Tryd.pinned (OpenSpec.ofChange crcCallsWrong)

/-- 'almanaclaw04.CrcFinds': WHATEVER THE INPUT: true; the input reads as it did. -/
def crcFindsSpec : ChangeSpec := { name := "crcFinds", fn := fun _ => fun
  | [d1, d2, d3] => { results := [.lit (.bool true)], args := [d1, d2, d3] }
  | _ => none }
def crcFindsRow : OpenClaim := { program := "ytgaipgpendemfaadoor", sum := "ad41fecf19e16b3674ae8376a30eb70766914259e947aa222d1deeb8f409a91c", func := "almanac/almanaclaw04.CrcFinds", spec := "crcFinds", named := ["almanac/crc.steps"], apart := false, laid := [("almanac/crc.steps", laid_almanac_crc_steps)] }
def CrcFindsSaid : Prop := crcFindsRow.holds Tryd.pinned (OpenSpec.ofChange crcFindsSpec)

/-- ITS FALSE NEIGHBOUR: 'it returns false'. Refute it at one input. -/
def crcFindsWrong : ChangeSpec := { name := "crcFinds", fn := fun _ => fun
  | [d1, d2, d3] => { results := [.lit (.bool false)], args := [d1, d2, d3] }
  | _ => none }
def CrcFindsWrongFalsely : Prop := crcFindsRow.holds Tryd.pinned (OpenSpec.ofChange crcFindsWrong)

/-- 'almanaclaw04.CrcBack': WHATEVER THE INPUT: true; the input reads as it did. -/
def crcBackSpec : ChangeSpec := { name := "crcBack", fn := fun _ => fun
  | [d] => { results := [.lit (.bool true)], args := [d] }
  | _ => none }
def crcBackRow : OpenClaim := { program := "ytgaipgpendemfaadoor", sum := "ad41fecf19e16b3674ae8376a30eb70766914259e947aa222d1deeb8f409a91c", func := "almanac/almanaclaw04.CrcBack", spec := "crcBack", named := ["almanac/crc.steps"], apart := false, laid := [("almanac/crc.steps", laid_almanac_crc_steps)] }
def CrcBackSaid : Prop := crcBackRow.holds Tryd.pinned (OpenSpec.ofChange crcBackSpec)

/-- ITS FALSE NEIGHBOUR: 'it returns false'. Refute it at one input. -/
def crcBackWrong : ChangeSpec := { name := "crcBack", fn := fun _ => fun
  | [d] => { results := [.lit (.bool false)], args := [d] }
  | _ => none }
def CrcBackWrongFalsely : Prop := crcBackRow.holds Tryd.pinned (OpenSpec.ofChange crcBackWrong)

/-- 'almanaclaw04.CrcMore': WHATEVER THE INPUT: true; the input reads as it did. -/
def crcMoreSpec : ChangeSpec := { name := "crcMore", fn := fun _ => fun
  | [d1, d2, d3] => { results := [.lit (.bool true)], args := [d1, d2, d3] }
  | _ => none }
def crcMoreRow : OpenClaim := { program := "ytgaipgpendemfaadoor", sum := "ad41fecf19e16b3674ae8376a30eb70766914259e947aa222d1deeb8f409a91c", func := "almanac/almanaclaw04.CrcMore", spec := "crcMore", named := ["almanac/crc.steps"], apart := false, laid := [("almanac/crc.steps", laid_almanac_crc_steps)] }
def CrcMoreSaid : Prop := crcMoreRow.holds Tryd.pinned (OpenSpec.ofChange crcMoreSpec)

/-- ITS FALSE NEIGHBOUR: 'it returns false'. Refute it at one input. -/
def crcMoreWrong : ChangeSpec := { name := "crcMore", fn := fun _ => fun
  | [d1, d2, d3] => { results := [.lit (.bool false)], args := [d1, d2, d3] }
  | _ => none }
def CrcMoreWrongFalsely : Prop := crcMoreRow.holds Tryd.pinned (OpenSpec.ofChange crcMoreWrong)

/-- 'almanaclaw04.CrcLinear': WHATEVER THE INPUT: true; the input reads as it did. -/
def crcLinearSpec : ChangeSpec := { name := "crcLinear", fn := fun _ => fun
  | [d1, d2, d3, d4, d5, d6] => { results := [.lit (.bool true)], args := [d1, d2, d3, d4, d5, d6] }
  | _ => none }
def crcLinearRow : OpenClaim := { program := "ytgaipgpendemfaadoor", sum := "ad41fecf19e16b3674ae8376a30eb70766914259e947aa222d1deeb8f409a91c", func := "almanac/almanaclaw04.CrcLinear", spec := "crcLinear", named := ["almanac/crc.steps"], apart := false, laid := [("almanac/crc.steps", laid_almanac_crc_steps)] }
def CrcLinearSaid : Prop := crcLinearRow.holds Tryd.pinned (OpenSpec.ofChange crcLinearSpec)

/-- ITS FALSE NEIGHBOUR: 'it returns false'. Refute it at one input. -/
def crcLinearWrong : ChangeSpec := { name := "crcLinear", fn := fun _ => fun
  | [d1, d2, d3, d4, d5, d6] => { results := [.lit (.bool false)], args := [d1, d2, d3, d4, d5, d6] }
  | _ => none }
def CrcLinearWrongFalsely : Prop := crcLinearRow.holds Tryd.pinned (OpenSpec.ofChange crcLinearWrong)

/-- 'almanaclaw04.CrcKnown': WHATEVER THE INPUT: true; the input reads as it did. -/
def crcKnownSpec : ChangeSpec := { name := "crcKnown", fn := fun _ => fun
  | [] => { results := [.lit (.bool true)], args := [] }
  | _ => none }
def crcKnownRow : OpenClaim := { program := "ytgaipgpendemfaadoor", sum := "ad41fecf19e16b3674ae8376a30eb70766914259e947aa222d1deeb8f409a91c", func := "almanac/almanaclaw04.CrcKnown", spec := "crcKnown", named := ["almanac/crc.steps"], apart := false, laid := [("almanac/crc.steps", laid_almanac_crc_steps)] }
def CrcKnownSaid : Prop := crcKnownRow.holds Tryd.pinned (OpenSpec.ofChange crcKnownSpec)

/-- ITS FALSE NEIGHBOUR: 'it returns false'. Refute it at one input. -/
def crcKnownWrong : ChangeSpec := { name := "crcKnown", fn := fun _ => fun
  | [] => { results := [.lit (.bool false)], args := [] }
  | _ => none }
def CrcKnownWrongFalsely : Prop := crcKnownRow.holds Tryd.pinned (OpenSpec.ofChange crcKnownWrong)

/- THE SECOND FORM. 'bulk': how many values and letters a reading holds, each counted each time it is reached (what is shared counts as often as it is met; a slice's spare places count too). A statement '..UptoSaid' is the law's where the arguments, and the package variables that the reading takes, are together of bulk at most 1048576: NARROWER than '..Said'. Prove '..Said' where nothing that the law and all that it calls make is longer than what came in: it says more and counts as full. Else prove '..UptoSaid'. A law counts once. -/
mutual
def uptoBulk {H : Type} : DataW H → Nat
  | .lit (.string bytes) => bytes.length + 1
  | .lit _ => 1
  | .nil => 1
  | .ptr d => uptoBulk d + 1
  | .slice elems spare => uptoBulkAll elems + uptoBulkAll spare + 1
  | .agg parts => uptoBulkAll parts + 1
  | .iface _ d => uptoBulk d + 1
  | .map entries => uptoBulkEntries entries + 1
  | .held _ => 1
def uptoBulkAll {H : Type} : List (DataW H) → Nat
  | [] => 0
  | d :: r => uptoBulk d + uptoBulkAll r
def uptoBulkEntries {H : Type} : List (Lit × DataW H) → Nat
  | [] => 0
  | x :: r => uptoBulkEntry x + uptoBulkEntries r
def uptoBulkEntry {H : Type} : Lit × DataW H → Nat
  | (.string bytes, d) => bytes.length + uptoBulk d + 1
  | (_, d) => uptoBulk d + 1
 end
def uptoSmall : (H : Type) → List (DataW H) → Bool := fun _ ds => decide (uptoBulkAll ds ≤ 1048576)
def OpenSpec.upto (s : _root_.Go.ChangeSpec) : _root_.Go.OpenSpec := { _root_.Go.OpenSpec.ofChange s with cond := some uptoSmall }

/-- 'almanaclaw04.CrcCalls', WHERE WHAT IT READS IS OF BULK AT MOST 1048576: true; the input reads as it did. -/
def crcCallsUptoRow : OpenClaim := { program := "ytgaipgpendemfaadoor", sum := "ad41fecf19e16b3674ae8376a30eb70766914259e947aa222d1deeb8f409a91c", func := "almanac/almanaclaw04.CrcCalls", spec := "crcCalls", named := ["almanac/crc.steps"], apart := false, laid := [("almanac/crc.steps", laid_almanac_crc_steps)], narrowed := true }
def CrcCallsUptoSaid : Prop := crcCallsUptoRow.holds Tryd.pinned (OpenSpec.upto crcCallsSpec)

/-- 'almanaclaw04.CrcFinds', WHERE WHAT IT READS IS OF BULK AT MOST 1048576: true; the input reads as it did. -/
def crcFindsUptoRow : OpenClaim := { program := "ytgaipgpendemfaadoor", sum := "ad41fecf19e16b3674ae8376a30eb70766914259e947aa222d1deeb8f409a91c", func := "almanac/almanaclaw04.CrcFinds", spec := "crcFinds", named := ["almanac/crc.steps"], apart := false, laid := [("almanac/crc.steps", laid_almanac_crc_steps)], narrowed := true }
def CrcFindsUptoSaid : Prop := crcFindsUptoRow.holds Tryd.pinned (OpenSpec.upto crcFindsSpec)

/-- 'almanaclaw04.CrcBack', WHERE WHAT IT READS IS OF BULK AT MOST 1048576: true; the input reads as it did. -/
def crcBackUptoRow : OpenClaim := { program := "ytgaipgpendemfaadoor", sum := "ad41fecf19e16b3674ae8376a30eb70766914259e947aa222d1deeb8f409a91c", func := "almanac/almanaclaw04.CrcBack", spec := "crcBack", named := ["almanac/crc.steps"], apart := false, laid := [("almanac/crc.steps", laid_almanac_crc_steps)], narrowed := true }
def CrcBackUptoSaid : Prop := crcBackUptoRow.holds Tryd.pinned (OpenSpec.upto crcBackSpec)

/-- 'almanaclaw04.CrcMore', WHERE WHAT IT READS IS OF BULK AT MOST 1048576: true; the input reads as it did. -/
def crcMoreUptoRow : OpenClaim := { program := "ytgaipgpendemfaadoor", sum := "ad41fecf19e16b3674ae8376a30eb70766914259e947aa222d1deeb8f409a91c", func := "almanac/almanaclaw04.CrcMore", spec := "crcMore", named := ["almanac/crc.steps"], apart := false, laid := [("almanac/crc.steps", laid_almanac_crc_steps)], narrowed := true }
def CrcMoreUptoSaid : Prop := crcMoreUptoRow.holds Tryd.pinned (OpenSpec.upto crcMoreSpec)

/-- 'almanaclaw04.CrcLinear', WHERE WHAT IT READS IS OF BULK AT MOST 1048576: true; the input reads as it did. -/
def crcLinearUptoRow : OpenClaim := { program := "ytgaipgpendemfaadoor", sum := "ad41fecf19e16b3674ae8376a30eb70766914259e947aa222d1deeb8f409a91c", func := "almanac/almanaclaw04.CrcLinear", spec := "crcLinear", named := ["almanac/crc.steps"], apart := false, laid := [("almanac/crc.steps", laid_almanac_crc_steps)], narrowed := true }
def CrcLinearUptoSaid : Prop := crcLinearUptoRow.holds Tryd.pinned (OpenSpec.upto crcLinearSpec)

/-- 'almanaclaw04.CrcKnown', WHERE WHAT IT READS IS OF BULK AT MOST 1048576: true; the input reads as it did. -/
def crcKnownUptoRow : OpenClaim := { program := "ytgaipgpendemfaadoor", sum := "ad41fecf19e16b3674ae8376a30eb70766914259e947aa222d1deeb8f409a91c", func := "almanac/almanaclaw04.CrcKnown", spec := "crcKnown", named := ["almanac/crc.steps"], apart := false, laid := [("almanac/crc.steps", laid_almanac_crc_steps)], narrowed := true }
def CrcKnownUptoSaid : Prop := crcKnownUptoRow.holds Tryd.pinned (OpenSpec.upto crcKnownSpec)

end Rows
end Go.Proofs.YtgaipgpendemfaaDoor
