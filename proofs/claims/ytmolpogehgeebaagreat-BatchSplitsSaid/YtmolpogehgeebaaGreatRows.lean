/-
  No cell of these rows narrows 'for every input' (looked for: loops, veiled, ifaces, maps, wideKeys, modest, calm, conditions, laid).
  DERIVED. THE GIVEN ROWS OF THIS SEAT. 12 by the template 'for every input the law returns true; each argument reads behind the call as it read before'; 0 by the template 'total and deterministic' (their statements: YtmolpogehgeebaaGreatTotals.lean).
  GIVEN WITH THE SEED: the statements are not yours to turn. If you find one false, say at which input.
  Laid BY PROGRAM, IN A SANDBOX (cutbox-rows.mjs): the forced cells as the released guide's own fill.sh prints them over the translation c55d0c7f266045b3… (all of the seat's roots in one cut). By AI agents, Wed Nov 11 2026. No macro, syntax, notation, axiom, sorry.
-/
import Derived.Test.YtmolpogehgeebaaGreatChecked
import GoSem.Claim
import GoSem.ClaimJoined
import GoSem.ClaimMapViews
import Derived.JoinedTies
import Derived.KernelRfl
namespace Go.Proofs.YtmolpogehgeebaaGreat
/- THE CELL 'sum', in the pinned program and in every row, IS THE sha256 OF THE DUMP (.gsa) THAT YtmolpogehgeebaaGreatProg.lean LOADS. Nothing in Lean hashes anything: it is a label: what it is worth is what the hold of that sum in a sandbox is worth. -/
noncomputable def Tryz.pinned : Pinned := { name := "ytmolpogehgeebaagreat", sum := "c55d0c7f266045b3523ed30f0af86a36293b099c49c63a298da3ea02d6072706", checked := Tryz.checked }
namespace Rows
def none {H : Type} : Left H := { results := [], args := [] }

/-- 'almanaclaw13.EntityPlays': WHATEVER THE INPUT: true; the input reads as it did. -/
def entityPlaysSpec : ChangeSpec := { name := "entityPlays", fn := fun _ => fun
  | [d1, d2] => { results := [.lit (.bool true)], args := [d1, d2] }
  | _ => none }
def entityPlaysRow : OpenClaim := { program := "ytmolpogehgeebaagreat", sum := "c55d0c7f266045b3523ed30f0af86a36293b099c49c63a298da3ea02d6072706", func := "almanac/almanaclaw13.EntityPlays", spec := "entityPlays", inPlace := ["math.Float64bits", "internal/bytealg.abigen_runtime_cmpstring", "slices.overlaps[almanac/entity.Prop]", "slices.overlaps[almanac/piece.Piece]", "math.Float64frombits", "math.archFloor", "math.archTrunc"], unfollowed := true, recurses := true, apart := false }
def EntityPlaysSaid : Prop := entityPlaysRow.holds Tryz.pinned (OpenSpec.ofChange entityPlaysSpec)

/-- ITS FALSE NEIGHBOUR: 'it returns false'. Refute it at one input. -/
def entityPlaysWrong : ChangeSpec := { name := "entityPlays", fn := fun _ => fun
  | [d1, d2] => { results := [.lit (.bool false)], args := [d1, d2] }
  | _ => none }
def EntityPlaysWrongFalsely : Prop := entityPlaysRow.holds Tryz.pinned (OpenSpec.ofChange entityPlaysWrong)

/-- 'almanaclaw13.EntityInstants': WHATEVER THE INPUT: true; the input reads as it did. -/
def entityInstantsSpec : ChangeSpec := { name := "entityInstants", fn := fun _ => fun
  | [d1, d2, d3] => { results := [.lit (.bool true)], args := [d1, d2, d3] }
  | _ => none }
def entityInstantsRow : OpenClaim := { program := "ytmolpogehgeebaagreat", sum := "c55d0c7f266045b3523ed30f0af86a36293b099c49c63a298da3ea02d6072706", func := "almanac/almanaclaw13.EntityInstants", spec := "entityInstants", inPlace := ["math.Float64bits", "internal/bytealg.abigen_runtime_cmpstring", "slices.overlaps[almanac/entity.Prop]", "slices.overlaps[almanac/piece.Piece]"], unfollowed := true, recurses := true, apart := false }
def EntityInstantsSaid : Prop := entityInstantsRow.holds Tryz.pinned (OpenSpec.ofChange entityInstantsSpec)

/-- ITS FALSE NEIGHBOUR: 'it returns false'. Refute it at one input. -/
def entityInstantsWrong : ChangeSpec := { name := "entityInstants", fn := fun _ => fun
  | [d1, d2, d3] => { results := [.lit (.bool false)], args := [d1, d2, d3] }
  | _ => none }
def EntityInstantsWrongFalsely : Prop := entityInstantsRow.holds Tryz.pinned (OpenSpec.ofChange entityInstantsWrong)

/-- 'almanaclaw13.EntityKnown': WHATEVER THE INPUT: true; the input reads as it did. -/
def entityKnownSpec : ChangeSpec := { name := "entityKnown", fn := fun _ => fun
  | [] => { results := [.lit (.bool true)], args := [] }
  | _ => none }
def entityKnownRow : OpenClaim := { program := "ytmolpogehgeebaagreat", sum := "c55d0c7f266045b3523ed30f0af86a36293b099c49c63a298da3ea02d6072706", func := "almanac/almanaclaw13.EntityKnown", spec := "entityKnown", inPlace := ["math.Float64bits", "internal/bytealg.abigen_runtime_cmpstring", "slices.overlaps[almanac/entity.Prop]", "slices.overlaps[almanac/piece.Piece]"], unfollowed := true, recurses := true, apart := false }
def EntityKnownSaid : Prop := entityKnownRow.holds Tryz.pinned (OpenSpec.ofChange entityKnownSpec)

/-- ITS FALSE NEIGHBOUR: 'it returns false'. Refute it at one input. -/
def entityKnownWrong : ChangeSpec := { name := "entityKnown", fn := fun _ => fun
  | [] => { results := [.lit (.bool false)], args := [] }
  | _ => none }
def EntityKnownWrongFalsely : Prop := entityKnownRow.holds Tryz.pinned (OpenSpec.ofChange entityKnownWrong)

/-- 'almanaclaw14.BatchWhole': WHATEVER THE INPUT: true; the input reads as it did. -/
def batchWholeSpec : ChangeSpec := { name := "batchWhole", fn := fun _ => fun
  | [d] => { results := [.lit (.bool true)], args := [d] }
  | _ => none }
def batchWholeRow : OpenClaim := { program := "ytmolpogehgeebaagreat", sum := "c55d0c7f266045b3523ed30f0af86a36293b099c49c63a298da3ea02d6072706", func := "almanac/almanaclaw14.BatchWhole", spec := "batchWhole", inPlace := ["math.Float64bits", "internal/bytealg.abigen_runtime_cmpstring", "slices.overlaps[almanac/entity.Prop]", "slices.overlaps[almanac/piece.Piece]"], unfollowed := true, recurses := true, apart := false }
def BatchWholeSaid : Prop := batchWholeRow.holds Tryz.pinned (OpenSpec.ofChange batchWholeSpec)

/-- ITS FALSE NEIGHBOUR: 'it returns false'. Refute it at one input. -/
def batchWholeWrong : ChangeSpec := { name := "batchWhole", fn := fun _ => fun
  | [d] => { results := [.lit (.bool false)], args := [d] }
  | _ => none }
def BatchWholeWrongFalsely : Prop := batchWholeRow.holds Tryz.pinned (OpenSpec.ofChange batchWholeWrong)

/-- 'almanaclaw14.BatchSplits': WHATEVER THE INPUT: true; the input reads as it did. -/
def batchSplitsSpec : ChangeSpec := { name := "batchSplits", fn := fun _ => fun
  | [d1, d2, d3] => { results := [.lit (.bool true)], args := [d1, d2, d3] }
  | _ => none }
def batchSplitsRow : OpenClaim := { program := "ytmolpogehgeebaagreat", sum := "c55d0c7f266045b3523ed30f0af86a36293b099c49c63a298da3ea02d6072706", func := "almanac/almanaclaw14.BatchSplits", spec := "batchSplits", inPlace := ["math.Float64bits", "internal/bytealg.abigen_runtime_cmpstring", "slices.overlaps[almanac/entity.Prop]", "slices.overlaps[almanac/piece.Piece]"], unfollowed := true, recurses := true, apart := false }
def BatchSplitsSaid : Prop := batchSplitsRow.holds Tryz.pinned (OpenSpec.ofChange batchSplitsSpec)

/-- ITS FALSE NEIGHBOUR: 'it returns false'. Refute it at one input. -/
def batchSplitsWrong : ChangeSpec := { name := "batchSplits", fn := fun _ => fun
  | [d1, d2, d3] => { results := [.lit (.bool false)], args := [d1, d2, d3] }
  | _ => none }
def BatchSplitsWrongFalsely : Prop := batchSplitsRow.holds Tryz.pinned (OpenSpec.ofChange batchSplitsWrong)

/-- 'almanaclaw14.BatchTwice': WHATEVER THE INPUT: true; the input reads as it did. -/
def batchTwiceSpec : ChangeSpec := { name := "batchTwice", fn := fun _ => fun
  | [d1, d2] => { results := [.lit (.bool true)], args := [d1, d2] }
  | _ => none }
def batchTwiceRow : OpenClaim := { program := "ytmolpogehgeebaagreat", sum := "c55d0c7f266045b3523ed30f0af86a36293b099c49c63a298da3ea02d6072706", func := "almanac/almanaclaw14.BatchTwice", spec := "batchTwice", inPlace := ["math.Float64bits", "internal/bytealg.abigen_runtime_cmpstring", "slices.overlaps[almanac/entity.Prop]", "slices.overlaps[almanac/piece.Piece]"], unfollowed := true, recurses := true, apart := false }
def BatchTwiceSaid : Prop := batchTwiceRow.holds Tryz.pinned (OpenSpec.ofChange batchTwiceSpec)

/-- ITS FALSE NEIGHBOUR: 'it returns false'. Refute it at one input. -/
def batchTwiceWrong : ChangeSpec := { name := "batchTwice", fn := fun _ => fun
  | [d1, d2] => { results := [.lit (.bool false)], args := [d1, d2] }
  | _ => none }
def BatchTwiceWrongFalsely : Prop := batchTwiceRow.holds Tryz.pinned (OpenSpec.ofChange batchTwiceWrong)

/-- 'almanaclaw14.BatchKnown': WHATEVER THE INPUT: true; the input reads as it did. -/
def batchKnownSpec : ChangeSpec := { name := "batchKnown", fn := fun _ => fun
  | [] => { results := [.lit (.bool true)], args := [] }
  | _ => none }
def batchKnownRow : OpenClaim := { program := "ytmolpogehgeebaagreat", sum := "c55d0c7f266045b3523ed30f0af86a36293b099c49c63a298da3ea02d6072706", func := "almanac/almanaclaw14.BatchKnown", spec := "batchKnown", inPlace := ["math.Float64bits", "internal/bytealg.abigen_runtime_cmpstring", "slices.overlaps[almanac/entity.Prop]", "slices.overlaps[almanac/piece.Piece]"], unfollowed := true, recurses := true, apart := false }
def BatchKnownSaid : Prop := batchKnownRow.holds Tryz.pinned (OpenSpec.ofChange batchKnownSpec)

/-- ITS FALSE NEIGHBOUR: 'it returns false'. Refute it at one input. -/
def batchKnownWrong : ChangeSpec := { name := "batchKnown", fn := fun _ => fun
  | [] => { results := [.lit (.bool false)], args := [] }
  | _ => none }
def BatchKnownWrongFalsely : Prop := batchKnownRow.holds Tryz.pinned (OpenSpec.ofChange batchKnownWrong)

/-- 'almanaclaw15.StorePlays': WHATEVER THE INPUT: true; the input reads as it did. -/
def storePlaysSpec : ChangeSpec := { name := "storePlays", fn := fun _ => fun
  | [d] => { results := [.lit (.bool true)], args := [d] }
  | _ => none }
def storePlaysRow : OpenClaim := { program := "ytmolpogehgeebaagreat", sum := "c55d0c7f266045b3523ed30f0af86a36293b099c49c63a298da3ea02d6072706", func := "almanac/almanaclaw15.StorePlays", spec := "storePlays", inPlace := ["math.Float64bits", "internal/bytealg.abigen_runtime_cmpstring", "slices.overlaps[almanac/entity.Prop]", "slices.overlaps[almanac/piece.Piece]", "math.Float64frombits", "math.archFloor", "math.archTrunc"], unfollowed := true, recurses := true, apart := false }
def StorePlaysSaid : Prop := storePlaysRow.holds Tryz.pinned (OpenSpec.ofChange storePlaysSpec)

/-- ITS FALSE NEIGHBOUR: 'it returns false'. Refute it at one input. -/
def storePlaysWrong : ChangeSpec := { name := "storePlays", fn := fun _ => fun
  | [d] => { results := [.lit (.bool false)], args := [d] }
  | _ => none }
def StorePlaysWrongFalsely : Prop := storePlaysRow.holds Tryz.pinned (OpenSpec.ofChange storePlaysWrong)

/-- 'almanaclaw15.StorePast': WHATEVER THE INPUT: true; the input reads as it did. -/
def storePastSpec : ChangeSpec := { name := "storePast", fn := fun _ => fun
  | [d1, d2, d3] => { results := [.lit (.bool true)], args := [d1, d2, d3] }
  | _ => none }
def storePastRow : OpenClaim := { program := "ytmolpogehgeebaagreat", sum := "c55d0c7f266045b3523ed30f0af86a36293b099c49c63a298da3ea02d6072706", func := "almanac/almanaclaw15.StorePast", spec := "storePast", inPlace := ["math.Float64bits", "internal/bytealg.abigen_runtime_cmpstring", "slices.overlaps[almanac/entity.Prop]", "slices.overlaps[almanac/piece.Piece]"], unfollowed := true, recurses := true, apart := false }
def StorePastSaid : Prop := storePastRow.holds Tryz.pinned (OpenSpec.ofChange storePastSpec)

/-- ITS FALSE NEIGHBOUR: 'it returns false'. Refute it at one input. -/
def storePastWrong : ChangeSpec := { name := "storePast", fn := fun _ => fun
  | [d1, d2, d3] => { results := [.lit (.bool false)], args := [d1, d2, d3] }
  | _ => none }
def StorePastWrongFalsely : Prop := storePastRow.holds Tryz.pinned (OpenSpec.ofChange storePastWrong)

/-- 'almanaclaw15.StoreAgain': WHATEVER THE INPUT: true; the input reads as it did. -/
def storeAgainSpec : ChangeSpec := { name := "storeAgain", fn := fun _ => fun
  | [d1, d2, d3] => { results := [.lit (.bool true)], args := [d1, d2, d3] }
  | _ => none }
def storeAgainRow : OpenClaim := { program := "ytmolpogehgeebaagreat", sum := "c55d0c7f266045b3523ed30f0af86a36293b099c49c63a298da3ea02d6072706", func := "almanac/almanaclaw15.StoreAgain", spec := "storeAgain", inPlace := ["math.Float64bits", "internal/bytealg.abigen_runtime_cmpstring", "slices.overlaps[almanac/entity.Prop]", "slices.overlaps[almanac/piece.Piece]"], unfollowed := true, recurses := true, apart := false }
def StoreAgainSaid : Prop := storeAgainRow.holds Tryz.pinned (OpenSpec.ofChange storeAgainSpec)

/-- ITS FALSE NEIGHBOUR: 'it returns false'. Refute it at one input. -/
def storeAgainWrong : ChangeSpec := { name := "storeAgain", fn := fun _ => fun
  | [d1, d2, d3] => { results := [.lit (.bool false)], args := [d1, d2, d3] }
  | _ => none }
def StoreAgainWrongFalsely : Prop := storeAgainRow.holds Tryz.pinned (OpenSpec.ofChange storeAgainWrong)

/-- 'almanaclaw15.StoreTries': WHATEVER THE INPUT: true; the input reads as it did. -/
def storeTriesSpec : ChangeSpec := { name := "storeTries", fn := fun _ => fun
  | [d1, d2] => { results := [.lit (.bool true)], args := [d1, d2] }
  | _ => none }
def storeTriesRow : OpenClaim := { program := "ytmolpogehgeebaagreat", sum := "c55d0c7f266045b3523ed30f0af86a36293b099c49c63a298da3ea02d6072706", func := "almanac/almanaclaw15.StoreTries", spec := "storeTries", inPlace := ["math.Float64bits", "internal/bytealg.abigen_runtime_cmpstring", "slices.overlaps[almanac/entity.Prop]", "slices.overlaps[almanac/piece.Piece]"], unfollowed := true, recurses := true, apart := false }
def StoreTriesSaid : Prop := storeTriesRow.holds Tryz.pinned (OpenSpec.ofChange storeTriesSpec)

/-- ITS FALSE NEIGHBOUR: 'it returns false'. Refute it at one input. -/
def storeTriesWrong : ChangeSpec := { name := "storeTries", fn := fun _ => fun
  | [d1, d2] => { results := [.lit (.bool false)], args := [d1, d2] }
  | _ => none }
def StoreTriesWrongFalsely : Prop := storeTriesRow.holds Tryz.pinned (OpenSpec.ofChange storeTriesWrong)

/-- 'almanaclaw15.StoreKnown': WHATEVER THE INPUT: true; the input reads as it did. -/
def storeKnownSpec : ChangeSpec := { name := "storeKnown", fn := fun _ => fun
  | [] => { results := [.lit (.bool true)], args := [] }
  | _ => none }
def storeKnownRow : OpenClaim := { program := "ytmolpogehgeebaagreat", sum := "c55d0c7f266045b3523ed30f0af86a36293b099c49c63a298da3ea02d6072706", func := "almanac/almanaclaw15.StoreKnown", spec := "storeKnown", inPlace := ["math.Float64bits", "internal/bytealg.abigen_runtime_cmpstring", "slices.overlaps[almanac/entity.Prop]", "slices.overlaps[almanac/piece.Piece]"], unfollowed := true, recurses := true, apart := false }
def StoreKnownSaid : Prop := storeKnownRow.holds Tryz.pinned (OpenSpec.ofChange storeKnownSpec)

/-- ITS FALSE NEIGHBOUR: 'it returns false'. Refute it at one input. -/
def storeKnownWrong : ChangeSpec := { name := "storeKnown", fn := fun _ => fun
  | [] => { results := [.lit (.bool false)], args := [] }
  | _ => none }
def StoreKnownWrongFalsely : Prop := storeKnownRow.holds Tryz.pinned (OpenSpec.ofChange storeKnownWrong)

/- THE SECOND FORM. 'bulk': how many values and letters a reading holds, each counted each time it is reached (what is shared counts as often as it is met; a slice's spare places count too). A statement '..UptoSaid' is the law's where the arguments, and the package variables that the reading takes, are together of bulk at most 1048576: NARROWER than '..Said'. Prove '..Said' where nothing that the law and all that it calls make is longer than what came in: it says more and counts as full. Else prove '..UptoSaid'. A law counts once. -/
mutual
def uptoBulk {H : Type} : DataW H → Nat
  | .lit (.string bytes) => bytes.length + 1
  | .lit _ => 1
  | .nil => 1
  | .ptr d => uptoBulk d + 1
  | .slice elems spare => uptoBulkAll elems + uptoBulkAll spare + 1
  | .agg parts => uptoBulkAll parts + 1
  | .iface _ d => uptoBulk d + 1
  | .map entries => uptoBulkEntries entries + 1
  | .held _ => 1
def uptoBulkAll {H : Type} : List (DataW H) → Nat
  | [] => 0
  | d :: r => uptoBulk d + uptoBulkAll r
def uptoBulkEntries {H : Type} : List (Lit × DataW H) → Nat
  | [] => 0
  | x :: r => uptoBulkEntry x + uptoBulkEntries r
def uptoBulkEntry {H : Type} : Lit × DataW H → Nat
  | (.string bytes, d) => bytes.length + uptoBulk d + 1
  | (_, d) => uptoBulk d + 1
 end
def uptoSmall : (H : Type) → List (DataW H) → Bool := fun _ ds => decide (uptoBulkAll ds ≤ 1048576)
def OpenSpec.upto (s : _root_.Go.ChangeSpec) : _root_.Go.OpenSpec := { _root_.Go.OpenSpec.ofChange s with cond := some uptoSmall }

/-- 'almanaclaw13.EntityPlays', WHERE WHAT IT READS IS OF BULK AT MOST 1048576: true; the input reads as it did. -/
def entityPlaysUptoRow : OpenClaim := { program := "ytmolpogehgeebaagreat", sum := "c55d0c7f266045b3523ed30f0af86a36293b099c49c63a298da3ea02d6072706", func := "almanac/almanaclaw13.EntityPlays", spec := "entityPlays", inPlace := ["math.Float64bits", "internal/bytealg.abigen_runtime_cmpstring", "slices.overlaps[almanac/entity.Prop]", "slices.overlaps[almanac/piece.Piece]", "math.Float64frombits", "math.archFloor", "math.archTrunc"], unfollowed := true, recurses := true, apart := false, narrowed := true }
def EntityPlaysUptoSaid : Prop := entityPlaysUptoRow.holds Tryz.pinned (OpenSpec.upto entityPlaysSpec)

/-- 'almanaclaw13.EntityInstants', WHERE WHAT IT READS IS OF BULK AT MOST 1048576: true; the input reads as it did. -/
def entityInstantsUptoRow : OpenClaim := { program := "ytmolpogehgeebaagreat", sum := "c55d0c7f266045b3523ed30f0af86a36293b099c49c63a298da3ea02d6072706", func := "almanac/almanaclaw13.EntityInstants", spec := "entityInstants", inPlace := ["math.Float64bits", "internal/bytealg.abigen_runtime_cmpstring", "slices.overlaps[almanac/entity.Prop]", "slices.overlaps[almanac/piece.Piece]"], unfollowed := true, recurses := true, apart := false, narrowed := true }
def EntityInstantsUptoSaid : Prop := entityInstantsUptoRow.holds Tryz.pinned (OpenSpec.upto entityInstantsSpec)

/-- 'almanaclaw13.EntityKnown', WHERE WHAT IT READS IS OF BULK AT MOST 1048576: true; the input reads as it did. -/
def entityKnownUptoRow : OpenClaim := { program := "ytmolpogehgeebaagreat", sum := "c55d0c7f266045b3523ed30f0af86a36293b099c49c63a298da3ea02d6072706", func := "almanac/almanaclaw13.EntityKnown", spec := "entityKnown", inPlace := ["math.Float64bits", "internal/bytealg.abigen_runtime_cmpstring", "slices.overlaps[almanac/entity.Prop]", "slices.overlaps[almanac/piece.Piece]"], unfollowed := true, recurses := true, apart := false, narrowed := true }
def EntityKnownUptoSaid : Prop := entityKnownUptoRow.holds Tryz.pinned (OpenSpec.upto entityKnownSpec)

/-- 'almanaclaw14.BatchWhole', WHERE WHAT IT READS IS OF BULK AT MOST 1048576: true; the input reads as it did. -/
def batchWholeUptoRow : OpenClaim := { program := "ytmolpogehgeebaagreat", sum := "c55d0c7f266045b3523ed30f0af86a36293b099c49c63a298da3ea02d6072706", func := "almanac/almanaclaw14.BatchWhole", spec := "batchWhole", inPlace := ["math.Float64bits", "internal/bytealg.abigen_runtime_cmpstring", "slices.overlaps[almanac/entity.Prop]", "slices.overlaps[almanac/piece.Piece]"], unfollowed := true, recurses := true, apart := false, narrowed := true }
def BatchWholeUptoSaid : Prop := batchWholeUptoRow.holds Tryz.pinned (OpenSpec.upto batchWholeSpec)

/-- 'almanaclaw14.BatchSplits', WHERE WHAT IT READS IS OF BULK AT MOST 1048576: true; the input reads as it did. -/
def batchSplitsUptoRow : OpenClaim := { program := "ytmolpogehgeebaagreat", sum := "c55d0c7f266045b3523ed30f0af86a36293b099c49c63a298da3ea02d6072706", func := "almanac/almanaclaw14.BatchSplits", spec := "batchSplits", inPlace := ["math.Float64bits", "internal/bytealg.abigen_runtime_cmpstring", "slices.overlaps[almanac/entity.Prop]", "slices.overlaps[almanac/piece.Piece]"], unfollowed := true, recurses := true, apart := false, narrowed := true }
def BatchSplitsUptoSaid : Prop := batchSplitsUptoRow.holds Tryz.pinned (OpenSpec.upto batchSplitsSpec)

/-- 'almanaclaw14.BatchTwice', WHERE WHAT IT READS IS OF BULK AT MOST 1048576: true; the input reads as it did. -/
def batchTwiceUptoRow : OpenClaim := { program := "ytmolpogehgeebaagreat", sum := "c55d0c7f266045b3523ed30f0af86a36293b099c49c63a298da3ea02d6072706", func := "almanac/almanaclaw14.BatchTwice", spec := "batchTwice", inPlace := ["math.Float64bits", "internal/bytealg.abigen_runtime_cmpstring", "slices.overlaps[almanac/entity.Prop]", "slices.overlaps[almanac/piece.Piece]"], unfollowed := true, recurses := true, apart := false, narrowed := true }
def BatchTwiceUptoSaid : Prop := batchTwiceUptoRow.holds Tryz.pinned (OpenSpec.upto batchTwiceSpec)

/-- 'almanaclaw14.BatchKnown', WHERE WHAT IT READS IS OF BULK AT MOST 1048576: true; the input reads as it did. -/
def batchKnownUptoRow : OpenClaim := { program := "ytmolpogehgeebaagreat", sum := "c55d0c7f266045b3523ed30f0af86a36293b099c49c63a298da3ea02d6072706", func := "almanac/almanaclaw14.BatchKnown", spec := "batchKnown", inPlace := ["math.Float64bits", "internal/bytealg.abigen_runtime_cmpstring", "slices.overlaps[almanac/entity.Prop]", "slices.overlaps[almanac/piece.Piece]"], unfollowed := true, recurses := true, apart := false, narrowed := true }
def BatchKnownUptoSaid : Prop := batchKnownUptoRow.holds Tryz.pinned (OpenSpec.upto batchKnownSpec)

/-- 'almanaclaw15.StorePlays', WHERE WHAT IT READS IS OF BULK AT MOST 1048576: true; the input reads as it did. -/
def storePlaysUptoRow : OpenClaim := { program := "ytmolpogehgeebaagreat", sum := "c55d0c7f266045b3523ed30f0af86a36293b099c49c63a298da3ea02d6072706", func := "almanac/almanaclaw15.StorePlays", spec := "storePlays", inPlace := ["math.Float64bits", "internal/bytealg.abigen_runtime_cmpstring", "slices.overlaps[almanac/entity.Prop]", "slices.overlaps[almanac/piece.Piece]", "math.Float64frombits", "math.archFloor", "math.archTrunc"], unfollowed := true, recurses := true, apart := false, narrowed := true }
def StorePlaysUptoSaid : Prop := storePlaysUptoRow.holds Tryz.pinned (OpenSpec.upto storePlaysSpec)

/-- 'almanaclaw15.StorePast', WHERE WHAT IT READS IS OF BULK AT MOST 1048576: true; the input reads as it did. -/
def storePastUptoRow : OpenClaim := { program := "ytmolpogehgeebaagreat", sum := "c55d0c7f266045b3523ed30f0af86a36293b099c49c63a298da3ea02d6072706", func := "almanac/almanaclaw15.StorePast", spec := "storePast", inPlace := ["math.Float64bits", "internal/bytealg.abigen_runtime_cmpstring", "slices.overlaps[almanac/entity.Prop]", "slices.overlaps[almanac/piece.Piece]"], unfollowed := true, recurses := true, apart := false, narrowed := true }
def StorePastUptoSaid : Prop := storePastUptoRow.holds Tryz.pinned (OpenSpec.upto storePastSpec)

/-- 'almanaclaw15.StoreAgain', WHERE WHAT IT READS IS OF BULK AT MOST 1048576: true; the input reads as it did. -/
def storeAgainUptoRow : OpenClaim := { program := "ytmolpogehgeebaagreat", sum := "c55d0c7f266045b3523ed30f0af86a36293b099c49c63a298da3ea02d6072706", func := "almanac/almanaclaw15.StoreAgain", spec := "storeAgain", inPlace := ["math.Float64bits", "internal/bytealg.abigen_runtime_cmpstring", "slices.overlaps[almanac/entity.Prop]", "slices.overlaps[almanac/piece.Piece]"], unfollowed := true, recurses := true, apart := false, narrowed := true }
def StoreAgainUptoSaid : Prop := storeAgainUptoRow.holds Tryz.pinned (OpenSpec.upto storeAgainSpec)

/-- 'almanaclaw15.StoreTries', WHERE WHAT IT READS IS OF BULK AT MOST 1048576: true; the input reads as it did. -/
def storeTriesUptoRow : OpenClaim := { program := "ytmolpogehgeebaagreat", sum := "c55d0c7f266045b3523ed30f0af86a36293b099c49c63a298da3ea02d6072706", func := "almanac/almanaclaw15.StoreTries", spec := "storeTries", inPlace := ["math.Float64bits", "internal/bytealg.abigen_runtime_cmpstring", "slices.overlaps[almanac/entity.Prop]", "slices.overlaps[almanac/piece.Piece]"], unfollowed := true, recurses := true, apart := false, narrowed := true }
def StoreTriesUptoSaid : Prop := storeTriesUptoRow.holds Tryz.pinned (OpenSpec.upto storeTriesSpec)

/-- 'almanaclaw15.StoreKnown', WHERE WHAT IT READS IS OF BULK AT MOST 1048576: true; the input reads as it did. -/
def storeKnownUptoRow : OpenClaim := { program := "ytmolpogehgeebaagreat", sum := "c55d0c7f266045b3523ed30f0af86a36293b099c49c63a298da3ea02d6072706", func := "almanac/almanaclaw15.StoreKnown", spec := "storeKnown", inPlace := ["math.Float64bits", "internal/bytealg.abigen_runtime_cmpstring", "slices.overlaps[almanac/entity.Prop]", "slices.overlaps[almanac/piece.Piece]"], unfollowed := true, recurses := true, apart := false, narrowed := true }
def StoreKnownUptoSaid : Prop := storeKnownUptoRow.holds Tryz.pinned (OpenSpec.upto storeKnownSpec)

end Rows
end Go.Proofs.YtmolpogehgeebaaGreat
