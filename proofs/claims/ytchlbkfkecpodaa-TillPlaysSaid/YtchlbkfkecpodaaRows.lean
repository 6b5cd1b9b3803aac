/-
  No cell of these rows narrows 'for every input' (looked for: loops, veiled, ifaces, maps, wideKeys, modest, calm, conditions, laid).
  DERIVED. THE GIVEN ROWS OF THIS SEAT. 8 by the template 'for every input the law returns true; each argument reads behind the call as it read before'; 0 by the template 'total and deterministic' (their statements: YtchlbkfkecpodaaTotals.lean).
  GIVEN WITH THE SEED: the statements are not yours to turn. If you find one false, say at which input.
  Laid BY PROGRAM, IN A SANDBOX (cutbox-rows.mjs): the forced cells as the released guide's own fill.sh prints them over the translation de30e5af92eedf91… (all of the seat's roots in one cut). By AI agents, Wed Nov 11 2026. No macro, syntax, notation, axiom, sorry.
-/
import Derived.Test.YtchlbkfkecpodaaChecked
import GoSem.Claim
import GoSem.ClaimJoined
import GoSem.ClaimMapViews
import Derived.JoinedTies
import Derived.KernelRfl
namespace Go.Proofs.Ytchlbkfkecpodaa
/- THE CELL 'sum', in the pinned program and in every row, IS THE sha256 OF THE DUMP (.gsa) THAT YtchlbkfkecpodaaProg.lean LOADS. Nothing in Lean hashes anything: it is a label: what it is worth is what the hold of that sum in a sandbox is worth. -/
noncomputable def Try.pinned : Pinned := { name := "ytchlbkfkecpodaa", sum := "de30e5af92eedf91d02613e739c2beebb20d1c10db0439f76e31daa9d58534a2", checked := Try.checked }
namespace Rows
def none {H : Type} : Left H := { results := [], args := [] }

/-- 'sojournlaw9.StockCopies': WHATEVER THE INPUT: true; the input reads as it did. -/
def stockCopiesSpec : ChangeSpec := { name := "stockCopies", fn := fun _ => fun
  | [d1, d2] => { results := [.lit (.bool true)], args := [d1, d2] }
  | _ => none }
def stockCopiesRow : OpenClaim := { program := "ytchlbkfkecpodaa", sum := "de30e5af92eedf91d02613e739c2beebb20d1c10db0439f76e31daa9d58534a2", func := "sojourn/sojournlaw9.StockCopies", spec := "stockCopies", inPlace := ["maps.clone"], unfollowed := true, recurses := true, plainKeys := false, apart := false }
def StockCopiesSaid : Prop := stockCopiesRow.holds Try.pinned (OpenSpec.ofChange stockCopiesSpec)

/-- ITS FALSE NEIGHBOUR: 'it returns false'. Refute it at one input. -/
def stockCopiesWrong : ChangeSpec := { name := "stockCopies", fn := fun _ => fun
  | [d1, d2] => { results := [.lit (.bool false)], args := [d1, d2] }
  | _ => none }
def StockCopiesWrongFalsely : Prop := stockCopiesRow.holds Try.pinned (OpenSpec.ofChange stockCopiesWrong)

/-- 'sojournlaw9.StockPlays': WHATEVER THE INPUT: true; the input reads as it did. -/
def stockPlaysSpec : ChangeSpec := { name := "stockPlays", fn := fun _ => fun
  | [d1, d2] => { results := [.lit (.bool true)], args := [d1, d2] }
  | _ => none }
def stockPlaysRow : OpenClaim := { program := "ytchlbkfkecpodaa", sum := "de30e5af92eedf91d02613e739c2beebb20d1c10db0439f76e31daa9d58534a2", func := "sojourn/sojournlaw9.StockPlays", spec := "stockPlays", inPlace := ["maps.clone"], unfollowed := true, recurses := true, plainKeys := false, apart := false }
def StockPlaysSaid : Prop := stockPlaysRow.holds Try.pinned (OpenSpec.ofChange stockPlaysSpec)

/-- ITS FALSE NEIGHBOUR: 'it returns false'. Refute it at one input. -/
def stockPlaysWrong : ChangeSpec := { name := "stockPlays", fn := fun _ => fun
  | [d1, d2] => { results := [.lit (.bool false)], args := [d1, d2] }
  | _ => none }
def StockPlaysWrongFalsely : Prop := stockPlaysRow.holds Try.pinned (OpenSpec.ofChange stockPlaysWrong)

/-- 'sojournlaw9.StockNobody': WHATEVER THE INPUT: true; the input reads as it did. -/
def stockNobodySpec : ChangeSpec := { name := "stockNobody", fn := fun _ => fun
  | [d1, d2] => { results := [.lit (.bool true)], args := [d1, d2] }
  | _ => none }
def stockNobodyRow : OpenClaim := { program := "ytchlbkfkecpodaa", sum := "de30e5af92eedf91d02613e739c2beebb20d1c10db0439f76e31daa9d58534a2", func := "sojourn/sojournlaw9.StockNobody", spec := "stockNobody", inPlace := ["maps.clone"], unfollowed := true, recurses := true, plainKeys := false, apart := false }
def StockNobodySaid : Prop := stockNobodyRow.holds Try.pinned (OpenSpec.ofChange stockNobodySpec)

/-- ITS FALSE NEIGHBOUR: 'it returns false'. Refute it at one input. -/
def stockNobodyWrong : ChangeSpec := { name := "stockNobody", fn := fun _ => fun
  | [d1, d2] => { results := [.lit (.bool false)], args := [d1, d2] }
  | _ => none }
def StockNobodyWrongFalsely : Prop := stockNobodyRow.holds Try.pinned (OpenSpec.ofChange stockNobodyWrong)

/-- 'sojournlaw10.PursePlays': WHATEVER THE INPUT: true; the input reads as it did. -/
def pursePlaysSpec : ChangeSpec := { name := "pursePlays", fn := fun _ => fun
  | [d1, d2, d3] => { results := [.lit (.bool true)], args := [d1, d2, d3] }
  | _ => none }
def pursePlaysRow : OpenClaim := { program := "ytchlbkfkecpodaa", sum := "de30e5af92eedf91d02613e739c2beebb20d1c10db0439f76e31daa9d58534a2", func := "sojourn/sojournlaw10.PursePlays", spec := "pursePlays", inPlace := ["math/bits.Sub64", "math/bits.Add64"], unfollowed := true, recurses := true, plainKeys := false, apart := false }
def PursePlaysSaid : Prop := pursePlaysRow.holds Try.pinned (OpenSpec.ofChange pursePlaysSpec)

/-- ITS FALSE NEIGHBOUR: 'it returns false'. Refute it at one input. -/
def pursePlaysWrong : ChangeSpec := { name := "pursePlays", fn := fun _ => fun
  | [d1, d2, d3] => { results := [.lit (.bool false)], args := [d1, d2, d3] }
  | _ => none }
def PursePlaysWrongFalsely : Prop := pursePlaysRow.holds Try.pinned (OpenSpec.ofChange pursePlaysWrong)

/-- 'sojournlaw10.PurseNobody': WHATEVER THE INPUT: true; the input reads as it did. -/
def purseNobodySpec : ChangeSpec := { name := "purseNobody", fn := fun _ => fun
  | [d] => { results := [.lit (.bool true)], args := [d] }
  | _ => none }
def purseNobodyRow : OpenClaim := { program := "ytchlbkfkecpodaa", sum := "de30e5af92eedf91d02613e739c2beebb20d1c10db0439f76e31daa9d58534a2", func := "sojourn/sojournlaw10.PurseNobody", spec := "purseNobody", inPlace := ["math/bits.Sub64", "math/bits.Add64"], unfollowed := true, recurses := true, plainKeys := false, apart := false }
def PurseNobodySaid : Prop := purseNobodyRow.holds Try.pinned (OpenSpec.ofChange purseNobodySpec)

/-- ITS FALSE NEIGHBOUR: 'it returns false'. Refute it at one input. -/
def purseNobodyWrong : ChangeSpec := { name := "purseNobody", fn := fun _ => fun
  | [d] => { results := [.lit (.bool false)], args := [d] }
  | _ => none }
def PurseNobodyWrongFalsely : Prop := purseNobodyRow.holds Try.pinned (OpenSpec.ofChange purseNobodyWrong)

/-- 'sojournlaw12.HostTwice': WHATEVER THE INPUT: true; the input reads as it did. -/
def hostTwiceSpec : ChangeSpec := { name := "hostTwice", fn := fun _ => fun
  | [d1, d2] => { results := [.lit (.bool true)], args := [d1, d2] }
  | _ => none }
def hostTwiceRow : OpenClaim := { program := "ytchlbkfkecpodaa", sum := "de30e5af92eedf91d02613e739c2beebb20d1c10db0439f76e31daa9d58534a2", func := "sojourn/sojournlaw12.HostTwice", spec := "hostTwice", inPlace := ["maps.clone"], unfollowed := true, recurses := true, plainKeys := false, apart := false }
def HostTwiceSaid : Prop := hostTwiceRow.holds Try.pinned (OpenSpec.ofChange hostTwiceSpec)

/-- ITS FALSE NEIGHBOUR: 'it returns false'. Refute it at one input. -/
def hostTwiceWrong : ChangeSpec := { name := "hostTwice", fn := fun _ => fun
  | [d1, d2] => { results := [.lit (.bool false)], args := [d1, d2] }
  | _ => none }
def HostTwiceWrongFalsely : Prop := hostTwiceRow.holds Try.pinned (OpenSpec.ofChange hostTwiceWrong)

/-- 'sojournlaw13.TillPlays': WHATEVER THE INPUT: true; the input reads as it did. -/
def tillPlaysSpec : ChangeSpec := { name := "tillPlays", fn := fun _ => fun
  | [d1, d2] => { results := [.lit (.bool true)], args := [d1, d2] }
  | _ => none }
def tillPlaysRow : OpenClaim := { program := "ytchlbkfkecpodaa", sum := "de30e5af92eedf91d02613e739c2beebb20d1c10db0439f76e31daa9d58534a2", func := "sojourn/sojournlaw13.TillPlays", spec := "tillPlays", inPlace := ["math/bits.Sub64", "math/bits.Add64"], unfollowed := true, recurses := true, plainKeys := false, apart := false }
def TillPlaysSaid : Prop := tillPlaysRow.holds Try.pinned (OpenSpec.ofChange tillPlaysSpec)

/-- ITS FALSE NEIGHBOUR: 'it returns false'. Refute it at one input. -/
def tillPlaysWrong : ChangeSpec := { name := "tillPlays", fn := fun _ => fun
  | [d1, d2] => { results := [.lit (.bool false)], args := [d1, d2] }
  | _ => none }
def TillPlaysWrongFalsely : Prop := tillPlaysRow.holds Try.pinned (OpenSpec.ofChange tillPlaysWrong)

/-- 'sojournlaw13.TillTwice': WHATEVER THE INPUT: true; the input reads as it did. -/
def tillTwiceSpec : ChangeSpec := { name := "tillTwice", fn := fun _ => fun
  | [d1, d2] => { results := [.lit (.bool true)], args := [d1, d2] }
  | _ => none }
def tillTwiceRow : OpenClaim := { program := "ytchlbkfkecpodaa", sum := "de30e5af92eedf91d02613e739c2beebb20d1c10db0439f76e31daa9d58534a2", func := "sojourn/sojournlaw13.TillTwice", spec := "tillTwice", inPlace := ["math/bits.Sub64", "math/bits.Add64"], unfollowed := true, recurses := true, plainKeys := false, apart := false }
def TillTwiceSaid : Prop := tillTwiceRow.holds Try.pinned (OpenSpec.ofChange tillTwiceSpec)

/-- ITS FALSE NEIGHBOUR: 'it returns false'. Refute it at one input. -/
def tillTwiceWrong : ChangeSpec := { name := "tillTwice", fn := fun _ => fun
  | [d1, d2] => { results := [.lit (.bool false)], args := [d1, d2] }
  | _ => none }
def TillTwiceWrongFalsely : Prop := tillTwiceRow.holds Try.pinned (OpenSpec.ofChange tillTwiceWrong)

/- THE SECOND FORM. 'bulk': how many values and letters a reading holds, each counted each time it is reached (what is shared counts as often as it is met; a slice's spare places count too). A statement '..UptoSaid' is the law's where the arguments, and the package variables that the reading takes, are together of bulk at most 1048576: NARROWER than '..Said'. Prove '..Said' where nothing that the law and all that it calls make is longer than what came in: it says more and counts as full. Else prove '..UptoSaid'. A law counts once. -/
mutual
def uptoBulk {H : Type} : DataW H → Nat
  | .lit (.string bytes) => bytes.length + 1
  | .lit _ => 1
  | .nil => 1
  | .ptr d => uptoBulk d + 1
  | .slice elems spare => uptoBulkAll elems + uptoBulkAll spare + 1
  | .agg parts => uptoBulkAll parts + 1
  | .iface _ d => uptoBulk d + 1
  | .map entries => uptoBulkEntries entries + 1
  | .held _ => 1
def uptoBulkAll {H : Type} : List (DataW H) → Nat
  | [] => 0
  | d :: r => uptoBulk d + uptoBulkAll r
def uptoBulkEntries {H : Type} : List (Lit × DataW H) → Nat
  | [] => 0
  | x :: r => uptoBulkEntry x + uptoBulkEntries r
def uptoBulkEntry {H : Type} : Lit × DataW H → Nat
  | (.string bytes, d) => bytes.length + uptoBulk d + 1
  | (_, d) => uptoBulk d + 1
 end
def uptoSmall : (H : Type) → List (DataW H) → Bool := fun _ ds => decide (uptoBulkAll ds ≤ 1048576)
def OpenSpec.upto (s : _root_.Go.ChangeSpec) : _root_.Go.OpenSpec := { _root_.Go.OpenSpec.ofChange s with cond := some uptoSmall }

/-- 'sojournlaw9.StockCopies', WHERE WHAT IT READS IS OF BULK AT MOST 1048576: true; the input reads as it did. -/
def stockCopiesUptoRow : OpenClaim := { program := "ytchlbkfkecpodaa", sum := "de30e5af92eedf91d02613e739c2beebb20d1c10db0439f76e31daa9d58534a2", func := "sojourn/sojournlaw9.StockCopies", spec := "stockCopies", inPlace := ["maps.clone"], unfollowed := true, recurses := true, plainKeys := false, apart := false, narrowed := true }
def StockCopiesUptoSaid : Prop := stockCopiesUptoRow.holds Try.pinned (OpenSpec.upto stockCopiesSpec)

/-- 'sojournlaw9.StockPlays', WHERE WHAT IT READS IS OF BULK AT MOST 1048576: true; the input reads as it did. -/
def stockPlaysUptoRow : OpenClaim := { program := "ytchlbkfkecpodaa", sum := "de30e5af92eedf91d02613e739c2beebb20d1c10db0439f76e31daa9d58534a2", func := "sojourn/sojournlaw9.StockPlays", spec := "stockPlays", inPlace := ["maps.clone"], unfollowed := true, recurses := true, plainKeys := false, apart := false, narrowed := true }
def StockPlaysUptoSaid : Prop := stockPlaysUptoRow.holds Try.pinned (OpenSpec.upto stockPlaysSpec)

/-- 'sojournlaw9.StockNobody', WHERE WHAT IT READS IS OF BULK AT MOST 1048576: true; the input reads as it did. -/
def stockNobodyUptoRow : OpenClaim := { program := "ytchlbkfkecpodaa", sum := "de30e5af92eedf91d02613e739c2beebb20d1c10db0439f76e31daa9d58534a2", func := "sojourn/sojournlaw9.StockNobody", spec := "stockNobody", inPlace := ["maps.clone"], unfollowed := true, recurses := true, plainKeys := false, apart := false, narrowed := true }
def StockNobodyUptoSaid : Prop := stockNobodyUptoRow.holds Try.pinned (OpenSpec.upto stockNobodySpec)

/-- 'sojournlaw10.PursePlays', WHERE WHAT IT READS IS OF BULK AT MOST 1048576: true; the input reads as it did. -/
def pursePlaysUptoRow : OpenClaim := { program := "ytchlbkfkecpodaa", sum := "de30e5af92eedf91d02613e739c2beebb20d1c10db0439f76e31daa9d58534a2", func := "sojourn/sojournlaw10.PursePlays", spec := "pursePlays", inPlace := ["math/bits.Sub64", "math/bits.Add64"], unfollowed := true, recurses := true, plainKeys := false, apart := false, narrowed := true }
def PursePlaysUptoSaid : Prop := pursePlaysUptoRow.holds Try.pinned (OpenSpec.upto pursePlaysSpec)

/-- 'sojournlaw10.PurseNobody', WHERE WHAT IT READS IS OF BULK AT MOST 1048576: true; the input reads as it did. -/
def purseNobodyUptoRow : OpenClaim := { program := "ytchlbkfkecpodaa", sum := "de30e5af92eedf91d02613e739c2beebb20d1c10db0439f76e31daa9d58534a2", func := "sojourn/sojournlaw10.PurseNobody", spec := "purseNobody", inPlace := ["math/bits.Sub64", "math/bits.Add64"], unfollowed := true, recurses := true, plainKeys := false, apart := false, narrowed := true }
def PurseNobodyUptoSaid : Prop := purseNobodyUptoRow.holds Try.pinned (OpenSpec.upto purseNobodySpec)

/-- 'sojournlaw12.HostTwice', WHERE WHAT IT READS IS OF BULK AT MOST 1048576: true; the input reads as it did. -/
def hostTwiceUptoRow : OpenClaim := { program := "ytchlbkfkecpodaa", sum := "de30e5af92eedf91d02613e739c2beebb20d1c10db0439f76e31daa9d58534a2", func := "sojourn/sojournlaw12.HostTwice", spec := "hostTwice", inPlace := ["maps.clone"], unfollowed := true, recurses := true, plainKeys := false, apart := false, narrowed := true }
def HostTwiceUptoSaid : Prop := hostTwiceUptoRow.holds Try.pinned (OpenSpec.upto hostTwiceSpec)

/-- 'sojournlaw13.TillPlays', WHERE WHAT IT READS IS OF BULK AT MOST 1048576: true; the input reads as it did. -/
def tillPlaysUptoRow : OpenClaim := { program := "ytchlbkfkecpodaa", sum := "de30e5af92eedf91d02613e739c2beebb20d1c10db0439f76e31daa9d58534a2", func := "sojourn/sojournlaw13.TillPlays", spec := "tillPlays", inPlace := ["math/bits.Sub64", "math/bits.Add64"], unfollowed := true, recurses := true, plainKeys := false, apart := false, narrowed := true }
def TillPlaysUptoSaid : Prop := tillPlaysUptoRow.holds Try.pinned (OpenSpec.upto tillPlaysSpec)

/-- 'sojournlaw13.TillTwice', WHERE WHAT IT READS IS OF BULK AT MOST 1048576: true; the input reads as it did. -/
def tillTwiceUptoRow : OpenClaim := { program := "ytchlbkfkecpodaa", sum := "de30e5af92eedf91d02613e739c2beebb20d1c10db0439f76e31daa9d58534a2", func := "sojourn/sojournlaw13.TillTwice", spec := "tillTwice", inPlace := ["math/bits.Sub64", "math/bits.Add64"], unfollowed := true, recurses := true, plainKeys := false, apart := false, narrowed := true }
def TillTwiceUptoSaid : Prop := tillTwiceUptoRow.holds Try.pinned (OpenSpec.upto tillTwiceSpec)

end Rows
end Go.Proofs.Ytchlbkfkecpodaa
