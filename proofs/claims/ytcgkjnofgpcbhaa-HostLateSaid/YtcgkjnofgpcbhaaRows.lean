/-
  No cell of these rows narrows 'for every input' (looked for: loops, veiled, ifaces, maps, wideKeys, modest, calm, conditions, laid).
  DERIVED. THE GIVEN ROWS OF THIS SEAT. 7 by the template 'for every input the law returns true; each argument reads behind the call as it read before'; 0 by the template 'total and deterministic' (their statements: YtcgkjnofgpcbhaaTotals.lean).
  GIVEN WITH THE SEED: the statements are not yours to turn. If you find one false, say at which input.
  Laid BY PROGRAM, IN A SANDBOX (cutbox-rows.mjs): the forced cells as the released guide's own fill.sh prints them over the translation 7ff338f8d5053c3c… (all of the seat's roots in one cut). By AI agents, Wed Nov 11 2026. No macro, syntax, notation, axiom, sorry.
-/
import Derived.Test.YtcgkjnofgpcbhaaChecked
import GoSem.Claim
import GoSem.ClaimJoined
import GoSem.ClaimMapViews
import Derived.JoinedTies
import Derived.KernelRfl
namespace Go.Proofs.Ytcgkjnofgpcbhaa
/- THE CELL 'sum', in the pinned program and in every row, IS THE sha256 OF THE DUMP (.gsa) THAT YtcgkjnofgpcbhaaProg.lean LOADS. Nothing in Lean hashes anything: it is a label: what it is worth is what the hold of that sum in a sandbox is worth. -/
noncomputable def Try.pinned : Pinned := { name := "ytcgkjnofgpcbhaa", sum := "7ff338f8d5053c3cad0a5a6f9871112e18ca3d1c9d6984a5064ec4b5e6b4b5b8", checked := Try.checked }
namespace Rows
def none {H : Type} : Left H := { results := [], args := [] }

/-- 'sojournlaw12.HostTwice': WHATEVER THE INPUT: true; the input reads as it did. -/
def hostTwiceSpec : ChangeSpec := { name := "hostTwice", fn := fun _ => fun
  | [d1, d2] => { results := [.lit (.bool true)], args := [d1, d2] }
  | _ => none }
def hostTwiceRow : OpenClaim := { program := "ytcgkjnofgpcbhaa", sum := "7ff338f8d5053c3cad0a5a6f9871112e18ca3d1c9d6984a5064ec4b5e6b4b5b8", func := "sojourn/sojournlaw12.HostTwice", spec := "hostTwice", inPlace := ["maps.clone"], unfollowed := true, recurses := true, plainKeys := false, apart := false }
def HostTwiceSaid : Prop := hostTwiceRow.holds Try.pinned (OpenSpec.ofChange hostTwiceSpec)

/-- ITS FALSE NEIGHBOUR: 'it returns false'. Refute it at one input. -/
def hostTwiceWrong : ChangeSpec := { name := "hostTwice", fn := fun _ => fun
  | [d1, d2] => { results := [.lit (.bool false)], args := [d1, d2] }
  | _ => none }
def HostTwiceWrongFalsely : Prop := hostTwiceRow.holds Try.pinned (OpenSpec.ofChange hostTwiceWrong)

/-- 'sojournlaw12.HostLate': WHATEVER THE INPUT: true; the input reads as it did. -/
def hostLateSpec : ChangeSpec := { name := "hostLate", fn := fun _ => fun
  | [d1, d2, d3] => { results := [.lit (.bool true)], args := [d1, d2, d3] }
  | _ => none }
def hostLateRow : OpenClaim := { program := "ytcgkjnofgpcbhaa", sum := "7ff338f8d5053c3cad0a5a6f9871112e18ca3d1c9d6984a5064ec4b5e6b4b5b8", func := "sojourn/sojournlaw12.HostLate", spec := "hostLate", inPlace := ["maps.clone"], unfollowed := true, recurses := true, plainKeys := false, apart := false }
def HostLateSaid : Prop := hostLateRow.holds Try.pinned (OpenSpec.ofChange hostLateSpec)

/-- ITS FALSE NEIGHBOUR: 'it returns false'. Refute it at one input. -/
def hostLateWrong : ChangeSpec := { name := "hostLate", fn := fun _ => fun
  | [d1, d2, d3] => { results := [.lit (.bool false)], args := [d1, d2, d3] }
  | _ => none }
def HostLateWrongFalsely : Prop := hostLateRow.holds Try.pinned (OpenSpec.ofChange hostLateWrong)

/-- 'sojournlaw12.HostApart': WHATEVER THE INPUT: true; the input reads as it did. -/
def hostApartSpec : ChangeSpec := { name := "hostApart", fn := fun _ => fun
  | [d1, d2] => { results := [.lit (.bool true)], args := [d1, d2] }
  | _ => none }
def hostApartRow : OpenClaim := { program := "ytcgkjnofgpcbhaa", sum := "7ff338f8d5053c3cad0a5a6f9871112e18ca3d1c9d6984a5064ec4b5e6b4b5b8", func := "sojourn/sojournlaw12.HostApart", spec := "hostApart", inPlace := ["maps.clone"], unfollowed := true, recurses := true, plainKeys := false, apart := false }
def HostApartSaid : Prop := hostApartRow.holds Try.pinned (OpenSpec.ofChange hostApartSpec)

/-- ITS FALSE NEIGHBOUR: 'it returns false'. Refute it at one input. -/
def hostApartWrong : ChangeSpec := { name := "hostApart", fn := fun _ => fun
  | [d1, d2] => { results := [.lit (.bool false)], args := [d1, d2] }
  | _ => none }
def HostApartWrongFalsely : Prop := hostApartRow.holds Try.pinned (OpenSpec.ofChange hostApartWrong)

/-- 'sojournlaw13.TillPlays': WHATEVER THE INPUT: true; the input reads as it did. -/
def tillPlaysSpec : ChangeSpec := { name := "tillPlays", fn := fun _ => fun
  | [d1, d2] => { results := [.lit (.bool true)], args := [d1, d2] }
  | _ => none }
def tillPlaysRow : OpenClaim := { program := "ytcgkjnofgpcbhaa", sum := "7ff338f8d5053c3cad0a5a6f9871112e18ca3d1c9d6984a5064ec4b5e6b4b5b8", func := "sojourn/sojournlaw13.TillPlays", spec := "tillPlays", inPlace := ["math/bits.Sub64", "math/bits.Add64"], unfollowed := true, recurses := true, plainKeys := false, apart := false }
def TillPlaysSaid : Prop := tillPlaysRow.holds Try.pinned (OpenSpec.ofChange tillPlaysSpec)

/-- ITS FALSE NEIGHBOUR: 'it returns false'. Refute it at one input. -/
def tillPlaysWrong : ChangeSpec := { name := "tillPlays", fn := fun _ => fun
  | [d1, d2] => { results := [.lit (.bool false)], args := [d1, d2] }
  | _ => none }
def TillPlaysWrongFalsely : Prop := tillPlaysRow.holds Try.pinned (OpenSpec.ofChange tillPlaysWrong)

/-- 'sojournlaw13.TillTwice': WHATEVER THE INPUT: true; the input reads as it did. -/
def tillTwiceSpec : ChangeSpec := { name := "tillTwice", fn := fun _ => fun
  | [d1, d2] => { results := [.lit (.bool true)], args := [d1, d2] }
  | _ => none }
def tillTwiceRow : OpenClaim := { program := "ytcgkjnofgpcbhaa", sum := "7ff338f8d5053c3cad0a5a6f9871112e18ca3d1c9d6984a5064ec4b5e6b4b5b8", func := "sojourn/sojournlaw13.TillTwice", spec := "tillTwice", inPlace := ["math/bits.Sub64", "math/bits.Add64"], unfollowed := true, recurses := true, plainKeys := false, apart := false }
def TillTwiceSaid : Prop := tillTwiceRow.holds Try.pinned (OpenSpec.ofChange tillTwiceSpec)

/-- ITS FALSE NEIGHBOUR: 'it returns false'. Refute it at one input. -/
def tillTwiceWrong : ChangeSpec := { name := "tillTwice", fn := fun _ => fun
  | [d1, d2] => { results := [.lit (.bool false)], args := [d1, d2] }
  | _ => none }
def TillTwiceWrongFalsely : Prop := tillTwiceRow.holds Try.pinned (OpenSpec.ofChange tillTwiceWrong)

/-- 'sojournlaw13.TillVoid': WHATEVER THE INPUT: true; the input reads as it did. -/
def tillVoidSpec : ChangeSpec := { name := "tillVoid", fn := fun _ => fun
  | [d1, d2, d3] => { results := [.lit (.bool true)], args := [d1, d2, d3] }
  | _ => none }
def tillVoidRow : OpenClaim := { program := "ytcgkjnofgpcbhaa", sum := "7ff338f8d5053c3cad0a5a6f9871112e18ca3d1c9d6984a5064ec4b5e6b4b5b8", func := "sojourn/sojournlaw13.TillVoid", spec := "tillVoid", inPlace := ["math/bits.Sub64", "math/bits.Add64"], unfollowed := true, recurses := true, plainKeys := false, apart := false }
def TillVoidSaid : Prop := tillVoidRow.holds Try.pinned (OpenSpec.ofChange tillVoidSpec)

/-- ITS FALSE NEIGHBOUR: 'it returns false'. Refute it at one input. -/
def tillVoidWrong : ChangeSpec := { name := "tillVoid", fn := fun _ => fun
  | [d1, d2, d3] => { results := [.lit (.bool false)], args := [d1, d2, d3] }
  | _ => none }
def TillVoidWrongFalsely : Prop := tillVoidRow.holds Try.pinned (OpenSpec.ofChange tillVoidWrong)

/-- 'sojournlaw13.TillApart': WHATEVER THE INPUT: true; the input reads as it did. -/
def tillApartSpec : ChangeSpec := { name := "tillApart", fn := fun _ => fun
  | [d1, d2] => { results := [.lit (.bool true)], args := [d1, d2] }
  | _ => none }
def tillApartRow : OpenClaim := { program := "ytcgkjnofgpcbhaa", sum := "7ff338f8d5053c3cad0a5a6f9871112e18ca3d1c9d6984a5064ec4b5e6b4b5b8", func := "sojourn/sojournlaw13.TillApart", spec := "tillApart", inPlace := ["math/bits.Sub64", "math/bits.Add64"], unfollowed := true, recurses := true, plainKeys := false, apart := false }
def TillApartSaid : Prop := tillApartRow.holds Try.pinned (OpenSpec.ofChange tillApartSpec)

/-- ITS FALSE NEIGHBOUR: 'it returns false'. Refute it at one input. -/
def tillApartWrong : ChangeSpec := { name := "tillApart", fn := fun _ => fun
  | [d1, d2] => { results := [.lit (.bool false)], args := [d1, d2] }
  | _ => none }
def TillApartWrongFalsely : Prop := tillApartRow.holds Try.pinned (OpenSpec.ofChange tillApartWrong)

/- THE SECOND FORM. 'bulk': how many values and letters a reading holds, each counted each time it is reached (what is shared counts as often as it is met; a slice's spare places count too). A statement '..UptoSaid' is the law's where the arguments, and the package variables that the reading takes, are together of bulk at most 1048576: NARROWER than '..Said'. Prove '..Said' where nothing that the law and all that it calls make is longer than what came in: it says more and counts as full. Else prove '..UptoSaid'. A law counts once. -/
mutual
def uptoBulk {H : Type} : DataW H → Nat
  | .lit (.string bytes) => bytes.length + 1
  | .lit _ => 1
  | .nil => 1
  | .ptr d => uptoBulk d + 1
  | .slice elems spare => uptoBulkAll elems + uptoBulkAll spare + 1
  | .agg parts => uptoBulkAll parts + 1
  | .iface _ d => uptoBulk d + 1
  | .map entries => uptoBulkEntries entries + 1
  | .held _ => 1
def uptoBulkAll {H : Type} : List (DataW H) → Nat
  | [] => 0
  | d :: r => uptoBulk d + uptoBulkAll r
def uptoBulkEntries {H : Type} : List (Lit × DataW H) → Nat
  | [] => 0
  | x :: r => uptoBulkEntry x + uptoBulkEntries r
def uptoBulkEntry {H : Type} : Lit × DataW H → Nat
  | (.string bytes, d) => bytes.length + uptoBulk d + 1
  | (_, d) => uptoBulk d + 1
 end
def uptoSmall : (H : Type) → List (DataW H) → Bool := fun _ ds => decide (uptoBulkAll ds ≤ 1048576)
def OpenSpec.upto (s : _root_.Go.ChangeSpec) : _root_.Go.OpenSpec := { _root_.Go.OpenSpec.ofChange s with cond := some uptoSmall }

/-- 'sojournlaw12.HostTwice', WHERE WHAT IT READS IS OF BULK AT MOST 1048576: true; the input reads as it did. -/
def hostTwiceUptoRow : OpenClaim := { program := "ytcgkjnofgpcbhaa", sum := "7ff338f8d5053c3cad0a5a6f9871112e18ca3d1c9d6984a5064ec4b5e6b4b5b8", func := "sojourn/sojournlaw12.HostTwice", spec := "hostTwice", inPlace := ["maps.clone"], unfollowed := true, recurses := true, plainKeys := false, apart := false, narrowed := true }
def HostTwiceUptoSaid : Prop := hostTwiceUptoRow.holds Try.pinned (OpenSpec.upto hostTwiceSpec)

/-- 'sojournlaw12.HostLate', WHERE WHAT IT READS IS OF BULK AT MOST 1048576: true; the input reads as it did. -/
def hostLateUptoRow : OpenClaim := { program := "ytcgkjnofgpcbhaa", sum := "7ff338f8d5053c3cad0a5a6f9871112e18ca3d1c9d6984a5064ec4b5e6b4b5b8", func := "sojourn/sojournlaw12.HostLate", spec := "hostLate", inPlace := ["maps.clone"], unfollowed := true, recurses := true, plainKeys := false, apart := false, narrowed := true }
def HostLateUptoSaid : Prop := hostLateUptoRow.holds Try.pinned (OpenSpec.upto hostLateSpec)

/-- 'sojournlaw12.HostApart', WHERE WHAT IT READS IS OF BULK AT MOST 1048576: true; the input reads as it did. -/
def hostApartUptoRow : OpenClaim := { program := "ytcgkjnofgpcbhaa", sum := "7ff338f8d5053c3cad0a5a6f9871112e18ca3d1c9d6984a5064ec4b5e6b4b5b8", func := "sojourn/sojournlaw12.HostApart", spec := "hostApart", inPlace := ["maps.clone"], unfollowed := true, recurses := true, plainKeys := false, apart := false, narrowed := true }
def HostApartUptoSaid : Prop := hostApartUptoRow.holds Try.pinned (OpenSpec.upto hostApartSpec)

/-- 'sojournlaw13.TillPlays', WHERE WHAT IT READS IS OF BULK AT MOST 1048576: true; the input reads as it did. -/
def tillPlaysUptoRow : OpenClaim := { program := "ytcgkjnofgpcbhaa", sum := "7ff338f8d5053c3cad0a5a6f9871112e18ca3d1c9d6984a5064ec4b5e6b4b5b8", func := "sojourn/sojournlaw13.TillPlays", spec := "tillPlays", inPlace := ["math/bits.Sub64", "math/bits.Add64"], unfollowed := true, recurses := true, plainKeys := false, apart := false, narrowed := true }
def TillPlaysUptoSaid : Prop := tillPlaysUptoRow.holds Try.pinned (OpenSpec.upto tillPlaysSpec)

/-- 'sojournlaw13.TillTwice', WHERE WHAT IT READS IS OF BULK AT MOST 1048576: true; the input reads as it did. -/
def tillTwiceUptoRow : OpenClaim := { program := "ytcgkjnofgpcbhaa", sum := "7ff338f8d5053c3cad0a5a6f9871112e18ca3d1c9d6984a5064ec4b5e6b4b5b8", func := "sojourn/sojournlaw13.TillTwice", spec := "tillTwice", inPlace := ["math/bits.Sub64", "math/bits.Add64"], unfollowed := true, recurses := true, plainKeys := false, apart := false, narrowed := true }
def TillTwiceUptoSaid : Prop := tillTwiceUptoRow.holds Try.pinned (OpenSpec.upto tillTwiceSpec)

/-- 'sojournlaw13.TillVoid', WHERE WHAT IT READS IS OF BULK AT MOST 1048576: true; the input reads as it did. -/
def tillVoidUptoRow : OpenClaim := { program := "ytcgkjnofgpcbhaa", sum := "7ff338f8d5053c3cad0a5a6f9871112e18ca3d1c9d6984a5064ec4b5e6b4b5b8", func := "sojourn/sojournlaw13.TillVoid", spec := "tillVoid", inPlace := ["math/bits.Sub64", "math/bits.Add64"], unfollowed := true, recurses := true, plainKeys := false, apart := false, narrowed := true }
def TillVoidUptoSaid : Prop := tillVoidUptoRow.holds Try.pinned (OpenSpec.upto tillVoidSpec)

/-- 'sojournlaw13.TillApart', WHERE WHAT IT READS IS OF BULK AT MOST 1048576: true; the input reads as it did. -/
def tillApartUptoRow : OpenClaim := { program := "ytcgkjnofgpcbhaa", sum := "7ff338f8d5053c3cad0a5a6f9871112e18ca3d1c9d6984a5064ec4b5e6b4b5b8", func := "sojourn/sojournlaw13.TillApart", spec := "tillApart", inPlace := ["math/bits.Sub64", "math/bits.Add64"], unfollowed := true, recurses := true, plainKeys := false, apart := false, narrowed := true }
def TillApartUptoSaid : Prop := tillApartUptoRow.holds Try.pinned (OpenSpec.upto tillApartSpec)

end Rows
end Go.Proofs.Ytcgkjnofgpcbhaa
