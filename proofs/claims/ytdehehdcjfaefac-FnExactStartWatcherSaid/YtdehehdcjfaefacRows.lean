/-
  No cell of these rows narrows 'for every input' (looked for: loops, veiled, ifaces, maps, wideKeys, modest, calm, conditions, laid).
  DERIVED. THE GIVEN ROWS OF THIS SEAT. 7 by the template 'for every input the law returns true; each argument reads behind the call as it read before'; 0 by the template 'total and deterministic' (their statements: YtdehehdcjfaefacTotals.lean).
  GIVEN WITH THE SEED: the statements are not yours to turn. If you find one false, say at which input.
  Laid BY PROGRAM, IN A SANDBOX (cutbox-rows.mjs): the forced cells as the released guide's own fill.sh prints them over the translation 3848f7acd8f19e4d… (all of the seat's roots in one cut). By AI agents, Wed Nov 11 2026. No macro, syntax, notation, axiom, sorry.
-/
import Derived.Test.YtdehehdcjfaefacChecked
import GoSem.Claim
import GoSem.ClaimJoined
import GoSem.ClaimMapViews
import Derived.JoinedTies
import Derived.KernelRfl
namespace Go.Proofs.Ytdehehdcjfaefac
/- THE CELL 'sum', in the pinned program and in every row, IS THE sha256 OF THE DUMP (.gsa) THAT YtdehehdcjfaefacProg.lean LOADS. Nothing in Lean hashes anything: it is a label: what it is worth is what the hold of that sum in a sandbox is worth. -/
noncomputable def Try.pinned : Pinned := { name := "ytdehehdcjfaefac", sum := "3848f7acd8f19e4d4e5beb7acbf94b57f1254922f4dcd89d6d348ba597b00b2b", checked := Try.checked }
namespace Rows
def none {H : Type} : Left H := { results := [], args := [] }

/-- 'laws.FnExactValidQuery': WHATEVER THE INPUT: true; the input reads as it did. -/
def fnExactValidQuerySpec : ChangeSpec := { name := "fnExactValidQuery", fn := fun _ => fun
  | [d] => { results := [.lit (.bool true)], args := [d] }
  | _ => none }
def fnExactValidQueryRow : OpenClaim := { program := "ytdehehdcjfaefac", sum := "3848f7acd8f19e4d4e5beb7acbf94b57f1254922f4dcd89d6d348ba597b00b2b", func := "loop.example/g01145/laws.FnExactValidQuery", spec := "fnExactValidQuery", inPlace := ["internal/bytealg.IndexByteString", "internal/bytealg.IndexString"], unfollowed := true, recurses := true, named := ["internal/bytealg.MaxLen"], apart := false }
def FnExactValidQuerySaid : Prop := fnExactValidQueryRow.holds Try.pinned (OpenSpec.ofChange fnExactValidQuerySpec)

/-- ITS FALSE NEIGHBOUR: 'it returns false'. Refute it at one input. -/
def fnExactValidQueryWrong : ChangeSpec := { name := "fnExactValidQuery", fn := fun _ => fun
  | [d] => { results := [.lit (.bool false)], args := [d] }
  | _ => none }
def FnExactValidQueryWrongFalsely : Prop := fnExactValidQueryRow.holds Try.pinned (OpenSpec.ofChange fnExactValidQueryWrong)

/-- 'laws.FnExactSameQuery': WHATEVER THE INPUT: true; the input reads as it did. -/
def fnExactSameQuerySpec : ChangeSpec := { name := "fnExactSameQuery", fn := fun _ => fun
  | [d1, d2] => { results := [.lit (.bool true)], args := [d1, d2] }
  | _ => none }
def fnExactSameQueryRow : OpenClaim := { program := "ytdehehdcjfaefac", sum := "3848f7acd8f19e4d4e5beb7acbf94b57f1254922f4dcd89d6d348ba597b00b2b", func := "loop.example/g01145/laws.FnExactSameQuery", spec := "fnExactSameQuery", apart := false }
def FnExactSameQuerySaid : Prop := fnExactSameQueryRow.holds Try.pinned (OpenSpec.ofChange fnExactSameQuerySpec)

/-- ITS FALSE NEIGHBOUR: 'it returns false'. Refute it at one input. -/
def fnExactSameQueryWrong : ChangeSpec := { name := "fnExactSameQuery", fn := fun _ => fun
  | [d1, d2] => { results := [.lit (.bool false)], args := [d1, d2] }
  | _ => none }
def FnExactSameQueryWrongFalsely : Prop := fnExactSameQueryRow.holds Try.pinned (OpenSpec.ofChange fnExactSameQueryWrong)

/-- 'laws.FnExactPassesTest': WHATEVER THE INPUT: true; the input reads as it did. -/
def fnExactPassesTestSpec : ChangeSpec := { name := "fnExactPassesTest", fn := fun _ => fun
  | [d1, d2] => { results := [.lit (.bool true)], args := [d1, d2] }
  | _ => none }
def fnExactPassesTestRow : OpenClaim := { program := "ytdehehdcjfaefac", sum := "3848f7acd8f19e4d4e5beb7acbf94b57f1254922f4dcd89d6d348ba597b00b2b", func := "loop.example/g01145/laws.FnExactPassesTest", spec := "fnExactPassesTest", inPlace := ["internal/bytealg.IndexByteString", "internal/bytealg.IndexString"], unfollowed := true, recurses := true, named := ["internal/bytealg.MaxLen"], apart := false }
def FnExactPassesTestSaid : Prop := fnExactPassesTestRow.holds Try.pinned (OpenSpec.ofChange fnExactPassesTestSpec)

/-- ITS FALSE NEIGHBOUR: 'it returns false'. Refute it at one input. -/
def fnExactPassesTestWrong : ChangeSpec := { name := "fnExactPassesTest", fn := fun _ => fun
  | [d1, d2] => { results := [.lit (.bool false)], args := [d1, d2] }
  | _ => none }
def FnExactPassesTestWrongFalsely : Prop := fnExactPassesTestRow.holds Try.pinned (OpenSpec.ofChange fnExactPassesTestWrong)

/-- 'laws.FnExactSameWatcher': WHATEVER THE INPUT: true; the input reads as it did. -/
def fnExactSameWatcherSpec : ChangeSpec := { name := "fnExactSameWatcher", fn := fun _ => fun
  | [d1, d2] => { results := [.lit (.bool true)], args := [d1, d2] }
  | _ => none }
def fnExactSameWatcherRow : OpenClaim := { program := "ytdehehdcjfaefac", sum := "3848f7acd8f19e4d4e5beb7acbf94b57f1254922f4dcd89d6d348ba597b00b2b", func := "loop.example/g01145/laws.FnExactSameWatcher", spec := "fnExactSameWatcher", unfollowed := true, recurses := true, apart := false }
def FnExactSameWatcherSaid : Prop := fnExactSameWatcherRow.holds Try.pinned (OpenSpec.ofChange fnExactSameWatcherSpec)

/-- ITS FALSE NEIGHBOUR: 'it returns false'. Refute it at one input. -/
def fnExactSameWatcherWrong : ChangeSpec := { name := "fnExactSameWatcher", fn := fun _ => fun
  | [d1, d2] => { results := [.lit (.bool false)], args := [d1, d2] }
  | _ => none }
def FnExactSameWatcherWrongFalsely : Prop := fnExactSameWatcherRow.holds Try.pinned (OpenSpec.ofChange fnExactSameWatcherWrong)

/-- 'laws.FnExactStartWatcher': WHATEVER THE INPUT: true; the input reads as it did. -/
def fnExactStartWatcherSpec : ChangeSpec := { name := "fnExactStartWatcher", fn := fun _ => fun
  | [d] => { results := [.lit (.bool true)], args := [d] }
  | _ => none }
def fnExactStartWatcherRow : OpenClaim := { program := "ytdehehdcjfaefac", sum := "3848f7acd8f19e4d4e5beb7acbf94b57f1254922f4dcd89d6d348ba597b00b2b", func := "loop.example/g01145/laws.FnExactStartWatcher", spec := "fnExactStartWatcher", inPlace := ["internal/bytealg.IndexByteString", "internal/bytealg.IndexString"], unfollowed := true, recurses := true, named := ["internal/bytealg.MaxLen"], apart := false }
def FnExactStartWatcherSaid : Prop := fnExactStartWatcherRow.holds Try.pinned (OpenSpec.ofChange fnExactStartWatcherSpec)

/-- ITS FALSE NEIGHBOUR: 'it returns false'. Refute it at one input. -/
def fnExactStartWatcherWrong : ChangeSpec := { name := "fnExactStartWatcher", fn := fun _ => fun
  | [d] => { results := [.lit (.bool false)], args := [d] }
  | _ => none }
def FnExactStartWatcherWrongFalsely : Prop := fnExactStartWatcherRow.holds Try.pinned (OpenSpec.ofChange fnExactStartWatcherWrong)

/-- 'laws.FnExactValidWatcher': WHATEVER THE INPUT: true; the input reads as it did. -/
def fnExactValidWatcherSpec : ChangeSpec := { name := "fnExactValidWatcher", fn := fun _ => fun
  | [d] => { results := [.lit (.bool true)], args := [d] }
  | _ => none }
def fnExactValidWatcherRow : OpenClaim := { program := "ytdehehdcjfaefac", sum := "3848f7acd8f19e4d4e5beb7acbf94b57f1254922f4dcd89d6d348ba597b00b2b", func := "loop.example/g01145/laws.FnExactValidWatcher", spec := "fnExactValidWatcher", inPlace := ["internal/bytealg.IndexByteString", "internal/bytealg.IndexString"], unfollowed := true, recurses := true, named := ["internal/bytealg.MaxLen"], apart := false }
def FnExactValidWatcherSaid : Prop := fnExactValidWatcherRow.holds Try.pinned (OpenSpec.ofChange fnExactValidWatcherSpec)

/-- ITS FALSE NEIGHBOUR: 'it returns false'. Refute it at one input. -/
def fnExactValidWatcherWrong : ChangeSpec := { name := "fnExactValidWatcher", fn := fun _ => fun
  | [d] => { results := [.lit (.bool false)], args := [d] }
  | _ => none }
def FnExactValidWatcherWrongFalsely : Prop := fnExactValidWatcherRow.holds Try.pinned (OpenSpec.ofChange fnExactValidWatcherWrong)

/-- 'laws.FnExactQueryText': WHATEVER THE INPUT: true; the input reads as it did. -/
def fnExactQueryTextSpec : ChangeSpec := { name := "fnExactQueryText", fn := fun _ => fun
  | [d] => { results := [.lit (.bool true)], args := [d] }
  | _ => none }
def fnExactQueryTextRow : OpenClaim := { program := "ytdehehdcjfaefac", sum := "3848f7acd8f19e4d4e5beb7acbf94b57f1254922f4dcd89d6d348ba597b00b2b", func := "loop.example/g01145/laws.FnExactQueryText", spec := "fnExactQueryText", inPlace := ["internal/bytealg.IndexByteString", "internal/bytealg.IndexString"], unfollowed := true, recurses := true, named := ["internal/bytealg.MaxLen"], apart := false }
def FnExactQueryTextSaid : Prop := fnExactQueryTextRow.holds Try.pinned (OpenSpec.ofChange fnExactQueryTextSpec)

/-- ITS FALSE NEIGHBOUR: 'it returns false'. Refute it at one input. -/
def fnExactQueryTextWrong : ChangeSpec := { name := "fnExactQueryText", fn := fun _ => fun
  | [d] => { results := [.lit (.bool false)], args := [d] }
  | _ => none }
def FnExactQueryTextWrongFalsely : Prop := fnExactQueryTextRow.holds Try.pinned (OpenSpec.ofChange fnExactQueryTextWrong)

/- THE SECOND FORM. 'bulk': how many values and letters a reading holds, each counted each time it is reached (what is shared counts as often as it is met; a slice's spare places count too). A statement '..UptoSaid' is the law's where the arguments, and the package variables that the reading takes, are together of bulk at most 1048576: NARROWER than '..Said'. Prove '..Said' where nothing that the law and all that it calls make is longer than what came in: it says more and counts as full. Else prove '..UptoSaid'. A law counts once. -/
mutual
def uptoBulk {H : Type} : DataW H → Nat
  | .lit (.string bytes) => bytes.length + 1
  | .lit _ => 1
  | .nil => 1
  | .ptr d => uptoBulk d + 1
  | .slice elems spare => uptoBulkAll elems + uptoBulkAll spare + 1
  | .agg parts => uptoBulkAll parts + 1
  | .iface _ d => uptoBulk d + 1
  | .map entries => uptoBulkEntries entries + 1
  | .held _ => 1
def uptoBulkAll {H : Type} : List (DataW H) → Nat
  | [] => 0
  | d :: r => uptoBulk d + uptoBulkAll r
def uptoBulkEntries {H : Type} : List (Lit × DataW H) → Nat
  | [] => 0
  | x :: r => uptoBulkEntry x + uptoBulkEntries r
def uptoBulkEntry {H : Type} : Lit × DataW H → Nat
  | (.string bytes, d) => bytes.length + uptoBulk d + 1
  | (_, d) => uptoBulk d + 1
 end
def uptoSmall : (H : Type) → List (DataW H) → Bool := fun _ ds => decide (uptoBulkAll ds ≤ 1048576)
def OpenSpec.upto (s : _root_.Go.ChangeSpec) : _root_.Go.OpenSpec := { _root_.Go.OpenSpec.ofChange s with cond := some uptoSmall }

/-- 'laws.FnExactValidQuery', WHERE WHAT IT READS IS OF BULK AT MOST 1048576: true; the input reads as it did. -/
def fnExactValidQueryUptoRow : OpenClaim := { program := "ytdehehdcjfaefac", sum := "3848f7acd8f19e4d4e5beb7acbf94b57f1254922f4dcd89d6d348ba597b00b2b", func := "loop.example/g01145/laws.FnExactValidQuery", spec := "fnExactValidQuery", inPlace := ["internal/bytealg.IndexByteString", "internal/bytealg.IndexString"], unfollowed := true, recurses := true, named := ["internal/bytealg.MaxLen"], apart := false, narrowed := true }
def FnExactValidQueryUptoSaid : Prop := fnExactValidQueryUptoRow.holds Try.pinned (OpenSpec.upto fnExactValidQuerySpec)

/-- 'laws.FnExactSameQuery', WHERE WHAT IT READS IS OF BULK AT MOST 1048576: true; the input reads as it did. -/
def fnExactSameQueryUptoRow : OpenClaim := { program := "ytdehehdcjfaefac", sum := "3848f7acd8f19e4d4e5beb7acbf94b57f1254922f4dcd89d6d348ba597b00b2b", func := "loop.example/g01145/laws.FnExactSameQuery", spec := "fnExactSameQuery", apart := false, narrowed := true }
def FnExactSameQueryUptoSaid : Prop := fnExactSameQueryUptoRow.holds Try.pinned (OpenSpec.upto fnExactSameQuerySpec)

/-- 'laws.FnExactPassesTest', WHERE WHAT IT READS IS OF BULK AT MOST 1048576: true; the input reads as it did. -/
def fnExactPassesTestUptoRow : OpenClaim := { program := "ytdehehdcjfaefac", sum := "3848f7acd8f19e4d4e5beb7acbf94b57f1254922f4dcd89d6d348ba597b00b2b", func := "loop.example/g01145/laws.FnExactPassesTest", spec := "fnExactPassesTest", inPlace := ["internal/bytealg.IndexByteString", "internal/bytealg.IndexString"], unfollowed := true, recurses := true, named := ["internal/bytealg.MaxLen"], apart := false, narrowed := true }
def FnExactPassesTestUptoSaid : Prop := fnExactPassesTestUptoRow.holds Try.pinned (OpenSpec.upto fnExactPassesTestSpec)

/-- 'laws.FnExactSameWatcher', WHERE WHAT IT READS IS OF BULK AT MOST 1048576: true; the input reads as it did. -/
def fnExactSameWatcherUptoRow : OpenClaim := { program := "ytdehehdcjfaefac", sum := "3848f7acd8f19e4d4e5beb7acbf94b57f1254922f4dcd89d6d348ba597b00b2b", func := "loop.example/g01145/laws.FnExactSameWatcher", spec := "fnExactSameWatcher", unfollowed := true, recurses := true, apart := false, narrowed := true }
def FnExactSameWatcherUptoSaid : Prop := fnExactSameWatcherUptoRow.holds Try.pinned (OpenSpec.upto fnExactSameWatcherSpec)

/-- 'laws.FnExactStartWatcher', WHERE WHAT IT READS IS OF BULK AT MOST 1048576: true; the input reads as it did. -/
def fnExactStartWatcherUptoRow : OpenClaim := { program := "ytdehehdcjfaefac", sum := "3848f7acd8f19e4d4e5beb7acbf94b57f1254922f4dcd89d6d348ba597b00b2b", func := "loop.example/g01145/laws.FnExactStartWatcher", spec := "fnExactStartWatcher", inPlace := ["internal/bytealg.IndexByteString", "internal/bytealg.IndexString"], unfollowed := true, recurses := true, named := ["internal/bytealg.MaxLen"], apart := false, narrowed := true }
def FnExactStartWatcherUptoSaid : Prop := fnExactStartWatcherUptoRow.holds Try.pinned (OpenSpec.upto fnExactStartWatcherSpec)

/-- 'laws.FnExactValidWatcher', WHERE WHAT IT READS IS OF BULK AT MOST 1048576: true; the input reads as it did. -/
def fnExactValidWatcherUptoRow : OpenClaim := { program := "ytdehehdcjfaefac", sum := "3848f7acd8f19e4d4e5beb7acbf94b57f1254922f4dcd89d6d348ba597b00b2b", func := "loop.example/g01145/laws.FnExactValidWatcher", spec := "fnExactValidWatcher", inPlace := ["internal/bytealg.IndexByteString", "internal/bytealg.IndexString"], unfollowed := true, recurses := true, named := ["internal/bytealg.MaxLen"], apart := false, narrowed := true }
def FnExactValidWatcherUptoSaid : Prop := fnExactValidWatcherUptoRow.holds Try.pinned (OpenSpec.upto fnExactValidWatcherSpec)

/-- 'laws.FnExactQueryText', WHERE WHAT IT READS IS OF BULK AT MOST 1048576: true; the input reads as it did. -/
def fnExactQueryTextUptoRow : OpenClaim := { program := "ytdehehdcjfaefac", sum := "3848f7acd8f19e4d4e5beb7acbf94b57f1254922f4dcd89d6d348ba597b00b2b", func := "loop.example/g01145/laws.FnExactQueryText", spec := "fnExactQueryText", inPlace := ["internal/bytealg.IndexByteString", "internal/bytealg.IndexString"], unfollowed := true, recurses := true, named := ["internal/bytealg.MaxLen"], apart := false, narrowed := true }
def FnExactQueryTextUptoSaid : Prop := fnExactQueryTextUptoRow.holds Try.pinned (OpenSpec.upto fnExactQueryTextSpec)

end Rows
end Go.Proofs.Ytdehehdcjfaefac
