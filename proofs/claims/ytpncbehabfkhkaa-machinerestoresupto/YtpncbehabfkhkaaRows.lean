/-
  No cell of these rows narrows 'for every input' (looked for: loops, veiled, ifaces, maps, wideKeys, modest, calm, conditions, laid).
  DERIVED. THE GIVEN ROWS OF THIS SEAT. 6 by the template 'for every input the law returns true; each argument reads behind the call as it read before'; 0 by the template 'total and deterministic' (their statements: YtpncbehabfkhkaaTotals.lean).
  GIVEN WITH THE SEED: the statements are not yours to turn. If you find one false, say at which input.
  Laid BY PROGRAM, IN A SANDBOX (cutbox-rows.mjs): the forced cells as the released guide's own fill.sh prints them over the translation c168f7d5d7377496… (all of the seat's roots in one cut). By AI agents, Wed Nov 11 2026. No macro, syntax, notation, axiom, sorry.
-/
import Derived.Test.YtpncbehabfkhkaaChecked
import GoSem.Claim
import GoSem.ClaimJoined
import GoSem.ClaimMapViews
import Derived.JoinedTies
import Derived.KernelRfl
namespace Go.Proofs.Ytpncbehabfkhkaa
/- THE CELL 'sum', in the pinned program and in every row, IS THE sha256 OF THE DUMP (.gsa) THAT YtpncbehabfkhkaaProg.lean LOADS. Nothing in Lean hashes anything: it is a label: what it is worth is what the hold of that sum in a sandbox is worth. -/
noncomputable def Try.pinned : Pinned := { name := "ytpncbehabfkhkaa", sum := "c168f7d5d7377496edad05e46b508a8e70ea866f7eeb01eb7fda4e46e428d2d8", checked := Try.checked }
namespace Rows
def none {H : Type} : Left H := { results := [], args := [] }

/-- 'hustingslaw08.MachineCommands': WHATEVER THE INPUT: true; the input reads as it did. -/
def machineCommandsSpec : ChangeSpec := { name := "machineCommands", fn := fun _ => fun
  | [d1, d2, d3, d4] => { results := [.lit (.bool true)], args := [d1, d2, d3, d4] }
  | _ => none }
def machineCommandsRow : OpenClaim := { program := "ytpncbehabfkhkaa", sum := "c168f7d5d7377496edad05e46b508a8e70ea866f7eeb01eb7fda4e46e428d2d8", func := "hustings/hustingslaw08.MachineCommands", spec := "machineCommands", plainKeys := false, apart := false }
def MachineCommandsSaid : Prop := machineCommandsRow.holds Try.pinned (OpenSpec.ofChange machineCommandsSpec)

/-- ITS FALSE NEIGHBOUR: 'it returns false'. Refute it at one input. -/
def machineCommandsWrong : ChangeSpec := { name := "machineCommands", fn := fun _ => fun
  | [d1, d2, d3, d4] => { results := [.lit (.bool false)], args := [d1, d2, d3, d4] }
  | _ => none }
def MachineCommandsWrongFalsely : Prop := machineCommandsRow.holds Try.pinned (OpenSpec.ofChange machineCommandsWrong)

/-- 'hustingslaw08.MachinePlays': WHATEVER THE INPUT: true; the input reads as it did. -/
def machinePlaysSpec : ChangeSpec := { name := "machinePlays", fn := fun _ => fun
  | [d1, d2, d3] => { results := [.lit (.bool true)], args := [d1, d2, d3] }
  | _ => none }
def machinePlaysRow : OpenClaim := { program := "ytpncbehabfkhkaa", sum := "c168f7d5d7377496edad05e46b508a8e70ea866f7eeb01eb7fda4e46e428d2d8", func := "hustings/hustingslaw08.MachinePlays", spec := "machinePlays", unfollowed := true, recurses := true, plainKeys := false, apart := false }
def MachinePlaysSaid : Prop := machinePlaysRow.holds Try.pinned (OpenSpec.ofChange machinePlaysSpec)

/-- ITS FALSE NEIGHBOUR: 'it returns false'. Refute it at one input. -/
def machinePlaysWrong : ChangeSpec := { name := "machinePlays", fn := fun _ => fun
  | [d1, d2, d3] => { results := [.lit (.bool false)], args := [d1, d2, d3] }
  | _ => none }
def MachinePlaysWrongFalsely : Prop := machinePlaysRow.holds Try.pinned (OpenSpec.ofChange machinePlaysWrong)

/-- 'hustingslaw08.MachineRestores': WHATEVER THE INPUT: true; the input reads as it did. -/
def machineRestoresSpec : ChangeSpec := { name := "machineRestores", fn := fun _ => fun
  | [d1, d2, d3] => { results := [.lit (.bool true)], args := [d1, d2, d3] }
  | _ => none }
def machineRestoresRow : OpenClaim := { program := "ytpncbehabfkhkaa", sum := "c168f7d5d7377496edad05e46b508a8e70ea866f7eeb01eb7fda4e46e428d2d8", func := "hustings/hustingslaw08.MachineRestores", spec := "machineRestores", unfollowed := true, recurses := true, plainKeys := false, apart := false }
def MachineRestoresSaid : Prop := machineRestoresRow.holds Try.pinned (OpenSpec.ofChange machineRestoresSpec)

/-- ITS FALSE NEIGHBOUR: 'it returns false'. Refute it at one input. -/
def machineRestoresWrong : ChangeSpec := { name := "machineRestores", fn := fun _ => fun
  | [d1, d2, d3] => { results := [.lit (.bool false)], args := [d1, d2, d3] }
  | _ => none }
def MachineRestoresWrongFalsely : Prop := machineRestoresRow.holds Try.pinned (OpenSpec.ofChange machineRestoresWrong)

/-- 'hustingslaw08.MachineNil': WHATEVER THE INPUT: true; the input reads as it did. -/
def machineNilSpec : ChangeSpec := { name := "machineNil", fn := fun _ => fun
  | [d1, d2] => { results := [.lit (.bool true)], args := [d1, d2] }
  | _ => none }
def machineNilRow : OpenClaim := { program := "ytpncbehabfkhkaa", sum := "c168f7d5d7377496edad05e46b508a8e70ea866f7eeb01eb7fda4e46e428d2d8", func := "hustings/hustingslaw08.MachineNil", spec := "machineNil", unfollowed := true, recurses := true, plainKeys := false, apart := false }
def MachineNilSaid : Prop := machineNilRow.holds Try.pinned (OpenSpec.ofChange machineNilSpec)

/-- ITS FALSE NEIGHBOUR: 'it returns false'. Refute it at one input. -/
def machineNilWrong : ChangeSpec := { name := "machineNil", fn := fun _ => fun
  | [d1, d2] => { results := [.lit (.bool false)], args := [d1, d2] }
  | _ => none }
def MachineNilWrongFalsely : Prop := machineNilRow.holds Try.pinned (OpenSpec.ofChange machineNilWrong)

/-- 'hustingslaw08.MachineOnce': WHATEVER THE INPUT: true; the input reads as it did. -/
def machineOnceSpec : ChangeSpec := { name := "machineOnce", fn := fun _ => fun
  | [d] => { results := [.lit (.bool true)], args := [d] }
  | _ => none }
def machineOnceRow : OpenClaim := { program := "ytpncbehabfkhkaa", sum := "c168f7d5d7377496edad05e46b508a8e70ea866f7eeb01eb7fda4e46e428d2d8", func := "hustings/hustingslaw08.MachineOnce", spec := "machineOnce", plainKeys := false, apart := false }
def MachineOnceSaid : Prop := machineOnceRow.holds Try.pinned (OpenSpec.ofChange machineOnceSpec)

/-- ITS FALSE NEIGHBOUR: 'it returns false'. Refute it at one input. -/
def machineOnceWrong : ChangeSpec := { name := "machineOnce", fn := fun _ => fun
  | [d] => { results := [.lit (.bool false)], args := [d] }
  | _ => none }
def MachineOnceWrongFalsely : Prop := machineOnceRow.holds Try.pinned (OpenSpec.ofChange machineOnceWrong)

/-- 'hustingslaw08.MachineAlike': WHATEVER THE INPUT: true; the input reads as it did. -/
def machineAlikeSpec : ChangeSpec := { name := "machineAlike", fn := fun _ => fun
  | [d1, d2] => { results := [.lit (.bool true)], args := [d1, d2] }
  | _ => none }
def machineAlikeRow : OpenClaim := { program := "ytpncbehabfkhkaa", sum := "c168f7d5d7377496edad05e46b508a8e70ea866f7eeb01eb7fda4e46e428d2d8", func := "hustings/hustingslaw08.MachineAlike", spec := "machineAlike", unfollowed := true, recurses := true, plainKeys := false, apart := false }
def MachineAlikeSaid : Prop := machineAlikeRow.holds Try.pinned (OpenSpec.ofChange machineAlikeSpec)

/-- ITS FALSE NEIGHBOUR: 'it returns false'. Refute it at one input. -/
def machineAlikeWrong : ChangeSpec := { name := "machineAlike", fn := fun _ => fun
  | [d1, d2] => { results := [.lit (.bool false)], args := [d1, d2] }
  | _ => none }
def MachineAlikeWrongFalsely : Prop := machineAlikeRow.holds Try.pinned (OpenSpec.ofChange machineAlikeWrong)

/- THE SECOND FORM. 'bulk': how many values and letters a reading holds, each counted each time it is reached (what is shared counts as often as it is met; a slice's spare places count too). A statement '..UptoSaid' is the law's where the arguments, and the package variables that the reading takes, are together of bulk at most 1048576: NARROWER than '..Said'. Prove '..Said' where nothing that the law and all that it calls make is longer than what came in: it says more and counts as full. Else prove '..UptoSaid'. A law counts once. -/
mutual
def uptoBulk {H : Type} : DataW H → Nat
  | .lit (.string bytes) => bytes.length + 1
  | .lit _ => 1
  | .nil => 1
  | .ptr d => uptoBulk d + 1
  | .slice elems spare => uptoBulkAll elems + uptoBulkAll spare + 1
  | .agg parts => uptoBulkAll parts + 1
  | .iface _ d => uptoBulk d + 1
  | .map entries => uptoBulkEntries entries + 1
  | .held _ => 1
def uptoBulkAll {H : Type} : List (DataW H) → Nat
  | [] => 0
  | d :: r => uptoBulk d + uptoBulkAll r
def uptoBulkEntries {H : Type} : List (Lit × DataW H) → Nat
  | [] => 0
  | x :: r => uptoBulkEntry x + uptoBulkEntries r
def uptoBulkEntry {H : Type} : Lit × DataW H → Nat
  | (.string bytes, d) => bytes.length + uptoBulk d + 1
  | (_, d) => uptoBulk d + 1
 end
def uptoSmall : (H : Type) → List (DataW H) → Bool := fun _ ds => decide (uptoBulkAll ds ≤ 1048576)
def OpenSpec.upto (s : _root_.Go.ChangeSpec) : _root_.Go.OpenSpec := { _root_.Go.OpenSpec.ofChange s with cond := some uptoSmall }

/-- 'hustingslaw08.MachineCommands', WHERE WHAT IT READS IS OF BULK AT MOST 1048576: true; the input reads as it did. -/
def machineCommandsUptoRow : OpenClaim := { program := "ytpncbehabfkhkaa", sum := "c168f7d5d7377496edad05e46b508a8e70ea866f7eeb01eb7fda4e46e428d2d8", func := "hustings/hustingslaw08.MachineCommands", spec := "machineCommands", plainKeys := false, apart := false, narrowed := true }
def MachineCommandsUptoSaid : Prop := machineCommandsUptoRow.holds Try.pinned (OpenSpec.upto machineCommandsSpec)

/-- 'hustingslaw08.MachinePlays', WHERE WHAT IT READS IS OF BULK AT MOST 1048576: true; the input reads as it did. -/
def machinePlaysUptoRow : OpenClaim := { program := "ytpncbehabfkhkaa", sum := "c168f7d5d7377496edad05e46b508a8e70ea866f7eeb01eb7fda4e46e428d2d8", func := "hustings/hustingslaw08.MachinePlays", spec := "machinePlays", unfollowed := true, recurses := true, plainKeys := false, apart := false, narrowed := true }
def MachinePlaysUptoSaid : Prop := machinePlaysUptoRow.holds Try.pinned (OpenSpec.upto machinePlaysSpec)

/-- 'hustingslaw08.MachineRestores', WHERE WHAT IT READS IS OF BULK AT MOST 1048576: true; the input reads as it did. -/
def machineRestoresUptoRow : OpenClaim := { program := "ytpncbehabfkhkaa", sum := "c168f7d5d7377496edad05e46b508a8e70ea866f7eeb01eb7fda4e46e428d2d8", func := "hustings/hustingslaw08.MachineRestores", spec := "machineRestores", unfollowed := true, recurses := true, plainKeys := false, apart := false, narrowed := true }
def MachineRestoresUptoSaid : Prop := machineRestoresUptoRow.holds Try.pinned (OpenSpec.upto machineRestoresSpec)

/-- 'hustingslaw08.MachineNil', WHERE WHAT IT READS IS OF BULK AT MOST 1048576: true; the input reads as it did. -/
def machineNilUptoRow : OpenClaim := { program := "ytpncbehabfkhkaa", sum := "c168f7d5d7377496edad05e46b508a8e70ea866f7eeb01eb7fda4e46e428d2d8", func := "hustings/hustingslaw08.MachineNil", spec := "machineNil", unfollowed := true, recurses := true, plainKeys := false, apart := false, narrowed := true }
def MachineNilUptoSaid : Prop := machineNilUptoRow.holds Try.pinned (OpenSpec.upto machineNilSpec)

/-- 'hustingslaw08.MachineOnce', WHERE WHAT IT READS IS OF BULK AT MOST 1048576: true; the input reads as it did. -/
def machineOnceUptoRow : OpenClaim := { program := "ytpncbehabfkhkaa", sum := "c168f7d5d7377496edad05e46b508a8e70ea866f7eeb01eb7fda4e46e428d2d8", func := "hustings/hustingslaw08.MachineOnce", spec := "machineOnce", plainKeys := false, apart := false, narrowed := true }
def MachineOnceUptoSaid : Prop := machineOnceUptoRow.holds Try.pinned (OpenSpec.upto machineOnceSpec)

/-- 'hustingslaw08.MachineAlike', WHERE WHAT IT READS IS OF BULK AT MOST 1048576: true; the input reads as it did. -/
def machineAlikeUptoRow : OpenClaim := { program := "ytpncbehabfkhkaa", sum := "c168f7d5d7377496edad05e46b508a8e70ea866f7eeb01eb7fda4e46e428d2d8", func := "hustings/hustingslaw08.MachineAlike", spec := "machineAlike", unfollowed := true, recurses := true, plainKeys := false, apart := false, narrowed := true }
def MachineAlikeUptoSaid : Prop := machineAlikeUptoRow.holds Try.pinned (OpenSpec.upto machineAlikeSpec)

end Rows
end Go.Proofs.Ytpncbehabfkhkaa
