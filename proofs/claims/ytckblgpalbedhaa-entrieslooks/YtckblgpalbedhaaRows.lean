/-
  No cell of these rows narrows 'for every input' (looked for: loops, veiled, ifaces, maps, wideKeys, modest, calm, conditions, laid).
  DERIVED. THE GIVEN ROWS OF THIS SEAT. 5 by the template 'for every input the law returns true; each argument reads behind the call as it read before'; 0 by the template 'total and deterministic' (their statements: YtckblgpalbedhaaTotals.lean).
  GIVEN WITH THE SEED: the statements are not yours to turn. If you find one false, say at which input.
  Laid BY PROGRAM, IN A SANDBOX (cutbox-rows.mjs): the forced cells as the released guide's own fill.sh prints them over the translation 0cee665cf1ce5481… (all of the seat's roots in one cut). By AI agents, Wed Nov 11 2026. No macro, syntax, notation, axiom, sorry.
-/
import Derived.Test.YtckblgpalbedhaaChecked
import GoSem.Claim
import GoSem.ClaimJoined
import GoSem.ClaimMapViews
import Derived.JoinedTies
import Derived.KernelRfl
namespace Go.Proofs.Ytckblgpalbedhaa
/- THE CELL 'sum', in the pinned program and in every row, IS THE sha256 OF THE DUMP (.gsa) THAT YtckblgpalbedhaaProg.lean LOADS. Nothing in Lean hashes anything: it is a label: what it is worth is what the hold of that sum in a sandbox is worth. -/
noncomputable def Try.pinned : Pinned := { name := "ytckblgpalbedhaa", sum := "0cee665cf1ce5481a20ef83b88b3f792305c8d7546f7e42e6c33c4c7fc1b6153", checked := Try.checked }
namespace Rows
def none {H : Type} : Left H := { results := [], args := [] }

/-- 'hustingslaw12.EntriesLooks': WHATEVER THE INPUT: true; the input reads as it did. -/
def entriesLooksSpec : ChangeSpec := { name := "entriesLooks", fn := fun _ => fun
  | [d1, d2, d3, d4] => { results := [.lit (.bool true)], args := [d1, d2, d3, d4] }
  | _ => none }
def entriesLooksRow : OpenClaim := { program := "ytckblgpalbedhaa", sum := "0cee665cf1ce5481a20ef83b88b3f792305c8d7546f7e42e6c33c4c7fc1b6153", func := "hustings/hustingslaw12.EntriesLooks", spec := "entriesLooks", unfollowed := true, recurses := true, apart := false }
def EntriesLooksSaid : Prop := entriesLooksRow.holds Try.pinned (OpenSpec.ofChange entriesLooksSpec)

/-- ITS FALSE NEIGHBOUR: 'it returns false'. Refute it at one input. -/
def entriesLooksWrong : ChangeSpec := { name := "entriesLooks", fn := fun _ => fun
  | [d1, d2, d3, d4] => { results := [.lit (.bool false)], args := [d1, d2, d3, d4] }
  | _ => none }
def EntriesLooksWrongFalsely : Prop := entriesLooksRow.holds Try.pinned (OpenSpec.ofChange entriesLooksWrong)

/-- 'hustingslaw12.EntriesTries': WHATEVER THE INPUT: true; the input reads as it did. -/
def entriesTriesSpec : ChangeSpec := { name := "entriesTries", fn := fun _ => fun
  | [d1, d2, d3, d4, d5] => { results := [.lit (.bool true)], args := [d1, d2, d3, d4, d5] }
  | _ => none }
def entriesTriesRow : OpenClaim := { program := "ytckblgpalbedhaa", sum := "0cee665cf1ce5481a20ef83b88b3f792305c8d7546f7e42e6c33c4c7fc1b6153", func := "hustings/hustingslaw12.EntriesTries", spec := "entriesTries", unfollowed := true, recurses := true, apart := false }
def EntriesTriesSaid : Prop := entriesTriesRow.holds Try.pinned (OpenSpec.ofChange entriesTriesSpec)

/-- ITS FALSE NEIGHBOUR: 'it returns false'. Refute it at one input. -/
def entriesTriesWrong : ChangeSpec := { name := "entriesTries", fn := fun _ => fun
  | [d1, d2, d3, d4, d5] => { results := [.lit (.bool false)], args := [d1, d2, d3, d4, d5] }
  | _ => none }
def EntriesTriesWrongFalsely : Prop := entriesTriesRow.holds Try.pinned (OpenSpec.ofChange entriesTriesWrong)

/-- 'hustingslaw12.EntriesSame': WHATEVER THE INPUT: true; the input reads as it did. -/
def entriesSameSpec : ChangeSpec := { name := "entriesSame", fn := fun _ => fun
  | [d1, d2, d3, d4] => { results := [.lit (.bool true)], args := [d1, d2, d3, d4] }
  | _ => none }
def entriesSameRow : OpenClaim := { program := "ytckblgpalbedhaa", sum := "0cee665cf1ce5481a20ef83b88b3f792305c8d7546f7e42e6c33c4c7fc1b6153", func := "hustings/hustingslaw12.EntriesSame", spec := "entriesSame", unfollowed := true, recurses := true, apart := false }
def EntriesSameSaid : Prop := entriesSameRow.holds Try.pinned (OpenSpec.ofChange entriesSameSpec)

/-- ITS FALSE NEIGHBOUR: 'it returns false'. Refute it at one input. -/
def entriesSameWrong : ChangeSpec := { name := "entriesSame", fn := fun _ => fun
  | [d1, d2, d3, d4] => { results := [.lit (.bool false)], args := [d1, d2, d3, d4] }
  | _ => none }
def EntriesSameWrongFalsely : Prop := entriesSameRow.holds Try.pinned (OpenSpec.ofChange entriesSameWrong)

/-- 'hustingslaw12.EntriesAgain': WHATEVER THE INPUT: true; the input reads as it did. -/
def entriesAgainSpec : ChangeSpec := { name := "entriesAgain", fn := fun _ => fun
  | [d1, d2, d3, d4] => { results := [.lit (.bool true)], args := [d1, d2, d3, d4] }
  | _ => none }
def entriesAgainRow : OpenClaim := { program := "ytckblgpalbedhaa", sum := "0cee665cf1ce5481a20ef83b88b3f792305c8d7546f7e42e6c33c4c7fc1b6153", func := "hustings/hustingslaw12.EntriesAgain", spec := "entriesAgain", unfollowed := true, recurses := true, apart := false }
def EntriesAgainSaid : Prop := entriesAgainRow.holds Try.pinned (OpenSpec.ofChange entriesAgainSpec)

/-- ITS FALSE NEIGHBOUR: 'it returns false'. Refute it at one input. -/
def entriesAgainWrong : ChangeSpec := { name := "entriesAgain", fn := fun _ => fun
  | [d1, d2, d3, d4] => { results := [.lit (.bool false)], args := [d1, d2, d3, d4] }
  | _ => none }
def EntriesAgainWrongFalsely : Prop := entriesAgainRow.holds Try.pinned (OpenSpec.ofChange entriesAgainWrong)

/-- 'hustingslaw12.EntriesHints': WHATEVER THE INPUT: true; the input reads as it did. -/
def entriesHintsSpec : ChangeSpec := { name := "entriesHints", fn := fun _ => fun
  | [d1, d2, d3, d4] => { results := [.lit (.bool true)], args := [d1, d2, d3, d4] }
  | _ => none }
def entriesHintsRow : OpenClaim := { program := "ytckblgpalbedhaa", sum := "0cee665cf1ce5481a20ef83b88b3f792305c8d7546f7e42e6c33c4c7fc1b6153", func := "hustings/hustingslaw12.EntriesHints", spec := "entriesHints", unfollowed := true, recurses := true, apart := false }
def EntriesHintsSaid : Prop := entriesHintsRow.holds Try.pinned (OpenSpec.ofChange entriesHintsSpec)

/-- ITS FALSE NEIGHBOUR: 'it returns false'. Refute it at one input. -/
def entriesHintsWrong : ChangeSpec := { name := "entriesHints", fn := fun _ => fun
  | [d1, d2, d3, d4] => { results := [.lit (.bool false)], args := [d1, d2, d3, d4] }
  | _ => none }
def EntriesHintsWrongFalsely : Prop := entriesHintsRow.holds Try.pinned (OpenSpec.ofChange entriesHintsWrong)

/- THE SECOND FORM. 'bulk': how many values and letters a reading holds, each counted each time it is reached (what is shared counts as often as it is met; a slice's spare places count too). A statement '..UptoSaid' is the law's where the arguments, and the package variables that the reading takes, are together of bulk at most 1048576: NARROWER than '..Said'. Prove '..Said' where nothing that the law and all that it calls make is longer than what came in: it says more and counts as full. Else prove '..UptoSaid'. A law counts once. -/
mutual
def uptoBulk {H : Type} : DataW H → Nat
  | .lit (.string bytes) => bytes.length + 1
  | .lit _ => 1
  | .nil => 1
  | .ptr d => uptoBulk d + 1
  | .slice elems spare => uptoBulkAll elems + uptoBulkAll spare + 1
  | .agg parts => uptoBulkAll parts + 1
  | .iface _ d => uptoBulk d + 1
  | .map entries => uptoBulkEntries entries + 1
  | .held _ => 1
def uptoBulkAll {H : Type} : List (DataW H) → Nat
  | [] => 0
  | d :: r => uptoBulk d + uptoBulkAll r
def uptoBulkEntries {H : Type} : List (Lit × DataW H) → Nat
  | [] => 0
  | x :: r => uptoBulkEntry x + uptoBulkEntries r
def uptoBulkEntry {H : Type} : Lit × DataW H → Nat
  | (.string bytes, d) => bytes.length + uptoBulk d + 1
  | (_, d) => uptoBulk d + 1
 end
def uptoSmall : (H : Type) → List (DataW H) → Bool := fun _ ds => decide (uptoBulkAll ds ≤ 1048576)
def OpenSpec.upto (s : _root_.Go.ChangeSpec) : _root_.Go.OpenSpec := { _root_.Go.OpenSpec.ofChange s with cond := some uptoSmall }

/-- 'hustingslaw12.EntriesLooks', WHERE WHAT IT READS IS OF BULK AT MOST 1048576: true; the input reads as it did. -/
def entriesLooksUptoRow : OpenClaim := { program := "ytckblgpalbedhaa", sum := "0cee665cf1ce5481a20ef83b88b3f792305c8d7546f7e42e6c33c4c7fc1b6153", func := "hustings/hustingslaw12.EntriesLooks", spec := "entriesLooks", unfollowed := true, recurses := true, apart := false, narrowed := true }
def EntriesLooksUptoSaid : Prop := entriesLooksUptoRow.holds Try.pinned (OpenSpec.upto entriesLooksSpec)

/-- 'hustingslaw12.EntriesTries', WHERE WHAT IT READS IS OF BULK AT MOST 1048576: true; the input reads as it did. -/
def entriesTriesUptoRow : OpenClaim := { program := "ytckblgpalbedhaa", sum := "0cee665cf1ce5481a20ef83b88b3f792305c8d7546f7e42e6c33c4c7fc1b6153", func := "hustings/hustingslaw12.EntriesTries", spec := "entriesTries", unfollowed := true, recurses := true, apart := false, narrowed := true }
def EntriesTriesUptoSaid : Prop := entriesTriesUptoRow.holds Try.pinned (OpenSpec.upto entriesTriesSpec)

/-- 'hustingslaw12.EntriesSame', WHERE WHAT IT READS IS OF BULK AT MOST 1048576: true; the input reads as it did. -/
def entriesSameUptoRow : OpenClaim := { program := "ytckblgpalbedhaa", sum := "0cee665cf1ce5481a20ef83b88b3f792305c8d7546f7e42e6c33c4c7fc1b6153", func := "hustings/hustingslaw12.EntriesSame", spec := "entriesSame", unfollowed := true, recurses := true, apart := false, narrowed := true }
def EntriesSameUptoSaid : Prop := entriesSameUptoRow.holds Try.pinned (OpenSpec.upto entriesSameSpec)

/-- 'hustingslaw12.EntriesAgain', WHERE WHAT IT READS IS OF BULK AT MOST 1048576: true; the input reads as it did. -/
def entriesAgainUptoRow : OpenClaim := { program := "ytckblgpalbedhaa", sum := "0cee665cf1ce5481a20ef83b88b3f792305c8d7546f7e42e6c33c4c7fc1b6153", func := "hustings/hustingslaw12.EntriesAgain", spec := "entriesAgain", unfollowed := true, recurses := true, apart := false, narrowed := true }
def EntriesAgainUptoSaid : Prop := entriesAgainUptoRow.holds Try.pinned (OpenSpec.upto entriesAgainSpec)

/-- 'hustingslaw12.EntriesHints', WHERE WHAT IT READS IS OF BULK AT MOST 1048576: true; the input reads as it did. -/
def entriesHintsUptoRow : OpenClaim := { program := "ytckblgpalbedhaa", sum := "0cee665cf1ce5481a20ef83b88b3f792305c8d7546f7e42e6c33c4c7fc1b6153", func := "hustings/hustingslaw12.EntriesHints", spec := "entriesHints", unfollowed := true, recurses := true, apart := false, narrowed := true }
def EntriesHintsUptoSaid : Prop := entriesHintsUptoRow.holds Try.pinned (OpenSpec.upto entriesHintsSpec)

end Rows
end Go.Proofs.Ytckblgpalbedhaa
