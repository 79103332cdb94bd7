/-
  NARROWER THAN 'FOR EVERY INPUT', by the rows' own cells (each row's printed sentence says how): FrameSums: laid · FramePuts: laid · FrameScans: laid · FrameTorn: laid · FrameRot: laid · FrameFirst: laid.
  DERIVED. THE GIVEN ROWS OF THIS SEAT. 6 by the template 'for every input the law returns true; each argument reads behind the call as it read before'; 0 by the template 'total and deterministic' (their statements: YtdpigghjgjaleaaDoorTotals.lean).
  GIVEN WITH THE SEED: the statements are not yours to turn. If you find one false, say at which input.
  Laid BY PROGRAM, IN A SANDBOX (cutbox-rows.mjs): the forced cells as the released guide's own fill.sh prints them over the translation 7ce35b32f0765653… (all of the seat's roots in one cut). By AI agents, Wed Nov 11 2026. No macro, syntax, notation, axiom, sorry.
-/
import Derived.Test.YtdpigghjgjaleaaDoorChecked
import GoSem.Claim
import GoSem.ClaimJoined
import GoSem.ClaimMapViews
import Derived.JoinedTies
import Derived.KernelRfl
namespace Go.Proofs.YtdpigghjgjaleaaDoor
/- THE CELL 'sum', in the pinned program and in every row, IS THE sha256 OF THE DUMP (.gsa) THAT YtdpigghjgjaleaaDoorProg.lean LOADS. Nothing in Lean hashes anything: it is a label: what it is worth is what the hold of that sum in a sandbox is worth. -/
noncomputable def Tryd.pinned : Pinned := { name := "ytdpigghjgjaleaadoor", sum := "7ce35b32f0765653efa92044ad775d296867c21b4510913de94a4f35eedb66f6", checked := Tryd.checked }
namespace Rows
def none {H : Type} : Left H := { results := [], args := [] }

/- WHAT THE LISTED PACKAGE-LEVEL VARIABLES READ AS WHEN THE CALL BEGINS. Each datum BY PROGRAM (the guide's laid-datum.mjs) off the statement by which the dump's own 'gosem.cut.vars' lays the variable. In a bare row this is a premise. The card (YtdpigghjgjaleaaDoorCards.lean) ties it to the program's text. -/
def laid_hustings_frame_fourBits {H : Type} : DataW H := .agg [.lit (.int .u32 0), .lit (.int .u32 274646895), .lit (.int .u32 549293790), .lit (.int .u32 820201905), .lit (.int .u32 1098587580), .lit (.int .u32 1361435347), .lit (.int .u32 1640403810), .lit (.int .u32 1905808397), .lit (.int .u32 2197175160), .lit (.int .u32 2460548119), .lit (.int .u32 2722870694), .lit (.int .u32 2987750089), .lit (.int .u32 3280807620), .lit (.int .u32 3553878443), .lit (.int .u32 3811616794), .lit (.int .u32 4084100981)]

/-- 'hustingslaw02.FrameSums': WHATEVER THE INPUT: true; the input reads as it did. -/
def frameSumsSpec : ChangeSpec := { name := "frameSums", fn := fun _ => fun
  | [d1, d2, d3] => { results := [.lit (.bool true)], args := [d1, d2, d3] }
  | _ => none }
def frameSumsRow : OpenClaim := { program := "ytdpigghjgjaleaadoor", sum := "7ce35b32f0765653efa92044ad775d296867c21b4510913de94a4f35eedb66f6", func := "hustings/hustingslaw02.FrameSums", spec := "frameSums", unfollowed := true, recurses := true, named := ["hustings/frame.fourBits"], apart := false, laid := [("hustings/frame.fourBits", laid_hustings_frame_fourBits)] }
def FrameSumsSaid : Prop := frameSumsRow.holds Tryd.pinned (OpenSpec.ofChange frameSumsSpec)

/-- ITS FALSE NEIGHBOUR: 'it returns false'. Refute it at one input. -/
def frameSumsWrong : ChangeSpec := { name := "frameSums", fn := fun _ => fun
  | [d1, d2, d3] => { results := [.lit (.bool false)], args := [d1, d2, d3] }
  | _ => none }
def FrameSumsWrongFalsely : Prop := frameSumsRow.holds Tryd.pinned (OpenSpec.ofChange frameSumsWrong)

/-- 'hustingslaw02.FramePuts': WHATEVER THE INPUT: true; the input reads as it did. -/
def framePutsSpec : ChangeSpec := { name := "framePuts", fn := fun _ => fun
  | [d1, d2, d3] => { results := [.lit (.bool true)], args := [d1, d2, d3] }
  | _ => none }
def framePutsRow : OpenClaim := { program := "ytdpigghjgjaleaadoor", sum := "7ce35b32f0765653efa92044ad775d296867c21b4510913de94a4f35eedb66f6", func := "hustings/hustingslaw02.FramePuts", spec := "framePuts", unfollowed := true, recurses := true, named := ["hustings/frame.fourBits"], apart := false, laid := [("hustings/frame.fourBits", laid_hustings_frame_fourBits)] }
def FramePutsSaid : Prop := framePutsRow.holds Tryd.pinned (OpenSpec.ofChange framePutsSpec)

/-- ITS FALSE NEIGHBOUR: 'it returns false'. Refute it at one input. -/
def framePutsWrong : ChangeSpec := { name := "framePuts", fn := fun _ => fun
  | [d1, d2, d3] => { results := [.lit (.bool false)], args := [d1, d2, d3] }
  | _ => none }
def FramePutsWrongFalsely : Prop := framePutsRow.holds Tryd.pinned (OpenSpec.ofChange framePutsWrong)

/-- 'hustingslaw02.FrameScans': WHATEVER THE INPUT: true; the input reads as it did. -/
def frameScansSpec : ChangeSpec := { name := "frameScans", fn := fun _ => fun
  | [d] => { results := [.lit (.bool true)], args := [d] }
  | _ => none }
def frameScansRow : OpenClaim := { program := "ytdpigghjgjaleaadoor", sum := "7ce35b32f0765653efa92044ad775d296867c21b4510913de94a4f35eedb66f6", func := "hustings/hustingslaw02.FrameScans", spec := "frameScans", unfollowed := true, recurses := true, named := ["hustings/frame.fourBits"], apart := false, laid := [("hustings/frame.fourBits", laid_hustings_frame_fourBits)] }
def FrameScansSaid : Prop := frameScansRow.holds Tryd.pinned (OpenSpec.ofChange frameScansSpec)

/-- ITS FALSE NEIGHBOUR: 'it returns false'. Refute it at one input. -/
def frameScansWrong : ChangeSpec := { name := "frameScans", fn := fun _ => fun
  | [d] => { results := [.lit (.bool false)], args := [d] }
  | _ => none }
def FrameScansWrongFalsely : Prop := frameScansRow.holds Tryd.pinned (OpenSpec.ofChange frameScansWrong)

/-- 'hustingslaw02.FrameTorn': WHATEVER THE INPUT: true; the input reads as it did. -/
def frameTornSpec : ChangeSpec := { name := "frameTorn", fn := fun _ => fun
  | [d1, d2] => { results := [.lit (.bool true)], args := [d1, d2] }
  | _ => none }
def frameTornRow : OpenClaim := { program := "ytdpigghjgjaleaadoor", sum := "7ce35b32f0765653efa92044ad775d296867c21b4510913de94a4f35eedb66f6", func := "hustings/hustingslaw02.FrameTorn", spec := "frameTorn", unfollowed := true, recurses := true, named := ["hustings/frame.fourBits"], apart := false, laid := [("hustings/frame.fourBits", laid_hustings_frame_fourBits)] }
def FrameTornSaid : Prop := frameTornRow.holds Tryd.pinned (OpenSpec.ofChange frameTornSpec)

/-- ITS FALSE NEIGHBOUR: 'it returns false'. Refute it at one input. -/
def frameTornWrong : ChangeSpec := { name := "frameTorn", fn := fun _ => fun
  | [d1, d2] => { results := [.lit (.bool false)], args := [d1, d2] }
  | _ => none }
def FrameTornWrongFalsely : Prop := frameTornRow.holds Tryd.pinned (OpenSpec.ofChange frameTornWrong)

/-- 'hustingslaw02.FrameRot': WHATEVER THE INPUT: true; the input reads as it did. -/
def frameRotSpec : ChangeSpec := { name := "frameRot", fn := fun _ => fun
  | [d1, d2, d3, d4] => { results := [.lit (.bool true)], args := [d1, d2, d3, d4] }
  | _ => none }
def frameRotRow : OpenClaim := { program := "ytdpigghjgjaleaadoor", sum := "7ce35b32f0765653efa92044ad775d296867c21b4510913de94a4f35eedb66f6", func := "hustings/hustingslaw02.FrameRot", spec := "frameRot", unfollowed := true, recurses := true, named := ["hustings/frame.fourBits"], apart := false, laid := [("hustings/frame.fourBits", laid_hustings_frame_fourBits)] }
def FrameRotSaid : Prop := frameRotRow.holds Tryd.pinned (OpenSpec.ofChange frameRotSpec)

/-- ITS FALSE NEIGHBOUR: 'it returns false'. Refute it at one input. -/
def frameRotWrong : ChangeSpec := { name := "frameRot", fn := fun _ => fun
  | [d1, d2, d3, d4] => { results := [.lit (.bool false)], args := [d1, d2, d3, d4] }
  | _ => none }
def FrameRotWrongFalsely : Prop := frameRotRow.holds Tryd.pinned (OpenSpec.ofChange frameRotWrong)

/-- 'hustingslaw02.FrameFirst': WHATEVER THE INPUT: true; the input reads as it did. -/
def frameFirstSpec : ChangeSpec := { name := "frameFirst", fn := fun _ => fun
  | [d1, d2] => { results := [.lit (.bool true)], args := [d1, d2] }
  | _ => none }
def frameFirstRow : OpenClaim := { program := "ytdpigghjgjaleaadoor", sum := "7ce35b32f0765653efa92044ad775d296867c21b4510913de94a4f35eedb66f6", func := "hustings/hustingslaw02.FrameFirst", spec := "frameFirst", unfollowed := true, recurses := true, named := ["hustings/frame.fourBits"], apart := false, laid := [("hustings/frame.fourBits", laid_hustings_frame_fourBits)] }
def FrameFirstSaid : Prop := frameFirstRow.holds Tryd.pinned (OpenSpec.ofChange frameFirstSpec)

/-- ITS FALSE NEIGHBOUR: 'it returns false'. Refute it at one input. -/
def frameFirstWrong : ChangeSpec := { name := "frameFirst", fn := fun _ => fun
  | [d1, d2] => { results := [.lit (.bool false)], args := [d1, d2] }
  | _ => none }
def FrameFirstWrongFalsely : Prop := frameFirstRow.holds Tryd.pinned (OpenSpec.ofChange frameFirstWrong)

/- THE SECOND FORM. 'bulk': how many values and letters a reading holds, each counted each time it is reached (what is shared counts as often as it is met; a slice's spare places count too). A statement '..UptoSaid' is the law's where the arguments, and the package variables that the reading takes, are together of bulk at most 1048576: NARROWER than '..Said'. Prove '..Said' where nothing that the law and all that it calls make is longer than what came in: it says more and counts as full. Else prove '..UptoSaid'. A law counts once. -/
mutual
def uptoBulk {H : Type} : DataW H → Nat
  | .lit (.string bytes) => bytes.length + 1
  | .lit _ => 1
  | .nil => 1
  | .ptr d => uptoBulk d + 1
  | .slice elems spare => uptoBulkAll elems + uptoBulkAll spare + 1
  | .agg parts => uptoBulkAll parts + 1
  | .iface _ d => uptoBulk d + 1
  | .map entries => uptoBulkEntries entries + 1
  | .held _ => 1
def uptoBulkAll {H : Type} : List (DataW H) → Nat
  | [] => 0
  | d :: r => uptoBulk d + uptoBulkAll r
def uptoBulkEntries {H : Type} : List (Lit × DataW H) → Nat
  | [] => 0
  | x :: r => uptoBulkEntry x + uptoBulkEntries r
def uptoBulkEntry {H : Type} : Lit × DataW H → Nat
  | (.string bytes, d) => bytes.length + uptoBulk d + 1
  | (_, d) => uptoBulk d + 1
 end
def uptoSmall : (H : Type) → List (DataW H) → Bool := fun _ ds => decide (uptoBulkAll ds ≤ 1048576)
def OpenSpec.upto (s : _root_.Go.ChangeSpec) : _root_.Go.OpenSpec := { _root_.Go.OpenSpec.ofChange s with cond := some uptoSmall }

/-- 'hustingslaw02.FrameSums', WHERE WHAT IT READS IS OF BULK AT MOST 1048576: true; the input reads as it did. -/
def frameSumsUptoRow : OpenClaim := { program := "ytdpigghjgjaleaadoor", sum := "7ce35b32f0765653efa92044ad775d296867c21b4510913de94a4f35eedb66f6", func := "hustings/hustingslaw02.FrameSums", spec := "frameSums", unfollowed := true, recurses := true, named := ["hustings/frame.fourBits"], apart := false, laid := [("hustings/frame.fourBits", laid_hustings_frame_fourBits)], narrowed := true }
def FrameSumsUptoSaid : Prop := frameSumsUptoRow.holds Tryd.pinned (OpenSpec.upto frameSumsSpec)

/-- 'hustingslaw02.FramePuts', WHERE WHAT IT READS IS OF BULK AT MOST 1048576: true; the input reads as it did. -/
def framePutsUptoRow : OpenClaim := { program := "ytdpigghjgjaleaadoor", sum := "7ce35b32f0765653efa92044ad775d296867c21b4510913de94a4f35eedb66f6", func := "hustings/hustingslaw02.FramePuts", spec := "framePuts", unfollowed := true, recurses := true, named := ["hustings/frame.fourBits"], apart := false, laid := [("hustings/frame.fourBits", laid_hustings_frame_fourBits)], narrowed := true }
def FramePutsUptoSaid : Prop := framePutsUptoRow.holds Tryd.pinned (OpenSpec.upto framePutsSpec)

/-- 'hustingslaw02.FrameScans', WHERE WHAT IT READS IS OF BULK AT MOST 1048576: true; the input reads as it did. -/
def frameScansUptoRow : OpenClaim := { program := "ytdpigghjgjaleaadoor", sum := "7ce35b32f0765653efa92044ad775d296867c21b4510913de94a4f35eedb66f6", func := "hustings/hustingslaw02.FrameScans", spec := "frameScans", unfollowed := true, recurses := true, named := ["hustings/frame.fourBits"], apart := false, laid := [("hustings/frame.fourBits", laid_hustings_frame_fourBits)], narrowed := true }
def FrameScansUptoSaid : Prop := frameScansUptoRow.holds Tryd.pinned (OpenSpec.upto frameScansSpec)

/-- 'hustingslaw02.FrameTorn', WHERE WHAT IT READS IS OF BULK AT MOST 1048576: true; the input reads as it did. -/
def frameTornUptoRow : OpenClaim := { program := "ytdpigghjgjaleaadoor", sum := "7ce35b32f0765653efa92044ad775d296867c21b4510913de94a4f35eedb66f6", func := "hustings/hustingslaw02.FrameTorn", spec := "frameTorn", unfollowed := true, recurses := true, named := ["hustings/frame.fourBits"], apart := false, laid := [("hustings/frame.fourBits", laid_hustings_frame_fourBits)], narrowed := true }
def FrameTornUptoSaid : Prop := frameTornUptoRow.holds Tryd.pinned (OpenSpec.upto frameTornSpec)

/-- 'hustingslaw02.FrameRot', WHERE WHAT IT READS IS OF BULK AT MOST 1048576: true; the input reads as it did. -/
def frameRotUptoRow : OpenClaim := { program := "ytdpigghjgjaleaadoor", sum := "7ce35b32f0765653efa92044ad775d296867c21b4510913de94a4f35eedb66f6", func := "hustings/hustingslaw02.FrameRot", spec := "frameRot", unfollowed := true, recurses := true, named := ["hustings/frame.fourBits"], apart := false, laid := [("hustings/frame.fourBits", laid_hustings_frame_fourBits)], narrowed := true }
def FrameRotUptoSaid : Prop := frameRotUptoRow.holds Tryd.pinned (OpenSpec.upto frameRotSpec)

/-- 'hustingslaw02.FrameFirst', WHERE WHAT IT READS IS OF BULK AT MOST 1048576: true; the input reads as it did. -/
def frameFirstUptoRow : OpenClaim := { program := "ytdpigghjgjaleaadoor", sum := "7ce35b32f0765653efa92044ad775d296867c21b4510913de94a4f35eedb66f6", func := "hustings/hustingslaw02.FrameFirst", spec := "frameFirst", unfollowed := true, recurses := true, named := ["hustings/frame.fourBits"], apart := false, laid := [("hustings/frame.fourBits", laid_hustings_frame_fourBits)], narrowed := true }
def FrameFirstUptoSaid : Prop := frameFirstUptoRow.holds Tryd.pinned (OpenSpec.upto frameFirstSpec)

end Rows
end Go.Proofs.YtdpigghjgjaleaaDoor
