/- Same, where two messages differ in a number or Yes. -/
import Derived.Test.YtliefofdlpljaaaDoorSm
namespace Go.Proofs.YtliefofdlpljaaaDoor
open Go.RowKit Go.Maps
set_option linter.unusedVariables false
set_option linter.unusedSimpArgs false

set_option maxRecDepth 100000 in
set_option maxHeartbeats 8000000 in
theorem sameM_no5 (m n : Msg) (ae asv ad ae' asv' ad' : Option Addr) (ne ns nd ce cs cd ne' ns' nd' ce' cs' cd' : Nat) (w : World) (h0 : m.kind = n.kind) (h1 : m.frm = n.frm) (h2 : m.dst = n.dst) (h3 : m.term = n.term) (h4 : m.a = n.a) (hne : ¬ m.b = n.b) :
    Calls Tryd.prog 13 #[.agg (msgCells m (.slice ae ne ce) (.slice asv ns cs) (.slice ad nd cd)), .agg (msgCells n (.slice ae' ne' ce') (.slice asv' ns' cs') (.slice ad' nd' cd'))] w fun e w' => e = .returned (.bool false) ∧ w.grownBy w' none := by
  have HG := hid_mk (fun A B => grown_trans (World.grownBy_alloc w A none) (World.grownBy_alloc (w.alloc A) B none))
  unfold msgCells
  go_enter Tryd.func13, Tryd.ntmps13
  go_wp2_with fail
  go_ret
  exact ⟨rfl, HG.out _ _⟩

set_option maxRecDepth 100000 in
set_option maxHeartbeats 8000000 in
theorem sameM_no6 (m n : Msg) (ae asv ad ae' asv' ad' : Option Addr) (ne ns nd ce cs cd ne' ns' nd' ce' cs' cd' : Nat) (w : World) (h0 : m.kind = n.kind) (h1 : m.frm = n.frm) (h2 : m.dst = n.dst) (h3 : m.term = n.term) (h4 : m.a = n.a) (h5 : m.b = n.b) (hne : ¬ m.c = n.c) :
    Calls Tryd.prog 13 #[.agg (msgCells m (.slice ae ne ce) (.slice asv ns cs) (.slice ad nd cd)), .agg (msgCells n (.slice ae' ne' ce') (.slice asv' ns' cs') (.slice ad' nd' cd'))] w fun e w' => e = .returned (.bool false) ∧ w.grownBy w' none := by
  have HG := hid_mk (fun A B => grown_trans (World.grownBy_alloc w A none) (World.grownBy_alloc (w.alloc A) B none))
  unfold msgCells
  go_enter Tryd.func13, Tryd.ntmps13
  go_wp2_with fail
  go_ret
  exact ⟨rfl, HG.out _ _⟩

set_option maxRecDepth 100000 in
set_option maxHeartbeats 8000000 in
theorem sameM_no7 (m n : Msg) (ae asv ad ae' asv' ad' : Option Addr) (ne ns nd ce cs cd ne' ns' nd' ce' cs' cd' : Nat) (w : World) (h0 : m.kind = n.kind) (h1 : m.frm = n.frm) (h2 : m.dst = n.dst) (h3 : m.term = n.term) (h4 : m.a = n.a) (h5 : m.b = n.b) (h6 : m.c = n.c) (hne : ¬ m.d = n.d) :
    Calls Tryd.prog 13 #[.agg (msgCells m (.slice ae ne ce) (.slice asv ns cs) (.slice ad nd cd)), .agg (msgCells n (.slice ae' ne' ce') (.slice asv' ns' cs') (.slice ad' nd' cd'))] w fun e w' => e = .returned (.bool false) ∧ w.grownBy w' none := by
  have HG := hid_mk (fun A B => grown_trans (World.grownBy_alloc w A none) (World.grownBy_alloc (w.alloc A) B none))
  unfold msgCells
  go_enter Tryd.func13, Tryd.ntmps13
  go_wp2_with fail
  go_ret
  exact ⟨rfl, HG.out _ _⟩

set_option maxRecDepth 100000 in
set_option maxHeartbeats 8000000 in
theorem sameM_no8 (m n : Msg) (ae asv ad ae' asv' ad' : Option Addr) (ne ns nd ce cs cd ne' ns' nd' ce' cs' cd' : Nat) (w : World) (h0 : m.kind = n.kind) (h1 : m.frm = n.frm) (h2 : m.dst = n.dst) (h3 : m.term = n.term) (h4 : m.a = n.a) (h5 : m.b = n.b) (h6 : m.c = n.c) (h7 : m.d = n.d) (hne : ¬ m.yes = n.yes) :
    Calls Tryd.prog 13 #[.agg (msgCells m (.slice ae ne ce) (.slice asv ns cs) (.slice ad nd cd)), .agg (msgCells n (.slice ae' ne' ce') (.slice asv' ns' cs') (.slice ad' nd' cd'))] w fun e w' => e = .returned (.bool false) ∧ w.grownBy w' none := by
  have HG := hid_mk (fun A B => grown_trans (World.grownBy_alloc w A none) (World.grownBy_alloc (w.alloc A) B none))
  have hne' : (m.yes == n.yes) = false := by simpa using hne
  unfold msgCells
  go_enter Tryd.func13, Tryd.ntmps13
  go_wp2_with fail
  go_ret
  exact ⟨rfl, HG.out _ _⟩

end Go.Proofs.YtliefofdlpljaaaDoor
