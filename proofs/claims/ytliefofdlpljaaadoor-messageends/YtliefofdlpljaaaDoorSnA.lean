/- Same, where two messages differ in a number. -/
import Derived.Test.YtliefofdlpljaaaDoorSm
namespace Go.Proofs.YtliefofdlpljaaaDoor
open Go.RowKit Go.Maps
set_option linter.unusedVariables false
set_option linter.unusedSimpArgs false

set_option maxRecDepth 100000 in
set_option maxHeartbeats 8000000 in
theorem sameM_no0 (m n : Msg) (ae asv ad ae' asv' ad' : Option Addr) (ne ns nd ce cs cd ne' ns' nd' ce' cs' cd' : Nat) (w : World)  (hne : ¬ m.kind = n.kind) :
    Calls Tryd.prog 13 #[.agg (msgCells m (.slice ae ne ce) (.slice asv ns cs) (.slice ad nd cd)), .agg (msgCells n (.slice ae' ne' ce') (.slice asv' ns' cs') (.slice ad' nd' cd'))] w fun e w' => e = .returned (.bool false) ∧ w.grownBy w' none := by
  have HG := hid_mk (fun A B => grown_trans (World.grownBy_alloc w A none) (World.grownBy_alloc (w.alloc A) B none))
  unfold msgCells
  go_enter Tryd.func13, Tryd.ntmps13
  go_wp2_with fail
  go_ret
  exact ⟨rfl, HG.out _ _⟩

set_option maxRecDepth 100000 in
set_option maxHeartbeats 8000000 in
theorem sameM_no1 (m n : Msg) (ae asv ad ae' asv' ad' : Option Addr) (ne ns nd ce cs cd ne' ns' nd' ce' cs' cd' : Nat) (w : World) (h0 : m.kind = n.kind) (hne : ¬ m.frm = n.frm) :
    Calls Tryd.prog 13 #[.agg (msgCells m (.slice ae ne ce) (.slice asv ns cs) (.slice ad nd cd)), .agg (msgCells n (.slice ae' ne' ce') (.slice asv' ns' cs') (.slice ad' nd' cd'))] w fun e w' => e = .returned (.bool false) ∧ w.grownBy w' none := by
  have HG := hid_mk (fun A B => grown_trans (World.grownBy_alloc w A none) (World.grownBy_alloc (w.alloc A) B none))
  unfold msgCells
  go_enter Tryd.func13, Tryd.ntmps13
  go_wp2_with fail
  go_ret
  exact ⟨rfl, HG.out _ _⟩

set_option maxRecDepth 100000 in
set_option maxHeartbeats 8000000 in
theorem sameM_no2 (m n : Msg) (ae asv ad ae' asv' ad' : Option Addr) (ne ns nd ce cs cd ne' ns' nd' ce' cs' cd' : Nat) (w : World) (h0 : m.kind = n.kind) (h1 : m.frm = n.frm) (hne : ¬ m.dst = n.dst) :
    Calls Tryd.prog 13 #[.agg (msgCells m (.slice ae ne ce) (.slice asv ns cs) (.slice ad nd cd)), .agg (msgCells n (.slice ae' ne' ce') (.slice asv' ns' cs') (.slice ad' nd' cd'))] w fun e w' => e = .returned (.bool false) ∧ w.grownBy w' none := by
  have HG := hid_mk (fun A B => grown_trans (World.grownBy_alloc w A none) (World.grownBy_alloc (w.alloc A) B none))
  unfold msgCells
  go_enter Tryd.func13, Tryd.ntmps13
  go_wp2_with fail
  go_ret
  exact ⟨rfl, HG.out _ _⟩

set_option maxRecDepth 100000 in
set_option maxHeartbeats 8000000 in
theorem sameM_no3 (m n : Msg) (ae asv ad ae' asv' ad' : Option Addr) (ne ns nd ce cs cd ne' ns' nd' ce' cs' cd' : Nat) (w : World) (h0 : m.kind = n.kind) (h1 : m.frm = n.frm) (h2 : m.dst = n.dst) (hne : ¬ m.term = n.term) :
    Calls Tryd.prog 13 #[.agg (msgCells m (.slice ae ne ce) (.slice asv ns cs) (.slice ad nd cd)), .agg (msgCells n (.slice ae' ne' ce') (.slice asv' ns' cs') (.slice ad' nd' cd'))] w fun e w' => e = .returned (.bool false) ∧ w.grownBy w' none := by
  have HG := hid_mk (fun A B => grown_trans (World.grownBy_alloc w A none) (World.grownBy_alloc (w.alloc A) B none))
  unfold msgCells
  go_enter Tryd.func13, Tryd.ntmps13
  go_wp2_with fail
  go_ret
  exact ⟨rfl, HG.out _ _⟩

set_option maxRecDepth 100000 in
set_option maxHeartbeats 8000000 in
theorem sameM_no4 (m n : Msg) (ae asv ad ae' asv' ad' : Option Addr) (ne ns nd ce cs cd ne' ns' nd' ce' cs' cd' : Nat) (w : World) (h0 : m.kind = n.kind) (h1 : m.frm = n.frm) (h2 : m.dst = n.dst) (h3 : m.term = n.term) (hne : ¬ m.a = n.a) :
    Calls Tryd.prog 13 #[.agg (msgCells m (.slice ae ne ce) (.slice asv ns cs) (.slice ad nd cd)), .agg (msgCells n (.slice ae' ne' ce') (.slice asv' ns' cs') (.slice ad' nd' cd'))] w fun e w' => e = .returned (.bool false) ∧ w.grownBy w' none := by
  have HG := hid_mk (fun A B => grown_trans (World.grownBy_alloc w A none) (World.grownBy_alloc (w.alloc A) B none))
  unfold msgCells
  go_enter Tryd.func13, Tryd.ntmps13
  go_wp2_with fail
  go_ret
  exact ⟨rfl, HG.out _ _⟩

end Go.Proofs.YtliefofdlpljaaaDoor
