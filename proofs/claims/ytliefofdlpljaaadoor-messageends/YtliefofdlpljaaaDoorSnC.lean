/- Same, where two messages differ in their lists. -/
import Derived.Test.YtliefofdlpljaaaDoorSm
namespace Go.Proofs.YtliefofdlpljaaaDoor
open Go.RowKit Go.Maps
set_option linter.unusedVariables false
set_option linter.unusedSimpArgs false

set_option maxRecDepth 100000 in
set_option maxHeartbeats 8000000 in
theorem sameM_srv (m : Msg) (l' : List Int) (hne : m.srv ≠ l') (ae ad ae' ad' : Option Addr) (ne nd ce cd ne' nd' ce' cd' : Nat) (sv sv' : Value) (w : World) (hs : IntsR w sv m.srv) (hs' : IntsR w sv' l') (hl : m.srv.length ≤ 140737488355328) (hl' : l'.length ≤ 140737488355328) :
    Calls Tryd.prog 13 #[.agg (msgCells m (.slice ae ne ce) sv (.slice ad nd cd)), .agg (msgCells m (.slice ae' ne' ce') sv' (.slice ad' nd' cd'))] w fun e w' => e = .returned (.bool false) ∧ w.grownBy w' none := by
  have h1 := hs.len
  have h2 := hs'.len
  have HS := hid_mk (And.intro hs hs')
  clear hs hs'
  obtain ⟨asv, cs, rfl⟩ := h1
  obtain ⟨asv', cs', rfl⟩ := h2
  have HN := hid_mk hne
  clear hne
  have HF := hid_mk (two_msgs w m m (.slice ae ne ce) (.slice asv m.srv.length cs) (.slice ad nd cd) (.slice ae' ne' ce') (.slice asv' l'.length cs') (.slice ad' nd' cd'))
  unfold msgCells at HF
  unfold msgCells
  go_enter Tryd.func13, Tryd.ntmps13
  go_wp2_with fail
  generalize ((w.alloc (.cells _ 27)).alloc (.cells _ 26)) = w2 at *
  refine (ints_no _ _ m.srv l' w2 (HS.out.1.kept HF.out.2.2) (HS.out.2.kept HF.out.2.2) hl hl' HN.out).mono ?_
  rintro e w3 ⟨rfl, n3, hw3⟩
  have G3 := hid_mk (show w.grownBy w3 none by rw [hw3]; exact grown_trans HF.out.2.2 (drawn _ _))
  clear hw3
  go_wp2_with fail
  go_ret
  exact ⟨rfl, G3.out⟩

set_option maxRecDepth 100000 in
set_option maxHeartbeats 8000000 in
theorem sameM_data (m : Msg) (d' : List UInt8) (hne : m.data ≠ d') (ae ae' : Option Addr) (ne ce ne' ce' : Nat) (sv sv' dv dv' : Value) (w : World) (hs : IntsR w sv m.srv) (hs' : IntsR w sv' m.srv) (hl : m.srv.length ≤ 140737488355328) (hd : Byt w dv m.data) (hd' : Byt w dv' d') :
    Calls Tryd.prog 13 #[.agg (msgCells m (.slice ae ne ce) sv dv), .agg (msgCells m (.slice ae' ne' ce') sv' dv')] w fun e w' => e = .returned (.bool false) ∧ w.grownBy w' none := by
  have h1 := hs.len
  have h2 := hs'.len
  have h3 := hd.len
  have h4 := hd'.len
  have HS := hid_mk (And.intro hs hs')
  have HD := hid_mk (And.intro hd hd')
  clear hs hs' hd hd'
  obtain ⟨asv, cs, rfl⟩ := h1
  obtain ⟨asv', cs', rfl⟩ := h2
  obtain ⟨ad, cd, rfl⟩ := h3
  obtain ⟨ad', cd', rfl⟩ := h4
  have hs12 := bytes_ne hne
  clear hne
  have HF := hid_mk (two_msgs w m m (.slice ae ne ce) (.slice asv m.srv.length cs) (.slice ad m.data.length cd) (.slice ae' ne' ce') (.slice asv' m.srv.length cs') (.slice ad' d'.length cd'))
  unfold msgCells at HF
  unfold msgCells
  go_enter Tryd.func13, Tryd.ntmps13
  go_wp2_with fail
  generalize ((w.alloc (.cells _ 27)).alloc (.cells _ 26)) = w2 at *
  refine (ints_same _ _ m.srv w2 (HS.out.1.kept HF.out.2.2) (HS.out.2.kept HF.out.2.2) hl).mono ?_
  rintro e w3 ⟨rfl, n3, hw3⟩
  have G3 := hid_mk (show w2.grownBy w3 none by rw [hw3]; exact drawn _ _)
  clear hw3
  obtain ⟨_, _, _, r11, _⟩ := (HF.out.1.kept G3.out).rest
  obtain ⟨_, _, _, s11, _⟩ := (HF.out.2.1.kept G3.out).rest
  have t1 := (HD.out.1.kept (grown_trans HF.out.2.2 G3.out)).text
  have t2 := (HD.out.2.kept (grown_trans HF.out.2.2 G3.out)).text
  generalize (⟨m.data.toArray⟩ : ByteArray) = s1 at *
  generalize (⟨d'.toArray⟩ : ByteArray) = s2 at *
  go_wp2_with fail
  go_ret
  exact ⟨rfl, grown_trans HF.out.2.2 G3.out⟩

set_option maxRecDepth 100000 in
set_option maxHeartbeats 8000000 in
theorem sameM_len (m : Msg) (ae ae' : Option Addr) (ne ce ne' ce' : Nat) (hne : ¬ ne = ne') (sv sv' dv dv' : Value) (w : World) (hs : IntsR w sv m.srv) (hs' : IntsR w sv' m.srv) (hl : m.srv.length ≤ 140737488355328) (hd : Byt w dv m.data) (hd' : Byt w dv' m.data) :
    Calls Tryd.prog 13 #[.agg (msgCells m (.slice ae ne ce) sv dv), .agg (msgCells m (.slice ae' ne' ce') sv' dv')] w fun e w' => e = .returned (.bool false) ∧ w.grownBy w' none := by
  have h1 := hs.len
  have h2 := hs'.len
  have h3 := hd.len
  have h4 := hd'.len
  have HS := hid_mk (And.intro hs hs')
  have HD := hid_mk (And.intro hd hd')
  clear hs hs' hd hd'
  obtain ⟨asv, cs, rfl⟩ := h1
  obtain ⟨asv', cs', rfl⟩ := h2
  obtain ⟨ad, cd, rfl⟩ := h3
  obtain ⟨ad', cd', rfl⟩ := h4
  have HF := hid_mk (two_msgs w m m (.slice ae ne ce) (.slice asv m.srv.length cs) (.slice ad m.data.length cd) (.slice ae' ne' ce') (.slice asv' m.srv.length cs') (.slice ad' m.data.length cd'))
  unfold msgCells at HF
  unfold msgCells
  go_enter Tryd.func13, Tryd.ntmps13
  go_wp2_with fail
  generalize ((w.alloc (.cells _ 27)).alloc (.cells _ 26)) = w2 at *
  refine (ints_same _ _ m.srv w2 (HS.out.1.kept HF.out.2.2) (HS.out.2.kept HF.out.2.2) hl).mono ?_
  rintro e w3 ⟨rfl, n3, hw3⟩
  have G3 := hid_mk (show w2.grownBy w3 none by rw [hw3]; exact drawn _ _)
  clear hw3
  obtain ⟨_, r9, _, r11, _⟩ := (HF.out.1.kept G3.out).rest
  obtain ⟨_, s9, _, s11, _⟩ := (HF.out.2.1.kept G3.out).rest
  have t1 := (HD.out.1.kept (grown_trans HF.out.2.2 G3.out)).text
  have t2 := (HD.out.2.kept (grown_trans HF.out.2.2 G3.out)).text
  have hne' : ¬ (ne : Int) = (ne' : Int) := by omega
  go_wp2_with fail
  go_ret
  exact ⟨rfl, grown_trans HF.out.2.2 G3.out⟩

end Go.Proofs.YtliefofdlpljaaaDoor
