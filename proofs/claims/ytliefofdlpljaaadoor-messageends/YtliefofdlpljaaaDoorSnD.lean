/- Same, of any two messages. -/
import Derived.Test.YtliefofdlpljaaaDoorSnA
import Derived.Test.YtliefofdlpljaaaDoorSnB
import Derived.Test.YtliefofdlpljaaaDoorSnC
namespace Go.Proofs.YtliefofdlpljaaaDoor
open Go.RowKit Go.Maps
set_option linter.unusedVariables false
set_option linter.unusedSimpArgs false

theorem msg_ext {m n : Msg} (h0 : m.kind = n.kind) (h1 : m.frm = n.frm) (h2 : m.dst = n.dst) (h3 : m.term = n.term) (h4 : m.a = n.a) (h5 : m.b = n.b) (h6 : m.c = n.c) (h7 : m.d = n.d) (h8 : m.yes = n.yes) (h9 : m.ents = n.ents) (h10 : m.srv = n.srv) (h11 : m.data = n.data) : m = n := by
  cases m; cases n; simp_all
theorem sameM_gen (m n : Msg) (b : Bool) (hb : m = n ↔ b = true) (ev sv dv ev' sv' dv' : Value) (w : World) (he : EntsR w ev m.ents) (hs : IntsR w sv m.srv) (hd : Byt w dv m.data) (he' : EntsR w ev' n.ents) (hs' : IntsR w sv' n.srv) (hd' : Byt w dv' n.data)
    (hns : m.srv.length ≤ 140737488355328) (hne : m.ents.length ≤ 140737488355328) (hns' : n.srv.length ≤ 140737488355328) :
    Calls Tryd.prog 13 #[.agg (msgCells m ev sv dv), .agg (msgCells n ev' sv' dv')] w fun e w' => e = .returned (.bool b) ∧ w.grownBy w' none := by
  have no : m ≠ n → b = false := fun h => by
    cases b with
    | false => rfl
    | true => exact absurd (hb.2 rfl) h
  obtain ⟨ae, ce, e1⟩ := he.len
  obtain ⟨asv, cs, e2⟩ := hs.len
  obtain ⟨ad, cd, e3⟩ := hd.len
  obtain ⟨ae', ce', e4⟩ := he'.len
  obtain ⟨asv', cs', e5⟩ := hs'.len
  obtain ⟨ad', cd', e6⟩ := hd'.len
  by_cases h0 : m.kind = n.kind
  rotate_left
  · rw [no (fun e => h0 (by rw [e])), e1, e2, e3, e4, e5, e6]; exact sameM_no0 _ _ _ _ _ _ _ _ _ _ _ _ _ _ _ _ _ _ _ _ w h0
  by_cases h1 : m.frm = n.frm
  rotate_left
  · rw [no (fun e => h1 (by rw [e])), e1, e2, e3, e4, e5, e6]; exact sameM_no1 _ _ _ _ _ _ _ _ _ _ _ _ _ _ _ _ _ _ _ _ w h0 h1
  by_cases h2 : m.dst = n.dst
  rotate_left
  · rw [no (fun e => h2 (by rw [e])), e1, e2, e3, e4, e5, e6]; exact sameM_no2 _ _ _ _ _ _ _ _ _ _ _ _ _ _ _ _ _ _ _ _ w h0 h1 h2
  by_cases h3 : m.term = n.term
  rotate_left
  · rw [no (fun e => h3 (by rw [e])), e1, e2, e3, e4, e5, e6]; exact sameM_no3 _ _ _ _ _ _ _ _ _ _ _ _ _ _ _ _ _ _ _ _ w h0 h1 h2 h3
  by_cases h4 : m.a = n.a
  rotate_left
  · rw [no (fun e => h4 (by rw [e])), e1, e2, e3, e4, e5, e6]; exact sameM_no4 _ _ _ _ _ _ _ _ _ _ _ _ _ _ _ _ _ _ _ _ w h0 h1 h2 h3 h4
  by_cases h5 : m.b = n.b
  rotate_left
  · rw [no (fun e => h5 (by rw [e])), e1, e2, e3, e4, e5, e6]; exact sameM_no5 _ _ _ _ _ _ _ _ _ _ _ _ _ _ _ _ _ _ _ _ w h0 h1 h2 h3 h4 h5
  by_cases h6 : m.c = n.c
  rotate_left
  · rw [no (fun e => h6 (by rw [e])), e1, e2, e3, e4, e5, e6]; exact sameM_no6 _ _ _ _ _ _ _ _ _ _ _ _ _ _ _ _ _ _ _ _ w h0 h1 h2 h3 h4 h5 h6
  by_cases h7 : m.d = n.d
  rotate_left
  · rw [no (fun e => h7 (by rw [e])), e1, e2, e3, e4, e5, e6]; exact sameM_no7 _ _ _ _ _ _ _ _ _ _ _ _ _ _ _ _ _ _ _ _ w h0 h1 h2 h3 h4 h5 h6 h7
  by_cases h8 : m.yes = n.yes
  rotate_left
  · rw [no (fun e => h8 (by rw [e])), e1, e2, e3, e4, e5, e6]; exact sameM_no8 _ _ _ _ _ _ _ _ _ _ _ _ _ _ _ _ _ _ _ _ w h0 h1 h2 h3 h4 h5 h6 h7 h8
  have hcells : msgCells n ev' sv' dv' = msgCells m ev' sv' dv' := by unfold msgCells; rw [h0, h1, h2, h3, h4, h5, h6, h7, h8]
  rw [hcells]
  by_cases h10 : m.srv = n.srv
  rotate_left
  · rw [no (fun e => h10 (by rw [e])), e1, e3, e4, e6]; exact sameM_srv m n.srv h10 _ _ _ _ _ _ _ _ _ _ _ _ sv sv' w hs hs' hns hns'
  rw [← h10] at hs'
  by_cases h11 : m.data = n.data
  rotate_left
  · rw [no (fun e => h11 (by rw [e])), e1, e4]; exact sameM_data m n.data h11 _ _ _ _ _ _ sv sv' dv dv' w hs hs' hns hd hd'
  rw [← h11] at hd'
  by_cases hl : n.ents.length = m.ents.length
  rotate_left
  · rw [no (fun e => hl (by rw [e])), e1, e4]; exact sameM_len m _ _ _ _ _ _ (fun e => hl e.symm) sv sv' dv dv' w hs hs' hns hd hd'
  exact sameM_ents m n.ents hl b ⟨fun e => hb.1 (msg_ext h0 h1 h2 h3 h4 h5 h6 h7 h8 e h10 h11), fun e => by rw [hb.2 e]⟩ ev sv dv ev' sv' dv' w he hs hd he' hs' hd' hns hne

end Go.Proofs.YtliefofdlpljaaaDoor
