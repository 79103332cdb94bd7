/- conf: ConfBack, ConfChanges: the walks. -/
import Derived.Test.YtnbhecmbndaifaaCfI
namespace Go.Proofs.Ytnbhecmbndaifaa
open Go.RowKit Go.Maps
set_option linter.unusedVariables false
set_option linter.unusedSimpArgs false
set_option maxRecDepth 100000

theorem ch_nil {l : List Int} {add : Bool} {id : Int} (h : chE l add id ≠ 0) : chL l add id = [] := by unfold chL; rw [if_neg h]
set_option maxHeartbeats 1000000 in
theorem confBack_walk (v : Value) (l : List Int) (add : Bool) (id : Int) (w : World) (h : Nums w v l) : Calls Try.prog 8 #[v, .bool add, .int .i64 id] w fun e w' => e = .returned (.bool true) ∧ w.grownBy w' none := by
  obtain ⟨a1, c1, rfl⟩ := h.1.len
  have HH := hid_mk h
  have hl := h.2
  have HC := hid_mk (change_any _ l add id w hl h.1)
  clear h
  go_enter Try.func8, Try.ntmps8
  go_wp2_with fail
  refine HC.out.mono ?_
  rintro e w1 ⟨a2, c2, rfl, ho, hg⟩
  have H1 := hid_mk (And.intro ho.ints hg)
  clear ho hg HC
  by_cases h0 : chE l add id = 0
  · have HB := hid_mk (ch_back h0 rfl)
    have HBe := hid_mk (bes_ch h0 rfl)
    have HL := hid_mk (ch_len_le l add id)
    rw [h0]
    clear h0
    generalize chL l add id = M at *
    have HC2 := hid_mk (change_any _ M (!add) id w1 HL.out H1.out.1)
    unfold ChPost at HC2
    rw [HB.out.1, HB.out.2.1] at HC2
    go_wp2_with (go_at_call 19; refine (num_any _ _).mono ?_; rintro e w2 ⟨rfl, hw⟩; rw [hw]; clear hw)
    refine HC2.out.mono ?_
    rintro e w3 ⟨a3, c3, rfl, ho, hg⟩
    have H3 := hid_mk (And.intro ho.ints (grown_trans H1.out.2 hg))
    have HM3 := hid_mk (H1.out.1.kept hg)
    clear ho hg HC2 H1
    have HI := hid_mk (ints_any _ _ l l w3 hl H3.out.1 (HH.out.1.kept H3.out.2))
    rw [show decide (l = l) = true by simp] at HI
    go_wp2_with (go_at_call 19; refine (num_any _ _).mono ?_; rintro e w2 ⟨rfl, hw⟩; rw [hw]; clear hw)
    refine HI.out.mono ?_
    rintro e w4 ⟨rfl, hg⟩
    have G4 := hid_mk (And.intro (grown_trans H3.out.2 hg) (HM3.out.kept hg))
    clear hg HI H3 HM3
    have HR := hid_mk (right_any _ M w4 HL.out G4.out.2)
    rw [rtB_iff.2 HB.out.2.2.1] at HR
    go_wp2_with fail
    refine HR.out.mono ?_
    rintro e w5 ⟨rfl, hg⟩
    have G5 := hid_mk (And.intro (grown_trans G4.out.1 hg) (G4.out.2.kept hg))
    clear hg HR G4
    have HHs := hid_mk (has_any _ M id w5 HL.out G5.out.2)
    rw [HB.out.2.2.2.1] at HHs
    go_wp2_with fail
    refine HHs.out.mono ?_
    rintro e w6 ⟨rfl, hg⟩
    have G6 := hid_mk (And.intro (grown_trans G5.out.1 hg) (G5.out.2.kept hg))
    clear hg HHs G5
    have HBb := hid_mk (beside_any _ _ l M w6 hl HL.out (HH.out.1.kept G6.out.1) G6.out.2)
    rw [HBe.out] at HBb
    go_wp2_with fail
    refine HBb.out.mono ?_
    rintro e w7 ⟨rfl, hg⟩
    have G7 := hid_mk (grown_trans G6.out.1 hg)
    clear hg HBb G6
    go_wp2_with (go_at_call 16; refine (knows_any _).mono ?_; rintro e W8 ⟨rfl, hg⟩; have G8 := hid_mk hg; clear hg)
    go_ret
    exact ⟨rfl, grown_trans G7.out G8.out⟩
  · rw [ch_nil h0]
    have h0' : (chE l add id != 0) = true := by simp [h0]
    clear h0
    generalize chE l add id = E at *
    go_wp2_with (first
      | (go_at_call 19; refine (num_any _ _).mono ?_; rintro e w2 ⟨rfl, hw⟩; rw [hw]; clear hw)
      | (go_at_call 16; refine (knows_any _).mono ?_; rintro e W8 ⟨rfl, hg⟩; have G8 := hid_mk hg; clear hg))
    go_ret
    exact ⟨rfl, grown_trans H1.out.2 G8.out⟩

/-! ### A list that is written over -/
theorem grown_setCell (w : World) (b i : Nat) (v : Value) : w.grownBy (w.setCell ⟨b, i, none⟩ v) (some b) :=
  ⟨rfl, rfl, rfl, by simp [World.setCell], fun k _ hne => Below.heap_setCell _ _ _ _ (fun e => hne (by rw [e]))⟩
theorem own_set {w W : World} {v : Value} {l : List Int} (hg : w.grownBy W none) (h : OwnI W w.heap.size v l) {i : Nat} (hi : i < l.length) : ∃ g c, v = .slice (some ⟨g, 0, none⟩) l.length c ∧ W.cell? ⟨g, i, none⟩ = some (.int .i64 l[i]) ∧ W.frozen? ⟨g, i, none⟩ = false ∧
    ∀ z, OwnI (W.setCell ⟨g, i, none⟩ (.int .i64 z)) w.heap.size v (l.set i z) ∧ w.grownBy (W.setCell ⟨g, i, none⟩ (.int .i64 z)) none := by
  rcases h.2 with ⟨rfl, h0⟩ | ⟨g, cap, cur, hv, hb, hh, h1, h2, h3, h4⟩
  · omega
  · subst hv
    have hx : cur[i]? = some (.int .i64 l[i]) := by
      have : (i64s l)[i]? = some (.int .i64 l[i]) := by simp [i64s, hi]
      rw [← h4, List.getElem?_take] at this
      split at this
      · simpa using this
      · cases this
    refine ⟨g, cap, rfl, by rw [cell_of_row _ _ _ _ _ _ hh]; exact hx, by simp [World.frozen?, hh], fun z => ⟨⟨by simp [i64s], .inr ⟨g, cap, cur.setIfInBounds i (.int .i64 z), by simp, hb, by simp [World.setCell, Array.getElem?_modify, hh], by simpa using h1, h2, by simpa using h3, ?_⟩⟩, grown_new hg (grown_setCell W g i _) hb⟩⟩
    have e : i64s (l.set i z) = (i64s l).set i (.int .i64 z) := by unfold i64s; rw [List.map_set]
    rw [e, ← h4]
    simp [List.take_set]
set_option maxHeartbeats 1000000 in
theorem confChanges_walk (v : Value) (l : List Int) (add : Bool) (id : Int) (w : World) (h : Nums w v l) : Calls Try.prog 4 #[v, .bool add, .int .i64 id] w fun e w' => e = .returned (.bool true) ∧ w.grownBy w' none := by
  obtain ⟨a1, c1, rfl⟩ := h.1.len
  have HH := hid_mk h
  have hl := h.2
  clear h
  go_enter Try.func4, Try.ntmps4
  go_wp2_with (at_builtin; refine wp_copyi (grown_refl w none) HH.out.1 hl rfl _ _ rfl rfl rfl ?_; intro aa ac W1 H1)
  have HX := hid_mk (And.intro H1.out.1.ints H1.out.2)
  clear H1
  refine (change_any _ l add id W1 hl HX.out.1).mono ?_
  rintro e w2 ⟨a2, c2, rfl, ho2, hg2⟩
  have H2 := hid_mk (And.intro ho2 hg2)
  have HRC := hid_mk (rchange_any _ l add id w2 hl (HH.out.1.kept (grown_trans HX.out.2 hg2)))
  have HL := hid_mk (ch_len_le l add id)
  clear ho2 hg2
  unfold ChPost at HRC
  generalize chL l add id = M at *
  generalize chE l add id = E at *
  go_wp2_with fail
  refine HRC.out.mono ?_
  rintro e w3 ⟨a3, c3, rfl, ho3, hg3⟩
  have H3 := hid_mk (And.intro (H2.out.1.kept hg3) (And.intro ho3.ints (grown_trans H2.out.2 hg3)))
  clear ho3 hg3 HRC H2
  have HI := hid_mk (ints_any _ _ M M w3 HL.out H3.out.1.ints H3.out.2.1)
  rw [show decide (M = M) = true by simp] at HI
  go_wp2_with fail
  refine HI.out.mono ?_
  rintro e w4 ⟨rfl, hg⟩
  have H4 := hid_mk (And.intro (H3.out.1.kept hg) (grown_trans H3.out.2.2 hg))
  clear hg HI H3
  go_wp2_with (go_at_call 19; refine (num_any _ _).mono ?_; rintro e w2 ⟨rfl, hw⟩; rw [hw]; clear hw)
  have hM := HL.out
  go_loopg [13] M.length (fun g iv W => ∃ (k : Nat), k ≤ M.length ∧ g = M.length - k ∧ iv = .int .i64 k ∧ Hid ((∃ l', l'.length = M.length ∧ OwnI W W1.heap.size (.slice a2 M.length c2) l') ∧ W1.grownBy W none))
  case atStart => exact ⟨0, Nat.zero_le _, rfl, rfl, hid_mk ⟨⟨M, rfl, H4.out.1⟩, H4.out.2⟩⟩
  case round =>
    obtain ⟨k, hk, hgk, rfl, H⟩ := hrel
    clear H4
    rename World => W
    by_cases hlt : k < M.length
    · have hlt' : (k : Int) < M.length := by omega
      obtain ⟨⟨l', hl', ho⟩, hg⟩ := H.out
      obtain ⟨g, c, hv, hcell, hfr, hset⟩ := own_set hg ho (i := k) (by omega)
      injection hv with e1 e2 e3
      subst e1
      have HS := hid_mk (hset (-1))
      have HS' := hid_mk (show (l'.set k (-1)).length = M.length by simpa using hl')
      clear hset ho hg e2 e3 H
      generalize l'[k] = x at *
      clear hl'
      go_wp2
      go_roundg (M.length - (k + 1))
      case measure => omega
      case rel => exact ⟨k + 1, by omega, rfl, by go_num, hid_mk ⟨⟨_, HS'.out, HS.out.1⟩, HS.out.2⟩⟩
    · have hlt' : ¬ (k : Int) < M.length := by omega
      have HI := hid_mk (ints_any _ _ l l W hl (HX.out.1.kept H.out.2) (HH.out.1.kept (grown_trans HX.out.2 H.out.2)))
      rw [show decide (l = l) = true by simp] at HI
      go_wp2_with fail
      refine HI.out.mono ?_
      rintro e w6 ⟨rfl, hg⟩
      have G6 := hid_mk (grown_trans H.out.2 hg)
      clear hg HI H
      go_wp2_with (go_at_call 16; refine (knows_any _).mono ?_; rintro e W8 ⟨rfl, hg⟩; have G8 := hid_mk hg; clear hg)
      go_ret
      exact ⟨rfl, grown_trans HX.out.2 (grown_trans G6.out G8.out)⟩
end Go.Proofs.Ytnbhecmbndaifaa
