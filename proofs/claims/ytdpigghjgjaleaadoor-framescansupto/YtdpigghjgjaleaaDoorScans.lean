/- FrameScans: its walk. -/
import Derived.Test.YtdpigghjgjaleaaDoorRScan
namespace Go.Proofs.YtdpigghjgjaleaaDoor
open Go.RowKit Go.Maps
set_option linter.unusedVariables false
set_option linter.unusedSimpArgs false

theorem mem_endOf {s : List Fr} {f : Fr} (h : f ∈ s) : f.d.length + 9 ≤ endOf s := by
  induction s with
  | nil => simp at h
  | cons g s ih =>
    simp only [endOf, List.map_cons, List.sum_cons] at ih ⊢
    rcases List.mem_cons.1 h with rfl | hm
    · omega
    · have := ih hm; omega

/-- Bytes of one's own, whatever they are. -/
def OwnL (W : World) (B : Nat) (v : Value) (m : Nat) : Prop := ∃ d : List UInt8, d.length = m ∧ Own W B v d
theorem OwnL.set {W : World} {B : Nat} {v : Value} {m : Nat} (h : OwnL W B v m) (g k : Nat) : OwnL (W.setCell ⟨g, k, none⟩ (.int .u8 0)) B v m := by
  obtain ⟨d, hd, h1, h2⟩ := h
  rcases h2 with ⟨rfl, h0⟩ | ⟨g', cap, cur, hv, hb, hg, hc1, hc2, hc3, hc4⟩
  · exact ⟨d, hd, h1, .inl ⟨rfl, h0⟩⟩
  · by_cases e : g' = g
    · subst e
      refine ⟨d.set k 0, by simpa using hd, ?_, .inr ⟨g', cap, cur.setIfInBounds k (.int .u8 0), by simpa using hv, hb, ?_, by simpa using hc1, hc2, by simpa using hc3, ?_⟩⟩
      · simp [u8s]
      · simp [World.setCell, Array.getElem?_modify, hg]
      · simp only [Array.toList_setIfInBounds, List.length_set, Nat.mul_one] at hc4 ⊢
        rw [List.take_set, hc4]
        simp [u8s, List.map_set]
    · refine ⟨d, hd, h1, .inr ⟨g', cap, cur, hv, hb, ?_, hc1, hc2, hc3, hc4⟩⟩
      exact (Below.heap_setCell _ _ _ _ (by simpa using e)).trans hg
theorem OwnL.at {W : World} {B : Nat} {v : Value} {m : Nat} (h : OwnL W B v m) (h0 : 0 < m) : ∃ g cap cur, v = .slice (some ⟨g, 0, none⟩) m cap ∧ B ≤ g ∧ W.heap[g]? = some (.cells cur 5 (0, 0)) ∧ (∀ k, k < m → ∃ z, W.cell? ⟨g, k, none⟩ = some (.int .u8 z)) ∧ ∀ k, W.frozen? ⟨g, k, none⟩ = false := by
  obtain ⟨d, hd, ho⟩ := h
  have hby := ho.byt
  obtain ⟨g, cap, cur, hv, hb, hg, _⟩ := ho.at (by omega)
  rw [hd] at hv
  refine ⟨g, cap, cur, hv, hb, hg, fun k hk => ?_, fun k => by simp [World.frozen?, hg]⟩
  obtain ⟨b', off', cap', e', _, hc⟩ := hby.at (by omega)
  rw [hv, hd] at e'
  cases e'
  have := hc k d[k] (by simp)
  rw [Nat.zero_add] at this
  exact ⟨_, this⟩
theorem OwnL.len {W : World} {B : Nat} {v : Value} {m : Nat} (h : OwnL W B v m) : ∃ a c, v = .slice a m c := by
  obtain ⟨d, hd, ho⟩ := h
  obtain ⟨a, c, e⟩ := ho.len
  exact ⟨a, c, by rw [← hd]; exact e⟩

/-- Frames told, whatever their bytes are now. -/
structure Wiped (w1 : World) (lv : Value) (s : List Fr) (W : World) : Prop where
  row : W.ownsRow w1.heap.size 45 2 lv s.length (cellsOf s)
  own : ∀ f ∈ s, OwnL W w1.heap.size f.dv f.d.length
  grown : w1.grownBy W none
theorem Wiped.set {w1 W : World} {lv : Value} {s : List Fr} (h : Wiped w1 lv s W) {g k : Nat} {cur : Array Value} (hg : W.heap[g]? = some (.cells cur 5 (0, 0))) (hb : w1.heap.size ≤ g) : Wiped w1 lv s (W.setCell ⟨g, k, none⟩ (.int .u8 0)) :=
  ⟨owns_kept h.row (grown_setCell W g k _) (fun q c hh => ne_tag hh hg (by decide)), fun f hf => (h.own f hf).set g k, grown_new h.grown (grown_setCell W g k _) hb⟩

theorem row_at {W : World} {B : Nat} {lv : Value} {s : List Fr} (h : W.ownsRow B 45 2 lv s.length (cellsOf s)) (h0 : 0 < s.length) : ∃ gr cap, lv = .slice (some ⟨gr, 0, none⟩) s.length cap ∧
    ∀ (i : Nat) (f : Fr), s[i]? = some f → W.cell? ⟨gr, i * 2 + 1, none⟩ = some f.dv := by
  rcases h.2 with ⟨_, h0'⟩ | ⟨g, cap, cur, hv, hb, hg, h1, h2, h3, h4⟩
  · omega
  · refine ⟨g, cap, hv, fun i f hf => ?_⟩
    have hi : i < s.length := (List.getElem?_eq_some_iff.1 hf).1
    obtain ⟨a, b⟩ := cellsOf_get s i f hf
    rw [← h4, List.getElem?_take, if_pos (by omega)] at b
    rw [cell_of_row _ _ _ _ _ _ hg, Nat.mul_comm]
    simpa using b

set_option maxRecDepth 100000 in
set_option maxHeartbeats 8000000 in
theorem scans_any (v : Value) (bs : List UInt8) (w : World) (h : Byt w v bs) (ht : Tab w) (hl : bs.length ≤ 10000000) :
    Calls Tryd.prog 5 #[v] w fun e w' => e = .returned (.bool true) ∧ w.grownBy w' none := by
  obtain ⟨av, cv, rfl⟩ := h.len
  have HB := hid_mk h
  have HT := hid_mk ht
  clear h ht
  go_enter Tryd.func5, Tryd.ntmps5
  go_wp2_with fail
  refine (lent_any _ bs w HB.out (by omega)).mono ?_
  rintro e w1 ⟨g, cap, rfl, ho, hg1⟩
  obtain ⟨hb1, _, _, hcap⟩ := lent_byt ho
  have H1 := hid_mk (And.intro ho (And.intro hg1 hb1))
  clear ho hg1 hb1
  go_wp2_with fail
  refine (scan_any _ bs w1 H1.out.2.2 (HT.out.kept H1.out.2.1) (by omega)).mono ?_
  rintro e w2 ⟨s, lv, hT1, rfl, hrow, hg2⟩
  obtain ⟨la, lc, rfl⟩ := row_shape hrow.1
  have H2 := hid_mk (And.intro hT1 (And.intro hrow (And.intro hg2 (grown_trans H1.out.2.1 hg2))))
  clear hT1 hrow hg2
  go_wp2_with fail
  refine (rscan_any _ bs w2 (HB.out.kept H2.out.2.2.2) (by omega)).mono ?_
  rintro e w3 ⟨t, ov, hT2, rfl, hrow2, hg3⟩
  obtain ⟨oa, oc, rfl⟩ := row_shape hrow2.1
  have heq : s.map Fr.pr = t.map Fr.pr ∧ endOf s = endOf t := by
    have a := H2.out.1
    unfold Told at a hT2
    rw [a] at hT2
    simp only [Prod.mk.injEq] at hT2
    exact hT2
  have hle : endOf t ≤ bs.length := told_le hT2
  have hslen : s.length ≤ 100000000 := by
    have := len_endOf s
    omega
  have hms : Calls Tryd.prog 21 #[.slice la s.length lc, .slice oa t.length oc] w3 fun e w' => e = .returned (.bool true) ∧ w3.grownBy w' none :=
    same_any _ _ s _ (rfs t) w3 (H2.out.2.1.kept hg3 (fun _ _ _ _ _ => by simp)) (hrow2.frs (fun f hf => by have := mem_endOf hf; omega)) (alike_rfs heq.1) hslen
  have HMS := hid_mk hms
  rw [heq.2]
  have HR := hid_mk (H2.out.2.1.kept hg3 (fun _ _ _ _ _ => by simp))
  have H3 := hid_mk (And.intro hg3 (grown_trans H2.out.2.2.2 hg3))
  have H13 := hid_mk (grown_trans H2.out.2.2.1 hg3)
  have HFL := hid_mk (show ∀ f ∈ s, f.d.length ≤ 10000000 from fun f hf => by have := mem_endOf hf; omega)
  clear hT2 hrow2 hg3 heq hle hms
  generalize decide (endOf t = bs.length) = B at *
  generalize endOf t = E at *
  generalize t.length = tn at *
  obtain ⟨n, hn⟩ : ∃ n, n = s.length := ⟨_, rfl⟩
  rw [← hn] at hslen ⊢
  rw [← hn] at HMS HR
  have HN := hid_mk hn
  clear hn
  go_wp2_with (first
    | (go_at_call 21; refine HMS.out.mono ?_; rintro e w4 ⟨rfl, hg4⟩; have G4 := hid_mk hg4; clear hg4)
    | (go_at_call 12; refine (stays_any w.heap.size g cap bs _ _ ((H1.out.1.kept H13.out (.inl rfl)).kept G4.out (.inl rfl)) ((HB.out.kept H3.out.2).kept G4.out) (by omega)).mono ?_; rintro e w5 ⟨rfl, hg5⟩; have G5 := hid_mk hg5; clear hg5))
  have HW : Hid (Wiped w1 (.slice la n lc) s w5) := hid_mk (by
    have hr := (HR.out.kept (grown_trans G4.out G5.out) (fun _ _ _ _ _ => by simp))
    exact ⟨hr.1, fun f hf => ⟨f.d, rfl, hr.2 f hf⟩, grown_trans H13.out (grown_trans G4.out G5.out)⟩)
  go_loopw [11] (fun t wr => ∃ j : Nat, j ≤ n ∧ t = .int .i64 j ∧ Hid (Wiped w1 (.slice la n lc) s wr)) (fun t _ => n - (intOf t).toNat)
  case atStart => exact ⟨0, Nat.zero_le _, rfl, HW⟩
  case round =>
    obtain ⟨j, hj, rfl, HI⟩ := hrel
    by_cases hlt : j < n
    · have hjs : j < s.length := by have := HN.out; omega
      obtain ⟨f, hf⟩ : ∃ f, s[j]? = some f := ⟨_, List.getElem?_eq_getElem hjs⟩
      have hfm := List.mem_of_getElem? hf
      obtain ⟨fa, fc, hfd⟩ := (HI.out.own f hfm).len
      have hfl := HFL.out f hfm
      obtain ⟨m, hm⟩ : ∃ m, m = f.d.length := ⟨_, rfl⟩
      rw [← hm] at hfd hfl
      obtain ⟨gr, lc', el, _⟩ := row_at HI.out.row (by omega)
      injection el with el _ el3
      subst el
      have HROW : Hid (∀ W, Wiped w1 (.slice (some ⟨gr, 0, none⟩) n lc) s W → W.cell? ⟨gr, j * 2 + 1, none⟩ = some (.slice fa m fc)) := hid_mk (fun W hW => by
        obtain ⟨gr', lc'', el', hc⟩ := row_at hW.row (by omega)
        cases el'
        rw [← hfd]
        exact hc j f hf)
      have HOWN : Hid (∀ W, Wiped w1 (.slice (some ⟨gr, 0, none⟩) n lc) s W → OwnL W w1.heap.size (.slice fa m fc) m) := hid_mk (fun W hW => by
        have := hW.own f hfm
        rw [hfd, ← hm] at this
        exact this)
      have hI : (j : Int) < (n : Int) := by omega
      clear hf hfm hfd hm hjs
      have cA := HROW.out wr HI.out
      go_wp2
      go_loopw [12] (fun t wr => ∃ q : Nat, q ≤ m ∧ t = .int .i64 q ∧ Hid (Wiped w1 (.slice (some ⟨gr, 0, none⟩) n lc) s wr)) (fun t _ => m - (intOf t).toNat)
      case atStart => exact ⟨0, Nat.zero_le _, rfl, HI⟩
      case round =>
        obtain ⟨q, hq, rfl, HQ⟩ := hrel
        have cB := HROW.out _ HQ.out
        by_cases hqm : q < m
        · obtain ⟨gd, fc', cur, ed, hbd, hgd, hcd, hfz⟩ := (HOWN.out _ HQ.out).at (by omega)
          injection ed with ed _ ed3
          subst ed
          obtain ⟨z, hz⟩ := hcd q hqm
          have hf1 := hfz q
          have HS := hid_mk (HQ.out.set (k := q) hgd hbd)
          have hqI : (q : Int) < (m : Int) := by omega
          clear hbd hgd hcd hfz
          go_wp2
          go_roundw
          case rel => exact ⟨q + 1, by omega, by go_num, HS⟩
          case measure => simp [intOf]; omega
        · have hqm' : q = m := by omega
          subst hqm'
          go_wp2
          go_roundw
          case rel => exact ⟨j + 1, by omega, by go_num, HQ⟩
          case measure => simp [intOf]; omega
    · have hjn : j = n := by omega
      subst hjn
      have t1 := (H1.out.2.2.kept HI.out.grown).text
      have t2 := ((HB.out.kept H1.out.2.1).kept HI.out.grown).text
      go_wp2_with fail
      refine (knows_any wr ((HT.out.kept H1.out.2.1).kept HI.out.grown)).mono ?_
      rintro e w7 ⟨rfl, hg7⟩
      go_wp2
      go_ret
      exact ⟨rfl, grown_trans H1.out.2.1 (grown_trans HI.out.grown hg7)⟩

end Go.Proofs.YtdpigghjgjaleaaDoor
