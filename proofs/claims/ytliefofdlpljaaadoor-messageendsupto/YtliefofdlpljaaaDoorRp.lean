/- The document's side: numbers, Right. -/
import Derived.Test.YtliefofdlpljaaaDoorPm
namespace Go.Proofs.YtliefofdlpljaaaDoor
open Go.RowKit Go.Maps
set_option linter.unusedVariables false
set_option linter.unusedSimpArgs false

theorem rnumbers_any (m : Msg) (ae asv ad : Option Addr) (ne ns nd ce cs cd : Nat) (w : World) : Calls Tryd.prog 25 #[.agg (msgCells m (.slice ae ne ce) (.slice asv ns cs) (.slice ad nd cd))] w fun e w' => ∃ g, e = .returned (.slice (some ⟨g, 0, none⟩) 8 8) ∧ IntsR w' (.slice (some ⟨g, 0, none⟩) 8 8) (nums m) ∧ w.grownBy w' none := by
  have HI : Hid (IntsR ((w.alloc (.cells (msgCells m (.slice ae ne ce) (.slice asv ns cs) (.slice ad nd cd)) 26)).alloc (.cells #[.int .i64 m.kind, .int .i64 m.frm, .int .i64 m.dst, .int .i64 m.term, .int .i64 m.a, .int .i64 m.b, .int .i64 m.c, .int .i64 m.d] 3)) (.slice (some ⟨w.heap.size + 1, 0, none⟩) 8 8) (nums m)) := hid_mk (by
    have := ints_new (w.alloc (.cells (msgCells m (.slice ae ne ce) (.slice asv ns cs) (.slice ad nd cd)) 26)) (nums m) 3 #[.int .i64 m.kind, .int .i64 m.frm, .int .i64 m.dst, .int .i64 m.term, .int .i64 m.a, .int .i64 m.b, .int .i64 m.c, .int .i64 m.d] rfl
    have s1 : (w.alloc (.cells (msgCells m (.slice ae ne ce) (.slice asv ns cs) (.slice ad nd cd)) 26)).heap.size = w.heap.size + 1 := by simp
    rw [s1] at this
    exact this)
  unfold msgCells at HI
  unfold msgCells
  go_enter Tryd.func25, Tryd.ntmps25
  go_wp2_with fail
  go_ret
  exact ⟨_, rfl, HI.out, grown_trans (World.grownBy_alloc _ _ _) (World.grownBy_alloc _ _ _)⟩

def P1 (m : Msg) : Prop := (¬ m.kind < 1 ∧ ¬ 6 < m.kind) ∧ (¬ m.frm < 0 ∧ ¬ 16 ≤ m.frm) ∧ (¬ m.dst < 0 ∧ ¬ 16 ≤ m.dst) ∧ (¬ m.term < 1 ∧ ¬ 1099511627776 ≤ m.term)
theorem numsOk_iff (m : Msg) : numsOk (nums m) = true ↔ P1 m ∧ ∀ (k : Nat) x, 4 ≤ k → (nums m)[k]? = some x → ¬ x < 0 ∧ ¬ 1099511627776 < x := by
  constructor
  · intro h
    simp [numsOk, nums, spanL, inSpan] at h
    refine ⟨by unfold P1; omega, fun k x hk hx => ?_⟩
    match k, hx with
    | 4, hx => cases hx; omega
    | 5, hx => cases hx; omega
    | 6, hx => cases hx; omega
    | 7, hx => cases hx; omega
  · rintro ⟨h1, h2⟩
    unfold P1 at h1
    have a4 := h2 4 _ (by omega) rfl
    have a5 := h2 5 _ (by omega) rfl
    have a6 := h2 6 _ (by omega) rfl
    have a7 := h2 7 _ (by omega) rfl
    simp [numsOk, nums, spanL, inSpan]
    omega
theorem right_no {m : Msg} (h : numsOk (nums m) = true → False) : rightM m = false := by
  unfold rightM chk
  cases hn : numsOk (nums m) with
  | true => exact (h hn).elim
  | false => rfl
theorem right_no1 {m : Msg} (h : ¬ P1 m) : rightM m = false := right_no (fun hn => h ((numsOk_iff m).1 hn).1)
theorem right_yes {m : Msg} (h : numsOk (nums m) = true) : rightM m = (lensOk m.kind m.ents.length m.srv.length m.data.length && wrOk m) := by unfold rightM chk; rw [h]; rfl

theorem lens_plain (kind : Int) (ne ns nd : Nat) (b : Bool) (h5 : ¬ kind = 5) (h8 : ¬ 8 < ne) (hd : ¬ 65536 < nd) (he : ne = 0 ∨ kind = 3) : (lensOk kind ne ns nd && (decide (kind ≠ 5) || b)) = (((ns : Int) == 0) && ((nd : Int) == 0)) := by
  unfold lensOk
  rw [Bool.eq_iff_iff]
  simp [h5]
  omega

set_option maxRecDepth 100000 in
set_option maxHeartbeats 8000000 in
theorem rrightM_any (m : Msg) (ev sv dv : Value) (w : World) (he : EntsR w ev m.ents) (hs : IntsR w sv m.srv) (hld : ∃ ad cd, dv = .slice ad m.data.length cd) (hne : m.ents.length ≤ 140737488355328) (hns : m.srv.length ≤ 140737488355328) :
    Calls Tryd.prog 24 #[.agg (msgCells m ev sv dv)] w fun e w' => e = .returned (.bool (rightM m)) ∧ w.grownBy w' none := by
  have hle := he.len
  have hls := hs.len
  have HE := hid_mk he
  have HS := hid_mk hs
  clear he hs
  obtain ⟨ae, ce, rfl⟩ := hle
  obtain ⟨asv, cs, rfl⟩ := hls
  obtain ⟨ad, cd, rfl⟩ := hld
  have HF : Hid (MB (w.alloc (.cells (msgCells m (.slice ae m.ents.length ce) (.slice asv m.srv.length cs) (.slice ad m.data.length cd)) 26)) 26 w.heap.size m (.slice ae m.ents.length ce) (.slice asv m.srv.length cs) (.slice ad m.data.length cd) ∧ w.grownBy (w.alloc (.cells (msgCells m (.slice ae m.ents.length ce) (.slice asv m.srv.length cs) (.slice ad m.data.length cd)) 26)) none) := hid_mk ⟨heap_alloc_new w _, World.grownBy_alloc _ _ _⟩
  unfold msgCells at HF
  by_cases hp : P1 m
  rotate_left
  · rw [right_no1 hp]
    unfold msgCells
    by_cases k1 : m.kind < 1
    · clear hp
      go_enter Tryd.func24, Tryd.ntmps24
      go_wp2_with fail
      go_ret
      exact ⟨rfl, HF.out.2⟩
    by_cases k2 : 6 < m.kind
    · clear hp
      go_enter Tryd.func24, Tryd.ntmps24
      go_wp2_with fail
      go_ret
      exact ⟨rfl, HF.out.2⟩
    by_cases k3 : m.frm < 0
    · clear hp
      go_enter Tryd.func24, Tryd.ntmps24
      go_wp2_with fail
      go_ret
      exact ⟨rfl, HF.out.2⟩
    by_cases k4 : 16 ≤ m.frm
    · clear hp
      go_enter Tryd.func24, Tryd.ntmps24
      go_wp2_with fail
      go_ret
      exact ⟨rfl, HF.out.2⟩
    by_cases k5 : m.dst < 0
    · clear hp
      go_enter Tryd.func24, Tryd.ntmps24
      go_wp2_with fail
      go_ret
      exact ⟨rfl, HF.out.2⟩
    by_cases k6 : 16 ≤ m.dst
    · clear hp
      go_enter Tryd.func24, Tryd.ntmps24
      go_wp2_with fail
      go_ret
      exact ⟨rfl, HF.out.2⟩
    by_cases k7 : m.term < 1
    · clear hp
      go_enter Tryd.func24, Tryd.ntmps24
      go_wp2_with fail
      go_ret
      exact ⟨rfl, HF.out.2⟩
    by_cases k8 : 1099511627776 ≤ m.term
    · clear hp
      go_enter Tryd.func24, Tryd.ntmps24
      go_wp2_with fail
      go_ret
      exact ⟨rfl, HF.out.2⟩
    exact absurd ⟨⟨k1, k2⟩, ⟨k3, k4⟩, ⟨k5, k6⟩, ⟨k7, k8⟩⟩ hp
  have HP1 := hid_mk hp
  obtain ⟨⟨k1, k2⟩, ⟨k3, k4⟩, ⟨k5, k6⟩, ⟨k7, k8⟩⟩ := hp
  unfold msgCells
  go_enter Tryd.func24, Tryd.ntmps24
  go_wp2_with fail
  clear k3 k4 k5 k6 k7 k8
  generalize (w.alloc (.cells _ 26)) = w1 at *
  refine (rnumbers_any m _ _ _ _ _ _ _ _ _ w1).mono ?_
  rintro e w2 ⟨g, rfl, hi2, hg2⟩
  have H2 := hid_mk (And.intro hi2 hg2)
  clear hi2 hg2
  go_wp2_with fail
  go_loop [4] (fun iv => ∃ k : Nat, 4 ≤ k ∧ k ≤ 8 ∧ iv = .int .i64 k ∧ Hid (∀ (j : Nat) x, 4 ≤ j → j < k → (nums m)[j]? = some x → ¬ x < 0 ∧ ¬ 1099511627776 < x)) (fun iv => 8 - (intOf iv).toNat)
  case atStart => exact ⟨4, Nat.le_refl _, by omega, rfl, hid_mk (fun j x h4 hj => by omega)⟩
  case round =>
    obtain ⟨k, h4, hk, rfl, H⟩ := hrel
    by_cases hlt : k < 8
    · obtain ⟨x, hx⟩ : ∃ x, (nums m)[k]? = some x := ⟨(nums m)[k]'(by simpa [nums] using hlt), by simp⟩
      have hcell : w2.cell? ⟨g, k, none⟩ = some (.int .i64 x) := by
        obtain ⟨b, off, cap, e, _, hc⟩ := H2.out.1.at (by simp [nums])
        injection e with e1 _ _
        injection e1 with e2
        injection e2 with e3 e4 _
        subst e3
        subst e4
        simpa using hc k x hx
      have HX := hid_mk hx
      clear hx
      by_cases x1 : x < 0
      · have HN := hid_mk (show rightM m = false from right_no (fun hn => (((numsOk_iff m).1 hn).2 k x h4 HX.out).1 x1))
        go_wp2_with fail
        go_ret
        exact ⟨ret_bool HN.out.symm, grown_trans HF.out.2 H2.out.2⟩
      · by_cases x2 : 1099511627776 < x
        · have HN := hid_mk (show rightM m = false from right_no (fun hn => (((numsOk_iff m).1 hn).2 k x h4 HX.out).2 x2))
          go_wp2_with fail
          go_ret
          exact ⟨ret_bool HN.out.symm, grown_trans HF.out.2 H2.out.2⟩
        · go_wp2_with fail
          go_round
          case rel => exact ⟨k + 1, by omega, by omega, by go_num, hid_mk (fun j y hj4 hj hy => by
            by_cases hjk : j = k
            · subst hjk
              rw [HX.out] at hy
              cases hy
              exact ⟨x1, x2⟩
            · exact H.out j y hj4 (by omega) hy)⟩
          case measure => simp [intOf]; omega
    · have hk8 : k = 8 := by omega
      subst hk8
      have HN := hid_mk (show numsOk (nums m) = true from (numsOk_iff m).2 ⟨HP1.out, fun j x hj hx => H.out j x hj (List.getElem?_eq_some_iff.1 hx).1 hx⟩)
      clear H h4 hk hlt
      have HR0 := hid_mk (right_yes HN.out)
      go_wp2_with fail
      go_loopw [5] (fun iv W => ∃ k : Nat, k ≤ m.ents.length ∧ iv = .int .i64 k ∧ Hid (w2.grownBy W none ∧ ∀ x ∈ m.ents.take k, rightE x = true)) (fun iv _ => m.ents.length - (intOf iv).toNat)
      case atStart => exact ⟨0, Nat.zero_le _, rfl, hid_mk ⟨grown_refl _ _, by simp⟩⟩
      case round =>
        obtain ⟨k, hk, rfl, H⟩ := hrel
        rename World => w3
        have HG := hid_mk (show w.grownBy w3 none from grown_trans HF.out.2 (grown_trans H2.out.2 H.out.1))
        obtain ⟨_, r9, r10, r11, _⟩ := (HF.out.1.kept (grown_trans H2.out.2 H.out.1)).rest
        have r0 := (HF.out.1.kept (grown_trans H2.out.2 H.out.1)).num 0 _ rfl
        by_cases hlt : k < m.ents.length
        · obtain ⟨x, hx⟩ : ∃ x, m.ents[k]? = some x := ⟨m.ents[k], by simp⟩
          obtain ⟨eb, off, hae, hcap, hcs⟩ := (HE.out.kept HG.out).at (by omega)
          obtain ⟨xv, q0, q1, q2, q3, hxb, hxl⟩ := hcs k x hx
          have HX := hid_mk (And.intro hx hxb)
          clear hx hxb hcs r10 r11 r0
          subst hae
          go_wp2_with fail
          clear q0 q1 q2 q3 r9
          refine (rrightEntry_any x xv w3 HX.out.2 hxl).mono ?_
          rintro e w4 ⟨rfl, hg4⟩
          have G4 := hid_mk hg4
          clear hg4
          cases hr : rightE x with
          | false =>
            have HNO := hid_mk (show rightM m = false by
              rw [HR0.out]
              have : wrOk m = false := by
                unfold wrOk
                have : m.ents.all rightE = false := by rw [List.all_eq_false]; exact ⟨x, List.mem_of_getElem? HX.out.1, by simp [hr]⟩
                rw [this]; rfl
              rw [this]; simp)
            clear hr
            go_wp2_with fail
            go_ret
            exact ⟨ret_bool HNO.out.symm, grown_trans HG.out G4.out⟩
          | true =>
            have HR := hid_mk hr
            clear hr
            go_wp2_with fail
            go_roundw
            case rel =>
              refine ⟨k + 1, by omega, by go_num, hid_mk ⟨grown_trans H.out.1 G4.out, ?_⟩⟩
              rw [take_snoc _ k x HX.out.1]
              intro y hy
              rcases List.mem_append.1 hy with hy | hy
              · exact H.out.2 y hy
              · obtain rfl : y = x := by simpa using hy
                exact HR.out
            case measure => simp [intOf]; omega
        · have hkn : k = m.ents.length := by omega
          subst hkn
          have HA := hid_mk (show m.ents.all rightE = true by
            rw [List.all_eq_true]
            have := H.out.2
            rwa [List.take_length] at this)
          have HRM : Hid (rightM m = (lensOk m.kind m.ents.length m.srv.length m.data.length && (decide (m.kind ≠ 5) || rightS m.srv))) := hid_mk (by rw [HR0.out]; unfold wrOk; rw [HA.out]; rfl)
          clear H hk hlt HR0 HA
          by_cases c1 : 8 < m.ents.length
          · have HNO := hid_mk (show rightM m = false by
              rw [HRM.out]
              have : lensOk m.kind m.ents.length m.srv.length m.data.length = false := by unfold lensOk; rw [decide_eq_false_iff_not]; omega
              rw [this]; rfl)
            have c1' : 8 < (m.ents.length : Int) := by omega
            go_wp2_with fail
            go_ret
            exact ⟨ret_bool HNO.out.symm, HG.out⟩
          have c1' : ¬ 8 < (m.ents.length : Int) := by omega
          by_cases c2 : m.kind = 3
          · by_cases c3 : 65536 < m.data.length
            · have HNO := hid_mk (show rightM m = false by
                rw [HRM.out]
                have : lensOk m.kind m.ents.length m.srv.length m.data.length = false := by unfold lensOk; rw [decide_eq_false_iff_not]; omega
                rw [this]; rfl)
              have c3' : 65536 < (m.data.length : Int) := by omega
              go_wp2_with fail
              go_ret
              exact ⟨ret_bool HNO.out.symm, HG.out⟩
            have c3' : ¬ 65536 < (m.data.length : Int) := by omega
            have HV := hid_mk (show rightM m = (((m.srv.length : Int) == 0) && ((m.data.length : Int) == 0)) by
              rw [HRM.out]
              exact lens_plain _ _ _ _ _ (by omega) c1 c3 (.inr c2))
            go_wp2_with fail
            all_goals
              go_ret
              exact ⟨ret_bool (by rw [HV.out]; simp_all), HG.out⟩
          · by_cases c4 : 0 < m.ents.length
            · have HNO := hid_mk (show rightM m = false by
                rw [HRM.out]
                have : lensOk m.kind m.ents.length m.srv.length m.data.length = false := by unfold lensOk; rw [decide_eq_false_iff_not]; omega
                rw [this]; rfl)
              have c4' : 0 < (m.ents.length : Int) := by omega
              go_wp2_with fail
              go_ret
              exact ⟨ret_bool HNO.out.symm, HG.out⟩
            have c4' : ¬ 0 < (m.ents.length : Int) := by omega
            by_cases c3 : 65536 < m.data.length
            · have HNO := hid_mk (show rightM m = false by
                rw [HRM.out]
                have : lensOk m.kind m.ents.length m.srv.length m.data.length = false := by unfold lensOk; rw [decide_eq_false_iff_not]; omega
                rw [this]; rfl)
              have c3' : 65536 < (m.data.length : Int) := by omega
              go_wp2_with fail
              go_ret
              exact ⟨ret_bool HNO.out.symm, HG.out⟩
            have c3' : ¬ 65536 < (m.data.length : Int) := by omega
            by_cases c5 : m.kind = 5
            · have HV := hid_mk (show rightM m = rightS m.srv by
                rw [HRM.out]
                have : lensOk m.kind m.ents.length m.srv.length m.data.length = true := by unfold lensOk; rw [decide_eq_true_iff]; omega
                rw [this]
                simp [c5])
              go_wp2_with fail
              refine (rright_any _ m.srv w3 (HS.out.kept HG.out) hns).mono ?_
              rintro e w4 ⟨rfl, n4, hw4⟩
              have G4 := hid_mk (show w3.grownBy w4 none by rw [hw4]; exact drawn _ _)
              clear hw4
              go_wp2_with fail
              go_ret
              exact ⟨ret_bool HV.out.symm, grown_trans HG.out G4.out⟩
            · have HV := hid_mk (show rightM m = (((m.srv.length : Int) == 0) && ((m.data.length : Int) == 0)) by
                rw [HRM.out]
                exact lens_plain _ _ _ _ _ c5 c1 c3 (.inl (by omega)))
              go_wp2_with fail
              all_goals
                go_ret
                exact ⟨ret_bool (by rw [HV.out]; simp_all), HG.out⟩

end Go.Proofs.YtliefofdlpljaaaDoor
