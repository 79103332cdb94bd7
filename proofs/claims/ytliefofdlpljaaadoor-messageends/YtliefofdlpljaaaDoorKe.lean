/- The document's side: numbers, Right. -/
import Derived.Test.YtliefofdlpljaaaDoorKc
import Derived.Test.YtliefofdlpljaaaDoorKb
namespace Go.Proofs.YtliefofdlpljaaaDoor
open Go.RowKit Go.Maps
set_option linter.unusedVariables false
set_option linter.unusedSimpArgs false

theorem rnumbers_any (m : Msg) (ae asv ad : Option Addr) (ne ns nd ce cs cd : Nat) (w : World) : Calls Tryd.prog 25 #[.agg (msgCells m (.slice ae ne ce) (.slice asv ns cs) (.slice ad nd cd))] w fun e w' => ∃ g, e = .returned (.slice (some ⟨g, 0, none⟩) 8 8) ∧ IntsR w' (.slice (some ⟨g, 0, none⟩) 8 8) (nums m) ∧ w.grownBy w' none := by
  have HI : Hid (IntsR ((w.alloc (.cells (msgCells m (.slice ae ne ce) (.slice asv ns cs) (.slice ad nd cd)) 26)).alloc (.cells #[.int .i64 m.kind, .int .i64 m.frm, .int .i64 m.dst, .int .i64 m.term, .int .i64 m.a, .int .i64 m.b, .int .i64 m.c, .int .i64 m.d] 3)) (.slice (some ⟨w.heap.size + 1, 0, none⟩) 8 8) (nums m)) := hid_mk (by
    have := ints_new (w.alloc (.cells (msgCells m (.slice ae ne ce) (.slice asv ns cs) (.slice ad nd cd)) 26)) (nums m) 3 #[.int .i64 m.kind, .int .i64 m.frm, .int .i64 m.dst, .int .i64 m.term, .int .i64 m.a, .int .i64 m.b, .int .i64 m.c, .int .i64 m.d] rfl
    have s1 : (w.alloc (.cells (msgCells m (.slice ae ne ce) (.slice asv ns cs) (.slice ad nd cd)) 26)).heap.size = w.heap.size + 1 := by simp
    rw [s1] at this
    exact this)
  unfold msgCells at HI
  unfold msgCells
  go_enter Tryd.func25, Tryd.ntmps25
  go_wp2_with fail
  go_ret
  exact ⟨_, rfl, HI.out, grown_trans (World.grownBy_alloc _ _ _) (World.grownBy_alloc _ _ _)⟩

def P1 (m : Msg) : Prop := (¬ m.kind < 1 ∧ ¬ 6 < m.kind) ∧ (¬ m.frm < 0 ∧ ¬ 16 ≤ m.frm) ∧ (¬ m.dst < 0 ∧ ¬ 16 ≤ m.dst) ∧ (¬ m.term < 1 ∧ ¬ 1099511627776 ≤ m.term)
theorem numsOk_iff (m : Msg) : numsOk (nums m) = true ↔ P1 m ∧ ∀ (k : Nat) x, 4 ≤ k → (nums m)[k]? = some x → ¬ x < 0 ∧ ¬ 1099511627776 < x := by
  constructor
  · intro h
    simp [numsOk, nums, spanL, inSpan] at h
    refine ⟨by unfold P1; omega, fun k x hk hx => ?_⟩
    match k, hx with
    | 4, hx => cases hx; omega
    | 5, hx => cases hx; omega
    | 6, hx => cases hx; omega
    | 7, hx => cases hx; omega
  · rintro ⟨h1, h2⟩
    unfold P1 at h1
    have a4 := h2 4 _ (by omega) rfl
    have a5 := h2 5 _ (by omega) rfl
    have a6 := h2 6 _ (by omega) rfl
    have a7 := h2 7 _ (by omega) rfl
    simp [numsOk, nums, spanL, inSpan]
    omega
theorem right_no {m : Msg} (h : numsOk (nums m) = true → False) : rightM m = false := by
  unfold rightM chk
  cases hn : numsOk (nums m) with
  | true => exact (h hn).elim
  | false => rfl
theorem right_no1 {m : Msg} (h : ¬ P1 m) : rightM m = false := right_no (fun hn => h ((numsOk_iff m).1 hn).1)
theorem right_yes {m : Msg} (h : numsOk (nums m) = true) : rightM m = (lensOk m.kind m.ents.length m.srv.length m.data.length && wrOk m) := by unfold rightM chk; rw [h]; rfl

theorem lens_plain (kind : Int) (ne ns nd : Nat) (b : Bool) (h5 : ¬ kind = 5) (h8 : ¬ 8 < ne) (hd : ¬ 65536 < nd) (he : ne = 0 ∨ kind = 3) : (lensOk kind ne ns nd && (decide (kind ≠ 5) || b)) = (((ns : Int) == 0) && ((nd : Int) == 0)) := by
  unfold lensOk
  rw [Bool.eq_iff_iff]
  simp [h5]
  omega

set_option maxRecDepth 100000 in
set_option maxHeartbeats 8000000 in
theorem rrightM_any (m : Msg) (ev sv dv : Value) (w : World) (he : EntsR w ev m.ents) (hs : IntsR w sv m.srv) (hld : ∃ ad cd, dv = .slice ad m.data.length cd) (hne : m.ents.length ≤ 140737488355328) (hns : m.srv.length ≤ 140737488355328) :
    Calls Tryd.prog 24 #[.agg (msgCells m ev sv dv)] w fun e w' => e = .returned (.bool (rightM m)) ∧ w.grownBy w' none := by
  have hle := he.len
  have hls := hs.len
  have HE := hid_mk he
  have HS := hid_mk hs
  clear he hs
  obtain ⟨ae, ce, rfl⟩ := hle
  obtain ⟨asv, cs, rfl⟩ := hls
  obtain ⟨ad, cd, rfl⟩ := hld
  have HF : Hid (MB (w.alloc (.cells (msgCells m (.slice ae m.ents.length ce) (.slice asv m.srv.length cs) (.slice ad m.data.length cd)) 26)) 26 w.heap.size m (.slice ae m.ents.length ce) (.slice asv m.srv.length cs) (.slice ad m.data.length cd) ∧ w.grownBy (w.alloc (.cells (msgCells m (.slice ae m.ents.length ce) (.slice asv m.srv.length cs) (.slice ad m.data.length cd)) 26)) none) := hid_mk ⟨heap_alloc_new w _, World.grownBy_alloc _ _ _⟩
  unfold msgCells at HF
  by_cases hp : P1 m
  rotate_left
  · rw [right_no1 hp]
    unfold msgCells
    by_cases k1 : m.kind < 1
    · clear hp
      go_enter Tryd.func24, Tryd.ntmps24
      go_wp2_with fail
      go_ret
      exact ⟨rfl, HF.out.2⟩
    by_cases k2 : 6 < m.kind
    · clear hp
      go_enter Tryd.func24, Tryd.ntmps24
      go_wp2_with fail
      go_ret
      exact ⟨rfl, HF.out.2⟩
    by_cases k3 : m.frm < 0
    · clear hp
      go_enter Tryd.func24, Tryd.ntmps24
      go_wp2_with fail
      go_ret
      exact ⟨rfl, HF.out.2⟩
    by_cases k4 : 16 ≤ m.frm
    · clear hp
      go_enter Tryd.func24, Tryd.ntmps24
      go_wp2_with fail
      go_ret
      exact ⟨rfl, HF.out.2⟩
    by_cases k5 : m.dst < 0
    · clear hp
      go_enter Tryd.func24, Tryd.ntmps24
      go_wp2_with fail
      go_ret
      exact ⟨rfl, HF.out.2⟩
    by_cases k6 : 16 ≤ m.dst
    · clear hp
      go_enter Tryd.func24, Tryd.ntmps24
      go_wp2_with fail
      go_ret
      exact ⟨rfl, HF.out.2⟩
    by_cases k7 : m.term < 1
    · clear hp
      go_enter Tryd.func24, Tryd.ntmps24
      go_wp2_with fail
      go_ret
      exact ⟨rfl, HF.out.2⟩
    by_cases k8 : 1099511627776 ≤ m.term
    · clear hp
      go_enter Tryd.func24, Tryd.ntmps24
      go_wp2_with fail
      go_ret
      exact ⟨rfl, HF.out.2⟩
    exact absurd ⟨⟨k1, k2⟩, ⟨k3, k4⟩, ⟨k5, k6⟩, ⟨k7, k8⟩⟩ hp
  have HP1 := hid_mk hp
  obtain ⟨⟨k1, k2⟩, ⟨k3, k4⟩, ⟨k5, k6⟩, ⟨k7, k8⟩⟩ := hp
  unfold msgCells
  go_enter Tryd.func24, Tryd.ntmps24
  go_wp2_with fail
  clear k3 k4 k5 k6 k7 k8
  generalize (w.alloc (.cells _ 26)) = w1 at *
  refine (rnumbers_any m _ _ _ _ _ _ _ _ _ w1).mono ?_
  rintro e w2 ⟨g, rfl, hi2, hg2⟩
  have H2 := hid_mk (And.intro hi2 hg2)
  clear hi2 hg2
  go_wp2_with fail
  go_loop [4] (fun iv => ∃ k : Nat, 4 ≤ k ∧ k ≤ 8 ∧ iv = .int .i64 k ∧ Hid (∀ (j : Nat) x, 4 ≤ j → j < k → (nums m)[j]? = some x → ¬ x < 0 ∧ ¬ 1099511627776 < x)) (fun iv => 8 - (intOf iv).toNat)
  case atStart => exact ⟨4, Nat.le_refl _, by omega, rfl, hid_mk (fun j x h4 hj => by omega)⟩
  case round =>
    obtain ⟨k, h4, hk, rfl, H⟩ := hrel
    by_cases hlt : k < 8
    · obtain ⟨x, hx⟩ : ∃ x, (nums m)[k]? = some x := ⟨(nums m)[k]'(by simpa [nums] using hlt), by simp⟩
      have hcell : w2.cell? ⟨g, k, none⟩ = some (.int .i64 x) := by
        obtain ⟨b, off, cap, e, _, hc⟩ := H2.out.1.at (by simp [nums])
        injection e with e1 _ _
        injection e1 with e2
        injection e2 with e3 e4 _
        subst e3
        subst e4
        simpa using hc k x hx
      have HX := hid_mk hx
      clear hx
      by_cases x1 : x < 0
      · have HN := hid_mk (show rightM m = false from right_no (fun hn => (((numsOk_iff m).1 hn).2 k x h4 HX.out).1 x1))
        go_wp2_with fail
        go_ret
        exact ⟨ret_bool HN.out.symm, grown_trans HF.out.2 H2.out.2⟩
      · by_cases x2 : 1099511627776 < x
        · have HN := hid_mk (show rightM m = false from right_no (fun hn => (((numsOk_iff m).1 hn).2 k x h4 HX.out).2 x2))
          go_wp2_with fail
          go_ret
          exact ⟨ret_bool HN.out.symm, grown_trans HF.out.2 H2.out.2⟩
        · go_wp2_with fail
          go_round
          case rel => exact ⟨k + 1, by omega, by omega, by go_num, hid_mk (fun j y hj4 hj hy => by
            by_cases hjk : j = k
            · subst hjk
              rw [HX.out] at hy
              cases hy
              exact ⟨x1, x2⟩
            · exact H.out j y hj4 (by omega) hy)⟩
          case measure => simp [intOf]; omega
    · have hk8 : k = 8 := by omega
      subst hk8
      have HN := hid_mk (show numsOk (nums m) = true from (numsOk_iff m).2 ⟨HP1.out, fun j x hj hx => H.out j x hj (List.getElem?_eq_some_iff.1 hx).1 hx⟩)
      clear H h4 hk hlt
      have HR0 := hid_mk (right_yes HN.out)
      go_wp2_with fail
      go_loopw [5] (fun iv W => ∃ k : Nat, k ≤ m.ents.length ∧ iv = .int .i64 k ∧ Hid (w2.grownBy W none ∧ ∀ x ∈ m.ents.take k, rightE x = true)) (fun iv _ => m.ents.length - (intOf iv).toNat)
      case atStart => exact ⟨0, Nat.zero_le _, rfl, hid_mk ⟨grown_refl _ _, by simp⟩⟩
      case round =>
        obtain ⟨k, hk, rfl, H⟩ := hrel
        rename World => w3
        have HG := hid_mk (show w.grownBy w3 none from grown_trans HF.out.2 (grown_trans H2.out.2 H.out.1))
        obtain ⟨_, r9, r10, r11, _⟩ := (HF.out.1.kept (grown_trans H2.out.2 H.out.1)).rest
        have r0 := (HF.out.1.kept (grown_trans H2.out.2 H.out.1)).num 0 _ rfl
        by_cases hlt : k < m.ents.length
        · obtain ⟨x, hx⟩ : ∃ x, m.ents[k]? = some x := ⟨m.ents[k], by simp⟩
          obtain ⟨eb, off, hae, hcap, hcs⟩ := (HE.out.kept HG.out).at (by omega)
          obtain ⟨xv, q0, q1, q2, q3, hxb, hxl⟩ := hcs k x hx
          have HX := hid_mk (And.intro hx hxb)
          clear hx hxb hcs r10 r11 r0
          subst hae
          go_wp2_with fail
          clear q0 q1 q2 q3 r9
          refine (rrightEntry_any x xv w3 HX.out.2 hxl).mono ?_
          rintro e w4 ⟨rfl, hg4⟩
          have G4 := hid_mk hg4
          clear hg4
          cases hr : rightE x with
          | false =>
            have HNO := hid_mk (show rightM m = false by
              rw [HR0.out]
              have : wrOk m = false := by
                unfold wrOk
                have : m.ents.all rightE = false := by rw [List.all_eq_false]; exact ⟨x, List.mem_of_getElem? HX.out.1, by simp [hr]⟩
                rw [this]; rfl
              rw [this]; simp)
            clear hr
            go_wp2_with fail
            go_ret
            exact ⟨ret_bool HNO.out.symm, grown_trans HG.out G4.out⟩
          | true =>
            have HR := hid_mk hr
            clear hr
            go_wp2_with fail
            go_roundw
            case rel =>
              refine ⟨k + 1, by omega, by go_num, hid_mk ⟨grown_trans H.out.1 G4.out, ?_⟩⟩
              rw [take_snoc _ k x HX.out.1]
              intro y hy
              rcases List.mem_append.1 hy with hy | hy
              · exact H.out.2 y hy
              · obtain rfl : y = x := by simpa using hy
                exact HR.out
            case measure => simp [intOf]; omega
        · have hkn : k = m.ents.length := by omega
          subst hkn
          have HA := hid_mk (show m.ents.all rightE = true by
            rw [List.all_eq_true]
            have := H.out.2
            rwa [List.take_length] at this)
          have HRM : Hid (rightM m = (lensOk m.kind m.ents.length m.srv.length m.data.length && (decide (m.kind ≠ 5) || rightS m.srv))) := hid_mk (by rw [HR0.out]; unfold wrOk; rw [HA.out]; rfl)
          clear H hk hlt HR0 HA
          by_cases c1 : 8 < m.ents.length
          · have HNO := hid_mk (show rightM m = false by
              rw [HRM.out]
              have : lensOk m.kind m.ents.length m.srv.length m.data.length = false := by unfold lensOk; rw [decide_eq_false_iff_not]; omega
              rw [this]; rfl)
            have c1' : 8 < (m.ents.length : Int) := by omega
            go_wp2_with fail
            go_ret
            exact ⟨ret_bool HNO.out.symm, HG.out⟩
          have c1' : ¬ 8 < (m.ents.length : Int) := by omega
          by_cases c2 : m.kind = 3
          · by_cases c3 : 65536 < m.data.length
            · have HNO := hid_mk (show rightM m = false by
                rw [HRM.out]
                have : lensOk m.kind m.ents.length m.srv.length m.data.length = false := by unfold lensOk; rw [decide_eq_false_iff_not]; omega
                rw [this]; rfl)
              have c3' : 65536 < (m.data.length : Int) := by omega
              go_wp2_with fail
              go_ret
              exact ⟨ret_bool HNO.out.symm, HG.out⟩
            have c3' : ¬ 65536 < (m.data.length : Int) := by omega
            have HV := hid_mk (show rightM m = (((m.srv.length : Int) == 0) && ((m.data.length : Int) == 0)) by
              rw [HRM.out]
              exact lens_plain _ _ _ _ _ (by omega) c1 c3 (.inr c2))
            go_wp2_with fail
            all_goals
              go_ret
              exact ⟨ret_bool (by rw [HV.out]; simp_all), HG.out⟩
          · by_cases c4 : 0 < m.ents.length
            · have HNO := hid_mk (show rightM m = false by
                rw [HRM.out]
                have : lensOk m.kind m.ents.length m.srv.length m.data.length = false := by unfold lensOk; rw [decide_eq_false_iff_not]; omega
                rw [this]; rfl)
              have c4' : 0 < (m.ents.length : Int) := by omega
              go_wp2_with fail
              go_ret
              exact ⟨ret_bool HNO.out.symm, HG.out⟩
            have c4' : ¬ 0 < (m.ents.length : Int) := by omega
            by_cases c3 : 65536 < m.data.length
            · have HNO := hid_mk (show rightM m = false by
                rw [HRM.out]
                have : lensOk m.kind m.ents.length m.srv.length m.data.length = false := by unfold lensOk; rw [decide_eq_false_iff_not]; omega
                rw [this]; rfl)
              have c3' : 65536 < (m.data.length : Int) := by omega
              go_wp2_with fail
              go_ret
              exact ⟨ret_bool HNO.out.symm, HG.out⟩
            have c3' : ¬ 65536 < (m.data.length : Int) := by omega
            by_cases c5 : m.kind = 5
            · have HV := hid_mk (show rightM m = rightS m.srv by
                rw [HRM.out]
                have : lensOk m.kind m.ents.length m.srv.length m.data.length = true := by unfold lensOk; rw [decide_eq_true_iff]; omega
                rw [this]
                simp [c5])
              go_wp2_with fail
              refine (rright_any _ m.srv w3 (HS.out.kept HG.out) hns).mono ?_
              rintro e w4 ⟨rfl, n4, hw4⟩
              have G4 := hid_mk (show w3.grownBy w4 none by rw [hw4]; exact drawn _ _)
              clear hw4
              go_wp2_with fail
              go_ret
              exact ⟨ret_bool HV.out.symm, grown_trans HG.out G4.out⟩
            · have HV := hid_mk (show rightM m = (((m.srv.length : Int) == 0) && ((m.data.length : Int) == 0)) by
                rw [HRM.out]
                exact lens_plain _ _ _ _ _ c5 c1 c3 (.inl (by omega)))
              go_wp2_with fail
              all_goals
                go_ret
                exact ⟨ret_bool (by rw [HV.out]; simp_all), HG.out⟩

end Go.Proofs.YtliefofdlpljaaaDoor

/- The document's Put of a message. -/
namespace Go.Proofs.YtliefofdlpljaaaDoor
open Go.RowKit Go.Maps
set_option linter.unusedVariables false
set_option linter.unusedSimpArgs false

theorem entryBytes_any (x : Ent) (dv : Value) (w : World) (h : Byt w dv x.data) (hr : rightE x = true) : Calls Tryd.prog 28 #[entV x dv] w fun e w' => ∃ a n c, e = .returned (.slice a n c) ∧ Own w' w.heap.size (.slice a n c) (entB x) ∧ w.grownBy w' none := by
  obtain ⟨⟨h1, h2, h3, h4⟩, h5, h6, h7⟩ := rightE_len hr
  obtain ⟨t, i, k, d⟩ := x
  obtain ⟨t, rfl⟩ : ∃ n : Nat, t = n := ⟨t.toNat, by simp at h1; omega⟩
  obtain ⟨i, rfl⟩ : ∃ n : Nat, i = n := ⟨i.toNat, by simp at h3; omega⟩
  obtain ⟨k, rfl⟩ : ∃ n : Nat, k = n := ⟨k.toNat, by simp at h5; omega⟩
  obtain ⟨av, cv, rfl⟩ := h.len
  simp only at h1 h2 h3 h4 h5 h6 h7 h
  refine (entryBytes_ok t i k d av cv w h (by omega) (by omega) (by omega) (by omega)).mono fun e w' ⟨v', he, ho, hg⟩ => ?_
  obtain ⟨a, c, rfl⟩ := ho.len
  exact ⟨a, _, c, he, ho, hg⟩
theorem srvBytes_any (v : Value) (l : List Int) (w : World) (h : IntsR w v l) (hr : rightS l = true) : Calls Tryd.prog 29 #[v] w fun e w' => ∃ a n c, e = .returned (.slice a n c) ∧ Own w' w.heap.size (.slice a n c) (srvB l) ∧ w.grownBy w' none := by
  have h1 := (rightS_mem hr).1
  obtain ⟨b, off, cap, rfl, _, hc⟩ := h.at (by omega)
  refine (srvBytes_in b off cap l w hc hr).mono fun e w' ⟨v', he, ho, hg⟩ => ?_
  obtain ⟨a, c, rfl⟩ := ho.len
  exact ⟨a, _, c, he, ho, hg⟩
theorem rnumN_ok (n : Nat) (w : World) (hn : n < 281474976710656) : Calls Tryd.prog 26 #[.int .i64 n] w fun e w' => ∃ a k c, e = .returned (.slice a k c) ∧ Own w' w.heap.size (.slice a k c) (numB n) ∧ w.grownBy w' none :=
  (rnumber_any n w hn).mono fun e w' ⟨v', he, ho, hg⟩ => by obtain ⟨a, c, rfl⟩ := ho.len; exact ⟨a, _, c, he, ho, hg⟩
theorem rtxt_ok (v : Value) (d : List UInt8) (w : World) (h : Byt w v d) (hd : d.length ≤ 1048576) : Calls Tryd.prog 27 #[v] w fun e w' => ∃ a k c, e = .returned (.slice a k c) ∧ Own w' w.heap.size (.slice a k c) (txtB d) ∧ w.grownBy w' none :=
  (text_any v d w h hd).mono fun e w' ⟨v', he, ho, hg⟩ => by obtain ⟨a, c, rfl⟩ := ho.len; exact ⟨a, _, c, he, ho, hg⟩

/-- Bytes of one's own so far. -/
def AC (w W : World) (v : Value) (l : List UInt8) : Prop := Own W w.heap.size v l ∧ w.grownBy W none ∧ l.length ≤ 20000000
theorem AC.kept {w W W' : World} {v : Value} {l : List UInt8} (h : AC w W v l) (hg : W.grownBy W' none) : AC w W' v l := ⟨h.1.kept hg (.inl rfl), grown_trans h.2.1 hg, h.2.2⟩
theorem wp_ac {w W W' : World} {v : Value} {l : List UInt8} (h : AC w W v l) (hg : W.grownBy W' none) (sv : Value) (l1 : List UInt8) (hsv : Own W' W.heap.size sv l1) (hl : (l ++ l1).length ≤ 20000000) {ops : Array Oper} {rest : List Oper} {o : Oper} {a : Act} {Q : Exit → Act → World → Prop} (hgd : o.guard = none) (s x : Operand)
    (ho : o.op = .call { callee := .builtin .append, args := #[s, x], argTypes := #[24, 24] }) (hs : a.eval s = v) (hx : a.eval x = sv)
    (hc : ∀ a' n' c' w', Hid (AC w w' (.slice a' n' c') (l ++ l1)) → wpList Tryd.prog ops Q rest (a.put o.dst (.slice a' n' c')) w') : wpList Tryd.prog ops Q (o :: rest) a W' := by
  have hk := h.kept hg
  refine wpList_append_new w W' hgd s x ho hk.2.1 v l hs hk.1 l1 sv hx hsv.byt (by rw [← List.length_append]; omega) ?_
  intro a' c' w' H
  exact hc a' _ c' w' (hid_mk ⟨H.out.1, H.out.2.1, hl⟩)

theorem ok_fin {w w3 W : World} {a : Option Addr} {n c : Nat} {l : List UInt8} (h : AC w3 W (.slice a n c) l) (hg : w.grownBy w3 none) : OkPost l 0 w (.returned (.tuple #[.slice a n c, .int .i64 0])) W := by
  obtain ⟨a', c', e⟩ := h.1.len
  injection e with e1 e2 e3
  subst e1
  subst e2
  subst e3
  exact ⟨_, _, rfl, h.1.base hg.size, grown_trans hg h.2.1⟩
theorem acc_snoc (L : List (List UInt8)) (k : Nat) (x : List UInt8) (h : L[k]? = some x) : (L.take (k + 1)).flatten = (L.take k).flatten ++ x := by
  rw [take_snoc L k x h]; simp
theorem pre_le {a b c : List UInt8} (h : (a ++ (b ++ c)).length ≤ 10000000) : (a ++ b).length ≤ 20000000 := by simp at h ⊢; omega
/-- What is put, cut into its parts. -/
theorem flat_take_le (L : List (List UInt8)) (k : Nat) : (L.take k).flatten.length ≤ L.flatten.length := by
  conv => rhs; rw [← List.take_append_drop k L]
  rw [List.flatten_append, List.length_append]; omega
def partsE (m : Msg) : List (List UInt8) := (m.ents.map (fun x => txtB (entB x)))
theorem msgB_parts (m : Msg) : msgB m = (numsP m).flatten ++ (numB (yesN m.yes) ++ ((if m.kind = 3 then numB m.ents.length ++ (partsE m).flatten else []) ++ (if m.kind = 5 then txtB (srvB m.srv) ++ txtB m.data else []))) := by
  unfold msgB partsM numsP partsE
  simp only [List.flatten_append, List.append_assoc]
  congr 1
  congr 1
  · simp
  · split <;> split <;> simp

set_option maxRecDepth 100000 in
set_option maxHeartbeats 8000000 in
theorem rputM_any (m : Msg) (ev sv dv : Value) (w : World) (he : EntsR w ev m.ents) (hs : IntsR w sv m.srv) (hd : Byt w dv m.data) (hne : m.ents.length ≤ 140737488355328) (hns : m.srv.length ≤ 140737488355328) :
    Calls Tryd.prog 11 #[.agg (msgCells m ev sv dv)] w (OkPost (msgL m) (msgErr m) w) := by
  have hle := he.len
  have hls := hs.len
  have hld := hd.len
  have HE := hid_mk he
  have HS := hid_mk hs
  have HD := hid_mk hd
  clear he hs hd
  obtain ⟨ae, ce, rfl⟩ := hle
  obtain ⟨asv, cs, rfl⟩ := hls
  obtain ⟨ad, cd, rfl⟩ := hld
  have HF : Hid (MB (w.alloc (.cells (msgCells m (.slice ae m.ents.length ce) (.slice asv m.srv.length cs) (.slice ad m.data.length cd)) 26)) 26 w.heap.size m (.slice ae m.ents.length ce) (.slice asv m.srv.length cs) (.slice ad m.data.length cd) ∧ w.grownBy (w.alloc (.cells (msgCells m (.slice ae m.ents.length ce) (.slice asv m.srv.length cs) (.slice ad m.data.length cd)) 26)) none) := hid_mk ⟨heap_alloc_new w _, World.grownBy_alloc _ _ _⟩
  unfold msgCells at HF
  unfold msgCells
  go_enter Tryd.func11, Tryd.ntmps11
  go_wp2_with fail
  generalize (w.alloc (.cells _ 26)) = w1 at *
  refine (rrightM_any m _ _ _ w1 (HE.out.kept HF.out.2) (HS.out.kept HF.out.2) ⟨ad, cd, rfl⟩ hne hns).mono ?_
  rintro e w2 ⟨rfl, hg2⟩
  have G2 := hid_mk (grown_trans HF.out.2 hg2)
  have HM := hid_mk (HF.out.1.kept hg2)
  clear hg2 HF
  cases hr : rightM m with
  | false =>
    have HRB := hid_mk hr
    clear hr
    go_wp2_with fail
    go_ret2
    rw [(msgL_bad HRB.out).1, (msgL_bad HRB.out).2]
    exact ⟨none, 0, rfl, World.ownsRow_nil _ _ _ _, G2.out⟩
  | true =>
    have HRB := hid_mk hr
    have HC := hid_mk (show chk m = true by unfold rightM at hr; simp only [Bool.and_eq_true] at hr; exact hr.1)
    have HW := hid_mk (show wrOk m = true by unfold rightM at hr; simp only [Bool.and_eq_true] at hr; exact hr.2)
    have HL := hid_mk (msgB_len HC.out HW.out)
    have HB := hid_mk (msgB_parts m)
    have HN := hid_mk (nums_in HC.out)
    have HK := hid_mk (chk_lens HC.out)
    clear hr
    obtain ⟨r8, r9, r10, r11, _⟩ := HM.out.rest
    have r0 := HM.out.num 0 _ rfl
    have r1 := HM.out.num 1 _ rfl
    have r2 := HM.out.num 2 _ rfl
    have r3 := HM.out.num 3 _ rfl
    have r4 := HM.out.num 4 _ rfl
    have r5 := HM.out.num 5 _ rfl
    have r6 := HM.out.num 6 _ rfl
    have r7 := HM.out.num 7 _ rfl
    go_wp2_with fail
    clear r0 r1 r2 r3 r4 r5 r6 r7 r8 r9 r10 r11
    refine (rnumbers_any m _ _ _ _ _ _ _ _ _ w2).mono ?_
    rintro e w3 ⟨g, rfl, hi3, hg3⟩
    have H3 := hid_mk (And.intro hi3 (And.intro (HM.out.kept hg3) (grown_trans G2.out hg3)))
    clear hi3 hg3 HM
    go_wp2_with fail
    go_loopw [4, 6] (fun bv iv W => ∃ (k n : Nat) (a : Option Addr) (c : Nat), k ≤ 8 ∧ iv = .int .i64 k ∧ bv = .slice a n c ∧ Hid (AC w3 W bv ((numsP m).take k).flatten)) (fun _ iv _ => 8 - (intOf iv).toNat)
    case atStart => exact ⟨0, 0, none, 0, Nat.zero_le _, rfl, rfl, hid_mk ⟨World.ownsRow_nil _ _ _ _, grown_refl _ _, by simp⟩⟩
    case round =>
      obtain ⟨k, n, a, c, hk, rfl, rfl, H⟩ := hrel
      rename World => w4
      by_cases hlt : k < 8
      · obtain ⟨x, hx⟩ : ∃ x, (nums m)[k]? = some x := ⟨(nums m)[k]'(by simpa [nums] using hlt), by simp⟩
        have hn := HN.out k x hx
        have hcell : w4.cell? ⟨g, k, none⟩ = some (.int .i64 x) := by
          obtain ⟨b, off, cap, e, _, hc⟩ := (H3.out.1.kept H.out.2.1).at (by simp [nums])
          injection e with e1 _ _
          injection e1 with e2
          injection e2 with e3 e4 _
          subst e3
          subst e4
          simpa using hc k x hx
        obtain ⟨y, rfl⟩ : ∃ y : Nat, x = y := ⟨x.toNat, by omega⟩
        have HX := hid_mk hx
        clear hx
        go_wp2_with fail
        refine (rnumN_ok y w4 (by omega)).mono ?_
        rintro e w5 ⟨a5, n5, c5, rfl, ho5, hg5⟩
        have H5 := hid_mk (And.intro ho5 hg5)
        have HP := hid_mk (show (numsP m)[k]? = some (numB y) by simp [numsP, HX.out])
        have HQ := hid_mk (show (((numsP m).take k).flatten ++ numB y).length ≤ 20000000 by
          rw [← acc_snoc _ k _ HP.out]
          have h1 := flat_take_le (numsP m) (k + 1)
          have h2 := HL.out
          rw [HB.out, List.length_append] at h2
          omega)
        clear ho5 hg5 hcell
        go_wp2_with (at_builtin; refine wp_ac H.out H5.out.2 _ _ H5.out.1 HQ.out rfl (.tmp 17) (.tmp 22) rfl rfl rfl ?_; intro a6 n6 c6 w6 P6)
        go_roundw
        case rel =>
          refine ⟨k + 1, n6, a6, c6, by omega, by go_num, rfl, hid_mk ?_⟩
          rw [acc_snoc _ k _ HP.out]; exact P6.out
        case measure => simp [intOf]; omega
      · have hk8 : k = 8 := by omega
        subst hk8
        clear hk hlt
        have H4 : Hid (AC w3 w4 (.slice a n c) (numsP m).flatten) := hid_mk (by have := H.out; rwa [show (numsP m).take 8 = numsP m from rfl] at this)
        clear H
        have HY : Hid (((numsP m).flatten ++ numB (yesN m.yes)).length ≤ 20000000) := hid_mk (by
          have h2 := HL.out
          rw [HB.out] at h2
          simp only [List.length_append] at h2 ⊢
          omega)
        obtain ⟨r8, _⟩ := (H3.out.2.1.kept H4.out.2.1).rest
        cases hy : m.yes with
        | true =>
          rw [hy] at r8
          go_wp2_with fail
          refine (rnumN_ok 1 w4 (by omega)).mono ?_
          rintro e w5 ⟨a5, n5, c5, rfl, ho5, hg5⟩
          have H5 := hid_mk (And.intro (show Own w5 w4.heap.size (.slice a5 n5 c5) (numB (yesN m.yes)) by rw [hy]; exact ho5) hg5)
          clear ho5 hg5 r8
          by_cases hk3 : m.kind = 3
          · have h8 : m.ents.length ≤ 8 := HK.out.2.1
            have HAL := hid_mk (show m.ents.all rightE = true by have := HW.out; unfold wrOk at this; simp only [Bool.and_eq_true] at this; exact this.1)
            have HB3 := hid_mk (show msgB m = ((numsP m).flatten ++ numB (yesN m.yes)) ++ (numB m.ents.length ++ (partsE m).flatten) by rw [HB.out]; simp [hk3])
            go_wp2_with (at_builtin; refine wp_ac H4.out H5.out.2 _ _ H5.out.1 HY.out rfl (.tmp 26) (.tmp 27) rfl rfl rfl ?_; intro a6 n6 c6 w6 P6; have r0 := (H3.out.2.1.kept P6.out.2.1).num 0 _ rfl; obtain ⟨_, r9, _⟩ := (H3.out.2.1.kept P6.out.2.1).rest)
            clear r0 r9
            refine (rnumN_ok m.ents.length w6 (by omega)).mono ?_
            rintro e w7 ⟨a7, n7, c7, rfl, ho7, hg7⟩
            have H7 := hid_mk (And.intro ho7 hg7)
            clear ho7 hg7
            go_wp2_with (at_builtin; refine wp_ac P6.out H7.out.2 _ _ H7.out.1 (by have h2 := HL.out; rw [HB3.out] at h2; simp only [List.length_append] at h2 ⊢; omega) rfl (.tmp 35) (.tmp 39) rfl rfl rfl ?_; intro a8 n8 c8 w8 P8)
            go_loopw [4, 7] (fun bv iv W => ∃ (k n : Nat) (a : Option Addr) (c : Nat), k ≤ m.ents.length ∧ iv = .int .i64 k ∧ bv = .slice a n c ∧ Hid (AC w3 W bv ((((numsP m).flatten ++ numB (yesN m.yes)) ++ numB m.ents.length) ++ ((partsE m).take k).flatten))) (fun _ iv _ => m.ents.length - (intOf iv).toNat)
            case atStart => exact ⟨0, n8, a8, c8, Nat.zero_le _, rfl, rfl, hid_mk (by simpa using P8.out)⟩
            case round =>
              obtain ⟨k, n9, a9, c9, hk, rfl, rfl, H⟩ := hrel
              rename World => w9
              obtain ⟨_, r9, _⟩ := (H3.out.2.1.kept H.out.2.1).rest
              have r0 := (H3.out.2.1.kept H.out.2.1).num 0 _ rfl
              by_cases hlt : k < m.ents.length
              · obtain ⟨x, hx⟩ : ∃ x, m.ents[k]? = some x := ⟨m.ents[k], by simp⟩
                obtain ⟨eb, off, hae, hcap, hcs⟩ := (HE.out.kept (grown_trans H3.out.2.2 H.out.2.1)).at (by omega)
                obtain ⟨xv, q0, q1, q2, q3, hxb, hxl⟩ := hcs k x hx
                have HX := hid_mk (And.intro hx hxb)
                have HRX := hid_mk (List.all_eq_true.1 HAL.out x (List.mem_of_getElem? hx))
                have HPX := hid_mk (show (partsE m)[k]? = some (txtB (entB x)) by simp [partsE, hx])
                clear hx hxb hcs r0
                subst hae
                go_wp2_with fail
                clear q0 q1 q2 q3 r9
                refine (entryBytes_any x xv w9 HX.out.2 HRX.out).mono ?_
                rintro e w10 ⟨a10, n10, c10, rfl, ho10, hg10⟩
                have H10 := hid_mk (And.intro ho10 hg10)
                clear ho10 hg10
                go_wp2_with fail
                refine (rtxt_ok _ _ w10 H10.out.1.byt (by have := entB_len HRX.out; omega)).mono ?_
                rintro e w11 ⟨a11, n11, c11, rfl, ho11, hg11⟩
                have H11 := hid_mk (And.intro (ho11.base H10.out.2.size) (grown_trans H10.out.2 hg11))
                clear ho11 hg11
                go_wp2_with (at_builtin; refine wp_ac H.out H11.out.2 _ _ H11.out.1 (by have h1 := flat_take_le (partsE m) (k + 1); rw [acc_snoc _ k _ HPX.out] at h1; have h2 := HL.out; rw [HB3.out] at h2; simp only [List.length_append] at h1 h2 ⊢; omega) rfl (.tmp 48) (.tmp 55) rfl rfl rfl ?_; intro a12 n12 c12 w12 P12)
                go_roundw
                case rel =>
                  refine ⟨k + 1, n12, a12, c12, by omega, by go_num, rfl, hid_mk ?_⟩
                  rw [acc_snoc _ k _ HPX.out, ← List.append_assoc]
                  exact P12.out
                case measure => simp [intOf]; omega
              · have hkn : k = m.ents.length := by omega
                subst hkn
                have HE9 := hid_mk (show AC w3 w9 (.slice a9 n9 c9) (msgB m) by
                  have := H.out
                  rw [show (partsE m).take m.ents.length = partsE m from List.take_of_length_le (by simp [partsE]), List.append_assoc] at this
                  rw [HB3.out]; exact this)
                have h35 : ¬ m.kind = 5 := by omega
                obtain ⟨a13, c13, e13⟩ := HE9.out.1.len
                have HE13 := hid_mk e13
                clear e13 H hk hlt
                go_wp2_with fail
                go_ret2
                rw [(msgL_ok HRB.out).1, (msgL_ok HRB.out).2]
                exact ok_fin HE9.out H3.out.2.2
          by_cases hk5 : m.kind = 5
          · have HSR := hid_mk (show rightS m.srv = true by have := HW.out; unfold wrOk at this; simp only [Bool.and_eq_true, Bool.or_eq_true, decide_eq_true_eq] at this; exact this.2.resolve_left (fun hh => hh hk5))
            have hd16 : m.data.length ≤ 65536 := HK.out.2.2.2.2
            have HB5 := hid_mk (show msgB m = ((numsP m).flatten ++ numB (yesN m.yes)) ++ (txtB (srvB m.srv) ++ txtB m.data) by rw [HB.out]; simp [hk5])
            go_wp2_with (at_builtin; refine wp_ac H4.out H5.out.2 _ _ H5.out.1 HY.out rfl (.tmp 26) (.tmp 27) rfl rfl rfl ?_; intro a6 n6 c6 w6 P6; have r0 := (H3.out.2.1.kept P6.out.2.1).num 0 _ rfl; obtain ⟨_, _, r10, _⟩ := (H3.out.2.1.kept P6.out.2.1).rest)
            clear r0 r10
            refine (srvBytes_any _ m.srv w6 (HS.out.kept (grown_trans H3.out.2.2 P6.out.2.1)) HSR.out).mono ?_
            rintro e w7 ⟨a7, n7, c7, rfl, ho7, hg7⟩
            have H7 := hid_mk (And.intro ho7 hg7)
            clear ho7 hg7
            go_wp2_with fail
            refine (rtxt_ok _ _ w7 H7.out.1.byt (by have := srvB_len HSR.out; omega)).mono ?_
            rintro e w8 ⟨a8, n8, c8, rfl, ho8, hg8⟩
            have H8 := hid_mk (And.intro (ho8.base H7.out.2.size) (grown_trans H7.out.2 hg8))
            clear ho8 hg8
            go_wp2_with (at_builtin; refine wp_ac P6.out H8.out.2 _ _ H8.out.1 (by have h2 := HL.out; rw [HB5.out] at h2; simp only [List.length_append] at h2 ⊢; omega) rfl (.tmp 60) (.tmp 64) rfl rfl rfl ?_; intro a9 n9 c9 w9 P9; obtain ⟨_, _, _, r11, _⟩ := (H3.out.2.1.kept P9.out.2.1).rest)
            clear r11
            refine (rtxt_ok _ m.data w9 (HD.out.kept (grown_trans H3.out.2.2 P9.out.2.1)) (by omega)).mono ?_
            rintro e w10 ⟨a10, n10, c10, rfl, ho10, hg10⟩
            have H10 := hid_mk (And.intro ho10 hg10)
            clear ho10 hg10
            go_wp2_with (at_builtin; refine wp_ac P9.out H10.out.2 _ _ H10.out.1 (by have h2 := HL.out; rw [HB5.out] at h2; simp only [List.length_append] at h2 ⊢; omega) rfl (.tmp 66) (.tmp 69) rfl rfl rfl ?_; intro a11 n11 c11 w11 P11)
            go_ret2
            rw [(msgL_ok HRB.out).1, (msgL_ok HRB.out).2, HB5.out, ← List.append_assoc]
            exact ok_fin P11.out H3.out.2.2
          have HB0 := hid_mk (show msgB m = (numsP m).flatten ++ numB (yesN m.yes) by rw [HB.out]; simp [hk3, hk5])
          go_wp2_with (at_builtin; refine wp_ac H4.out H5.out.2 _ _ H5.out.1 HY.out rfl (.tmp 26) (.tmp 27) rfl rfl rfl ?_; intro a6 n6 c6 w6 P6; have r0 := (H3.out.2.1.kept P6.out.2.1).num 0 _ rfl)
          go_ret2
          rw [(msgL_ok HRB.out).1, (msgL_ok HRB.out).2, HB0.out]
          exact ok_fin P6.out H3.out.2.2
        | false =>
          rw [hy] at r8
          go_wp2_with fail
          refine (rnumN_ok 0 w4 (by omega)).mono ?_
          rintro e w5 ⟨a5, n5, c5, rfl, ho5, hg5⟩
          have H5 := hid_mk (And.intro (show Own w5 w4.heap.size (.slice a5 n5 c5) (numB (yesN m.yes)) by rw [hy]; exact ho5) hg5)
          clear ho5 hg5 r8
          by_cases hk3 : m.kind = 3
          · have h8 : m.ents.length ≤ 8 := HK.out.2.1
            have HAL := hid_mk (show m.ents.all rightE = true by have := HW.out; unfold wrOk at this; simp only [Bool.and_eq_true] at this; exact this.1)
            have HB3 := hid_mk (show msgB m = ((numsP m).flatten ++ numB (yesN m.yes)) ++ (numB m.ents.length ++ (partsE m).flatten) by rw [HB.out]; simp [hk3])
            go_wp2_with (at_builtin; refine wp_ac H4.out H5.out.2 _ _ H5.out.1 HY.out rfl (.tmp 29) (.tmp 30) rfl rfl rfl ?_; intro a6 n6 c6 w6 P6; have r0 := (H3.out.2.1.kept P6.out.2.1).num 0 _ rfl; obtain ⟨_, r9, _⟩ := (H3.out.2.1.kept P6.out.2.1).rest)
            clear r0 r9
            refine (rnumN_ok m.ents.length w6 (by omega)).mono ?_
            rintro e w7 ⟨a7, n7, c7, rfl, ho7, hg7⟩
            have H7 := hid_mk (And.intro ho7 hg7)
            clear ho7 hg7
            go_wp2_with (at_builtin; refine wp_ac P6.out H7.out.2 _ _ H7.out.1 (by have h2 := HL.out; rw [HB3.out] at h2; simp only [List.length_append] at h2 ⊢; omega) rfl (.tmp 35) (.tmp 39) rfl rfl rfl ?_; intro a8 n8 c8 w8 P8)
            go_loopw [4, 7] (fun bv iv W => ∃ (k n : Nat) (a : Option Addr) (c : Nat), k ≤ m.ents.length ∧ iv = .int .i64 k ∧ bv = .slice a n c ∧ Hid (AC w3 W bv ((((numsP m).flatten ++ numB (yesN m.yes)) ++ numB m.ents.length) ++ ((partsE m).take k).flatten))) (fun _ iv _ => m.ents.length - (intOf iv).toNat)
            case atStart => exact ⟨0, n8, a8, c8, Nat.zero_le _, rfl, rfl, hid_mk (by simpa using P8.out)⟩
            case round =>
              obtain ⟨k, n9, a9, c9, hk, rfl, rfl, H⟩ := hrel
              rename World => w9
              obtain ⟨_, r9, _⟩ := (H3.out.2.1.kept H.out.2.1).rest
              have r0 := (H3.out.2.1.kept H.out.2.1).num 0 _ rfl
              by_cases hlt : k < m.ents.length
              · obtain ⟨x, hx⟩ : ∃ x, m.ents[k]? = some x := ⟨m.ents[k], by simp⟩
                obtain ⟨eb, off, hae, hcap, hcs⟩ := (HE.out.kept (grown_trans H3.out.2.2 H.out.2.1)).at (by omega)
                obtain ⟨xv, q0, q1, q2, q3, hxb, hxl⟩ := hcs k x hx
                have HX := hid_mk (And.intro hx hxb)
                have HRX := hid_mk (List.all_eq_true.1 HAL.out x (List.mem_of_getElem? hx))
                have HPX := hid_mk (show (partsE m)[k]? = some (txtB (entB x)) by simp [partsE, hx])
                clear hx hxb hcs r0
                subst hae
                go_wp2_with fail
                clear q0 q1 q2 q3 r9
                refine (entryBytes_any x xv w9 HX.out.2 HRX.out).mono ?_
                rintro e w10 ⟨a10, n10, c10, rfl, ho10, hg10⟩
                have H10 := hid_mk (And.intro ho10 hg10)
                clear ho10 hg10
                go_wp2_with fail
                refine (rtxt_ok _ _ w10 H10.out.1.byt (by have := entB_len HRX.out; omega)).mono ?_
                rintro e w11 ⟨a11, n11, c11, rfl, ho11, hg11⟩
                have H11 := hid_mk (And.intro (ho11.base H10.out.2.size) (grown_trans H10.out.2 hg11))
                clear ho11 hg11
                go_wp2_with (at_builtin; refine wp_ac H.out H11.out.2 _ _ H11.out.1 (by have h1 := flat_take_le (partsE m) (k + 1); rw [acc_snoc _ k _ HPX.out] at h1; have h2 := HL.out; rw [HB3.out] at h2; simp only [List.length_append] at h1 h2 ⊢; omega) rfl (.tmp 48) (.tmp 55) rfl rfl rfl ?_; intro a12 n12 c12 w12 P12)
                go_roundw
                case rel =>
                  refine ⟨k + 1, n12, a12, c12, by omega, by go_num, rfl, hid_mk ?_⟩
                  rw [acc_snoc _ k _ HPX.out, ← List.append_assoc]
                  exact P12.out
                case measure => simp [intOf]; omega
              · have hkn : k = m.ents.length := by omega
                subst hkn
                have HE9 := hid_mk (show AC w3 w9 (.slice a9 n9 c9) (msgB m) by
                  have := H.out
                  rw [show (partsE m).take m.ents.length = partsE m from List.take_of_length_le (by simp [partsE]), List.append_assoc] at this
                  rw [HB3.out]; exact this)
                have h35 : ¬ m.kind = 5 := by omega
                obtain ⟨a13, c13, e13⟩ := HE9.out.1.len
                have HE13 := hid_mk e13
                clear e13 H hk hlt
                go_wp2_with fail
                go_ret2
                rw [(msgL_ok HRB.out).1, (msgL_ok HRB.out).2]
                exact ok_fin HE9.out H3.out.2.2
          by_cases hk5 : m.kind = 5
          · have HSR := hid_mk (show rightS m.srv = true by have := HW.out; unfold wrOk at this; simp only [Bool.and_eq_true, Bool.or_eq_true, decide_eq_true_eq] at this; exact this.2.resolve_left (fun hh => hh hk5))
            have hd16 : m.data.length ≤ 65536 := HK.out.2.2.2.2
            have HB5 := hid_mk (show msgB m = ((numsP m).flatten ++ numB (yesN m.yes)) ++ (txtB (srvB m.srv) ++ txtB m.data) by rw [HB.out]; simp [hk5])
            go_wp2_with (at_builtin; refine wp_ac H4.out H5.out.2 _ _ H5.out.1 HY.out rfl (.tmp 29) (.tmp 30) rfl rfl rfl ?_; intro a6 n6 c6 w6 P6; have r0 := (H3.out.2.1.kept P6.out.2.1).num 0 _ rfl; obtain ⟨_, _, r10, _⟩ := (H3.out.2.1.kept P6.out.2.1).rest)
            clear r0 r10
            refine (srvBytes_any _ m.srv w6 (HS.out.kept (grown_trans H3.out.2.2 P6.out.2.1)) HSR.out).mono ?_
            rintro e w7 ⟨a7, n7, c7, rfl, ho7, hg7⟩
            have H7 := hid_mk (And.intro ho7 hg7)
            clear ho7 hg7
            go_wp2_with fail
            refine (rtxt_ok _ _ w7 H7.out.1.byt (by have := srvB_len HSR.out; omega)).mono ?_
            rintro e w8 ⟨a8, n8, c8, rfl, ho8, hg8⟩
            have H8 := hid_mk (And.intro (ho8.base H7.out.2.size) (grown_trans H7.out.2 hg8))
            clear ho8 hg8
            go_wp2_with (at_builtin; refine wp_ac P6.out H8.out.2 _ _ H8.out.1 (by have h2 := HL.out; rw [HB5.out] at h2; simp only [List.length_append] at h2 ⊢; omega) rfl (.tmp 60) (.tmp 64) rfl rfl rfl ?_; intro a9 n9 c9 w9 P9; obtain ⟨_, _, _, r11, _⟩ := (H3.out.2.1.kept P9.out.2.1).rest)
            clear r11
            refine (rtxt_ok _ m.data w9 (HD.out.kept (grown_trans H3.out.2.2 P9.out.2.1)) (by omega)).mono ?_
            rintro e w10 ⟨a10, n10, c10, rfl, ho10, hg10⟩
            have H10 := hid_mk (And.intro ho10 hg10)
            clear ho10 hg10
            go_wp2_with (at_builtin; refine wp_ac P9.out H10.out.2 _ _ H10.out.1 (by have h2 := HL.out; rw [HB5.out] at h2; simp only [List.length_append] at h2 ⊢; omega) rfl (.tmp 66) (.tmp 69) rfl rfl rfl ?_; intro a11 n11 c11 w11 P11)
            go_ret2
            rw [(msgL_ok HRB.out).1, (msgL_ok HRB.out).2, HB5.out, ← List.append_assoc]
            exact ok_fin P11.out H3.out.2.2
          have HB0 := hid_mk (show msgB m = (numsP m).flatten ++ numB (yesN m.yes) by rw [HB.out]; simp [hk3, hk5])
          go_wp2_with (at_builtin; refine wp_ac H4.out H5.out.2 _ _ H5.out.1 HY.out rfl (.tmp 29) (.tmp 30) rfl rfl rfl ?_; intro a6 n6 c6 w6 P6; have r0 := (H3.out.2.1.kept P6.out.2.1).num 0 _ rfl)
          go_ret2
          rw [(msgL_ok HRB.out).1, (msgL_ok HRB.out).2, HB0.out]
          exact ok_fin P6.out H3.out.2.2

end Go.Proofs.YtliefofdlpljaaaDoor
