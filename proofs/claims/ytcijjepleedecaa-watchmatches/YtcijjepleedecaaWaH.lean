/- watch: Leaders. -/
import Derived.Test.YtcijjepleedecaaWaG
namespace Go.Proofs.Ytcijjepleedecaa.W
open Go.RowKit Go.Maps
set_option linter.unusedVariables false
set_option linter.unusedSimpArgs false
set_option maxRecDepth 100000
attribute [local go_sem] Oper.semAt_some


theorem map_take {α β : Type} (f : α → β) (l : List α) (k : Nat) : (l.take k).map f = (l.map f).take k := by rw [List.map_take]

set_option maxHeartbeats 4000000 in
theorem leaders_any (v : Value) (ss : List (Sn × Value)) (w : World) (h : SeensR w v ss) (hok : ∀ p ∈ ss, p.1.ok ∧ ∃ a n c, p.2 = .slice a n c) (hlen : ss.length ≤ 10000000000000) :
    Calls Try.prog 10 #[v] w fun e w' => ∃ z, e = .returned (.int .i64 z) ∧ Lead (ss.map (·.1)) z ∧ w.grownBy w' none := by
  obtain ⟨a, c, rfl⟩ := h.len
  obtain ⟨L, hL⟩ : ∃ L, L = ss.map (·.1) := ⟨_, rfl⟩
  have hLl : L.length = ss.length := by rw [hL, List.length_map]
  have HE := hid_mk (And.intro h (And.intro hok (And.intro hL hLl)))
  clear h hok hLl
  rw [← hL]
  clear hL
  have hmk := run_makeMap57 w
  have HM := hid_mk (show MapL (w.alloc (.map #[] 0)) w.heap.size 0 (fun _ => none) ∧ w.grownBy (w.alloc (.map #[] 0)) none from ⟨map_new w, World.grownBy_alloc _ _ none⟩)
  go_enter Try.func10, Try.ntmps10
  go_wp2_with fail
  generalize w.alloc (.map #[] 0) = w1 at *
  obtain ⟨m, hm⟩ : ∃ m, m = w.heap.size := ⟨_, rfl⟩
  rw [← hm] at HM ⊢
  have HMM := hid_mk (show w.heap.size ≤ m by omega)
  clear hm hmk
  go_loopw [11] (fun iv wr => ∃ (k : Nat) (F : Int → Option Int), k ≤ ss.length ∧ iv = .int .i64 k ∧ Hid (w.grownBy wr none ∧ (∃ n, n ≤ k ∧ MapL wr m n F) ∧ LedI (L.take k) F ∧ fineTo L k)) (fun iv _ => ss.length - (intOf iv).toNat)
  case atStart => exact ⟨0, fun _ => none, Nat.zero_le _, rfl, hid_mk ⟨HM.out.2, ⟨0, Nat.le_refl _, HM.out.1⟩, LedI.nil, fineTo_zero L⟩⟩
  case round =>
    obtain ⟨k, F, hk, rfl, H⟩ := hrel
    rename World => wr
    by_cases hlt : k < ss.length
    · have hlt' : (k : Int) < ss.length := by omega
      have hk4 : (k : Int) < 20000000000000 := by omega
      obtain ⟨p, hp⟩ : ∃ p, ss[k]? = some p := ⟨ss[k], List.getElem?_eq_getElem hlt⟩
      obtain ⟨b, off, rfl, hcs⟩ := (HE.out.1.kept H.out.1).at hp
      obtain ⟨q0, q1, q2, q3, q4, q5, q6⟩ := hcs wr (grown_refl wr none)
      obtain ⟨hpk, xa, xn, xc, hx⟩ := HE.out.2.1 p (List.mem_of_getElem? hp)
      have hLk : L[k]? = some p.1 := by rw [HE.out.2.2.1, List.getElem?_map, hp]; rfl
      have hLt : L.take (k + 1) = L.take k ++ [p.1] := by rw [List.take_add_one, hLk]; rfl
      have HP := hid_mk (And.intro hp (And.intro hpk (And.intro hLk hLt)))
      clear hp hcs hpk hLk hLt
      rw [hx] at q6
      clear hx
      obtain ⟨n, hnk, hml⟩ := H.out.2.1
      have HML := hid_mk hml
      clear hml
      have ga := World.grownBy_alloc wr (.cells #[.int .i64 p.1.id, .int .i64 p.1.term, .int .i64 p.1.com, .bool p.1.lead, .int .i64 p.1.b, .int .i64 p.1.t, .slice xa xn xc] 28) none
      have HW := hid_mk (show w.grownBy (wr.alloc (.cells #[.int .i64 p.1.id, .int .i64 p.1.term, .int .i64 p.1.com, .bool p.1.lead, .int .i64 p.1.b, .int .i64 p.1.t, .slice xa xn xc] 28)) none ∧ MapL (wr.alloc (.cells #[.int .i64 p.1.id, .int .i64 p.1.term, .int .i64 p.1.com, .bool p.1.lead, .int .i64 p.1.b, .int .i64 p.1.t, .slice xa xn xc] 28)) m n F from ⟨grown_trans H.out.1 ga, HML.out.kept ga (by simp)⟩)
      clear ga
      rcases Bool.eq_false_or_eq_true p.1.lead with hld | hld
      rotate_left
      · obtain ⟨hs1, hs2⟩ := H.out.2.2.1.skip hld
        have HS := hid_mk (show LedI (L.take (k + 1)) F ∧ fineTo L (k + 1) from ⟨by rw [HP.out.2.2.2]; exact hs1, fineTo_succ H.out.2.2.2 HP.out.2.2.1 hs2⟩)
        clear hs1 hs2
        rw [hld] at q3 HW
        go_wp2_with fail
        go_roundw
        case rel => exact ⟨k + 1, F, by omega, by first | rfl | (congr 1; done) | (congr 1; omega), hid_mk ⟨HW.out.1, ⟨n, by omega, HW.out.2⟩, HS.out.1, HS.out.2⟩⟩
        case measure => simp [intOf]; omega
      · have hbd := H.out.2.2.1.bad hld
        rw [hld] at q3 HW
        have hlook := HW.out.2.look HP.out.2.1.2.1
        have hlm : n < maxLen := by unfold maxLen; omega
        obtain ⟨D, hD⟩ := HW.out.2
        have HD := hid_mk hD
        have HLM := hid_mk hlm
        clear hD hlm
        have hne : ∀ W', (wr.alloc (.cells #[.int .i64 p.1.id, .int .i64 p.1.term, .int .i64 p.1.com, .bool true, .int .i64 p.1.b, .int .i64 p.1.t, .slice xa xn xc] 28)).grownBy W' (some m) → w.grownBy W' none := fun W' hg => grown_new HW.out.1 hg HMM.out
        have HNE := hid_mk hne
        clear hne
        cases hF : F p.1.term with
        | none =>
          rw [hF] at hlook hbd
          simp only [Option.getD_none, Option.isSome_none] at hlook
          have HB := hid_mk (show badL (L.take k) p.1 = false from hbd)
          have HPU := hid_mk (H.out.2.2.1.put hld hbd)
          clear hbd hF
          go_wp2_with (at_mapUpdate; refine wpList_mapUpdate_own _ rfl _ _ _ 57 rfl 3 3 key3 Try.underlying57 _ m n D rfl HD.out.own HLM.out _ _ (.int .i64 p.1.term) rfl rfl (keyOf_int_mk Try.underlying3 (key_wf HP.out.2.1.2.1)) _ [] (plainElem_int Try.underlying3 (key_wf HP.out.2.1.1)) ?_; intro w9 hown9 hgrow9)
          go_roundw
          case rel => exact ⟨k + 1, _, by omega, by first | rfl | (congr 1; done) | (congr 1; omega), hid_mk ⟨HNE.out _ hgrow9, ⟨n + 1, by omega, HD.out.put hown9⟩, by rw [HP.out.2.2.2]; exact HPU.out, fineTo_succ H.out.2.2.2 HP.out.2.2.1 HB.out⟩⟩
          case measure => simp [intOf]; omega
        | some i =>
          rw [hF] at hlook hbd
          simp only [Option.getD_some, Option.isSome_some] at hlook
          simp only at hbd
          rcases Bool.eq_false_or_eq_true (i != p.1.id) with he | he
          · have HB := hid_mk (show badL (L.take k) p.1 = true from by rw [hbd]; exact he)
            clear hbd hF
            go_wp2_with fail
            go_ret
            exact ⟨k, rfl, .inl ⟨k, p.1, HP.out.2.2.1, HB.out, H.out.2.2.2, rfl⟩, HW.out.1⟩
          · have HB := hid_mk (show badL (L.take k) p.1 = false from by rw [hbd]; exact he)
            have HPU := hid_mk (H.out.2.2.1.put hld HB.out)
            clear hbd hF
            go_wp2_with (at_mapUpdate; refine wpList_mapUpdate_own _ rfl _ _ _ 57 rfl 3 3 key3 Try.underlying57 _ m n D rfl HD.out.own HLM.out _ _ (.int .i64 p.1.term) rfl rfl (keyOf_int_mk Try.underlying3 (key_wf HP.out.2.1.2.1)) _ [] (plainElem_int Try.underlying3 (key_wf HP.out.2.1.1)) ?_; intro w9 hown9 hgrow9)
            go_roundw
            case rel => exact ⟨k + 1, _, by omega, by first | rfl | (congr 1; done) | (congr 1; omega), hid_mk ⟨HNE.out _ hgrow9, ⟨n + 1, by omega, HD.out.put hown9⟩, by rw [HP.out.2.2.2]; exact HPU.out, fineTo_succ H.out.2.2.2 HP.out.2.2.1 HB.out⟩⟩
            case measure => simp [intOf]; omega
    · have hlt' : ¬ (k : Int) < ss.length := by omega
      have hke : k = ss.length := by omega
      have HF := hid_mk (show w.grownBy wr none ∧ fineTo L L.length from ⟨H.out.1, by rw [HE.out.2.2.2, ← hke]; exact H.out.2.2.2⟩)
      clear hke H
      go_wp2
      go_ret
      exact ⟨-1, rfl, .inr ⟨HF.out.2, rfl⟩, HF.out.1⟩
end Go.Proofs.Ytcijjepleedecaa.W
