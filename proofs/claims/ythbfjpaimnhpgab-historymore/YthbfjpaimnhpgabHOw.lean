/- history: the law's bytes, Own. -/
import Derived.Test.YthbfjpaimnhpgabHLg
namespace Go.Proofs.Ythbfjpaimnhpgab
open Go.RowKit Go.Maps
set_option linter.unusedVariables false
set_option linter.unusedSimpArgs false
set_option maxRecDepth 100000

theorem OwnRec.but {W W' : World} {B : Nat} {v : Value} {R : List RV} {g : Nat} {cur : Array Value} {t : TypeId} (h : OwnRec W B v R) (hg : W.grownBy W' (some g)) (hc : W.heap[g]? = some (.cells cur t (0, 0))) (h3 : t ≠ 24) (h5 : t ≠ 5) : OwnRec W' B v R := by
  refine ⟨owns_kept h.1 hg (fun k cur' hk e => ?_), fun p hp => (h.2 p hp).kept hg (.inr (fun e => ?_))⟩
  · injection e with e
    subst e
    rw [hc] at hk
    cases hk
    exact h3 rfl
  · obtain ⟨_, c, hk⟩ := own_low (h.2 p hp) g e
    rw [hc] at hk
    cases hk
    exact h5 rfl
theorem own_but {W W' : World} {B : Nat} {v : Value} {l : List UInt8} {g : Nat} {cur : Array Value} {t : TypeId} (h : Own W B v l) (hg : W.grownBy W' (some g)) (hc : W.heap[g]? = some (.cells cur t (0, 0))) (h5 : t ≠ 5) : Own W' B v l :=
  h.kept hg (.inr (fun e => by
    obtain ⟨_, c, hk⟩ := own_low h g e
    rw [hc] at hk
    cases hk
    exact h5 rfl))
set_option maxHeartbeats 4000000 in
theorem bytes_any {w : World} {v : Value} {R : List RV} (h : RecR w v R) (hl : R.length ≤ 5864062014805) (hd : ∀ p ∈ R, p.1.length ≤ 140737488355328) : Calls Try.prog 15 #[v] w fun e w' => ∃ v' R', e = .returned v' ∧ OwnRec w' w.heap.size v' R' ∧ R'.map (·.1) = R.map (·.1) ∧ w.grownBy w' none := by
  obtain ⟨va, vc, hv⟩ := h.len
  have HL := hid_mk (And.intro h hd)
  have HV := hid_mk hv
  rw [hv]
  clear h hd hv
  go_enter Try.func15, Try.ntmps15
  go_wp2_with fail
  go_loopg [3, 4] R.length (fun gg rv iv W => ∃ (k : Nat) (ra : Option Addr) (rc : Nat) (Rk : List RV), k ≤ R.length ∧ gg = R.length - k ∧ iv = .int .i64 k ∧ rv = .slice ra k rc ∧ Hid (w.grownBy W none ∧ OwnRec W w.heap.size (.slice ra k rc) Rk ∧ Rk.length = k ∧ Rk.map (·.1) = (R.take k).map (·.1)))
  case atStart => exact ⟨0, none, 0, [], Nat.zero_le _, rfl, rfl, rfl, hid_mk ⟨grown_refl _ _, OwnRec.nil _ _, rfl, by simp⟩⟩
  case round =>
    obtain ⟨k, ra, rc, Rk, hk, hgk, rfl, rfl, H⟩ := hrel
    rename World => W
    by_cases hlt : k < R.length
    · have hlt' : (k : Int) < R.length := by omega
      obtain ⟨bb, off, cap, e, hc⟩ := (HL.out.1.kept H.out.1).get k hlt
      rw [HV.out] at e
      injection e with e1 e2 e3
      subst e1
      clear e2 e3
      have hby := HL.out.1.2 _ (List.getElem_mem hlt)
      have hbl := HL.out.2 _ (List.getElem_mem hlt)
      obtain ⟨pa, pc, hpv⟩ := hby.len
      have HT := hid_mk (take_succ_map hlt)
      have g1 := World.grownBy_alloc W (.cells #[] 5) none
      obtain ⟨a1, c1, W2, hr1, ho1, hg1⟩ := run_copyB (own_empty W) (by simp) ((hby.kept H.out.1).kept g1) hbl 24
      have g2 := grown_new g1 hg1 (Nat.le_refl _)
      have g3 := World.grownBy_alloc W2 (.cells #[.slice a1 R[k].1.length c1] 24) none
      have hk2 := H.out.2.2.1
      obtain ⟨a2, c2, W4, hr2, ho2, hg4⟩ := appR ((H.out.2.1.kept g2).kept g3) ((own_grown ho1 g3).base H.out.1.size) W2.heap.size (blk_alloc W2 #[.slice a1 R[k].1.length c1] 24) (by omega) (Nat.le_trans H.out.1.size (Nat.le_trans g2.size g3.size)) 25
      rw [hk2] at hr2 ho2
      have hgw : w.grownBy W4 none := by
        cases hv4 : (Value.slice ra k rc).ownBlock with
        | none => rw [hv4] at hg4; exact grown_trans (grown_trans H.out.1 (grown_trans g2 g3)) hg4
        | some g => rw [hv4] at hg4; exact grown_new (grown_trans H.out.1 (grown_trans g2 g3)) hg4 (owns_lt H.out.2.1.1 hv4).1
      rw [hpv] at hr1 hc
      have hc1 := g1.cell hc (by simp)
      have HR1 := hid_mk hr1
      have HR2 := hid_mk hr2
      have HN := hid_mk (show w.grownBy W4 none ∧ OwnRec W4 w.heap.size (.slice a2 (k + 1) c2) (Rk ++ [(R[k].1, .slice a1 R[k].1.length c1)]) ∧ (Rk ++ [(R[k].1, Value.slice a1 R[k].1.length c1)]).length = k + 1 ∧ (Rk ++ [(R[k].1, Value.slice a1 R[k].1.length c1)]).map (·.1) = (R.take (k + 1)).map (·.1) from
        ⟨hgw, ho2, by simp [hk2], by rw [HT.out, List.map_append, H.out.2.2.2]; rfl⟩)
      clear hby hpv g1 hr1 ho1 hg1 g2 g3 hr2 ho2 hg4 hgw hk2
      generalize R[k].1.length = n at *
      go_wp2_with (first | (at_builtin; refine wp_run_app rfl (.tmp 12) (.tmp 16) rfl rfl rfl HR1.out ?_) | (at_builtin; refine wp_run_app rfl (.tmp 11) (.tmp 18) rfl rfl rfl HR2.out ?_))
      go_roundg (R.length - (k + 1))
      case measure => omega
      case rel => exact ⟨k + 1, a2, c2, _, by omega, rfl, by go_num, rfl, hid_mk HN.out⟩
    · have hlt' : ¬ (k : Int) < R.length := by omega
      have HX := hid_mk (show Rk.map (·.1) = R.map (·.1) from by have := H.out.2.2.2; rwa [List.take_of_length_le (by omega)] at this)
      go_wp2_with fail
      go_ret
      exact ⟨_, rfl, Rk, H.out.2.1, HX.out, H.out.1⟩
end Go.Proofs.Ythbfjpaimnhpgab
