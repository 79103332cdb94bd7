/- history: append of calls; Clone, answered, someOf, inOrder. -/
import Derived.Test.YthbfjpaimnhpgabHD
namespace Go.Proofs.Ythbfjpaimnhpgab
open Go.RowKit Go.Maps
set_option linter.unusedVariables false
set_option linter.unusedSimpArgs false
set_option maxRecDepth 100000

theorem info60 : (Try.prog.info? 42).map (fun i => (i.zero, i.size, i.bytes)) = some (some (.agg #[.int .i64 0, .int .i64 0, .int .i64 0, .int .i64 0, .int .i64 0, .bool false, .int .i64 0, .int .i64 0, .int .i64 0, .int .i64 0, .slice none 0 0, .slice none 0 0]), 12, 128) := by kernel_rfl
def SlC (L : List CE) : Prop := ∀ x ∈ L, IsSl x.vd ∧ IsSl x.vr
theorem CsR.sl {w : World} {v : Value} {L : List CE} (h : CsR w v L) : SlC L := fun x hx => (h.ins x hx).sl
theorem cals_one {L : List CE} (h : SlC L) : ∀ u ∈ cals L, u.oneCell' = true := by
  intro u hu
  obtain ⟨x, hx, hu⟩ := List.mem_flatMap.1 hu
  obtain ⟨⟨a, n, c, e1⟩, ⟨a', n', c', e2⟩⟩ := h x hx
  simp only [calC, List.mem_cons, List.not_mem_nil, or_false] at hu
  rcases hu with rfl | rfl | rfl | rfl | rfl | rfl | rfl | rfl | rfl | rfl | rfl | rfl
  all_goals (first | rfl | (rw [e1]; rfl) | (rw [e2]; rfl))
/-- append(row, calls...). -/
theorem appC {W : World} {B : Nat} {v : Value} {L0 : List CE} (h : OwnC W B v L0) {ad : Addr} {m c : Nat} {L : List CE} (hm : L.length = m) (hc : ∀ j u, (cals L)[j]? = some u → W.cell? (ad.add j) = some u) (hs : SlC L) (hl : L0.length + m ≤ 1099511627776) (hB : B ≤ W.heap.size) (ty : TypeId) :
    ∃ a' c' W', (Builtin.append_ #[31, 31] ty #[v, .slice (some ad) m c]).run Try.prog W = .ok (.slice a' (L0.length + m) c') W' ∧ OwnC W' B (.slice a' (L0.length + m) c') (L0 ++ L) ∧ W.grownBy W' v.ownBlock := by
  obtain ⟨i0, hi, hz0, hz1, hz2⟩ := info_parts info60
  obtain ⟨v', w', hr, hown, hg, _, hbl⟩ := run_append_own_at (P := Try.prog) W B 31 ty 42 i0 (.agg #[.int .i64 0, .int .i64 0, .int .i64 0, .int .i64 0, .int .i64 0, .bool false, .int .i64 0, .int .i64 0, .int .i64 0, .int .i64 0, .slice none 0 0, .slice none 0 0]) 12 128 Try.underlying31 hi hz0 hz1 hz2 rfl (by decide) v L0.length (cals L0) h ad m c (cals L) (by rw [cals_len, hm]) hc (cals_one hs) (by unfold maxLen; omega) (by omega) hB
  obtain ⟨a', c', rfl⟩ := row_shape hown
  refine ⟨a', c', w', hr, ?_, hg⟩
  unfold OwnC
  rw [List.length_append, hm, cals_append]
  exact hown
theorem ownC_empty (w : World) : OwnC (w.alloc (.cells #[] 42)) w.heap.size (.slice (some ⟨w.heap.size, 0, none⟩) 0 0) [] :=
  World.ownsRow_made (e := 42) (size := 12) (base := w.heap.size) w #[] 0 (Nat.le_refl _) (by unfold maxLen; omega) (by simp)
/-- append([]Call{}, v...). -/
theorem run_copyC {W : World} {B g : Nat} {v : Value} {L : List CE} (hown : OwnC W B (.slice (some ⟨g, 0, none⟩) 0 0) []) (hB : B ≤ W.heap.size) (h : CsR W v L) (hl : L.length ≤ 1099511627776) (ty : TypeId) :
    ∃ a' c' W', (Builtin.append_ #[31, 31] ty #[.slice (some ⟨g, 0, none⟩) 0 0, v]).run Try.prog W = .ok (.slice a' L.length c') W' ∧ OwnC W' B (.slice a' L.length c') L ∧ W.grownBy W' (some g) := by
  have go : ∀ (ad : Addr) (c : Nat), v = .slice (some ad) L.length c → (∀ j u, (cals L)[j]? = some u → W.cell? (ad.add j) = some u) → ∃ a' c' W', (Builtin.append_ #[31, 31] ty #[.slice (some ⟨g, 0, none⟩) 0 0, v]).run Try.prog W = .ok (.slice a' L.length c') W' ∧ OwnC W' B (.slice a' L.length c') L ∧ W.grownBy W' (some g) := by
    intro ad c hv hc
    obtain ⟨a', c', w', hr, ho, hg⟩ := appC hown (L := L) (c := c) rfl hc h.sl (by simpa using hl) hB ty
    simp only [List.length_nil, Nat.zero_add, List.nil_append] at hr ho
    exact ⟨a', c', w', by rw [hv]; exact hr, ho, hg⟩
  rcases h.row with ⟨rfl, av, cap, e, hn⟩ | ⟨b, off, cap, e, _, hc⟩
  · cases av with
    | none =>
      obtain rfl := hn rfl
      obtain ⟨i0, hi, hz0, hz1, hz2⟩ := info_parts info60
      have hrun := run_append_owned_none (P := Try.prog) W B 31 ty 42 i0 12 Try.underlying31 hi _ 0 [] hown
      exact ⟨_, _, W, by rw [e]; exact hrun, hown, grown_refl _ _⟩
    | some ad => exact go ad cap e (fun j u hj => by simp [cals] at hj)
  · refine go ⟨b, off, none⟩ cap e (fun j u hj => ?_)
    rw [add_at]
    exact hc j u hj
/-- append where the run is known. -/
theorem wp_run_app {W W' : World} {v u v' : Value} {st : TypeId} {ops : Array Oper} {rest : List Oper} {o : Oper} {a : Act} {Q : Exit → Act → World → Prop} (hgd : o.guard = none) (s y : Operand)
    (ho : o.op = .call { callee := .builtin .append, args := #[s, y], argTypes := #[st, st] }) (hs : a.eval s = v) (hy : a.eval y = u) (hr : (Builtin.append_ #[st, st] o.type #[v, u]).run Try.prog W = .ok v' W')
    (hc : wpList Try.prog ops Q rest (a.put o.dst v') W') : wpList Try.prog ops Q (o :: rest) a W := by
  refine wpList_plain hgd fun K hK' => ?_
  unfold Oper.wp
  rw [exec_app ho hs hy hr]
  exact hK' _ _ hc
theorem cloneC_any {w : World} {v : Value} {L : List CE} (h : CsR w v L) (hl : L.length ≤ 1099511627776) : Calls Try.prog 25 #[v] w fun e w' => ∃ v', e = .returned v' ∧ OwnC w' w.heap.size v' L ∧ w.grownBy w' none := by
  obtain ⟨av, cv, rfl⟩ := h.len
  cases av with
  | none =>
    obtain ⟨rfl, rfl⟩ : L = [] ∧ cv = 0 := by
      rcases h.row with ⟨rfl, a', cap', e, hn⟩ | ⟨b, off, cap', e, _⟩
      · cases e; exact ⟨rfl, hn rfl⟩
      · cases e
    have hq := fun w => Lib.run_eql_slice_nil (P := Try.prog) w 31 42 none 0 0 0 0 Try.underlying31
    clear h
    go_enter Try.func25, Try.ntmps25
    go_wp2
    go_ret
    exact ⟨_, rfl, OwnC.nil _ _, grown_refl _ _⟩
  | some a =>
    have hq := fun w => Lib.run_eql_slice_nil (P := Try.prog) w 31 42 (some a) L.length cv 0 0 Try.underlying31
    have g1 := World.grownBy_alloc w (.cells #[] 42) none
    obtain ⟨a', c', W', hr, ho, hg⟩ := run_copyC (ownC_empty w) (by simp) (h.kept g1) hl 31
    have HH := hid_mk (And.intro hr (And.intro ho (grown_new g1 hg (Nat.le_refl _))))
    clear h hr ho hg g1
    go_enter Try.func25, Try.ntmps25
    go_wp2_with (at_builtin; refine wp_run_app rfl (.tmp 5) (.tmp 6) rfl rfl rfl HH.out.1 ?_)
    go_ret
    exact ⟨_, rfl, HH.out.2.1, HH.out.2.2⟩
/-- A call in a row: its cells. -/
theorem CsR.cells {w : World} {v : Value} {L : List CE} (h : CsR w v L) {i : Nat} (hi : i < L.length) : ∃ lb off cap, v = .slice (some ⟨lb, off, none⟩) L.length cap ∧ ∀ W, w.grownBy W none → W.cell? ⟨lb, off + i * 12, none⟩ = some (.int .i64 L[i].g.c) ∧ W.cell? ⟨lb, off + i * 12 + 1, none⟩ = some (.int .i64 L[i].g.b) ∧ W.cell? ⟨lb, off + i * 12 + 2, none⟩ = some (.int .i64 L[i].g.e) ∧ W.cell? ⟨lb, off + i * 12 + 3, none⟩ = some (.int .i64 L[i].g.k) ∧
    W.cell? ⟨lb, off + i * 12 + 4, none⟩ = some (.int .i64 L[i].g.at') ∧ W.cell? ⟨lb, off + i * 12 + 5, none⟩ = some (.bool L[i].g.an) ∧ W.cell? ⟨lb, off + i * 12 + 6, none⟩ = some (.int .i64 L[i].g.fr) ∧ W.cell? ⟨lb, off + i * 12 + 7, none⟩ = some (.int .i64 L[i].g.mo) ∧ W.cell? ⟨lb, off + i * 12 + 8, none⟩ = some (.int .i64 L[i].g.nu) ∧ W.cell? ⟨lb, off + i * 12 + 9, none⟩ = some (.int .i64 L[i].g.st) ∧ W.cell? ⟨lb, off + i * 12 + 10, none⟩ = some L[i].vd ∧ W.cell? ⟨lb, off + i * 12 + 11, none⟩ = some L[i].vr := by
  obtain ⟨lb, off, cap, e, hb, hc⟩ := h.get i hi
  have hc' : ∀ j u, (calC L[i])[j]? = some u → w.cell? ⟨lb, off + i * 12 + j, none⟩ = some u := fun j u hj => by rw [Nat.add_assoc]; exact hc j u hj
  exact ⟨lb, off, cap, e, fun W hg => ⟨hg.cell (hc' 0 _ rfl) (by simp), hg.cell (hc' 1 _ rfl) (by simp), hg.cell (hc' 2 _ rfl) (by simp), hg.cell (hc' 3 _ rfl) (by simp), hg.cell (hc' 4 _ rfl) (by simp), hg.cell (hc' 5 _ rfl) (by simp), hg.cell (hc' 6 _ rfl) (by simp), hg.cell (hc' 7 _ rfl) (by simp), hg.cell (hc' 8 _ rfl) (by simp), hg.cell (hc' 9 _ rfl) (by simp), hg.cell (hc' 10 _ rfl) (by simp), hg.cell (hc' 11 _ rfl) (by simp)⟩⟩
def gs (L : List CE) : List Ca := L.map (·.g)
theorem countG_take {l : List Ca} {k : Nat} (hk : k < l.length) : countG (l.take (k + 1)) = countG (l.take k) + (if l[k].an then 1 else 0) := by
  unfold countG
  rw [List.take_add_one, List.getElem?_eq_getElem hk, List.filter_append, List.length_append]
  cases h : l[k].an <;> simp [h]
set_option maxHeartbeats 2000000 in
theorem answered_any {w : World} {v : Value} {L : List CE} (h : CsR w v L) (hl : L.length ≤ 1099511627776) : Calls Try.prog 12 #[v] w fun e w' => e = .returned (.int .i64 (countG (gs L))) ∧ w.grownBy w' none := by
  obtain ⟨va, vc, rfl⟩ := h.len
  have HL := hid_mk h
  clear h
  go_enter Try.func12, Try.ntmps12
  go_wp2_with fail
  go_loopg [3, 8] L.length (fun gg nv iv W => ∃ k : Nat, k ≤ L.length ∧ gg = L.length - k ∧ iv = .int .i64 k ∧ nv = .int .i64 (countG ((gs L).take k)) ∧ Hid (w.grownBy W none ∧ countG ((gs L).take k) ≤ k))
  case atStart => exact ⟨0, Nat.zero_le _, rfl, rfl, rfl, hid_mk ⟨grown_refl _ _, by simp [countG]⟩⟩
  case round =>
    obtain ⟨k, hk, hgk, rfl, rfl, H⟩ := hrel
    rename World => W
    by_cases hlt : k < L.length
    · have hlt' : (k : Int) < L.length := by omega
      obtain ⟨lb, off, cap, he, hc⟩ := HL.out.cells hlt
      injection he with e1 e2 e3
      clear e2 e3
      subst e1
      obtain ⟨d0, d1, d2, d3, d4, d5, d6, d7, d8, d9, d10, d11⟩ := hc W H.out.1
      obtain ⟨⟨xa, xn, xc, hxd⟩, ⟨ra, rn, rc, hxr⟩⟩ := HL.out.sl _ (List.getElem_mem hlt)
      rw [hxd] at d10
      rw [hxr] at d11
      have hg : k < (gs L).length := by simp [gs]; exact hlt
      have HS := hid_mk (show countG ((gs L).take (k + 1)) = countG ((gs L).take k) + (if L[k].g.an then 1 else 0) from by have := countG_take hg; simpa [gs] using this)
      have HT := hid_mk (show countG ((gs L).take k) ≤ 1099511627776 ∧ countG ((gs L).take (k + 1)) ≤ k + 1 from by
        have := H.out.2
        have h2 := HS.out
        refine ⟨by omega, ?_⟩
        split at h2 <;> omega)
      clear hc hxd hxr hg
      generalize L[k] = x at *
      have hn := HT.out.1
      generalize hcnt : countG ((gs L).take k) = n at *
      have gC := World.grownBy_alloc W (.cells #[.int .i64 x.g.c, .int .i64 x.g.b, .int .i64 x.g.e, .int .i64 x.g.k, .int .i64 x.g.at', .bool x.g.an, .int .i64 x.g.fr, .int .i64 x.g.mo, .int .i64 x.g.nu, .int .i64 x.g.st, .slice xa xn xc, .slice ra rn rc] 42) none
      have HG := hid_mk (grown_trans H.out.1 gC)
      clear gC
      generalize x.g.an = ab at *
      cases ab
      · go_wp2_with fail
        go_roundg (L.length - (k + 1))
        case measure => omega
        case rel => exact ⟨k + 1, by omega, rfl, by go_num, by rw [HS.out]; rfl, hid_mk ⟨HG.out, HT.out.2⟩⟩
      · go_wp2_with fail
        go_roundg (L.length - (k + 1))
        case measure => omega
        case rel => exact ⟨k + 1, by omega, rfl, by go_num, by rw [HS.out]; go_num, hid_mk ⟨HG.out, HT.out.2⟩⟩
    · have hlt' : ¬ (k : Int) < L.length := by omega
      have HE := hid_mk (show countG (gs L) = countG ((gs L).take k) from by rw [List.take_of_length_le (by simp [gs]; omega)])
      generalize countG ((gs L).take k) = n at *
      go_wp2_with fail
      go_ret
      exact ⟨ret_int (by rw [HE.out]), H.out.1⟩
end Go.Proofs.Ythbfjpaimnhpgab
