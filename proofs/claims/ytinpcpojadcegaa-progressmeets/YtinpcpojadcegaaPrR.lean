/- ProgressMeets: rows; two lists of entries put together. -/
import Derived.Test.YtinpcpojadcegaaPrN
import Derived.Test.YtinpcpojadcegaaCnA
namespace Go.Proofs.Ytinpcpojadcegaa.W
open Go.RowKit Go.Maps
set_option linter.unusedVariables false
set_option linter.unusedSimpArgs false
set_option maxRecDepth 100000
attribute [local go_sem] Oper.semAt_some

theorem tmod3 (x : Int) : -2 ≤ x.tmod 3 ∧ x.tmod 3 ≤ 2 := by
  have h1 := Int.tmod_lt_of_pos x (show (0 : Int) < 3 by omega)
  have h2 : -3 < x.tmod 3 := by
    have := Int.tmod_lt_of_pos (-x) (show (0 : Int) < 3 by omega)
    rw [Int.neg_tmod] at this
    omega
  omega
set_option maxHeartbeats 8000000 in
theorem rows_any (index t : Nat) (sv : Value) (steps : List Int) (n : Nat) (w : World) (h : C.IntsR w sv steps) (hl : steps.length < 17592186044416) (h1 : t + 4 * n < 256) (h2 : index + n < 1000) :
    Calls Try.prog 20 #[.int .i64 (index : Nat), .int .i64 (t : Nat), sv, .int .i64 (n : Nat)] w fun e w' => ∃ v ps, e = .returned v ∧ EO w w' v ps ∧ ps.map (·.1) = rowsL index t steps n := by
  obtain ⟨a, c, rfl⟩ := h.len
  have HE := hid_mk h
  clear h
  refine (callsIn_wide (n := 11)).1 ?_
  refine callsIn_of_wp Try.func20 rfl trivial ?_ rfl
  simp only [Try.ntmps20, List.size_toArray, List.length_cons, List.length_nil, Nat.reduceAdd, Nat.reduceSub, Array.replicate_succ, Array.replicate_zero, List.push_toArray, List.append_toArray, List.nil_append, List.cons_append]
  gi_wp2_with fail
  gi_loopw [1, 9, 10] (fun tv ov iv wr => ∃ (k T : Nat) (va : Option Addr) (vc : Nat) (ps : List (Ent × Value)), k ≤ n ∧ tv = .int .i64 T ∧ ov = .slice va ps.length vc ∧ iv = .int .i64 k ∧ Hid (EO w wr (.slice va ps.length vc) ps ∧ ps.map (·.1) = rowsL index t steps k ∧ T = tmAt t steps k)) (fun _ _ iv _ => n - (intOf iv).toNat)
  case atStart => exact ⟨0, t, none, 0, [], Nat.zero_le _, rfl, rfl, rfl, hid_mk ⟨EO.nil (grown_refl _ _), by simp [rowsL], rfl⟩⟩
  case round =>
    obtain ⟨k, T, va, vc, ps, hk, rfl, rfl, rfl, H⟩ := hrel
    rename World => wr
    by_cases hlt : k < n
    · have hlt' : (k : Int) < n := by omega
      have hT := tmAt_in t steps (k + 1)
      have hT0 := tmAt_in t steps k
      obtain ⟨T', hT'⟩ : ∃ T', T' = tmAt t steps (k + 1) := ⟨_, rfl⟩
      rw [← hT'] at hT
      rw [← H.out.2.2] at hT0
      have hTb : T' < 256 := by omega
      have hTc : T < 256 := by omega
      have HEN := hid_mk (fun (W : World) => entry_any T' (index + 1 + k) (by omega) (by omega) W)
      have HIK := hid_mk (show ((index : Int) + 1) + (k : Int) = ((index + 1 + k : Nat) : Int) by omega)
      have hib : (index : Int) + 1 + k < 1000 := by omega
      have hpl : ps.length = k := by have := congrArg List.length H.out.2.1; rw [List.length_map, rowsL_len] at this; exact this
      have HPL := hid_mk hpl
      have HM := hid_mk (show ps.map (·.1) ++ [eN T' (index + 1 + k)] = rowsL index t steps (k + 1) from by rw [rowsL_succ, H.out.2.1, hT'])
      have HT := hid_mk (And.intro hT' H.out.2.2)
      clear hpl hT hT0 hT'
      by_cases hs : k < steps.length
      · have hs' : (k : Int) < steps.length := by omega
        obtain ⟨sb, off, cap, hae, hcs⟩ := (C.IntsR.kept HE.out H.out.1.gr).get k hs
        injection hae with e1 e2 e3
        subst e1
        clear e2 e3
        have hst := tmod3 steps[k]
        have HTT := hid_mk (show T' = T + 2 * st steps[k] from by rw [HT.out.1, HT.out.2]; exact tmAt_some (List.getElem?_eq_getElem hs))
        generalize steps[k] = s at *
        have hTe : (T : Int) + 2 * (s.tmod 3 % 3) = (T' : Int) := by rw [HTT.out]; unfold st; omega
        gi_wp2_with fail
        rw [HIK.out]
        refine ⟨trivial, (callsIn_wide.2 (HEN.out wr)).mono ?_⟩
        rintro e w1 ⟨_, rfl, ⟨dv', rfl, ho⟩, hg⟩
        obtain ⟨da', dc', rfl⟩ := ho.len
        have hm : w.heap.size ≤ wr.heap.size := H.out.1.gr.size
        have hX : entV (eN T' (index + 1 + k)) (.slice da' [UInt8.ofNat T'].length dc') = .agg #[.int .i64 (T' : Nat), .int .i64 ((index + 1 + k : Nat) : Int), .int .i64 2, .slice da' 1 dc'] := rfl
        rw [hX]
        clear hX
        have H1 := hid_mk (show EO w w1 (.slice va ps.length vc) ps ∧ Own w1 w.heap.size (.slice da' 1 dc') [UInt8.ofNat T'] from ⟨H.out.1.kept hg, ho.base hm⟩)
        clear ho hg hm H
        gi_wp2_with (gi_at_builtin; refine wpListIn_append_ent H1.out.1 (eN T' (index + 1 + k)) (.slice da' 1 dc') H1.out.2 (by simp [eN]) (by have := HPL.out; omega) rfl (.tmp 30) (.tmp 37) rfl rfl rfl ?_; intro a4 c4 Y4 heo4 hg4; have H4 := hid_mk heo4; clear heo4 hg4)
        go_roundw
        case rel => exact ⟨k + 1, T', a4, c4, ps ++ [(eN T' (index + 1 + k), .slice da' 1 dc')], by omega, rfl, by simp, by first | rfl | (congr 1; done) | (congr 1; omega), hid_mk ⟨by simpa using H4.out, by rw [List.map_append, ← HM.out]; rfl, HT.out.1⟩⟩
        case measure => simp [intOf]; omega
      · have hs' : ¬ (k : Int) < steps.length := by omega
        have HTT := hid_mk (show T' = T from by rw [HT.out.1, HT.out.2]; exact tmAt_none (List.getElem?_eq_none (by omega)))
        have hTe : T = T' := HTT.out.symm
        subst hTe
        gi_wp2_with fail
        rw [HIK.out]
        refine ⟨trivial, (callsIn_wide.2 (HEN.out wr)).mono ?_⟩
        rintro e w1 ⟨_, rfl, ⟨dv', rfl, ho⟩, hg⟩
        obtain ⟨da', dc', rfl⟩ := ho.len
        have hm : w.heap.size ≤ wr.heap.size := H.out.1.gr.size
        have hX : entV (eN T (index + 1 + k)) (.slice da' [UInt8.ofNat T].length dc') = .agg #[.int .i64 (T : Nat), .int .i64 ((index + 1 + k : Nat) : Int), .int .i64 2, .slice da' 1 dc'] := rfl
        rw [hX]
        clear hX
        have H1 := hid_mk (show EO w w1 (.slice va ps.length vc) ps ∧ Own w1 w.heap.size (.slice da' 1 dc') [UInt8.ofNat T] from ⟨H.out.1.kept hg, ho.base hm⟩)
        clear ho hg hm H
        gi_wp2_with (gi_at_builtin; refine wpListIn_append_ent H1.out.1 (eN T (index + 1 + k)) (.slice da' 1 dc') H1.out.2 (by simp [eN]) (by have := HPL.out; omega) rfl (.tmp 30) (.tmp 37) rfl rfl rfl ?_; intro a4 c4 Y4 heo4 hg4; have H4 := hid_mk heo4; clear heo4 hg4)
        go_roundw
        case rel => exact ⟨k + 1, T, a4, c4, ps ++ [(eN T (index + 1 + k), .slice da' 1 dc')], by omega, rfl, by simp, by first | rfl | (congr 1; done) | (congr 1; omega), hid_mk ⟨by simpa using H4.out, by rw [List.map_append, ← HM.out]; rfl, HT.out.1⟩⟩
        case measure => simp [intOf]; omega
    · have hlt' : ¬ (k : Int) < n := by omega
      have hke : k = n := by omega
      have HF := hid_mk (show EO w wr (.slice va ps.length vc) ps ∧ ps.map (·.1) = rowsL index t steps n from ⟨H.out.1, by rw [H.out.2.1, hke]⟩)
      clear hke H
      gi_wp2_with fail
      refine bodyPost_ret (results_tmp rfl _ _ _) rfl ?_
      exact ⟨_, rfl, ps, HF.out⟩

/-- append(a, b...): entries of one's own behind others. -/
theorem run_append_ee {w W : World} {v v2 : Value} {ps qs : List (Ent × Value)} (h : EO w W v ps) (h2 : EO w W v2 qs) (hl : (ps.length + qs.length) * 48 ≤ 140737488355328) {o : Oper} {a : Act} (s y : Operand)
    (hop : o.op = .call { callee := .builtin .append, args := #[s, y], argTypes := #[22, 22] }) (hs : a.eval s = v) (hy : a.eval y = v2) :
    ∃ a' c' W', (execOp a.eval o).run Try.prog W = .ok (.value (.slice a' (ps.length + qs.length) c')) W' ∧ EO w W' (.slice a' (ps.length + qs.length) c') (ps ++ qs) ∧ W.grownBy W' v.ownBlock := by
  obtain ⟨i0, hi, hz0, hz1, hz2⟩ := info_parts info47
  rcases h2.row.2 with ⟨e, h0⟩ | ⟨g, cap, cur, e, hb, hg, k1, k2, k3, k4⟩
  · obtain rfl : qs = [] := List.length_eq_zero_iff.1 h0
    have hrun := run_append_owned_none (P := Try.prog) W w.heap.size 22 o.type 54 i0 4 Try.underlying22 hi v ps.length (ps.flatMap entCells) h.row
    obtain ⟨a1, c1, hv⟩ := row_shape h.row
    refine ⟨a1, c1, W, ?_, ?_, grown_refl _ _⟩
    · rw [e] at hy
      simp [execOp, hop, resolve, invoke, builtin, hs, hy, hrun, Result.andThen]
      exact hv
    · rw [List.append_nil, List.length_nil, Nat.add_zero, ← hv]
      exact h
  · have hone : ∀ u ∈ qs.flatMap entCells, u.oneCell' = true := fun u hu => by
      obtain ⟨p, hp, hu⟩ := List.mem_flatMap.1 hu
      obtain ⟨_, _, e⟩ := (h2.own p hp).1.len
      simp [entCells, e] at hu
      rcases hu with rfl | rfl | rfl | rfl <;> rfl
    have hcell : ∀ j u, (qs.flatMap entCells)[j]? = some u → W.cell? ((⟨g, 0, none⟩ : Addr).add j) = some u := fun j u hj => by
      have hjl : j < qs.length * 4 := by have := (List.getElem?_eq_some_iff.1 hj).1; rw [entCells_len] at this; exact this
      rw [addr_add, Nat.zero_add, cell_of_row _ _ _ _ _ _ hg]
      rw [← k4, List.getElem?_take, if_pos (by omega)] at hj
      simpa using hj
    obtain ⟨v', w', hrun, r1, r2, _, _⟩ := run_append_own_at (P := Try.prog) W w.heap.size 22 o.type 54 i0 (.agg #[.int .i64 0, .int .i64 0, .int .i64 0, .slice none 0 0]) 4 48 Try.underlying22 hi hz0 hz1 hz2 rfl (by decide) v ps.length (ps.flatMap entCells) h.row ⟨g, 0, none⟩ qs.length cap (qs.flatMap entCells) (entCells_len qs) hcell hone (by unfold maxLen; omega) hl h.gr.size
    obtain ⟨a', c', rfl⟩ := row_shape r1
    rw [e] at hy
    refine ⟨a', c', w', by simp [execOp, hop, resolve, invoke, builtin, hs, hy, hrun, Result.andThen], ⟨?_, fun p hp => ?_, grown_row h.gr h.row r2⟩, r2⟩
    · rw [List.length_append, List.flatMap_append]; exact r1
    · have hk : ∀ (z : Value) (d : List UInt8), Own W w.heap.size z d → Own w' w.heap.size z d := fun z d hz => owns_kept hz r2 (fun g cur hh => own_tag h.row hh (by decide))
      rcases List.mem_append.1 hp with hp | hp
      · exact ⟨hk _ _ (h.own p hp).1, (h.own p hp).2⟩
      · exact ⟨hk _ _ (h2.own p hp).1, (h2.own p hp).2⟩
theorem mix_app {w : World} {v v2 : Value} {ps qs : List (Ent × Value)} {ops : Array Oper} {Q : Act → Cl → Prop} {a : Act} {C : Cl} {i : Nat} {rest : List (Nat × Bool)} {o : Oper} (ho : ops[i]? = some o) (hw : Region.wanted o (yielded ops a.tmps) = true) (s y : Operand)
    (hop : o.op = .call { callee := .builtin .append, args := #[s, y], argTypes := #[22, 22] }) (hs : a.eval s = v) (hy : a.eval y = v2) (hl : (ps.length + qs.length) * 48 ≤ 140737488355328)
    (hE : ∀ W, C.now W → EO w W v ps ∧ EO w W v2 qs)
    (hK : ∀ W, C.now W → ∀ a' c' W', EO w W' (.slice a' (ps.length + qs.length) c') (ps ++ qs) → W.grownBy W' v.ownBlock → Behind C (wpMix Try.prog ops Q rest) (a.put o.dst (.slice a' (ps.length + qs.length) c')) W') : wpMix Try.prog ops Q ((i, false) :: rest) a C :=
  mix_do ho hw (fun W hC => by
    obtain ⟨h1, h2⟩ := hE W hC
    obtain ⟨a', c', W', hrun, heo, hg⟩ := run_append_ee h1 h2 hl s y hop hs hy
    exact ⟨_, W', hrun, hK W hC a' c' W' heo hg⟩)
end Go.Proofs.Ytinpcpojadcegaa.W
