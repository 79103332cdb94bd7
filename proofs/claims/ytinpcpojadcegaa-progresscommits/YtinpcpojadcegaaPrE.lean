/- ProgressCommits: the walk. -/
import Derived.Test.YtinpcpojadcegaaPrD
import Derived.Test.YtinpcpojadcegaaErD
namespace Go.Proofs.Ytinpcpojadcegaa.W
open Go.RowKit Go.Maps
set_option linter.unusedVariables false
set_option linter.unusedSimpArgs false
set_option maxRecDepth 100000
attribute [local go_sem] Oper.semAt_some

theorem C_ints {w : World} {v : Value} {l : List Int} (h : C.IntsR w v l) : IntsR w v l := h
theorem OwnI_ints {w : World} {B : Nat} {v : Value} {l : List Int} (h : OwnI w B v l) : C.IntsR w v l := C.OwnI.ints (show C.OwnI w B v l from h)
/-- append([]int{}, l...), as an operation; and where what comes of it lies. -/
theorem run_append_ints2 (w0 W : World) {o : Oper} {a : Act} (s y : Operand) (ho : o.op = .call { callee := .builtin .append, args := #[s, y], argTypes := #[36, 36] }) (hg0 : w0.grownBy W none)
    (v : Value) (hs : a.eval s = v) (hown : OwnI W w0.heap.size v []) (l : List Int) (sv : Value) (hy : a.eval y = sv) (h : IntsR W sv l) (hl : l.length ≤ 17592186044416) :
    ∃ a' c' W', (execOp a.eval o).run Try.prog W = .ok (.value (.slice a' l.length c')) W' ∧ OwnI W' w0.heap.size (.slice a' l.length c') l ∧ w0.grownBy W' none ∧ W.grownBy W' v.ownBlock ∧ ((Value.slice a' l.length c').ownBlock = v.ownBlock ∨ (Value.slice a' l.length c').ownBlock = some W.heap.size) := by
  obtain ⟨i0, hi, hz0, hz1, hz2⟩ := info_parts info3
  have hone : ∀ u ∈ i64s l, u.oneCell' = true := fun u hu => by
    obtain ⟨x, _, rfl⟩ := List.mem_map.1 hu; rfl
  have key : ∀ (ad : Addr) (n c : Nat), sv = .slice (some ad) n c → l.length = n → (∀ j u, (i64s l)[j]? = some u → W.cell? (ad.add j) = some u) →
      ∃ a' c' W', (execOp a.eval o).run Try.prog W = .ok (.value (.slice a' l.length c')) W' ∧ OwnI W' w0.heap.size (.slice a' l.length c') l ∧ w0.grownBy W' none ∧ W.grownBy W' v.ownBlock ∧ ((Value.slice a' l.length c').ownBlock = v.ownBlock ∨ (Value.slice a' l.length c').ownBlock = some W.heap.size) := by
    intro ad n c e hn hcl
    subst hn
    have hown' : W.ownsRow w0.heap.size 3 1 v 0 [] := hown
    obtain ⟨v', w', hrun, r1, r2, _, r4⟩ := run_append_own_at (P := Try.prog) W w0.heap.size 36 o.type 3 i0 (.int .i64 0) 1 8 Try.underlying36 hi hz0 hz1 hz2 rfl (by decide) v 0 [] hown' ad l.length c (i64s l) (by simp [i64s]) hcl hone (by unfold maxLen; omega) (by omega) hg0.size
    simp only [Nat.zero_add, List.nil_append] at r1
    obtain ⟨a', c', rfl⟩ := row_shape r1
    refine ⟨a', c', w', ?_, r1, grown_row hg0 hown' r2, r2, r4⟩
    rw [e] at hy
    simp [execOp, ho, resolve, invoke, builtin, hs, hy, hrun, Result.andThen]
  rcases h with ⟨rfl, a', cap', e, hn⟩ | ⟨b, off, cap', e, _, hcl⟩
  · cases a' with
    | none =>
      obtain rfl := hn rfl
      have hown' : W.ownsRow w0.heap.size 3 1 v 0 [] := hown
      have hrun := run_append_owned_none (P := Try.prog) W w0.heap.size 36 o.type 3 i0 1 Try.underlying36 hi v 0 [] hown'
      obtain ⟨a1, c1, rfl⟩ := row_shape hown'
      refine ⟨a1, c1, W, ?_, hown, hg0, grown_refl _ _, .inl rfl⟩
      rw [e] at hy
      simp [execOp, ho, resolve, invoke, builtin, hs, hy, hrun, Result.andThen]
    | some ad => exact key ad 0 cap' e rfl (fun j u hj => by simp [i64s] at hj)
  · refine key ⟨b, off, none⟩ l.length cap' e rfl (fun j u hj => ?_)
    simp only [i64s, List.getElem?_map, Option.map_eq_some_iff] at hj
    obtain ⟨x, hx, rfl⟩ := hj
    rw [← hcl j x hx, addr_add]
section
variable {X : List PanicEntry → List Deferred → World → Prop} {ops : Array Oper}
/-- An operation that makes memory. -/
theorem bs_do {w W : World} {zs : Array Value} {t : TypeId} {K : Act → Cl → Prop} {a : Act} {i : Nat} {o : Oper} (h : BS w W zs t none) (R : Value → World → World → Prop) (ho : ops[i]? = some o) (hw : Region.wanted o (yielded ops a.tmps) = true)
    (hrun : ∀ W1, W.grownBy W1 none → ∃ v W', (execOp a.eval o).run Try.prog W1 = .ok (.value v) W' ∧ R v W1 W' ∧ w.grownBy W' none)
    (hK : ∀ K' : Act → Cl → Prop, (∀ a C, K a C → K' a C) → ∀ v W1 W', Hid (BS w W' zs t none ∧ W.grownBy W1 none ∧ R v W1 W') → K' (a.put o.dst v) (cl w W')) : mxOpX Try.prog X ops i K a (cl w W) := by
  refine fork_do ho hw ?_
  rintro _ ⟨m, rfl⟩
  obtain ⟨v, W', hr, hR, hg⟩ := hrun (W.drewN m) (grown_drewN W m none)
  exact ⟨v, W', hr, cl_behind hg (hK K (fun _ _ h => h) v _ W' (hid_mk ⟨⟨hg, fun q e => by cases e⟩, grown_drewN W m none, hR⟩))⟩
/-- append([]int{}, l...). -/
theorem bs_app {w W : World} {zs : Array Value} {t : TypeId} {K : Act → Cl → Prop} {a : Act} {i : Nat} {o : Oper} (h : BS w W zs t none) (q : Nat) (l : List Int) (sv : Value) (s y : Operand) (ho : ops[i]? = some o) (hw : Region.wanted o (yielded ops a.tmps) = true) (hop : o.op = .call { callee := .builtin .append, args := #[s, y], argTypes := #[36, 36] })
    (hs : a.eval s = .slice (some ⟨q, 0, none⟩) 0 0) (hy : a.eval y = sv) (hown : OwnI W w.heap.size (.slice (some ⟨q, 0, none⟩) 0 0) []) (hi : IntsR W sv l) (hl : l.length ≤ 17592186044416)
    (hK : ∀ K' : Act → Cl → Prop, (∀ a C, K a C → K' a C) → ∀ v W1 W', Hid (BS w W' zs t none ∧ W.grownBy W1 none ∧ ∃ a' c', v = .slice a' l.length c' ∧ OwnI W' w.heap.size (.slice a' l.length c') l ∧ W1.grownBy W' (some q) ∧ ((Value.slice a' l.length c').ownBlock = some q ∨ (Value.slice a' l.length c').ownBlock = some W1.heap.size)) → K' (a.put o.dst v) (cl w W')) : mxOpX Try.prog X ops i K a (cl w W) := by
  refine bs_do h (fun v W1 W' => ∃ a' c', v = .slice a' l.length c' ∧ OwnI W' w.heap.size (.slice a' l.length c') l ∧ W1.grownBy W' (some q) ∧ ((Value.slice a' l.length c').ownBlock = some q ∨ (Value.slice a' l.length c').ownBlock = some W1.heap.size)) ho hw (fun W1 hW1 => ?_) hK
  obtain ⟨a', c', W', hr, ho', hg, hg', hob⟩ := run_append_ints2 w W1 s y hop (grown_trans h.gr hW1) _ hs (OwnI.kept hown hW1) l sv hy (IntsR.kept hi hW1) hl
  exact ⟨_, W', hr, ⟨a', c', rfl, ho', hg', hob⟩, hg⟩
end

set_option maxHeartbeats 16000000 in
theorem commits_any (b t : Int) (lv : Value) (es : List Ent) (sv mv : Value) (l y : List Int) (commit term : Int) (w : World) (h : EntsR w lv es) (hn : es.length * 48 ≤ 140737488355328) (hb : I64 b) (hs : C.IntsR w sv l) (hm : C.IntsR w mv y) (hl : l.length < 17592186044416) (hly : y.length < 17592186044416) (hc : I64 commit) :
    Calls Try.prog 4 #[viewV b t lv, sv, mv, .int .i64 commit, .int .i64 term] w fun e w' => e = .returned (.bool true) ∧ w.grownBy w' none := by
  obtain ⟨a, c, rfl⟩ := h.len
  obtain ⟨a1, c1, rfl⟩ := hs.len
  obtain ⟨a2, c2, rfl⟩ := hm.len
  have HE := hid_mk (And.intro h (And.intro hb (And.intro hs (And.intro hm hc))))
  clear h hb hs hm hc
  have hV : viewV b t (.slice a es.length c) = .agg #[.int .i64 b, .int .i64 t, .slice a es.length c] := rfl
  have HV := hid_mk hV
  rw [hV]
  clear hV
  have HA := hid_mk (And.intro (RB.new w b t (.slice a es.length c)) (World.grownBy_alloc w (.cells #[.int .i64 b, .int .i64 t, .slice a es.length c] 24) none))
  go_enter Try.func4, Try.ntmps4
  go_upto_region 1 with fail
  generalize w.alloc (.cells #[.int .i64 b, .int .i64 t, .slice a es.length c] 24) = w1 at *
  obtain ⟨v0, v1, v2⟩ := HA.out.1.cells
  go_wp2_with fail
  rw [← HV.out]
  refine (view_any b t _ es w1 (HE.out.1.kept HA.out.2) hn).mono ?_
  rintro e w2 ⟨lv', ps, rfl, heo, hmap⟩
  rw [HV.out]
  obtain ⟨va, vc, hv⟩ := row_shape heo.row
  subst hv
  have hpl : ps.length = es.length := by have := congrArg List.length hmap; simpa using this
  have hrd := heo.reads
  rw [hmap, hpl] at hrd
  rw [hpl]
  have hVn : viewV b t (.slice va es.length vc) = .agg #[.int .i64 b, .int .i64 t, .slice va es.length vc] := rfl
  have HVn := hid_mk hVn
  rw [hVn]
  clear hVn
  have H3 := hid_mk (show EntsR (w2.alloc (.cells #[.int .i64 b, .int .i64 t, .slice va es.length vc] 25)) (.slice va es.length vc) es ∧ VB (w2.alloc (.cells #[.int .i64 b, .int .i64 t, .slice va es.length vc] 25)) w2.heap.size b t (.slice va es.length vc) ∧ RB (w2.alloc (.cells #[.int .i64 b, .int .i64 t, .slice va es.length vc] 25)) w.heap.size b t (.slice a es.length c) ∧ w.grownBy (w2.alloc (.cells #[.int .i64 b, .int .i64 t, .slice va es.length vc] 25)) none from
    ⟨hrd.kept (World.grownBy_alloc _ _ none), VB.new _ _ _ _, HA.out.1.kept (grown_trans heo.gr (World.grownBy_alloc _ _ none)) (by simp), grown_trans (grown_trans HA.out.2 heo.gr) (World.grownBy_alloc _ _ none)⟩)
  clear heo hmap hpl hrd v0 v1 v2 HA
  go_upto_region 2 with fail
  generalize w2.alloc (.cells #[.int .i64 b, .int .i64 t, .slice va es.length vc] 25) = w3 at *
  obtain ⟨p9, hp9⟩ : ∃ p9, p9 = w2.heap.size := ⟨_, rfl⟩
  rw [← hp9] at H3 ⊢
  clear hp9
  have HCL : ∀ W, w3.grownBy W none → W.cell? ⟨p9, 0, none⟩ = some (.int .i64 b) ∧ W.cell? ⟨p9, 1, none⟩ = some (.int .i64 t) ∧ W.cell? ⟨p9, 2, none⟩ = some (.slice va es.length vc) ∧ W.cell? ⟨w.heap.size, 0, none⟩ = some (.int .i64 b) ∧ W.cell? ⟨w.heap.size, 1, none⟩ = some (.int .i64 t) ∧ W.cell? ⟨w.heap.size, 2, none⟩ = some (.slice a es.length c) := fun W hW => by
    obtain ⟨x0, x1, x2⟩ := (H3.out.2.1.kept hW (by simp)).cells
    exact ⟨x0, x1, x2, (H3.out.2.2.1.kept hW (by simp)).cells⟩
  obtain ⟨ZZ, hZZ⟩ : ∃ ZZ, ZZ = commitZ b t es (C.nthP l.length y) commit term := ⟨_, rfl⟩
  have HCC := hid_mk (fun (W : World) (sv mv : Value) (hW : w3.grownBy W none) (h1 : C.IntsR W sv l) (h2 : C.IntsR W mv y) => commit_any b t (.slice va es.length vc) es sv mv l y commit term W (H3.out.1.kept hW) (by omega) HE.out.2.1 h1 h2 (by omega) HE.out.2.2.2.2)
  have HCD := hid_mk (fun (W : World) (hW : w3.grownBy W none) => rcommit_any b t (.slice a es.length c) es (.slice a1 l.length c1) (.slice a2 y.length c2) l y commit term W (HE.out.1.kept (grown_trans H3.out.2.2.2 hW)) (by omega) ⟨HE.out.2.2.1.kept (grown_trans H3.out.2.2.2 hW), by omega⟩ ⟨HE.out.2.2.2.1.kept (grown_trans H3.out.2.2.2 hW), by omega⟩)
  rw [← hZZ] at HCC HCD
  have HSV := hid_mk (fun (W : World) (hW : w3.grownBy W none) => sameV_any b t (.slice va es.length vc) (.slice a es.length c) es W (H3.out.1.kept hW) (HE.out.1.kept (grown_trans H3.out.2.2.2 hW)) (by omega))
  have HI := hid_mk (show C.IntsR w3 (.slice a1 l.length c1) l ∧ C.IntsR w3 (.slice a2 y.length c2) y ∧ True from ⟨HE.out.2.2.1.kept H3.out.2.2.2, HE.out.2.2.2.1.kept H3.out.2.2.2, trivial⟩)
  have HX0 := hid_mk (show BS w3 w3 #[] 0 none from ⟨grown_refl _ _, fun q e => by cases e⟩)
  clear hZZ
  refine wp_region_fork (X := fun _ _ _ => False) [(0, true), (2, true), (5, true), (7, true), (8, true), (10, true), (11, true), (12, true), (13, true), (14, true)] 16 #[true, false, true, false, false, true, false, true, true, false, true, true, true, true, true, false, false, false, false, false, false, false, false, false, false, false] (cl w3 w3) (by kernel_rfl) (by kernel_rfl) rfl (by kernel_rfl) (fun _ _ _ h => h.elim) (shut_at0 (fun mm => grown_drewN _ mm _)) ⟨1, rfl⟩ ?_
  repeat (refine mix_rd1X rfl rfl (fun K hK => ?_); apply Exists.intro; refine ⟨fun W0 hW => ?_, ?_⟩; (obtain ⟨d0, d1, d2, d3, d4, d5⟩ := HCL W0 hW; go_simp; rfl); (go_simp; refine hK _ _ ?_; clear hK K))
  refine mix_nilX ?_
  refine fork2 1 4 (by kernel_rfl) ?_ ?_
  · refine bs_do HX0.out (fun v W1 W' => ∃ q, v = .slice (some ⟨q, 0, none⟩) 0 0 ∧ W1.heap.size ≤ q ∧ OwnI W' w3.heap.size (.slice (some ⟨q, 0, none⟩) 0 0) [] ∧ q < W'.heap.size ∧ W1.grownBy W' none) rfl rfl (fun W1 hW1 => ⟨.slice (some ⟨W1.heap.size, 0, none⟩) 0 0, W1.alloc (.cells #[] 3), by go_simp, ⟨W1.heap.size, rfl, Nat.le_refl _, (ownI_empty W1).base (Nat.le_trans HX0.out.gr.size hW1.size), by simp, World.grownBy_alloc _ _ none⟩, grown_trans HX0.out.gr (grown_trans hW1 (World.grownBy_alloc _ _ none))⟩) ?_
    intro K hK v W1 Wa HH
    obtain ⟨hbs, hg1, q1, hv, hq1, hoq, hql, hg2⟩ := HH.out
    subst hv
    have HY1 := hid_mk hbs
    have GWa := hid_mk (grown_trans hg1 hg2)
    have HQ1 := hid_mk (show OwnI Wa w3.heap.size (.slice (some ⟨q1, 0, none⟩) 0 0) [] ∧ q1 < Wa.heap.size ∧ W1.heap.size ≤ q1 from ⟨hoq, hql, hq1⟩)
    have hz1 : w3.heap.size ≤ q1 := Nat.le_trans hg1.size hq1
    clear hbs hg1 hg2 HH hoq hql hq1
    go_simp
    refine hK _ _ ?_
    clear hK K
    refine fork2 3 4 (by kernel_rfl) ?_ ?_
    · refine bs_app HY1.out q1 l (.slice a1 l.length c1) (.tmp 15) (.tmp 16) rfl rfl rfl (by go_simp) (by go_simp) (HQ1.out.1) (C_ints (HI.out.1.kept HY1.out.gr)) (by omega) ?_
      intro K hK v W1 Wb HH
      obtain ⟨hbs, hg1, s1a, s1c, hv, hon, hg2, hob⟩ := HH.out
      subst hv
      have HY2 := hid_mk hbs
      have HV1 := hid_mk (show OwnI Wb w3.heap.size (.slice s1a l.length s1c) l ∧ Wa.grownBy W1 none ∧ W1.grownBy Wb (some q1) ∧ ((Value.slice s1a l.length s1c).ownBlock = some q1 ∨ (Value.slice s1a l.length s1c).ownBlock = some W1.heap.size) from ⟨hon, hg1, hg2, hob⟩)
      clear hbs hg1 hg2 HH hon hob
      go_simp
      refine hK _ _ ?_
      clear hK K
      refine fork1 4 (by kernel_rfl) ?_
      refine bs_do HY2.out (fun v W1 W' => ∃ q, v = .slice (some ⟨q, 0, none⟩) 0 0 ∧ W1.heap.size ≤ q ∧ OwnI W' w3.heap.size (.slice (some ⟨q, 0, none⟩) 0 0) [] ∧ q < W'.heap.size ∧ W1.grownBy W' none) rfl rfl (fun W1 hW1 => ⟨.slice (some ⟨W1.heap.size, 0, none⟩) 0 0, W1.alloc (.cells #[] 3), by go_simp, ⟨W1.heap.size, rfl, Nat.le_refl _, (ownI_empty W1).base (Nat.le_trans HY2.out.gr.size hW1.size), by simp, World.grownBy_alloc _ _ none⟩, grown_trans HY2.out.gr (grown_trans hW1 (World.grownBy_alloc _ _ none))⟩) ?_
      intro K hK v W1 Wc HH
      obtain ⟨hbs, hg1, q2, hv, hq2, hoq, hql, hg2⟩ := HH.out
      subst hv
      have HY3 := hid_mk hbs
      have GWc := hid_mk (grown_trans hg1 hg2)
      have HQ2 := hid_mk (show OwnI Wc w3.heap.size (.slice (some ⟨q2, 0, none⟩) 0 0) [] ∧ q2 < Wc.heap.size ∧ W1.heap.size ≤ q2 from ⟨hoq, hql, hq2⟩)
      have hz2 : Wb.heap.size ≤ q2 := Nat.le_trans hg1.size hq2
      clear hbs hg1 hg2 HH hoq hql hq2
      go_simp
      refine hK _ _ ?_
      clear hK K
      refine fork1 6 (by kernel_rfl) ?_
      refine bs_app HY3.out q2 y (.slice a2 y.length c2) (.tmp 18) (.tmp 19) rfl rfl rfl (by go_simp) (by go_simp) (HQ2.out.1) (C_ints (HI.out.2.1.kept HY3.out.gr)) (by omega) ?_
      intro K hK v W1 Wd HH
      obtain ⟨hbs, hg1, s2a, s2c, hv, hon, hg2, hob⟩ := HH.out
      subst hv
      have HY4 := hid_mk hbs
      have HV2 := hid_mk (show OwnI Wd w3.heap.size (.slice s2a y.length s2c) y ∧ Wc.grownBy W1 none ∧ W1.grownBy Wd (some q2) ∧ ((Value.slice s2a y.length s2c).ownBlock = some q2 ∨ (Value.slice s2a y.length s2c).ownBlock = some W1.heap.size) from ⟨hon, hg1, hg2, hob⟩)
      clear hbs hg1 hg2 HH hon hob
      go_simp
      refine hK _ _ ?_
      clear hK K
      have HB : Hid (C.IntsR Wd (.slice s1a l.length s1c) l ∧ C.IntsR Wd (.slice s2a y.length s2c) y) := hid_mk ⟨OwnI_ints (row_but (OwnI.kept (OwnI.kept HV1.out.1 GWc.out) HV2.out.2.1) HV2.out.2.2.1 (fun e => by
        have h1 := (row_at HV1.out.1 e).2.1
        omega)), OwnI_ints HV2.out.1⟩
      refine fork1 9 (by kernel_rfl) ?_
      refine bs_call HY4.out 14 #[viewV b t (.slice va es.length vc), .slice s1a l.length s1c, .slice s2a y.length s2c, .int .i64 commit, .int .i64 term] (fun v _ _ => v = .int .i64 ZZ) rfl rfl (fun W => by rw [HVn.out]; go_simp) (fun W1 hW1 => (HCC.out W1 _ _ (grown_trans HY4.out.gr hW1) (HB.out.1.kept hW1) (HB.out.2.kept hW1)).mono (by rintro e W' ⟨rfl, hg⟩; exact ⟨_, rfl, rfl, hg⟩)) ?_
      intro K hK v W1 Wt1 HH
      obtain ⟨hbs, _, _, hv⟩ := HH.out
      subst hv
      have HT1 := hid_mk hbs
      clear hbs HH
      go_simp
      refine hK _ _ ?_
      clear hK K
      refine fork1 15 (by kernel_rfl) ?_
      refine bs_call HT1.out 15 #[viewV b t (.slice a es.length c), .slice a1 l.length c1, .slice a2 y.length c2, .int .i64 commit, .int .i64 term] (fun v _ _ => v = .int .i64 ZZ) rfl rfl (fun W => by rw [HV.out]; go_simp) (fun W1 hW1 => (HCD.out W1 (grown_trans HT1.out.gr hW1)).mono (by rintro e W' ⟨rfl, hg⟩; exact ⟨_, rfl, rfl, hg⟩)) ?_
      intro K hK v W1 Wt2 HH
      obtain ⟨hbs, _, _, hv⟩ := HH.out
      subst hv
      have HT2 := hid_mk hbs
      clear hbs HH
      go_simp
      refine hK _ _ ?_
      clear hK K
      refine reads_first (by kernel_rfl) [(16, true), (17, true), (18, true), (19, true)] 6 10 rfl _ #[true, true, true, true, true, true, true, true, true, true, true, true, true, true, true, true, true, true, true, true, false, false, false, false, false, false] (by kernel_rfl) ?_
      repeat (refine mix_rd1X rfl rfl (fun K hK => ?_); apply Exists.intro; refine ⟨fun W0 hW => ?_, ?_⟩; (obtain ⟨d0, d1, d2, d3, d4, d5⟩ := HCL W0 hW; go_simp; rfl); (go_simp; refine hK _ _ ?_; clear hK K))
      refine mix_nilX ?_
      refine fork1 20 (by kernel_rfl) ?_
      refine bs_call HT2.out 12 #[viewV b t (.slice va es.length vc), viewV b t (.slice a es.length c)] (fun v _ _ => v = .bool true) rfl rfl (fun W => by rw [HVn.out, HV.out]; go_simp) (fun W1 hW1 => (HSV.out W1 (grown_trans HT2.out.gr hW1)).mono (by rintro e W' ⟨rfl, hg⟩; exact ⟨_, rfl, rfl, hg⟩)) ?_
      intro K hK v W1 Wt3 HH
      obtain ⟨hbs, _, _, hv⟩ := HH.out
      subst hv
      have HT3 := hid_mk hbs
      clear hbs HH
      go_simp
      refine hK _ _ ?_
      clear hK K
      refine reads_first (by kernel_rfl) [(21, true), (22, true)] 3 5 rfl _ #[true, true, true, true, true, true, true, true, true, true, true, true, true, true, true, true, true, true, true, true, true, true, true, false, false, false] (by kernel_rfl) ?_
      repeat (refine mix_rd1X rfl rfl (fun K hK => ?_); apply Exists.intro; refine ⟨fun W0 hW => ?_, ?_⟩; (go_simp; rfl); (go_simp; refine hK _ _ ?_; clear hK K))
      refine mix_nilX ?_
      refine fork1 23 (by kernel_rfl) ?_
      refine bs_call HT3.out 13 #[] (fun v _ _ => v = .bool true) rfl rfl (fun W => by go_simp) (fun W1 hW1 => (knows_any W1).mono (by rintro e W' ⟨rfl, hg⟩; exact ⟨_, rfl, rfl, hg⟩)) ?_
      intro K hK v W1 Wt4 HH
      obtain ⟨hbs, _, _, hv⟩ := HH.out
      subst hv
      have HT4 := hid_mk hbs
      clear hbs HH
      go_simp
      refine hK _ _ ?_
      clear hK K
      refine reads_first (by kernel_rfl) [(24, true), (25, true)] 0 2 rfl _ #[true, true, true, true, true, true, true, true, true, true, true, true, true, true, true, true, true, true, true, true, true, true, true, true, true, true] (by kernel_rfl) ?_
      repeat (refine mix_rd1X rfl rfl (fun K hK => ?_); apply Exists.intro; refine ⟨fun W0 hW => ?_, ?_⟩; (go_simp; rfl); (go_simp; refine hK _ _ ?_; clear hK K))
      refine mix_nilX ?_
      refine fork_end (by kernel_rfl) ?_
      rintro Wz ⟨mz, rfl⟩
      go_wp2_with fail
      go_ret
      exact ⟨rfl, grown_trans H3.out.2.2.2 (grown_trans HT4.out.gr (grown_drewN _ mz none))⟩
    · refine bs_do HY1.out (fun v W1 W' => ∃ q, v = .slice (some ⟨q, 0, none⟩) 0 0 ∧ W1.heap.size ≤ q ∧ OwnI W' w3.heap.size (.slice (some ⟨q, 0, none⟩) 0 0) [] ∧ q < W'.heap.size ∧ W1.grownBy W' none) rfl rfl (fun W1 hW1 => ⟨.slice (some ⟨W1.heap.size, 0, none⟩) 0 0, W1.alloc (.cells #[] 3), by go_simp, ⟨W1.heap.size, rfl, Nat.le_refl _, (ownI_empty W1).base (Nat.le_trans HY1.out.gr.size hW1.size), by simp, World.grownBy_alloc _ _ none⟩, grown_trans HY1.out.gr (grown_trans hW1 (World.grownBy_alloc _ _ none))⟩) ?_
      intro K hK v W1 Wb HH
      obtain ⟨hbs, hg1, q2, hv, hq2, hoq, hql, hg2⟩ := HH.out
      subst hv
      have HY2 := hid_mk hbs
      have GWb := hid_mk (grown_trans hg1 hg2)
      have HQ2 := hid_mk (show OwnI Wb w3.heap.size (.slice (some ⟨q2, 0, none⟩) 0 0) [] ∧ q2 < Wb.heap.size ∧ W1.heap.size ≤ q2 from ⟨hoq, hql, hq2⟩)
      have hz2 : Wa.heap.size ≤ q2 := Nat.le_trans hg1.size hq2
      clear hbs hg1 hg2 HH hoq hql hq2
      go_simp
      refine hK _ _ ?_
      clear hK K
      refine fork1 3 (by kernel_rfl) ?_
      refine bs_app HY2.out q1 l (.slice a1 l.length c1) (.tmp 15) (.tmp 16) rfl rfl rfl (by go_simp) (by go_simp) (HQ1.out.1.kept GWb.out) (C_ints (HI.out.1.kept HY2.out.gr)) (by omega) ?_
      intro K hK v W1 Wc HH
      obtain ⟨hbs, hg1, s1a, s1c, hv, hon, hg2, hob⟩ := HH.out
      subst hv
      have HY3 := hid_mk hbs
      have HV1 := hid_mk (show OwnI Wc w3.heap.size (.slice s1a l.length s1c) l ∧ Wb.grownBy W1 none ∧ W1.grownBy Wc (some q1) ∧ ((Value.slice s1a l.length s1c).ownBlock = some q1 ∨ (Value.slice s1a l.length s1c).ownBlock = some W1.heap.size) from ⟨hon, hg1, hg2, hob⟩)
      clear hbs hg1 hg2 HH hon hob
      go_simp
      refine hK _ _ ?_
      clear hK K
      refine fork1 6 (by kernel_rfl) ?_
      refine bs_app HY3.out q2 y (.slice a2 y.length c2) (.tmp 18) (.tmp 19) rfl rfl rfl (by go_simp) (by go_simp) (row_but (HQ2.out.1.kept HV1.out.2.1) HV1.out.2.2.1 (by simp [Value.ownBlock]; have := HQ1.out.2.1; omega)) (C_ints (HI.out.2.1.kept HY3.out.gr)) (by omega) ?_
      intro K hK v W1 Wd HH
      obtain ⟨hbs, hg1, s2a, s2c, hv, hon, hg2, hob⟩ := HH.out
      subst hv
      have HY4 := hid_mk hbs
      have HV2 := hid_mk (show OwnI Wd w3.heap.size (.slice s2a y.length s2c) y ∧ Wc.grownBy W1 none ∧ W1.grownBy Wd (some q2) ∧ ((Value.slice s2a y.length s2c).ownBlock = some q2 ∨ (Value.slice s2a y.length s2c).ownBlock = some W1.heap.size) from ⟨hon, hg1, hg2, hob⟩)
      clear hbs hg1 hg2 HH hon hob
      go_simp
      refine hK _ _ ?_
      clear hK K
      have HB : Hid (C.IntsR Wd (.slice s1a l.length s1c) l ∧ C.IntsR Wd (.slice s2a y.length s2c) y) := hid_mk ⟨OwnI_ints (row_but (OwnI.kept HV1.out.1 HV2.out.2.1) HV2.out.2.2.1 (by
        have h1 := HQ1.out.2.1
        have h2 := HQ2.out.2.1
        have h3 := HV1.out.2.1.size
        rcases HV1.out.2.2.2 with e | e <;> rw [e] <;> simp <;> omega)), OwnI_ints HV2.out.1⟩
      refine fork1 9 (by kernel_rfl) ?_
      refine bs_call HY4.out 14 #[viewV b t (.slice va es.length vc), .slice s1a l.length s1c, .slice s2a y.length s2c, .int .i64 commit, .int .i64 term] (fun v _ _ => v = .int .i64 ZZ) rfl rfl (fun W => by rw [HVn.out]; go_simp) (fun W1 hW1 => (HCC.out W1 _ _ (grown_trans HY4.out.gr hW1) (HB.out.1.kept hW1) (HB.out.2.kept hW1)).mono (by rintro e W' ⟨rfl, hg⟩; exact ⟨_, rfl, rfl, hg⟩)) ?_
      intro K hK v W1 Wt1 HH
      obtain ⟨hbs, _, _, hv⟩ := HH.out
      subst hv
      have HT1 := hid_mk hbs
      clear hbs HH
      go_simp
      refine hK _ _ ?_
      clear hK K
      refine fork1 15 (by kernel_rfl) ?_
      refine bs_call HT1.out 15 #[viewV b t (.slice a es.length c), .slice a1 l.length c1, .slice a2 y.length c2, .int .i64 commit, .int .i64 term] (fun v _ _ => v = .int .i64 ZZ) rfl rfl (fun W => by rw [HV.out]; go_simp) (fun W1 hW1 => (HCD.out W1 (grown_trans HT1.out.gr hW1)).mono (by rintro e W' ⟨rfl, hg⟩; exact ⟨_, rfl, rfl, hg⟩)) ?_
      intro K hK v W1 Wt2 HH
      obtain ⟨hbs, _, _, hv⟩ := HH.out
      subst hv
      have HT2 := hid_mk hbs
      clear hbs HH
      go_simp
      refine hK _ _ ?_
      clear hK K
      refine reads_first (by kernel_rfl) [(16, true), (17, true), (18, true), (19, true)] 6 10 rfl _ #[true, true, true, true, true, true, true, true, true, true, true, true, true, true, true, true, true, true, true, true, false, false, false, false, false, false] (by kernel_rfl) ?_
      repeat (refine mix_rd1X rfl rfl (fun K hK => ?_); apply Exists.intro; refine ⟨fun W0 hW => ?_, ?_⟩; (obtain ⟨d0, d1, d2, d3, d4, d5⟩ := HCL W0 hW; go_simp; rfl); (go_simp; refine hK _ _ ?_; clear hK K))
      refine mix_nilX ?_
      refine fork1 20 (by kernel_rfl) ?_
      refine bs_call HT2.out 12 #[viewV b t (.slice va es.length vc), viewV b t (.slice a es.length c)] (fun v _ _ => v = .bool true) rfl rfl (fun W => by rw [HVn.out, HV.out]; go_simp) (fun W1 hW1 => (HSV.out W1 (grown_trans HT2.out.gr hW1)).mono (by rintro e W' ⟨rfl, hg⟩; exact ⟨_, rfl, rfl, hg⟩)) ?_
      intro K hK v W1 Wt3 HH
      obtain ⟨hbs, _, _, hv⟩ := HH.out
      subst hv
      have HT3 := hid_mk hbs
      clear hbs HH
      go_simp
      refine hK _ _ ?_
      clear hK K
      refine reads_first (by kernel_rfl) [(21, true), (22, true)] 3 5 rfl _ #[true, true, true, true, true, true, true, true, true, true, true, true, true, true, true, true, true, true, true, true, true, true, true, false, false, false] (by kernel_rfl) ?_
      repeat (refine mix_rd1X rfl rfl (fun K hK => ?_); apply Exists.intro; refine ⟨fun W0 hW => ?_, ?_⟩; (go_simp; rfl); (go_simp; refine hK _ _ ?_; clear hK K))
      refine mix_nilX ?_
      refine fork1 23 (by kernel_rfl) ?_
      refine bs_call HT3.out 13 #[] (fun v _ _ => v = .bool true) rfl rfl (fun W => by go_simp) (fun W1 hW1 => (knows_any W1).mono (by rintro e W' ⟨rfl, hg⟩; exact ⟨_, rfl, rfl, hg⟩)) ?_
      intro K hK v W1 Wt4 HH
      obtain ⟨hbs, _, _, hv⟩ := HH.out
      subst hv
      have HT4 := hid_mk hbs
      clear hbs HH
      go_simp
      refine hK _ _ ?_
      clear hK K
      refine reads_first (by kernel_rfl) [(24, true), (25, true)] 0 2 rfl _ #[true, true, true, true, true, true, true, true, true, true, true, true, true, true, true, true, true, true, true, true, true, true, true, true, true, true] (by kernel_rfl) ?_
      repeat (refine mix_rd1X rfl rfl (fun K hK => ?_); apply Exists.intro; refine ⟨fun W0 hW => ?_, ?_⟩; (go_simp; rfl); (go_simp; refine hK _ _ ?_; clear hK K))
      refine mix_nilX ?_
      refine fork_end (by kernel_rfl) ?_
      rintro Wz ⟨mz, rfl⟩
      go_wp2_with fail
      go_ret
      exact ⟨rfl, grown_trans H3.out.2.2.2 (grown_trans HT4.out.gr (grown_drewN _ mz none))⟩
  · refine bs_do HX0.out (fun v W1 W' => ∃ q, v = .slice (some ⟨q, 0, none⟩) 0 0 ∧ W1.heap.size ≤ q ∧ OwnI W' w3.heap.size (.slice (some ⟨q, 0, none⟩) 0 0) [] ∧ q < W'.heap.size ∧ W1.grownBy W' none) rfl rfl (fun W1 hW1 => ⟨.slice (some ⟨W1.heap.size, 0, none⟩) 0 0, W1.alloc (.cells #[] 3), by go_simp, ⟨W1.heap.size, rfl, Nat.le_refl _, (ownI_empty W1).base (Nat.le_trans HX0.out.gr.size hW1.size), by simp, World.grownBy_alloc _ _ none⟩, grown_trans HX0.out.gr (grown_trans hW1 (World.grownBy_alloc _ _ none))⟩) ?_
    intro K hK v W1 Wa HH
    obtain ⟨hbs, hg1, q2, hv, hq2, hoq, hql, hg2⟩ := HH.out
    subst hv
    have HY1 := hid_mk hbs
    have GWa := hid_mk (grown_trans hg1 hg2)
    have HQ2 := hid_mk (show OwnI Wa w3.heap.size (.slice (some ⟨q2, 0, none⟩) 0 0) [] ∧ q2 < Wa.heap.size ∧ W1.heap.size ≤ q2 from ⟨hoq, hql, hq2⟩)
    have hz2 : w3.heap.size ≤ q2 := Nat.le_trans hg1.size hq2
    clear hbs hg1 hg2 HH hoq hql hq2
    go_simp
    refine hK _ _ ?_
    clear hK K
    refine fork1 1 (by kernel_rfl) ?_
    refine bs_do HY1.out (fun v W1 W' => ∃ q, v = .slice (some ⟨q, 0, none⟩) 0 0 ∧ W1.heap.size ≤ q ∧ OwnI W' w3.heap.size (.slice (some ⟨q, 0, none⟩) 0 0) [] ∧ q < W'.heap.size ∧ W1.grownBy W' none) rfl rfl (fun W1 hW1 => ⟨.slice (some ⟨W1.heap.size, 0, none⟩) 0 0, W1.alloc (.cells #[] 3), by go_simp, ⟨W1.heap.size, rfl, Nat.le_refl _, (ownI_empty W1).base (Nat.le_trans HY1.out.gr.size hW1.size), by simp, World.grownBy_alloc _ _ none⟩, grown_trans HY1.out.gr (grown_trans hW1 (World.grownBy_alloc _ _ none))⟩) ?_
    intro K hK v W1 Wb HH
    obtain ⟨hbs, hg1, q1, hv, hq1, hoq, hql, hg2⟩ := HH.out
    subst hv
    have HY2 := hid_mk hbs
    have GWb := hid_mk (grown_trans hg1 hg2)
    have HQ1 := hid_mk (show OwnI Wb w3.heap.size (.slice (some ⟨q1, 0, none⟩) 0 0) [] ∧ q1 < Wb.heap.size ∧ W1.heap.size ≤ q1 from ⟨hoq, hql, hq1⟩)
    have hz1 : Wa.heap.size ≤ q1 := Nat.le_trans hg1.size hq1
    clear hbs hg1 hg2 HH hoq hql hq1
    go_simp
    refine hK _ _ ?_
    clear hK K
    refine fork1 3 (by kernel_rfl) ?_
    refine bs_app HY2.out q1 l (.slice a1 l.length c1) (.tmp 15) (.tmp 16) rfl rfl rfl (by go_simp) (by go_simp) (HQ1.out.1) (C_ints (HI.out.1.kept HY2.out.gr)) (by omega) ?_
    intro K hK v W1 Wc HH
    obtain ⟨hbs, hg1, s1a, s1c, hv, hon, hg2, hob⟩ := HH.out
    subst hv
    have HY3 := hid_mk hbs
    have HV1 := hid_mk (show OwnI Wc w3.heap.size (.slice s1a l.length s1c) l ∧ Wb.grownBy W1 none ∧ W1.grownBy Wc (some q1) ∧ ((Value.slice s1a l.length s1c).ownBlock = some q1 ∨ (Value.slice s1a l.length s1c).ownBlock = some W1.heap.size) from ⟨hon, hg1, hg2, hob⟩)
    clear hbs hg1 hg2 HH hon hob
    go_simp
    refine hK _ _ ?_
    clear hK K
    refine fork1 6 (by kernel_rfl) ?_
    refine bs_app HY3.out q2 y (.slice a2 y.length c2) (.tmp 18) (.tmp 19) rfl rfl rfl (by go_simp) (by go_simp) (row_but (OwnI.kept (HQ2.out.1.kept GWb.out) HV1.out.2.1) HV1.out.2.2.1 (by simp [Value.ownBlock]; have := HQ2.out.2.1; omega)) (C_ints (HI.out.2.1.kept HY3.out.gr)) (by omega) ?_
    intro K hK v W1 Wd HH
    obtain ⟨hbs, hg1, s2a, s2c, hv, hon, hg2, hob⟩ := HH.out
    subst hv
    have HY4 := hid_mk hbs
    have HV2 := hid_mk (show OwnI Wd w3.heap.size (.slice s2a y.length s2c) y ∧ Wc.grownBy W1 none ∧ W1.grownBy Wd (some q2) ∧ ((Value.slice s2a y.length s2c).ownBlock = some q2 ∨ (Value.slice s2a y.length s2c).ownBlock = some W1.heap.size) from ⟨hon, hg1, hg2, hob⟩)
    clear hbs hg1 hg2 HH hon hob
    go_simp
    refine hK _ _ ?_
    clear hK K
    have HB : Hid (C.IntsR Wd (.slice s1a l.length s1c) l ∧ C.IntsR Wd (.slice s2a y.length s2c) y) := hid_mk ⟨OwnI_ints (row_but (OwnI.kept HV1.out.1 HV2.out.2.1) HV2.out.2.2.1 (by
      have h1 := HQ2.out.2.1
      have h2 := GWb.out.size
      have h3 := HV1.out.2.1.size
      rcases HV1.out.2.2.2 with e | e <;> rw [e] <;> simp <;> omega)), OwnI_ints HV2.out.1⟩
    refine fork1 9 (by kernel_rfl) ?_
    refine bs_call HY4.out 14 #[viewV b t (.slice va es.length vc), .slice s1a l.length s1c, .slice s2a y.length s2c, .int .i64 commit, .int .i64 term] (fun v _ _ => v = .int .i64 ZZ) rfl rfl (fun W => by rw [HVn.out]; go_simp) (fun W1 hW1 => (HCC.out W1 _ _ (grown_trans HY4.out.gr hW1) (HB.out.1.kept hW1) (HB.out.2.kept hW1)).mono (by rintro e W' ⟨rfl, hg⟩; exact ⟨_, rfl, rfl, hg⟩)) ?_
    intro K hK v W1 Wt1 HH
    obtain ⟨hbs, _, _, hv⟩ := HH.out
    subst hv
    have HT1 := hid_mk hbs
    clear hbs HH
    go_simp
    refine hK _ _ ?_
    clear hK K
    refine fork1 15 (by kernel_rfl) ?_
    refine bs_call HT1.out 15 #[viewV b t (.slice a es.length c), .slice a1 l.length c1, .slice a2 y.length c2, .int .i64 commit, .int .i64 term] (fun v _ _ => v = .int .i64 ZZ) rfl rfl (fun W => by rw [HV.out]; go_simp) (fun W1 hW1 => (HCD.out W1 (grown_trans HT1.out.gr hW1)).mono (by rintro e W' ⟨rfl, hg⟩; exact ⟨_, rfl, rfl, hg⟩)) ?_
    intro K hK v W1 Wt2 HH
    obtain ⟨hbs, _, _, hv⟩ := HH.out
    subst hv
    have HT2 := hid_mk hbs
    clear hbs HH
    go_simp
    refine hK _ _ ?_
    clear hK K
    refine reads_first (by kernel_rfl) [(16, true), (17, true), (18, true), (19, true)] 6 10 rfl _ #[true, true, true, true, true, true, true, true, true, true, true, true, true, true, true, true, true, true, true, true, false, false, false, false, false, false] (by kernel_rfl) ?_
    repeat (refine mix_rd1X rfl rfl (fun K hK => ?_); apply Exists.intro; refine ⟨fun W0 hW => ?_, ?_⟩; (obtain ⟨d0, d1, d2, d3, d4, d5⟩ := HCL W0 hW; go_simp; rfl); (go_simp; refine hK _ _ ?_; clear hK K))
    refine mix_nilX ?_
    refine fork1 20 (by kernel_rfl) ?_
    refine bs_call HT2.out 12 #[viewV b t (.slice va es.length vc), viewV b t (.slice a es.length c)] (fun v _ _ => v = .bool true) rfl rfl (fun W => by rw [HVn.out, HV.out]; go_simp) (fun W1 hW1 => (HSV.out W1 (grown_trans HT2.out.gr hW1)).mono (by rintro e W' ⟨rfl, hg⟩; exact ⟨_, rfl, rfl, hg⟩)) ?_
    intro K hK v W1 Wt3 HH
    obtain ⟨hbs, _, _, hv⟩ := HH.out
    subst hv
    have HT3 := hid_mk hbs
    clear hbs HH
    go_simp
    refine hK _ _ ?_
    clear hK K
    refine reads_first (by kernel_rfl) [(21, true), (22, true)] 3 5 rfl _ #[true, true, true, true, true, true, true, true, true, true, true, true, true, true, true, true, true, true, true, true, true, true, true, false, false, false] (by kernel_rfl) ?_
    repeat (refine mix_rd1X rfl rfl (fun K hK => ?_); apply Exists.intro; refine ⟨fun W0 hW => ?_, ?_⟩; (go_simp; rfl); (go_simp; refine hK _ _ ?_; clear hK K))
    refine mix_nilX ?_
    refine fork1 23 (by kernel_rfl) ?_
    refine bs_call HT3.out 13 #[] (fun v _ _ => v = .bool true) rfl rfl (fun W => by go_simp) (fun W1 hW1 => (knows_any W1).mono (by rintro e W' ⟨rfl, hg⟩; exact ⟨_, rfl, rfl, hg⟩)) ?_
    intro K hK v W1 Wt4 HH
    obtain ⟨hbs, _, _, hv⟩ := HH.out
    subst hv
    have HT4 := hid_mk hbs
    clear hbs HH
    go_simp
    refine hK _ _ ?_
    clear hK K
    refine reads_first (by kernel_rfl) [(24, true), (25, true)] 0 2 rfl _ #[true, true, true, true, true, true, true, true, true, true, true, true, true, true, true, true, true, true, true, true, true, true, true, true, true, true] (by kernel_rfl) ?_
    repeat (refine mix_rd1X rfl rfl (fun K hK => ?_); apply Exists.intro; refine ⟨fun W0 hW => ?_, ?_⟩; (go_simp; rfl); (go_simp; refine hK _ _ ?_; clear hK K))
    refine mix_nilX ?_
    refine fork_end (by kernel_rfl) ?_
    rintro Wz ⟨mz, rfl⟩
    go_wp2_with fail
    go_ret
    exact ⟨rfl, grown_trans H3.out.2.2.2 (grown_trans HT4.out.gr (grown_drewN _ mz none))⟩
end Go.Proofs.Ytinpcpojadcegaa.W
