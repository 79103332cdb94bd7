/- knows. -/
import Derived.Test.YtinpcpojadcegaaPrC
namespace Go.Proofs.Ytinpcpojadcegaa.W
open Go.RowKit Go.Maps
set_option linter.unusedVariables false
set_option linter.unusedSimpArgs false
set_option maxRecDepth 100000
attribute [local go_sem] Oper.semAt_some

theorem nth_330 : C.nthP 3 [3, 3, 0] = 3 := by
  unfold C.nthP
  rw [if_neg (by decide)]
  exact C.nth_is _ (by decide) (by decide) (by decide)
theorem com_2 : commitZ 0 0 es3 3 0 2 = 3 := by rw [commitZ_go (by decide) rfl]; rfl
theorem com_1 : commitZ 0 0 es3 3 0 1 = 2 := by rw [commitZ_go (by decide) rfl]; rfl
theorem com_3 : commitZ 0 0 es3 3 0 3 = 0 := by rw [commitZ_go (by decide) rfl]; rfl
theorem field_peer (n m : Int) (w : World) : (Instr.field 42 (.agg #[.int .i64 n, .int .i64 m]) 0).run Try.prog w = .ok (.int .i64 n) w := by
  simp [Instr.field, go_sem, asAgg, Result.andThen]
set_option maxHeartbeats 8000000 in
theorem knows_any (w : World) : Calls Try.prog 13 #[] w fun e w' => e = .returned (.bool true) ∧ w.grownBy w' none := by
  go_enter Try.func13, Try.ntmps13
  go_wp2_with fail
  refine (entry_any 1 1 (by omega) (by omega) w).mono ?_
  rintro e w1 ⟨_, rfl, ⟨d1, rfl, ho1⟩, hg1⟩
  obtain ⟨a1, c1, rfl⟩ := ho1.len
  have H1 := hid_mk (And.intro ho1.byt hg1)
  clear ho1 hg1
  unfold entV eN
  go_wp2_with fail
  refine (entry_any 1 2 (by omega) (by omega) w1).mono ?_
  rintro e w2 ⟨_, rfl, ⟨d2, rfl, ho2⟩, hg2⟩
  obtain ⟨a2, c2, rfl⟩ := ho2.len
  have H2 := hid_mk (And.intro ho2.byt hg2)
  clear ho2 hg2
  unfold entV eN
  go_wp2_with fail
  refine (entry_any 2 3 (by omega) (by omega) w2).mono ?_
  rintro e w3 ⟨_, rfl, ⟨d3, rfl, ho3⟩, hg3⟩
  obtain ⟨a3, c3, rfl⟩ := ho3.len
  have H3 := hid_mk (And.intro ho3.byt hg3)
  clear ho3 hg3
  unfold entV eN
  have H4 := hid_mk (show EntsR (w3.alloc (.cells #[.int .i64 1, .int .i64 1, .int .i64 2, .slice a1 1 c1, .int .i64 1, .int .i64 2, .int .i64 2, .slice a2 1 c2, .int .i64 2, .int .i64 3, .int .i64 2, .slice a3 1 c3] 54)) (.slice (some ⟨w3.heap.size, 0, none⟩) 3 3) es3 ∧ w.grownBy (w3.alloc (.cells #[.int .i64 1, .int .i64 1, .int .i64 2, .slice a1 1 c1, .int .i64 1, .int .i64 2, .int .i64 2, .slice a2 1 c2, .int .i64 2, .int .i64 3, .int .i64 2, .slice a3 1 c3] 54)) none from by
    have gA := World.grownBy_alloc w3 (.cells #[.int .i64 1, .int .i64 1, .int .i64 2, .slice a1 1 c1, .int .i64 1, .int .i64 2, .int .i64 2, .slice a2 1 c2, .int .i64 2, .int .i64 3, .int .i64 2, .slice a3 1 c3] 54) none
    refine ⟨?_, grown_trans (grown_trans H1.out.2 (grown_trans H2.out.2 H3.out.2)) gA⟩
    have hb : Blk (w3.alloc (.cells #[.int .i64 1, .int .i64 1, .int .i64 2, .slice a1 1 c1, .int .i64 1, .int .i64 2, .int .i64 2, .slice a2 1 c2, .int .i64 2, .int .i64 3, .int .i64 2, .slice a3 1 c3] 54)) w3.heap.size (([(eN 1 1, .slice a1 1 c1), (eN 1 2, .slice a2 1 c2), (eN 2 3, .slice a3 1 c3)] : List (Ent × Value)).flatMap entCells).toArray 54 := heap_alloc_new w3 _
    refine ents_blk (ps := [(eN 1 1, .slice a1 1 c1), (eN 1 2, .slice a2 1 c2), (eN 2 3, .slice a3 1 c3)]) hb ?_
    intro p hp
    simp only [List.mem_cons, List.not_mem_nil, or_false] at hp
    rcases hp with rfl | rfl | rfl
    · exact ⟨H1.out.1.kept (grown_trans (grown_trans H2.out.2 H3.out.2) gA), by simp [eN]⟩
    · exact ⟨H2.out.1.kept (grown_trans H3.out.2 gA), by simp [eN]⟩
    · exact ⟨H3.out.1.kept gA, by simp [eN]⟩)
  clear H1 H2 H3
  go_wp2_with fail
  generalize w3.alloc (.cells #[.int .i64 1, .int .i64 1, .int .i64 2, .slice a1 1 c1, .int .i64 1, .int .i64 2, .int .i64 2, .slice a2 1 c2, .int .i64 2, .int .i64 3, .int .i64 2, .slice a3 1 c3] 54) = w4 at *
  refine (view_any 0 0 _ es3 w4 H4.out.1 (by decide)).mono ?_
  rintro e w5 ⟨lv', ps, rfl, heo, hmap⟩
  obtain ⟨va, vc, hv⟩ := row_shape heo.row
  subst hv
  have hpl : ps.length = 3 := by have := congrArg List.length hmap; rw [List.length_map] at this; exact this
  have hrd := heo.reads
  rw [hmap, hpl] at hrd
  rw [hpl]
  have hVn : viewV 0 0 (.slice va 3 vc) = .agg #[.int .i64 0, .int .i64 0, .slice va 3 vc] := rfl
  have HVn := hid_mk hVn
  rw [hVn]
  clear hVn
  have H5 := hid_mk (And.intro hrd (grown_trans H4.out.2 heo.gr))
  clear heo hmap hpl hrd H4
  go_upto_region 4 with fail
  have H6 := hid_mk (show EntsR (((w5.alloc (.cells #[.int .i64 0, .int .i64 0, .slice va 3 vc] 25)).alloc (.cells #[.int .i64 0, .int .i64 1, .int .i64 2] 3)).alloc (.cells #[.int .i64 3, .int .i64 3, .int .i64 0] 3)) (.slice va 3 vc) es3 ∧ VB (((w5.alloc (.cells #[.int .i64 0, .int .i64 0, .slice va 3 vc] 25)).alloc (.cells #[.int .i64 0, .int .i64 1, .int .i64 2] 3)).alloc (.cells #[.int .i64 3, .int .i64 3, .int .i64 0] 3)) w5.heap.size 0 0 (.slice va 3 vc) ∧ C.IntsR (((w5.alloc (.cells #[.int .i64 0, .int .i64 0, .slice va 3 vc] 25)).alloc (.cells #[.int .i64 0, .int .i64 1, .int .i64 2] 3)).alloc (.cells #[.int .i64 3, .int .i64 3, .int .i64 0] 3)) (.slice (some ⟨w5.heap.size + 1, 0, none⟩) 3 3) [0, 1, 2] ∧ C.IntsR (((w5.alloc (.cells #[.int .i64 0, .int .i64 0, .slice va 3 vc] 25)).alloc (.cells #[.int .i64 0, .int .i64 1, .int .i64 2] 3)).alloc (.cells #[.int .i64 3, .int .i64 3, .int .i64 0] 3)) (.slice (some ⟨w5.heap.size + 1 + 1, 0, none⟩) 3 3) [3, 3, 0] ∧ w.grownBy (((w5.alloc (.cells #[.int .i64 0, .int .i64 0, .slice va 3 vc] 25)).alloc (.cells #[.int .i64 0, .int .i64 1, .int .i64 2] 3)).alloc (.cells #[.int .i64 3, .int .i64 3, .int .i64 0] 3)) none from by
    have gA := World.grownBy_alloc w5 (.cells #[.int .i64 0, .int .i64 0, .slice va 3 vc] 25) none
    have gB := World.grownBy_alloc (w5.alloc (.cells #[.int .i64 0, .int .i64 0, .slice va 3 vc] 25)) (.cells #[.int .i64 0, .int .i64 1, .int .i64 2] 3) none
    have gC := World.grownBy_alloc ((w5.alloc (.cells #[.int .i64 0, .int .i64 0, .slice va 3 vc] 25)).alloc (.cells #[.int .i64 0, .int .i64 1, .int .i64 2] 3)) (.cells #[.int .i64 3, .int .i64 3, .int .i64 0] 3) none
    have i1 := C.ints_new (w5.alloc (.cells #[.int .i64 0, .int .i64 0, .slice va 3 vc] 25)) [0, 1, 2] 3 #[.int .i64 0, .int .i64 1, .int .i64 2] rfl
    have i2 := C.ints_new ((w5.alloc (.cells #[.int .i64 0, .int .i64 0, .slice va 3 vc] 25)).alloc (.cells #[.int .i64 0, .int .i64 1, .int .i64 2] 3)) [3, 3, 0] 3 #[.int .i64 3, .int .i64 3, .int .i64 0] rfl
    simp only [World.size_alloc] at i1 i2
    exact ⟨H5.out.1.kept (grown_trans gA (grown_trans gB gC)), ((VB.new w5 0 0 (.slice va 3 vc)).kept gB (by simp)).kept gC (by simp), i1.kept gC, i2, grown_trans H5.out.2 (grown_trans gA (grown_trans gB gC))⟩)
  clear H5
  generalize ((w5.alloc (.cells #[.int .i64 0, .int .i64 0, .slice va 3 vc] 25)).alloc (.cells #[.int .i64 0, .int .i64 1, .int .i64 2] 3)).alloc (.cells #[.int .i64 3, .int .i64 3, .int .i64 0] 3) = w6 at *
  obtain ⟨p1, hp1⟩ : ∃ g, g = w5.heap.size := ⟨_, rfl⟩
  rw [← hp1] at H6 ⊢
  clear hp1
  have HC2 := hid_mk (fun W (hW : w6.grownBy W none) => commit_any 0 0 (.slice va 3 vc) es3 (.slice (some ⟨p1 + 1, 0, none⟩) 3 3) (.slice (some ⟨p1 + 1 + 1, 0, none⟩) 3 3) [0, 1, 2] [3, 3, 0] 0 2 W (H6.out.1.kept hW) (by decide) (by unfold I64; omega) (H6.out.2.2.1.kept hW) (H6.out.2.2.2.1.kept hW) (by decide) (by unfold I64; omega))
  have HC1 := hid_mk (fun W (hW : w6.grownBy W none) => commit_any 0 0 (.slice va 3 vc) es3 (.slice (some ⟨p1 + 1, 0, none⟩) 3 3) (.slice (some ⟨p1 + 1 + 1, 0, none⟩) 3 3) [0, 1, 2] [3, 3, 0] 0 1 W (H6.out.1.kept hW) (by decide) (by unfold I64; omega) (H6.out.2.2.1.kept hW) (H6.out.2.2.2.1.kept hW) (by decide) (by unfold I64; omega))
  have HC3 := hid_mk (fun W (hW : w6.grownBy W none) => commit_any 0 0 (.slice va 3 vc) es3 (.slice (some ⟨p1 + 1, 0, none⟩) 3 3) (.slice (some ⟨p1 + 1 + 1, 0, none⟩) 3 3) [0, 1, 2] [3, 3, 0] 0 3 W (H6.out.1.kept hW) (by decide) (by unfold I64; omega) (H6.out.2.2.1.kept hW) (H6.out.2.2.2.1.kept hW) (by decide) (by unfold I64; omega))
  rw [show ([0, 1, 2] : List Int).length = 3 from rfl, nth_330] at HC1 HC2 HC3
  rw [com_2] at HC2
  rw [com_1] at HC1
  rw [com_3] at HC3
  rw [HVn.out] at HC1 HC2 HC3
  have HCL : ∀ W, w6.grownBy W none → W.cell? ⟨p1, 0, none⟩ = some (.int .i64 0) ∧ W.cell? ⟨p1, 1, none⟩ = some (.int .i64 0) ∧ W.cell? ⟨p1, 2, none⟩ = some (.slice va 3 vc) := fun W hW => (H6.out.2.1.kept hW (by simp)).cells
  obtain ⟨d0, d1, d2⟩ := HCL w6 (grown_refl _ _)
  go_wp2_with fail
  refine (HC2.out w6 (grown_refl _ _)).mono ?_
  rintro e w7 ⟨rfl, hg⟩
  have G7 := hid_mk hg
  clear hg d0 d1 d2 HC2
  obtain ⟨d0, d1, d2⟩ := HCL w7 G7.out
  go_wp2_with fail
  refine (HC1.out w7 G7.out).mono ?_
  rintro e w8 ⟨rfl, hg⟩
  have G8 := hid_mk (grown_trans G7.out hg)
  clear hg d0 d1 d2 HC1 G7
  obtain ⟨d0, d1, d2⟩ := HCL w8 G8.out
  go_wp2_with fail
  refine (HC3.out w8 G8.out).mono ?_
  rintro e w9 ⟨rfl, hg⟩
  have G9 := hid_mk (grown_trans G8.out hg)
  clear hg d0 d1 d2 HC3 G8
  go_wp2_with fail
  refine (begin_any 4 (by unfold J64; omega) w9).mono ?_
  rintro e wA ⟨rfl, hg⟩
  rw [show peerV (behZ (max 4 0)) 0 = .agg #[.int .i64 5, .int .i64 0] from rfl]
  have GA := hid_mk (grown_trans G9.out hg)
  clear hg G9
  have HF := fun W => field_peer 5 0 W
  go_wp2_with fail
  go_ret
  exact ⟨rfl, grown_trans H6.out.2.2.2.2 GA.out⟩
end Go.Proofs.Ytinpcpojadcegaa.W
