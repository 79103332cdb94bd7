/- watch: entry, knows. -/
import Derived.Test.YtcijjepleedecaaWaI
namespace Go.Proofs.Ytcijjepleedecaa.W
open Go.RowKit Go.Maps
set_option linter.unusedVariables false
set_option linter.unusedSimpArgs false
set_option maxRecDepth 100000
attribute [local go_sem] Oper.semAt_some


set_option maxHeartbeats 2000000 in
theorem entry_any (t i : Nat) (ht : t < 256) (hi : i < 1000) (w : World) : Calls Try.prog 24 #[.int .i64 (t : Nat), .int .i64 (i : Nat)] w fun e w' => ∃ v, e = .returned v ∧ (∃ dv, v = entV (eN t i) dv ∧ Own w' w.heap.size dv [UInt8.ofNat t]) ∧ w.grownBy w' none := by
  go_enter Try.func24, Try.ntmps24
  have hw : IntKind.u8.wrap (t : Int) = t := by simp [IntKind.wrap, IntKind.bits, IntKind.signed]; omega
  go_wp2_with fail
  have hb : Blk ((w.alloc (.cells #[.int .i64 t, .int .i64 i, .int .i64 2, .slice (some ⟨w.heap.size + 1, 0, none⟩) 1 1] 55)).alloc (.cells #[.int .u8 t] 5)) (w.heap.size + 1) #[.int .u8 t] 5 := by
    have := heap_alloc_new (w.alloc (.cells #[.int .i64 t, .int .i64 i, .int .i64 2, .slice (some ⟨w.heap.size + 1, 0, none⟩) 1 1] 55)) (.cells #[.int .u8 t] 5)
    rwa [World.size_alloc] at this
  have he : EB ((w.alloc (.cells #[.int .i64 t, .int .i64 i, .int .i64 2, .slice (some ⟨w.heap.size + 1, 0, none⟩) 1 1] 55)).alloc (.cells #[.int .u8 t] 5)) w.heap.size (eN t i) (.slice (some ⟨w.heap.size + 1, 0, none⟩) 1 1) :=
    EB.kept (show EB (w.alloc (.cells #[.int .i64 t, .int .i64 i, .int .i64 2, .slice (some ⟨w.heap.size + 1, 0, none⟩) 1 1] 55)) w.heap.size (eN t i) _ from heap_alloc_new _ _) (World.grownBy_alloc _ _ none)
  refine bodyPost_ret (ret_ent rfl _ _ _ (eN t i) _ rfl he) rfl ?_
  refine ⟨_, rfl, ⟨_, rfl, rfl, .inr ⟨_, 1, _, rfl, by omega, hb, Nat.le_refl _, by unfold maxLen; omega, rfl, ?_⟩⟩, grown_trans (World.grownBy_alloc _ _ none) (World.grownBy_alloc _ _ none)⟩
  have : (UInt8.ofNat t).toNat = t := by simp; omega
  simp [u8s, this]
def esA : List Ent := [eN 1 1, eN 1 2, eN 2 3]
def esB : List Ent := [eN 1 1, eN 2 2, eN 2 3]
theorem match_AB : matchZ (whB 0 0 esA) (whE 0 0 esA) (whB 0 0 esB) (whE 0 0 esB) = 2 := by rfl
def sn1 : Sn := ⟨1, 3, 0, true, 0, 0, []⟩
def sn2 : Sn := ⟨2, 3, 0, true, 0, 0, []⟩
theorem lead_12 {z : Int} (h : Lead [sn1, sn2] z) : z = 1 := h.one (.inl ⟨1, sn2, rfl, rfl, fun j s hj hs => by
  obtain rfl : j = 0 := by omega
  rfl, rfl⟩)
theorem lead_0 {z : Int} (h : Lead [] z) : z = -1 := h.one (.inr ⟨fineTo_zero _, rfl⟩)

set_option maxHeartbeats 4000000 in
theorem knows_any (w : World) : Calls Try.prog 12 #[] w fun e w' => e = .returned (.bool true) ∧ w.grownBy w' none := by
  go_enter Try.func12, Try.ntmps12
  go_wp2_with fail
  refine (entry_any 1 1 (by omega) (by omega) w).mono ?_
  rintro e w1 ⟨_, rfl, ⟨d1, rfl, ho1⟩, hg1⟩
  obtain ⟨a1, c1, rfl⟩ := ho1.len
  have H1 := hid_mk (And.intro ho1.byt hg1)
  clear ho1 hg1
  unfold entV eN
  go_wp2_with fail
  refine (entry_any 1 2 (by omega) (by omega) w1).mono ?_
  rintro e w2 ⟨_, rfl, ⟨d2, rfl, ho2⟩, hg2⟩
  obtain ⟨a2, c2, rfl⟩ := ho2.len
  have H2 := hid_mk (And.intro ho2.byt hg2)
  clear ho2 hg2
  unfold entV eN
  go_wp2_with fail
  refine (entry_any 2 3 (by omega) (by omega) w2).mono ?_
  rintro e w3 ⟨_, rfl, ⟨d3, rfl, ho3⟩, hg3⟩
  obtain ⟨a3, c3, rfl⟩ := ho3.len
  have H3 := hid_mk (And.intro ho3.byt hg3)
  clear ho3 hg3
  unfold entV eN
  go_wp2_with fail
  have HLA := hid_mk (show EntsR (w3.alloc (.cells #[.int .i64 1, .int .i64 1, .int .i64 2, .slice a1 1 c1, .int .i64 1, .int .i64 2, .int .i64 2, .slice a2 1 c2, .int .i64 2, .int .i64 3, .int .i64 2, .slice a3 1 c3] 55)) (.slice (some ⟨w3.heap.size, 0, none⟩) 3 3) esA ∧ w3.grownBy (w3.alloc (.cells #[.int .i64 1, .int .i64 1, .int .i64 2, .slice a1 1 c1, .int .i64 1, .int .i64 2, .int .i64 2, .slice a2 1 c2, .int .i64 2, .int .i64 3, .int .i64 2, .slice a3 1 c3] 55)) none from by
    have gA := World.grownBy_alloc w3 (.cells #[.int .i64 1, .int .i64 1, .int .i64 2, .slice a1 1 c1, .int .i64 1, .int .i64 2, .int .i64 2, .slice a2 1 c2, .int .i64 2, .int .i64 3, .int .i64 2, .slice a3 1 c3] 55) none
    have hb : Blk (w3.alloc (.cells #[.int .i64 1, .int .i64 1, .int .i64 2, .slice a1 1 c1, .int .i64 1, .int .i64 2, .int .i64 2, .slice a2 1 c2, .int .i64 2, .int .i64 3, .int .i64 2, .slice a3 1 c3] 55)) w3.heap.size (([(eN 1 1, .slice a1 1 c1), (eN 1 2, .slice a2 1 c2), (eN 2 3, .slice a3 1 c3)] : List (Ent × Value)).flatMap entCells).toArray 55 := heap_alloc_new _ _
    refine ⟨ents_blk (ps := [(eN 1 1, .slice a1 1 c1), (eN 1 2, .slice a2 1 c2), (eN 2 3, .slice a3 1 c3)]) hb ?_, gA⟩
    intro p hp
    simp only [List.mem_cons, List.not_mem_nil, or_false] at hp
    rcases hp with rfl | rfl | rfl
    · exact ⟨H1.out.1.kept (grown_trans (grown_trans H2.out.2 H3.out.2) gA), by simp [eN]⟩
    · exact ⟨H2.out.1.kept (grown_trans H3.out.2 gA), by simp [eN]⟩
    · exact ⟨H3.out.1.kept gA, by simp [eN]⟩)

  rw [show Value.agg #[.int .i64 0, .int .i64 0, .slice (some ⟨w3.heap.size, 0, none⟩) 3 3] = viewV 0 0 (.slice (some ⟨w3.heap.size, 0, none⟩) 3 3) from rfl]
  refine (view_any 0 0 _ esA _ HLA.out.1 (by decide)).mono ?_
  rintro e w4 ⟨va, psa, rfl, heo, hmap⟩
  have hra := heo.reads
  rw [hmap] at hra
  obtain ⟨xa, xc, rfl⟩ := hra.len
  have HA4 := hid_mk (show EntsR w4 (.slice xa 3 xc) esA ∧ w.grownBy w4 none from ⟨hra, grown_trans (grown_trans H1.out.2 (grown_trans H2.out.2 H3.out.2)) (grown_trans HLA.out.2 heo.gr)⟩)
  clear hra heo hmap H1 H2 H3 HLA
  rw [show esA.length = 3 from rfl]
  have HB4 := hid_mk (And.intro (VB.new w4 0 0 (.slice xa 3 xc)) (World.grownBy_alloc w4 (.cells #[.int .i64 0, .int .i64 0, .slice xa 3 xc] 26) none))
  unfold viewV
  go_upto_region 2 with fail
  generalize w4.alloc (.cells #[.int .i64 0, .int .i64 0, .slice xa 3 xc] 26) = w5 at *
  obtain ⟨q1, hq1⟩ : ∃ q, q = w4.heap.size := ⟨_, rfl⟩
  rw [← hq1] at HB4 ⊢
  clear hq1
  go_wp2_with fail
  refine (entry_any 1 1 (by omega) (by omega) w5).mono ?_
  rintro e w6 ⟨_, rfl, ⟨d4, rfl, ho4⟩, hg4⟩
  obtain ⟨a4, c4, rfl⟩ := ho4.len
  have H4 := hid_mk (And.intro ho4.byt hg4)
  clear ho4 hg4
  unfold entV eN
  go_wp2_with fail
  refine (entry_any 2 2 (by omega) (by omega) w6).mono ?_
  rintro e w7 ⟨_, rfl, ⟨d5, rfl, ho5⟩, hg5⟩
  obtain ⟨a5, c5, rfl⟩ := ho5.len
  have H5 := hid_mk (And.intro ho5.byt hg5)
  clear ho5 hg5
  unfold entV eN
  go_wp2_with fail
  refine (entry_any 2 3 (by omega) (by omega) w7).mono ?_
  rintro e w8 ⟨_, rfl, ⟨d6, rfl, ho6⟩, hg6⟩
  obtain ⟨a6, c6, rfl⟩ := ho6.len
  have H6 := hid_mk (And.intro ho6.byt hg6)
  clear ho6 hg6
  unfold entV eN
  go_wp2_with fail
  have HLB := hid_mk (show EntsR (w8.alloc (.cells #[.int .i64 1, .int .i64 1, .int .i64 2, .slice a4 1 c4, .int .i64 2, .int .i64 2, .int .i64 2, .slice a5 1 c5, .int .i64 2, .int .i64 3, .int .i64 2, .slice a6 1 c6] 55)) (.slice (some ⟨w8.heap.size, 0, none⟩) 3 3) esB ∧ w8.grownBy (w8.alloc (.cells #[.int .i64 1, .int .i64 1, .int .i64 2, .slice a4 1 c4, .int .i64 2, .int .i64 2, .int .i64 2, .slice a5 1 c5, .int .i64 2, .int .i64 3, .int .i64 2, .slice a6 1 c6] 55)) none from by
    have gA := World.grownBy_alloc w8 (.cells #[.int .i64 1, .int .i64 1, .int .i64 2, .slice a4 1 c4, .int .i64 2, .int .i64 2, .int .i64 2, .slice a5 1 c5, .int .i64 2, .int .i64 3, .int .i64 2, .slice a6 1 c6] 55) none
    have hb : Blk (w8.alloc (.cells #[.int .i64 1, .int .i64 1, .int .i64 2, .slice a4 1 c4, .int .i64 2, .int .i64 2, .int .i64 2, .slice a5 1 c5, .int .i64 2, .int .i64 3, .int .i64 2, .slice a6 1 c6] 55)) w8.heap.size (([(eN 1 1, .slice a4 1 c4), (eN 2 2, .slice a5 1 c5), (eN 2 3, .slice a6 1 c6)] : List (Ent × Value)).flatMap entCells).toArray 55 := heap_alloc_new _ _
    refine ⟨ents_blk (ps := [(eN 1 1, .slice a4 1 c4), (eN 2 2, .slice a5 1 c5), (eN 2 3, .slice a6 1 c6)]) hb ?_, gA⟩
    intro p hp
    simp only [List.mem_cons, List.not_mem_nil, or_false] at hp
    rcases hp with rfl | rfl | rfl
    · exact ⟨H4.out.1.kept (grown_trans (grown_trans H5.out.2 H6.out.2) gA), by simp [eN]⟩
    · exact ⟨H5.out.1.kept (grown_trans H6.out.2 gA), by simp [eN]⟩
    · exact ⟨H6.out.1.kept gA, by simp [eN]⟩)

  rw [show Value.agg #[.int .i64 0, .int .i64 0, .slice (some ⟨w8.heap.size, 0, none⟩) 3 3] = viewV 0 0 (.slice (some ⟨w8.heap.size, 0, none⟩) 3 3) from rfl]
  refine (view_any 0 0 _ esB _ HLB.out.1 (by decide)).mono ?_
  rintro e w9 ⟨vb, psb, rfl, heo, hmap⟩
  have hrb := heo.reads
  rw [hmap] at hrb
  obtain ⟨ya, yc, rfl⟩ := hrb.len
  have hg9 : w5.grownBy w9 none := grown_trans (grown_trans H4.out.2 (grown_trans H5.out.2 H6.out.2)) (grown_trans HLB.out.2 heo.gr)
  have HB9 := hid_mk (show EntsR w9 (.slice xa 3 xc) esA ∧ EntsR w9 (.slice ya 3 yc) esB ∧ VB w9 q1 0 0 (.slice xa 3 xc) ∧ w.grownBy w9 none from ⟨HA4.out.1.kept (grown_trans HB4.out.2 hg9), hrb, HB4.out.1.kept hg9 (by simp), grown_trans HA4.out.2 (grown_trans HB4.out.2 hg9)⟩)
  clear hrb heo hmap hg9 H4 H5 H6 HLB HA4 HB4
  rw [show esB.length = 3 from rfl]
  have HB10 := hid_mk (And.intro (VB.new w9 0 0 (.slice ya 3 yc)) (World.grownBy_alloc w9 (.cells #[.int .i64 0, .int .i64 0, .slice ya 3 yc] 26) none))
  unfold viewV
  go_upto_region 3 with fail
  generalize w9.alloc (.cells #[.int .i64 0, .int .i64 0, .slice ya 3 yc] 26) = w10 at *
  obtain ⟨q2, hq2⟩ : ∃ q, q = w9.heap.size := ⟨_, rfl⟩
  rw [← hq2] at HB10 ⊢
  clear hq2
  obtain ⟨u0, u1, u2⟩ := (HB9.out.2.2.1.kept HB10.out.2 (by simp)).cells
  obtain ⟨x0, x1, x2⟩ := HB10.out.1.cells
  go_wp2_with fail
  rw [show Value.agg #[.int .i64 0, .int .i64 0, .slice xa 3 xc] = viewV 0 0 (.slice xa 3 xc) from rfl, show Value.agg #[.int .i64 0, .int .i64 0, .slice ya 3 yc] = viewV 0 0 (.slice ya 3 yc) from rfl]
  refine (match_any 0 0 _ esA 0 0 _ esB w10 (HB9.out.1.kept HB10.out.2) (HB9.out.2.1.kept HB10.out.2) (by decide) (by decide) ⟨by decide, by decide⟩ ⟨by decide, by decide⟩).mono ?_
  rintro e w11 ⟨rfl, hg⟩
  rw [match_AB]
  have H11 := hid_mk (show w.grownBy w11 none from grown_trans HB9.out.2.2.2 (grown_trans HB10.out.2 hg))
  clear hg u0 u1 u2 x0 x1 x2
  have HSN := hid_mk (show SeensR (w11.alloc (.cells #[.int .i64 1, .int .i64 3, .int .i64 0, .bool true, .int .i64 0, .int .i64 0, .slice none 0 0, .int .i64 2, .int .i64 3, .int .i64 0, .bool true, .int .i64 0, .int .i64 0, .slice none 0 0] 28)) (.slice (some ⟨w11.heap.size, 0, none⟩) 2 2) [(sn1, .slice none 0 0), (sn2, .slice none 0 0)] ∧ w.grownBy (w11.alloc (.cells #[.int .i64 1, .int .i64 3, .int .i64 0, .bool true, .int .i64 0, .int .i64 0, .slice none 0 0, .int .i64 2, .int .i64 3, .int .i64 0, .bool true, .int .i64 0, .int .i64 0, .slice none 0 0] 28)) none from by
    have hb : Blk (w11.alloc (.cells #[.int .i64 1, .int .i64 3, .int .i64 0, .bool true, .int .i64 0, .int .i64 0, .slice none 0 0, .int .i64 2, .int .i64 3, .int .i64 0, .bool true, .int .i64 0, .int .i64 0, .slice none 0 0] 28)) w11.heap.size #[.int .i64 1, .int .i64 3, .int .i64 0, .bool true, .int .i64 0, .int .i64 0, .slice none 0 0, .int .i64 2, .int .i64 3, .int .i64 0, .bool true, .int .i64 0, .int .i64 0, .slice none 0 0] 28 := heap_alloc_new _ _
    refine ⟨.inr ⟨_, 0, 2, rfl, by decide, fun i p hp => ?_⟩, grown_trans H11.out (World.grownBy_alloc _ _ none)⟩
    match i, hp with
    | 0, hp => cases hp; exact ⟨hb.cell 0, hb.cell 1, hb.cell 2, hb.cell 3, hb.cell 4, hb.cell 5, hb.cell 6⟩
    | 1, hp => cases hp; exact ⟨hb.cell 7, hb.cell 8, hb.cell 9, hb.cell 10, hb.cell 11, hb.cell 12, hb.cell 13⟩)
  unfold viewV
  go_wp2_with fail
  refine (leaders_any _ [(sn1, .slice none 0 0), (sn2, .slice none 0 0)] _ HSN.out.1 (by
    intro p hp
    simp only [List.mem_cons, List.not_mem_nil, or_false] at hp
    rcases hp with rfl | rfl
    · exact ⟨⟨⟨by decide, by decide⟩, ⟨by decide, by decide⟩, by decide, by decide⟩, none, 0, 0, rfl⟩
    · exact ⟨⟨⟨by decide, by decide⟩, ⟨by decide, by decide⟩, by decide, by decide⟩, none, 0, 0, rfl⟩) (by decide)).mono ?_
  rintro e w12 ⟨z, rfl, hz, hg⟩
  obtain rfl := lead_12 hz
  have H12 := hid_mk (show w.grownBy w12 none from grown_trans HSN.out.2 hg)
  clear hz hg
  go_wp2_with fail
  refine (leaders_any _ [] w12 (SeensR.nil w12) (by simp) (by decide)).mono ?_
  rintro e w13 ⟨z, rfl, hz, hg⟩
  obtain rfl := lead_0 hz
  have H13 := hid_mk (show w.grownBy w13 none from grown_trans H12.out hg)
  clear hz hg
  go_wp2_with fail
  go_ret
  exact ⟨rfl, H13.out⟩
end Go.Proofs.Ytcijjepleedecaa.W
