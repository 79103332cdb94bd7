/- MessageGets: its walk. -/
import Derived.Test.YtliefofdlpljaaaDoorBk
import Derived.Test.YtliefofdlpljaaaDoorRg
namespace Go.Proofs.YtliefofdlpljaaaDoor
open Go.RowKit Go.Maps
set_option linter.unusedVariables false
set_option linter.unusedSimpArgs false

theorem gotM_lens (b : List UInt8) : (gotM b).srv.length ≤ 140737488355328 ∧ (gotM b).ents.length ≤ 140737488355328 := by
  cases h : gOk b with
  | false => rw [(gotM_bad h).1]; exact ⟨by simp [noM], by simp [noM]⟩
  | true =>
    rw [(gotM_ok h).1]
    have hr := (getM_get h).1
    have h2 := chk_ne (chk_of hr)
    refine ⟨?_, by omega⟩
    obtain ⟨_, p2, _, _⟩ := gM_parts b _ rfl
    rw [p2]
    split
    · rename_i h5
      have := (rightS_mem (getOk_get (((gOk_split b 5 h5).1 h).1.2.2.1 rfl)).1).2.1
      omega
    · simp

set_option maxRecDepth 100000 in
set_option maxHeartbeats 8000000 in
theorem gets_any (bv : Value) (b : List UInt8) (w : World) (hby : Byt w bv b) (hbl : b.length ≤ 1000000000000) (hsp : Spans w) :
    Calls Tryd.prog 4 #[bv] w fun e w' => e = .returned (.bool true) ∧ w.grownBy w' none := by
  have qb := hby.len
  have HBY := hid_mk hby
  have HP := hid_mk hsp
  have HCB := hid_mk (cap_any hbl)
  have HLN := hid_mk (gotM_lens b)
  clear hsp hby
  obtain ⟨ab, cb, rfl⟩ := qb
  go_enter Tryd.func4, Tryd.ntmps4
  go_wp2_with fail
  refine (lent_any _ b w HBY.out (by omega)).mono ?_
  rintro e w1 ⟨g1, cap1, rfl, ho1, hg1⟩
  have H1 := hid_mk (And.intro ho1 hg1)
  clear ho1 hg1
  go_wp2_with fail
  refine (getM_any _ b w1 (lent_byt H1.out.1).1 (by omega) (HP.out.kept H1.out.2) HCB.out).mono ?_
  rintro e w2 ⟨e2, s2, t2, rfl, ⟨he2, hs2, hd2⟩, hg2⟩
  obtain ⟨f1, u1, hf1⟩ := he2.len
  obtain ⟨f2, u2, hf2⟩ := hs2.len
  obtain ⟨f3, u3, hf3⟩ := hd2.len
  have H2 := hid_mk (And.intro he2 (And.intro hs2 (And.intro hd2 hg2)))
  clear he2 hs2 hd2 hg2
  subst hf1
  subst hf2
  subst hf3
  have HRG := hid_mk (fun W (hW : w.grownBy W none) => rgetM_any (.slice ab b.length cb) b W (HBY.out.kept hW) (by omega))
  unfold GetPost at HRG
  obtain ⟨mg, hmg⟩ : ∃ mg, gotM b = mg := ⟨_, rfl⟩
  obtain ⟨eg, heg⟩ : ∃ eg, gotErr b = eg := ⟨_, rfl⟩
  rw [hmg] at H2 HRG HLN ⊢
  rw [heg] at HRG ⊢
  clear hmg heg
  have HX2 : Hid (MB (w2.alloc (.cells (msgCells mg (.slice f1 mg.ents.length u1) (.slice f2 mg.srv.length u2) (.slice f3 mg.data.length u3)) 27)) 27 w2.heap.size mg (.slice f1 mg.ents.length u1) (.slice f2 mg.srv.length u2) (.slice f3 mg.data.length u3) ∧ w2.grownBy (w2.alloc (.cells (msgCells mg (.slice f1 mg.ents.length u1) (.slice f2 mg.srv.length u2) (.slice f3 mg.data.length u3)) 27)) none) := hid_mk ⟨heap_alloc_new w2 _, World.grownBy_alloc _ _ _⟩
  unfold msgCells at HX2
  unfold msgCells
  go_upto_region 3 with fail
  generalize (w2.alloc (.cells _ 27)) = w3 at *
  generalize w2.heap.size = g3 at *
  have G3 := hid_mk (grown_trans H1.out.2 (grown_trans H2.out.2.2.2 HX2.out.2))
  have L3 := hid_mk (grown_trans H2.out.2.2.2 HX2.out.2)
  go_wp2_with fail
  refine (HRG.out w3 G3.out).mono ?_
  rintro e w4 ⟨e4, s4, t4, rfl, ⟨he4, hs4, hd4⟩, hg4⟩
  obtain ⟨f4, u4, hf4⟩ := he4.len
  obtain ⟨f5, u5, hf5⟩ := hs4.len
  obtain ⟨f6, u6, hf6⟩ := hd4.len
  have H4 := hid_mk (And.intro he4 (And.intro hs4 (And.intro hd4 hg4)))
  clear he4 hs4 hd4 hg4 HRG
  subst hf4
  subst hf5
  subst hf6
  have HX4 : Hid (MB (w4.alloc (.cells (msgCells mg (.slice f4 mg.ents.length u4) (.slice f5 mg.srv.length u5) (.slice f6 mg.data.length u6)) 26)) 26 w4.heap.size mg (.slice f4 mg.ents.length u4) (.slice f5 mg.srv.length u5) (.slice f6 mg.data.length u6) ∧ w4.grownBy (w4.alloc (.cells (msgCells mg (.slice f4 mg.ents.length u4) (.slice f5 mg.srv.length u5) (.slice f6 mg.data.length u6)) 26)) none) := hid_mk ⟨heap_alloc_new w4 _, World.grownBy_alloc _ _ _⟩
  unfold msgCells at HX4
  unfold msgCells
  go_upto_region 4 with fail
  generalize (w4.alloc (.cells _ 26)) = w5 at *
  generalize w4.heap.size = g5 at *
  have G35 := hid_mk (grown_trans H4.out.2.2.2 HX4.out.2)
  obtain ⟨p0, p1, p2, p3, p4, p5, p6, p7, p8, p9, p10, p11⟩ := (HX2.out.1.kept G35.out).all
  obtain ⟨z0, z1, z2, z3, z4, z5, z6, z7, z8, z9, z10, z11⟩ := HX4.out.1.all
  go_wp2_with fail
  clear p0 p1 p2 p3 p4 p5 p6 p7 p8 p9 p10 p11 z0 z1 z2 z3 z4 z5 z6 z7 z8 z9 z10 z11
  have HSM := hid_mk (sameM_gen mg mg true (by simp) (.slice f1 mg.ents.length u1) (.slice f2 mg.srv.length u2) (.slice f3 mg.data.length u3) (.slice f4 mg.ents.length u4) (.slice f5 mg.srv.length u5) (.slice f6 mg.data.length u6) w5 (H2.out.1.kept (grown_trans HX2.out.2 G35.out)) (H2.out.2.1.kept (grown_trans HX2.out.2 G35.out)) (H2.out.2.2.1.kept (grown_trans HX2.out.2 G35.out)) (H4.out.1.kept HX4.out.2) (H4.out.2.1.kept HX4.out.2) (H4.out.2.2.1.kept HX4.out.2) HLN.out.1 HLN.out.2 HLN.out.1)
  unfold msgCells at HSM
  refine HSM.out.mono ?_
  rintro e w6 ⟨rfl, hg6⟩
  have G6 := hid_mk (grown_trans G3.out (grown_trans G35.out hg6))
  have L6 := hid_mk (grown_trans L3.out (grown_trans G35.out hg6))
  clear hg6 HSM
  go_wp2_with (go_at_call 12; refine (num_any _ _).mono ?_; rintro e wx ⟨rfl, hwx⟩; subst wx)
  refine (stays_any w.heap.size g1 cap1 b _ w6 (H1.out.1.kept L6.out (.inl rfl)) (HBY.out.kept G6.out) (by omega)).mono ?_
  rintro e w7 ⟨rfl, hg7⟩
  have G7 := hid_mk (grown_trans G6.out hg7)
  clear hg7
  go_wp2_with fail
  refine (knowsM_any w7 (HP.out.kept G7.out)).mono ?_
  rintro e w8 ⟨rfl, hg8⟩
  have G8 := hid_mk (grown_trans G7.out hg8)
  clear hg8
  go_wp2_with fail
  go_ret
  exact ⟨rfl, G8.out⟩

end Go.Proofs.YtliefofdlpljaaaDoor
