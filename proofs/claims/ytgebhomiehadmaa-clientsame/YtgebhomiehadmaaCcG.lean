/- client: words. -/
import Derived.Test.YtgebhomiehadmaaCcF
namespace Go.Proofs.Ytgebhomiehadmaa
open Go.RowKit Go.Maps
set_option linter.unusedVariables false
set_option linter.unusedSimpArgs false
set_option maxRecDepth 100000

def wordsV (g : Cli) (v : Value) : Value := .agg #[.int .i64 (lastI g), .int .i64 g.o.kd, .int .i64 (wordsC g).se, .int .i64 (wordsC g).sq, .int .i64 g.o.fr, .int .i64 g.o.mo, v]
theorem blk7 {w : World} {b : Nat} {x0 x1 x2 x3 x4 x5 x6 : Value} {t : TypeId} (h : Blk w b #[x0, x1, x2, x3, x4, x5, x6] t) : w.cell? ⟨b, 0, none⟩ = some x0 ∧ w.cell? ⟨b, 1, none⟩ = some x1 ∧ w.cell? ⟨b, 2, none⟩ = some x2 ∧ w.cell? ⟨b, 3, none⟩ = some x3 ∧ w.cell? ⟨b, 4, none⟩ = some x4 ∧ w.cell? ⟨b, 5, none⟩ = some x5 ∧ w.cell? ⟨b, 6, none⟩ = some x6 ∧ ∀ i, w.frozen? ⟨b, i, none⟩ = false :=
  ⟨by rw [h.cell]; rfl, by rw [h.cell]; rfl, by rw [h.cell]; rfl, by rw [h.cell]; rfl, by rw [h.cell]; rfl, by rw [h.cell]; rfl, by rw [h.cell]; rfl, h.frozen⟩
/-- All cells of a block stored, one behind the other. -/
def setAll (W : World) (q : Nat) : Nat → List Value → World
  | _, [] => W
  | i, x :: l => setAll (W.setCell ⟨q, i, none⟩ x) q (i + 1) l
theorem setAll_blk {q : Nat} {t : TypeId} : ∀ (l : List Value) (W : World) (pre rest : List Value), Blk W q (pre ++ rest).toArray t → rest.length = l.length → Blk (setAll W q pre.length l) q (pre ++ l).toArray t
  | [], W, pre, rest, h, hl => by
    obtain rfl : rest = [] := List.length_eq_zero_iff.1 hl
    exact h
  | x :: l, W, pre, [], h, hl => by cases hl
  | x :: l, W, pre, r :: rest, h, hl => by
    have h1 := h.set pre.length x
    rw [List.setIfInBounds_toArray, List.set_append_right _ _ (Nat.le_refl _), Nat.sub_self, List.set_cons_zero] at h1
    have h2 := setAll_blk l (W.setCell ⟨q, pre.length, none⟩ x) (pre ++ [x]) rest (by simpa using h1) (by simpa using hl)
    rw [List.length_append, List.append_assoc] at h2
    exact h2
theorem setAll_grown (q : Nat) : ∀ (l : List Value) (W : World) (i : Nat), W.grownBy (setAll W q i l) (some q)
  | [], W, i => grown_refl _ _
  | x :: l, W, i => grown_trans (grown_setCell _ _ _ _) (setAll_grown q l _ _)
theorem setAll_all {W : World} {q : Nat} {cs : Array Value} {t : TypeId} (h : Blk W q cs t) (l : List Value) (hl : cs.size = l.length) : Blk (setAll W q 0 l) q l.toArray t ∧ W.grownBy (setAll W q 0 l) (some q) :=
  ⟨setAll_blk l W [] cs.toList (by simpa using h) (by simpa using hl), setAll_grown q l W 0⟩
set_option maxHeartbeats 4000000 in
theorem words_any {w : World} {B b : Nat} {V : CV} {g : Cli} (h : IsC w B b V g) (hf : g.tr ≤ 1400000000000) : Calls Try.prog 55 #[.pointer (some ⟨b, 0, none⟩)] w fun e w' => ∃ v', e = .returned (wordsV g v') ∧ Own w' w.heap.size v' g.o.b ∧ w.grownBy w' none := by
  have HG := hid_mk (World.grownBy_alloc w (.cells #[.int .i64 0, .int .i64 0, .int .i64 0, .int .i64 0, .int .i64 0, .int .i64 0, .slice none 0 0] 62) none)
  have HQ := hid_mk (blk_alloc w #[.int .i64 0, .int .i64 0, .int .i64 0, .int .i64 0, .int .i64 0, .int .i64 0, .slice none 0 0] 62)
  have h1 := h.kept HG.out
  have HN := hid_mk (And.intro h1 hf)
  have c8 := h1.c 8 rfl
  have c9 := h1.c 9 rfl
  have c10 := h1.c 10 rfl
  have c11 := h1.c 11 rfl
  obtain ⟨oa, oc, ho⟩ := h1.od.len
  have HO := hid_mk ho
  rw [ho] at c11
  clear h h1 hf ho
  go_enter Try.func55, Try.ntmps55
  go_wp2_with fail
  generalize hw1 : (w.alloc (.cells #[.int .i64 0, .int .i64 0, .int .i64 0, .int .i64 0, .int .i64 0, .int .i64 0, .slice none 0 0] 62)) = w1 at *
  clear hw1
  generalize hq0 : w.heap.size = q at *
  have HQ0 := hid_mk hq0
  clear hq0
  have hby := HN.out.1.od.byt
  rw [HO.out] at hby
  refine (copyO_any hby HN.out.1.ok.ob g.o.kd g.o.fr g.o.mo).mono ?_
  rintro e w2 ⟨v', rfl, ho2, hg2⟩
  obtain ⟨xa, xc, rfl⟩ := ho2.len
  clear hby c8 c9 c10 c11
  have hg3 := World.grownBy_alloc w2 (.cells #[.int .i64 g.o.kd, .int .i64 g.o.fr, .int .i64 g.o.mo, .slice xa g.o.b.length xc] 42) none
  have H3 := hid_mk (And.intro (grown_trans hg2 hg3) (And.intro (own_grown ho2 hg3) (blk_alloc w2 #[.int .i64 g.o.kd, .int .i64 g.o.fr, .int .i64 g.o.mo, .slice xa g.o.b.length xc] 42)))
  have hq2 : w1.heap.size ≤ w2.heap.size := hg2.size
  have HQ2 := hid_mk hq2
  clear hg2 hg3 ho2 hq2
  go_upto_region 2 with fail
  generalize (w2.alloc (.cells #[.int .i64 g.o.kd, .int .i64 g.o.fr, .int .i64 g.o.mo, .slice xa g.o.b.length xc] 42)) = w3 at *
  generalize w2.heap.size = q2 at *
  refine wp_region_mix [(0, true), (1, true), (2, true), (3, true), (4, true), (5, true), (6, true), (7, true), (8, true), (9, true), (10, true), (11, false), (12, false)] (at0 w3 (fun W => w3.grownBy W none)) (by kernel_rfl) (by kernel_rfl) rfl (by kernel_rfl) (shut_at0 (fun m => grown_drewN _ m none)) ⟨1, rfl⟩ ?_
  have HC := hid_mk (fun (W : World) (hW : w3.grownBy W none) => blk4 (H3.out.2.2.kept hW (by simp)))
  have HL := hid_mk (fun (W : World) (hW : w3.grownBy W none) => lastID_any ((HN.out.1.kept H3.out.1).kept hW) HN.out.2)
  repeat (refine mix_rd1 rfl rfl (fun K hK => ?_); apply Exists.intro; refine ⟨fun W hW => ?_, ?_⟩; (obtain ⟨d0, d1, d2, d3, df⟩ := HC.out W hW; go_simp; rfl); (go_simp; refine hK _ _ ?_; clear hK K))
  refine mix_rdcall rfl rfl 40 #[.pointer (some ⟨b, 0, none⟩)] (.int .i64 (lastI g)) (fun W => by go_simp) (fun W hW => HL.out W hW) ?_
  go_simp
  repeat (refine mix_rd1 rfl rfl (fun K hK => ?_); apply Exists.intro; refine ⟨fun W hW => ?_, ?_⟩; (obtain ⟨d0, d1, d2, d3, df⟩ := HC.out W hW; go_simp; rfl); (go_simp; refine hK _ _ ?_; clear hK K))
  clear HL
  refine mix_do rfl rfl ?_
  rintro W0 ⟨m1, rfl⟩
  refine ⟨.pointer (some ⟨w3.heap.size, 0, none⟩), (w3.drewN m1).alloc (.cells #[.int .i64 0, .int .i64 0, .int .i64 0, .int .i64 0, .int .i64 0, .int .i64 0, .slice none 0 0] 62), by go_simp, ?_⟩
  have G4 := grown_trans (grown_drewN w3 m1 none) (World.grownBy_alloc (w3.drewN m1) (.cells #[.int .i64 0, .int .i64 0, .int .i64 0, .int .i64 0, .int .i64 0, .int .i64 0, .slice none 0 0] 62) none)
  have H4 := hid_mk (And.intro G4 (show Blk ((w3.drewN m1).alloc (.cells #[.int .i64 0, .int .i64 0, .int .i64 0, .int .i64 0, .int .i64 0, .int .i64 0, .slice none 0 0] 62)) w3.heap.size #[.int .i64 0, .int .i64 0, .int .i64 0, .int .i64 0, .int .i64 0, .int .i64 0, .slice none 0 0] 62 from blk_alloc (w3.drewN m1) _ _))
  have hq4 : w1.heap.size ≤ w3.heap.size := H3.out.1.size
  have HQ4 := hid_mk hq4
  clear G4 hq4
  generalize (w3.drewN m1).alloc (.cells #[.int .i64 0, .int .i64 0, .int .i64 0, .int .i64 0, .int .i64 0, .int .i64 0, .slice none 0 0] 62) = w4 at *
  generalize hq4e : w3.heap.size = q4 at *
  have HQ4x := hid_mk hq4e
  clear hq4e
  refine ⟨at0 w4 (fun W => w3.grownBy W none), ⟨0, rfl⟩, shut_at0 (fun m => grown_trans H4.out.1 (grown_drewN _ m none)), fun _ h => h, ?_⟩
  go_simp
  refine mix_skip rfl rfl ?_
  rintro W0 ⟨m2, rfl⟩
  have hb4 := H4.out.2.kept (grown_drewN w4 m2 none) (by simp)
  obtain ⟨f0, f1, f2, f3, f4, f5, f6, ff⟩ := blk7 hb4
  have h7 := setAll_all hb4 [.int .i64 (lastI g), .int .i64 g.o.kd, .int .i64 0, .int .i64 0, .int .i64 g.o.fr, .int .i64 g.o.mo, .slice xa g.o.b.length xc] rfl
  refine ⟨setAll (w4.drewN m2) q4 0 [.int .i64 (lastI g), .int .i64 g.o.kd, .int .i64 0, .int .i64 0, .int .i64 g.o.fr, .int .i64 g.o.mo, .slice xa g.o.b.length xc], by go_simp; rfl, ?_⟩
  have H5 := hid_mk (And.intro (grown_new (grown_trans H4.out.1 (grown_drewN w4 m2 none)) h7.2 (by rw [HQ4x.out]; exact Nat.le_refl _)) h7.1)
  clear f0 f1 f2 f3 f4 f5 f6 ff hb4 h7
  generalize setAll (w4.drewN m2) q4 0 [.int .i64 (lastI g), .int .i64 g.o.kd, .int .i64 0, .int .i64 0, .int .i64 g.o.fr, .int .i64 g.o.mo, .slice xa g.o.b.length xc] = w5 at *
  refine ⟨at0 w5 (fun W => w3.grownBy W none), ⟨0, rfl⟩, shut_at0 (fun m => grown_trans H5.out.1 (grown_drewN _ m none)), fun _ h => h, ?_⟩
  go_simp
  refine mix_nil ?_
  rintro W ⟨m5, rfl⟩
  have H6 := hid_mk (And.intro (grown_trans H5.out.1 (grown_drewN w5 m5 none)) (H5.out.2.kept (grown_drewN w5 m5 none) (by simp)))
  generalize w5.drewN m5 = w6 at *
  clear H4 H5
  obtain ⟨d0, d1, d2, d3, df⟩ := HC.out w6 H6.out.1
  obtain ⟨f0, f1, f2, f3, f4, f5, f6, ff⟩ := blk7 H6.out.2
  obtain ⟨b0, b1, b2, b3, b4, b5, b6, bf⟩ := blk7 ((HQ.out.kept H3.out.1 (by simp)).kept H6.out.1 (by simp))
  by_cases hk : g.o.kd = 2
  · have HKD := hid_mk hk
    have hk' : (g.o.kd == 2) = true := by simpa using hk
    clear hk
    have e1 : (wordsC g).se = g.se := by unfold wordsC; exact if_pos HKD.out
    have e2 : (wordsC g).sq = g.sq := by unfold wordsC; exact if_pos HKD.out
    clear b0 b1 b2 b3 b4 b5 b6 bf
    go_upto_region 4 with fail
    clear f0 f1 f2 f3 f4 f5 f6 ff
    have HCC := hid_mk (fun (W : World) (hW : w3.grownBy W none) => And.intro (((HN.out.1.kept H3.out.1).kept hW).c 4 rfl) (((HN.out.1.kept H3.out.1).kept hW).c 5 rfl))
    refine wp_region_mix [(0, true), (1, true), (2, true), (3, true), (4, true), (5, true), (6, true), (7, true), (8, true), (9, false), (10, true), (11, false)] (at0 w6 (fun W => w3.grownBy W none)) (by kernel_rfl) (by kernel_rfl) rfl (by kernel_rfl) (shut_at0 (fun m => grown_trans H6.out.1 (grown_drewN _ m none))) ⟨1, rfl⟩ ?_
    repeat (refine mix_rd1 rfl rfl (fun K hK => ?_); apply Exists.intro; refine ⟨fun W hW => ?_, ?_⟩; (obtain ⟨k4, k5⟩ := HCC.out W hW; go_simp; rfl); (go_simp; refine hK _ _ ?_; clear hK K))
    refine mix_skip rfl rfl ?_
    rintro W0 ⟨m6, rfl⟩
    have hb6 := H6.out.2.kept (grown_drewN w6 m6 none) (by simp)
    have f2 := (blk7 hb6).2.2.1
    have ff := (blk7 hb6).2.2.2.2.2.2.2
    refine ⟨(w6.drewN m6).setCell ⟨q4, 2, none⟩ (.int .i64 g.se), by go_simp, ?_⟩
    have H7 := hid_mk (And.intro (grown_new (grown_trans H6.out.1 (grown_drewN w6 m6 none)) (grown_setCell (w6.drewN m6) q4 2 (.int .i64 g.se)) (by rw [HQ4x.out]; exact Nat.le_refl _)) (show Blk ((w6.drewN m6).setCell ⟨q4, 2, none⟩ (.int .i64 g.se)) q4 #[.int .i64 (lastI g), .int .i64 g.o.kd, .int .i64 g.se, .int .i64 0, .int .i64 g.o.fr, .int .i64 g.o.mo, .slice xa g.o.b.length xc] 62 from hb6.set 2 _))
    clear f2 ff hb6
    generalize (w6.drewN m6).setCell ⟨q4, 2, none⟩ (.int .i64 g.se) = w7 at *
    refine ⟨at0 w7 (fun W => w3.grownBy W none), ⟨0, rfl⟩, shut_at0 (fun m => grown_trans H7.out.1 (grown_drewN _ m none)), fun _ h => h, ?_⟩
    go_simp
    repeat (refine mix_rd1 rfl rfl (fun K hK => ?_); apply Exists.intro; refine ⟨fun W hW => ?_, ?_⟩; (go_simp; rfl); (go_simp; refine hK _ _ ?_; clear hK K))
    refine mix_skip rfl rfl ?_
    rintro W0 ⟨m7, rfl⟩
    have hb7 := H7.out.2.kept (grown_drewN w7 m7 none) (by simp)
    have f3 := (blk7 hb7).2.2.2.1
    have ff := (blk7 hb7).2.2.2.2.2.2.2
    refine ⟨(w7.drewN m7).setCell ⟨q4, 3, none⟩ (.int .i64 g.sq), by go_simp, ?_⟩
    have H8 := hid_mk (And.intro (grown_new (grown_trans H7.out.1 (grown_drewN w7 m7 none)) (grown_setCell (w7.drewN m7) q4 3 (.int .i64 g.sq)) (by rw [HQ4x.out]; exact Nat.le_refl _)) (show Blk ((w7.drewN m7).setCell ⟨q4, 3, none⟩ (.int .i64 g.sq)) q4 #[.int .i64 (lastI g), .int .i64 g.o.kd, .int .i64 g.se, .int .i64 g.sq, .int .i64 g.o.fr, .int .i64 g.o.mo, .slice xa g.o.b.length xc] 62 from hb7.set 3 _))
    clear f3 ff hb7
    generalize (w7.drewN m7).setCell ⟨q4, 3, none⟩ (.int .i64 g.sq) = w8 at *
    refine ⟨at0 w8 (fun W => w3.grownBy W none), ⟨0, rfl⟩, shut_at0 (fun m => grown_trans H8.out.1 (grown_drewN _ m none)), fun _ h => h, ?_⟩
    go_simp
    refine mix_nil ?_
    rintro W ⟨m9, rfl⟩
    have HW := hid_mk (And.intro (grown_trans H8.out.1 (grown_drewN w8 m9 none)) (H8.out.2.kept (grown_drewN w8 m9 none) (by simp)))
    generalize w8.drewN m9 = w9 at *
    clear H6 H7 H8 d0 d1 d2 d3 df
    obtain ⟨f0, f1, f2, f3, f4, f5, f6, ff⟩ := blk7 HW.out.2
    obtain ⟨b0, b1, b2, b3, b4, b5, b6, bf⟩ := blk7 ((HQ.out.kept H3.out.1 (by simp)).kept HW.out.1 (by simp))
    go_wp2
    have hlist : [Value.int .i64 (lastI g), .int .i64 g.o.kd, .int .i64 g.se, .int .i64 g.sq, .int .i64 g.o.fr, .int .i64 g.o.mo, .slice xa g.o.b.length xc] = [Value.int .i64 (lastI g), .int .i64 g.o.kd, .int .i64 (wordsC g).se, .int .i64 (wordsC g).sq, .int .i64 g.o.fr, .int .i64 g.o.mo, .slice xa g.o.b.length xc] := by rw [e1, e2]
    have GZ := setAll_grown q [Value.int .i64 (lastI g), .int .i64 g.o.kd, .int .i64 g.se, .int .i64 g.sq, .int .i64 g.o.fr, .int .i64 g.o.mo, .slice xa g.o.b.length xc] w9 0
    have hO := own_grown H3.out.2.1 HW.out.1
    have hB0 := (HQ.out.kept H3.out.1 (by simp)).kept HW.out.1 (by simp)
    refine bodyPost_ret (v := .agg #[.int .i64 (lastI g), .int .i64 g.o.kd, .int .i64 g.se, .int .i64 g.sq, .int .i64 g.o.fr, .int .i64 g.o.mo, .slice xa g.o.b.length xc]) (by simp [results, Try.results55, go_sem, b0, b1, b2, b3, b4, b5, b6]) rfl ⟨.slice xa g.o.b.length xc, ?_, ?_, ?_⟩
    · unfold wordsV
      rw [e1, e2]
    · exact (hO.kept GZ (.inr (fun e => own_ne hO hB0 (by decide) e.symm))).base (by have h8 := HG.out.size; have h9 := HQ0.out; omega)
    · exact grown_new (grown_trans HG.out (grown_trans H3.out.1 HW.out.1)) GZ (by rw [HQ0.out]; exact Nat.le_refl _)
  · have hk' : (g.o.kd == 2) = false := by simpa using hk
    have HKD := hid_mk hk
    clear hk
    have e1 : (wordsC g).se = 0 := by unfold wordsC; exact if_neg HKD.out
    have e2 : (wordsC g).sq = 0 := by unfold wordsC; exact if_neg HKD.out
    go_wp2
    have HW := hid_mk (And.intro H6.out.1 True.intro)
    have hlist : [Value.int .i64 (lastI g), .int .i64 g.o.kd, .int .i64 0, .int .i64 0, .int .i64 g.o.fr, .int .i64 g.o.mo, .slice xa g.o.b.length xc] = [Value.int .i64 (lastI g), .int .i64 g.o.kd, .int .i64 (wordsC g).se, .int .i64 (wordsC g).sq, .int .i64 g.o.fr, .int .i64 g.o.mo, .slice xa g.o.b.length xc] := by rw [e1, e2]
    have GZ := setAll_grown q [Value.int .i64 (lastI g), .int .i64 g.o.kd, .int .i64 0, .int .i64 0, .int .i64 g.o.fr, .int .i64 g.o.mo, .slice xa g.o.b.length xc] w6 0
    have hO := own_grown H3.out.2.1 HW.out.1
    have hB0 := (HQ.out.kept H3.out.1 (by simp)).kept HW.out.1 (by simp)
    refine bodyPost_ret (v := .agg #[.int .i64 (lastI g), .int .i64 g.o.kd, .int .i64 0, .int .i64 0, .int .i64 g.o.fr, .int .i64 g.o.mo, .slice xa g.o.b.length xc]) (by simp [results, Try.results55, go_sem, b0, b1, b2, b3, b4, b5, b6]) rfl ⟨.slice xa g.o.b.length xc, ?_, ?_, ?_⟩
    · unfold wordsV
      rw [e1, e2]
    · exact (hO.kept GZ (.inr (fun e => own_ne hO hB0 (by decide) e.symm))).base (by have h8 := HG.out.size; have h9 := HQ0.out; omega)
    · exact grown_new (grown_trans HG.out (grown_trans H3.out.1 HW.out.1)) GZ (by rw [HQ0.out]; exact Nat.le_refl _)
end Go.Proofs.Ytgebhomiehadmaa
