/- place, from, termAt. -/
import Derived.Test.YtinpcpojadcegaaEnG
namespace Go.Proofs.Ytinpcpojadcegaa.W
open Go.RowKit Go.Maps
set_option linter.unusedVariables false
set_option linter.unusedSimpArgs false
set_option maxRecDepth 100000
attribute [local go_sem] Oper.semAt_some

/-- Where the first entry at or above an index stands. -/
def plc (b : Int) (n : Nat) (i : Int) : Nat := (min (max i (b + 1)) (b + n + 1) - b - 1).toNat
theorem plc_le (b : Int) (n : Nat) (i : Int) : plc b n i ≤ n := by unfold plc; omega
theorem plc_at {b : Int} {n : Nat} {i : Int} (h1 : b < i) (h2 : i ≤ b + n) : plc b n i = (i - b - 1).toNat := by unfold plc; omega

set_option maxHeartbeats 2000000 in
theorem place_any (b t : Int) (lv : Value) (es : List Ent) (i : Int) (w : World) (h : EntsR w lv es) (hn : es.length ≤ 1000000) (hb : 0 ≤ b ∧ b ≤ 10000000000000) (hi : I64 i) (hgo : goB b t es = true) :
    Calls Try.prog 45 #[viewV b t lv, .int .i64 i] w fun e w' => e = .returned (.int .i64 (plc b es.length i : Nat)) ∧ w.grownBy w' none := by
  obtain ⟨a, c, rfl⟩ := h.len
  have HE := hid_mk h
  clear h
  have hV : viewV b t (.slice a es.length c) = .agg #[.int .i64 b, .int .i64 t, .slice a es.length c] := rfl
  have HV := hid_mk hV
  rw [hV]
  clear hV
  have HA := hid_mk (And.intro (VB.new w b t (.slice a es.length c)) (World.grownBy_alloc w (.cells #[.int .i64 b, .int .i64 t, .slice a es.length c] 25) none))
  have HL := hid_mk (endI_of hgo)
  clear hgo
  go_enter Try.func45, Try.ntmps45
  go_upto_region 1 with fail
  generalize w.alloc (.cells #[.int .i64 b, .int .i64 t, .slice a es.length c] 25) = w1 at *
  obtain ⟨v0, v1, v2⟩ := HA.out.1.cells
  go_wp2_with fail
  rw [← HV.out]
  refine (end_any b t _ es w1 (HE.out.kept HA.out.2) (by omega)).mono ?_
  rintro e w2 ⟨rfl, hg⟩
  rw [HV.out, HL.out]
  have HG := hid_mk (And.intro (grown_trans HA.out.2 hg) (HA.out.1.kept hg (by simp)))
  clear hg v0 v1 v2
  obtain ⟨v0, v1, v2⟩ := HG.out.2.cells
  obtain ⟨T0, hT0⟩ : ∃ T0, T0 = endT t es := ⟨_, rfl⟩
  rw [← hT0]
  clear hT0
  have HP := hid_mk (show ((plc b es.length i : Nat) : Int) = min (max i (b + 1)) (b + es.length + 1) - b - 1 by unfold plc; omega)
  obtain ⟨n, hn'⟩ : ∃ n : Int, n = es.length := ⟨_, rfl⟩
  have hn2 : 0 ≤ n ∧ n ≤ 1000000 := by omega
  rw [← hn'] at HP ⊢
  clear hn'
  unfold I64 at hi
  go_wp2
  all_goals
    go_ret
    exact ⟨congrArg (fun z => Ending.returned (.int .i64 z)) (by rw [HP.out]; omega), HG.out.1⟩
theorem elemE : Try.prog.elem 22 = 54 := by kernel_rfl
theorem underE : Try.prog.underlying 22 = some (.slice (Try.prog.elem 22)) := by rw [elemE]; exact Try.underlying22
theorem sizeE (w : World) : (sizeOf 54).run Try.prog w = .ok 4 w := by
  simp [sizeOf, go_sem]
  rfl
/-- A part of entries that can be read can be read. -/
theorem EntsR.part {w : World} {a : Option Addr} {l : List Ent} {cap : Nat} (h : EntsR w (.slice a l.length cap) l) (i j : Nat) (hij : i ≤ j) (hj : j ≤ l.length) : EntsR w (sliced a i j cap 4) ((l.take j).drop i) := by
  rcases h with ⟨rfl, a', cap', e, hn⟩ | ⟨b, off, cap', e, hl, hc⟩
  · cases e
    have hj0 : j = 0 := by simpa using hj
    subst hj0
    have hi0 : i = 0 := by omega
    subst hi0
    refine .inl ⟨by simp, ?_⟩
    unfold sliced
    refine ⟨_, _, rfl, ?_⟩
    split
    · simpa using hn
    · intro hm; cases a <;> simp_all
  · cases e
    unfold sliced
    by_cases hm : cap = i
    · have : l.length = i := by omega
      subst hm
      have hji : j = cap := by omega
      subst hji
      refine .inl ⟨?_, ?_⟩
      · simp
      · exact ⟨some ⟨b, off, none⟩, 0, by simp, by simp⟩
    · rw [if_neg hm]
      refine .inr ⟨b, off + i * 4, cap - i, ?_, ?_, fun k u hk => ?_⟩
      · simp [Addr.add]; omega
      · simp; omega
      · rw [List.getElem?_drop, List.getElem?_take] at hk
        split at hk
        · have := hc (i + k) u hk
          rw [show off + i * 4 + k * 4 = off + (i + k) * 4 by rw [Nat.add_mul]; omega]; exact this
        · cases hk
theorem sliced_slice4 (a : Option Addr) (i j cap : Nat) : ∃ a' cap', sliced a i j cap 4 = .slice a' (j - i) cap' := ⟨_, _, rfl⟩
theorem EntsR.l {w : World} {v : Value} {l : List Ent} (h : EntsR w v l) (i : Nat) (hi : i ≤ l.length) :
    ∃ a' cap', (∀ w', (Instr.slice 22 v (some (.int .i64 i)) none none).run Try.prog w' = .ok (.slice a' (l.length - i) cap') w') ∧ EntsR w (.slice a' (l.length - i) cap') (l.drop i) := by
  obtain ⟨a, cap, rfl⟩ := h.len
  obtain ⟨a', cap', e⟩ := sliced_slice4 a i l.length cap
  have hp := h.part i l.length hi (Nat.le_refl _)
  rw [e, List.take_length] at hp
  refine ⟨a', cap', fun w' => ?_, hp⟩
  rw [run_slice_l w' 22 a l.length cap underE .i64 i (by omega) (by omega), elemE, sizeE w']
  simp only [Result.andThen, Int.toNat_natCast]
  rw [e]
theorem EntsR.h {w : World} {v : Value} {l : List Ent} (h : EntsR w v l) (j : Nat) (hj : j ≤ l.length) :
    ∃ a' cap', (∀ w', (Instr.slice 22 v none (some (.int .i64 j)) none).run Try.prog w' = .ok (.slice a' j cap') w') ∧ EntsR w (.slice a' j cap') (l.take j) := by
  have hcap : ∀ a cap, v = .slice a l.length cap → l.length ≤ cap := fun a cap e => by
    rcases h with ⟨rfl, a', cap', e', hn⟩ | ⟨b, off, cap', e', hl, hc⟩
    · simp
    · rw [e] at e'; cases e'; exact hl
  obtain ⟨a, cap, rfl⟩ := h.len
  have hlc := hcap a cap rfl
  obtain ⟨a', cap', e⟩ := sliced_slice4 a 0 j cap
  have hp := h.part 0 j (Nat.zero_le _) hj
  rw [e] at hp
  refine ⟨a', cap', fun w' => ?_, by simpa using hp⟩
  rw [run_slice_h w' 22 a l.length cap underE .i64 j (by omega) (by omega), elemE, sizeE w']
  simp only [Result.andThen, Int.toNat_natCast]
  rw [e]; simp

set_option maxHeartbeats 4000000 in
theorem from_any (b t : Int) (lv : Value) (es : List Ent) (i : Int) (w0 w : World) (h : EntsR w0 lv es) (hw : w0.grownBy w none) (hn : es.length ≤ 1000000) (hb : 0 ≤ b ∧ b ≤ 10000000000000) (hi : I64 i) (hgo : goB b t es = true) :
    Calls Try.prog 44 #[viewV b t lv, .int .i64 i] w fun e w' => ∃ f D, e = .returned f ∧ SeqAt w' f D (es.drop (plc b es.length i)) w0 w.heap.size w'.heap.size ∧ w.grownBy w' none := by
  obtain ⟨a, c, rfl⟩ := h.len
  have HE := hid_mk (And.intro h (And.intro hw hgo))
  clear h hw hgo
  have hV : viewV b t (.slice a es.length c) = .agg #[.int .i64 b, .int .i64 t, .slice a es.length c] := rfl
  have HV := hid_mk hV
  rw [hV]
  clear hV
  have HA := hid_mk (And.intro (VB.new w b t (.slice a es.length c)) (World.grownBy_alloc w (.cells #[.int .i64 b, .int .i64 t, .slice a es.length c] 25) none))
  obtain ⟨P, hP⟩ : ∃ P, P = plc b es.length i := ⟨_, rfl⟩
  have HPL := hid_mk (show P ≤ es.length by rw [hP]; exact plc_le _ _ _)
  have HP := hid_mk hP
  obtain ⟨a2, c2, hsl, hrd⟩ := HE.out.1.l P HPL.out
  obtain ⟨n2, hn2⟩ : ∃ n2, n2 = es.length - P := ⟨_, rfl⟩
  rw [← hn2] at hsl hrd
  have HSL := hid_mk hrd
  clear hrd hP hn2
  go_enter Try.func44, Try.ntmps44
  go_upto_region 1 with fail
  generalize w.alloc (.cells #[.int .i64 b, .int .i64 t, .slice a es.length c] 25) = w1 at *
  have HCL : ∀ W, w1.grownBy W none → W.cell? ⟨w.heap.size, 0, none⟩ = some (.int .i64 b) ∧ W.cell? ⟨w.heap.size, 1, none⟩ = some (.int .i64 t) ∧ W.cell? ⟨w.heap.size, 2, none⟩ = some (.slice a es.length c) := fun W hW => (HA.out.1.kept hW (by simp)).cells
  refine wp_region_mix [(0, true), (1, true), (2, true), (3, true), (4, false), (5, true), (6, false), (7, true)] (at0 w1 (fun W => w1.grownBy W none)) (by kernel_rfl) (by kernel_rfl) rfl (by kernel_rfl) (shut_at0 (fun m => grown_drewN _ m none)) ⟨1, rfl⟩ ?_
  repeat (refine mix_rd1 rfl rfl (fun K hK => ?_); apply Exists.intro; refine ⟨fun W hW => ?_, ?_⟩; (obtain ⟨c0, c1, c2⟩ := HCL W hW; go_simp; rfl); (go_simp; refine hK _ _ ?_; clear hK K))
  refine mix_call rfl rfl 45 #[viewV b t (.slice a es.length c), .int .i64 i] (fun W => by rw [HV.out]; go_simp) ?_
  rintro W ⟨m4, rfl⟩
  refine (place_any b t _ es i (w1.drewN m4) (HE.out.1.kept (grown_trans HE.out.2.1 (grown_trans HA.out.2 (grown_drewN _ m4 none)))) hn hb hi HE.out.2.2).mono ?_
  rintro e w4 ⟨rfl, hg4⟩
  rw [← HP.out]
  have G4 := hid_mk (show w1.grownBy w4 none from grown_trans (grown_drewN _ m4 none) hg4)
  clear hg4
  refine ⟨_, rfl, at0 w4 (fun W => w1.grownBy W none), ⟨0, rfl⟩, shut_at0 (all_kept G4.out), fun _ h => h, ?_⟩
  refine mix_rd rfl rfl (.slice a2 n2 c2) (fun W hW => by go_simp) ?_
  refine mix_call rfl rfl 56 #[.slice a2 n2 c2] (fun W => by go_simp) ?_
  rintro W ⟨m5, rfl⟩
  refine (values_any _ a2 n2 c2 rfl (w4.drewN m5)).mono ?_
  rintro e w5 ⟨rfl, hw5⟩
  have HG := hid_mk (show Boxed w5 w4.heap.size 22 (.slice a2 n2 c2) ∧ w.grownBy w5 none ∧ w.heap.size ≤ w4.heap.size ∧ w4.heap.size < w5.heap.size ∧ w1.grownBy w5 none by
    rw [hw5]
    have g5 : w4.grownBy ((w4.drewN m5).alloc (.cells #[.slice a2 n2 c2] 22)) none := grown_trans (grown_drewN _ m5 none) (World.grownBy_alloc _ _ none)
    exact ⟨Boxed.new _ _ _, grown_trans (grown_trans HA.out.2 G4.out) g5, (grown_trans HA.out.2 G4.out).size, by simp [World.drewN], grown_trans G4.out g5⟩)
  rw [show (w4.drewN m5).heap.size = w4.heap.size from rfl]
  clear hw5
  refine ⟨_, rfl, at0 w5 (fun W => w1.grownBy W none), ⟨0, rfl⟩, shut_at0 (all_kept HG.out.2.2.2.2), fun _ h => h, ?_⟩
  repeat (refine mix_rd1 rfl rfl (fun K hK => ?_); apply Exists.intro; refine ⟨fun W hW => ?_, ?_⟩; (go_simp; rfl); (go_simp; refine hK _ _ ?_; clear hK K))
  refine mix_nil ?_
  rintro W ⟨m7, rfl⟩
  go_wp2_with fail
  go_ret
  have g7 := grown_drewN w5 m7 none
  rw [← HP.out]
  refine ⟨_, _, rfl, SeqAt.values HSL.out (grown_trans HE.out.2.1 (grown_trans HG.out.2.1 g7)) (HG.out.1.kept g7 (by simp)) HG.out.2.2.1 HG.out.2.2.2.1 (by simp; omega), grown_trans HG.out.2.1 g7⟩
/-- The term of an entry that is here, or of the base. -/
def termA (b t : Int) (es : List Ent) (i : Int) : Int := if i = b then t else match es[(i - b - 1).toNat]? with | some x => x.term | none => 0
theorem termA_base (b t : Int) (es : List Ent) : termA b t es b = t := by unfold termA; rw [if_pos rfl]
theorem termA_at {b t : Int} {es : List Ent} {i : Int} (h : i ≠ b) {x : Ent} (hx : es[(i - b - 1).toNat]? = some x) : termA b t es i = x.term := by unfold termA; rw [if_neg h, hx]

set_option maxHeartbeats 4000000 in
theorem termAt_any (b t : Int) (lv : Value) (es : List Ent) (i : Int) (w : World) (h : EntsR w lv es) (hn : es.length ≤ 1000000) (hb : 0 ≤ b ∧ b ≤ 10000000000000) (hi : b ≤ i ∧ i ≤ b + es.length) (hgo : goB b t es = true) :
    Calls Try.prog 49 #[viewV b t lv, .int .i64 i] w fun e w' => e = .returned (.int .i64 (termA b t es i)) ∧ w.grownBy w' none := by
  obtain ⟨a, c, rfl⟩ := h.len
  have HE := hid_mk (And.intro h hgo)
  clear h hgo
  have hV : viewV b t (.slice a es.length c) = .agg #[.int .i64 b, .int .i64 t, .slice a es.length c] := rfl
  have HV := hid_mk hV
  rw [hV]
  clear hV
  have HA := hid_mk (And.intro (VB.new w b t (.slice a es.length c)) (World.grownBy_alloc w (.cells #[.int .i64 b, .int .i64 t, .slice a es.length c] 25) none))
  by_cases hib : i = b
  · have HT := hid_mk (show termA b t es i = t by rw [hib]; exact termA_base _ _ _)
    subst hib
    go_enter Try.func49, Try.ntmps49
    go_upto_region 1 with fail
    generalize w.alloc (.cells #[.int .i64 i, .int .i64 t, .slice a es.length c] 25) = w1 at *
    obtain ⟨v0, v1, v2⟩ := HA.out.1.cells
    go_wp2
    go_ret
    exact ⟨by rw [HT.out]; rfl, HA.out.2⟩
  · have hlt : (i - b - 1).toNat < es.length := by omega
    obtain ⟨x, hx⟩ : ∃ x, es[(i - b - 1).toNat]? = some x := ⟨es[(i - b - 1).toNat], List.getElem?_eq_getElem hlt⟩
    have HT := hid_mk (termA_at (t := t) hib hx)
    obtain ⟨eb, off, hae, hcap, hcs⟩ := HE.out.1.at (by omega)
    obtain ⟨dv, q0, q1, q2, q3, hxb, hxl⟩ := hcs _ x hx
    have HPE := hid_mk (show plc b es.length i = (i - b - 1).toNat from plc_at (by omega) hi.2)
    obtain ⟨P, hP⟩ : ∃ P, P = (i - b - 1).toNat := ⟨_, rfl⟩
    rw [← hP] at q0 HPE hlt
    subst hae
    clear hcs hxb hxl hx q1 q2 q3 hP
    have hlt' : (P : Int) < es.length := by omega
    have HCL : ∀ W, (w.alloc (.cells #[.int .i64 b, .int .i64 t, .slice (some ⟨eb, off, none⟩) es.length c] 25)).grownBy W none → W.cell? ⟨eb, off + P * 4, none⟩ = some (.int .i64 x.term) ∧ W.cell? ⟨w.heap.size, 0, none⟩ = some (.int .i64 b) ∧ W.cell? ⟨w.heap.size, 1, none⟩ = some (.int .i64 t) ∧ W.cell? ⟨w.heap.size, 2, none⟩ = some (.slice (some ⟨eb, off, none⟩) es.length c) := fun W hW => ⟨(grown_trans HA.out.2 hW).cell q0 (by simp), (HA.out.1.kept hW (by simp)).cells⟩
    have HI := hid_mk (show I64 i from by unfold I64; omega)
    clear q0
    go_enter Try.func49, Try.ntmps49
    go_upto_region 1 with fail
    generalize w.alloc (.cells #[.int .i64 b, .int .i64 t, .slice (some ⟨eb, off, none⟩) es.length c] 25) = w1 at *
    have hib' : (i == b) = false := by rw [beq_eq_false_iff_ne]; exact hib
    obtain ⟨_, v0, v1, v2⟩ := HCL w1 (grown_refl _ _)
    go_upto_region 3 with fail
    refine wp_region_mix [(0, true), (1, true), (2, true), (3, true), (4, false), (5, true), (6, true), (7, true), (8, true)] (at0 w1 (fun W => w1.grownBy W none)) (by kernel_rfl) (by kernel_rfl) rfl (by kernel_rfl) (shut_at0 (fun m => grown_drewN _ m none)) ⟨1, rfl⟩ ?_
    clear v0 v1 v2
    repeat (refine mix_rd1 rfl rfl (fun K hK => ?_); apply Exists.intro; refine ⟨fun W hW => ?_, ?_⟩; (obtain ⟨ce, c0, c1, c2⟩ := HCL W hW; go_simp; rfl); (go_simp; refine hK _ _ ?_; clear hK K))
    refine mix_call rfl rfl 45 #[viewV b t (.slice (some ⟨eb, off, none⟩) es.length c), .int .i64 i] (fun W => by rw [HV.out]; go_simp) ?_
    rintro W ⟨m4, rfl⟩
    refine (place_any b t _ es i (w1.drewN m4) (HE.out.1.kept (grown_trans HA.out.2 (grown_drewN _ m4 none))) hn hb HI.out HE.out.2).mono ?_
    rintro e w4 ⟨rfl, hg4⟩
    rw [HPE.out]
    have G4 := hid_mk (show w1.grownBy w4 none from grown_trans (grown_drewN _ m4 none) hg4)
    clear hg4
    refine ⟨_, rfl, at0 w4 (fun W => w1.grownBy W none), ⟨0, rfl⟩, shut_at0 (all_kept G4.out), fun _ h => h, ?_⟩
    repeat (refine mix_rd1 rfl rfl (fun K hK => ?_); apply Exists.intro; refine ⟨fun W hW => ?_, ?_⟩; (obtain ⟨ce, c0, c1, c2⟩ := HCL W hW; go_simp; rfl); (go_simp; refine hK _ _ ?_; clear hK K))
    refine mix_nil ?_
    rintro W ⟨m7, rfl⟩
    go_wp2_with fail
    go_ret
    exact ⟨by rw [HT.out]; rfl, grown_trans HA.out.2 (grown_trans G4.out (grown_drewN _ m7 none))⟩
end Go.Proofs.Ytinpcpojadcegaa.W
