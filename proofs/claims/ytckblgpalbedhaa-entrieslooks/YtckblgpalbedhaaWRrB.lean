/- A reader: the document's Number. -/
import Derived.Test.YtckblgpalbedhaaWRr
namespace Go.Proofs.Ytckblgpalbedhaa.W
open Go.RowKit Go.Maps
set_option linter.unusedVariables false
set_option linter.unusedSimpArgs false

theorem rr_set2 {W : World} {b : Nat} {x y z : Value} (hb : W.heap[b]? = some (.cells #[x, y, z] 93 (0, 0))) (v : Value) : (W.setCell ⟨b, 2, none⟩ v).heap[b]? = some (.cells #[x, y, v] 93 (0, 0)) := by simp [World.setCell, Array.getElem?_modify, hb]
theorem rr_set1 {W : World} {b : Nat} {x y z : Value} (hb : W.heap[b]? = some (.cells #[x, y, z] 93 (0, 0))) (v : Value) : (W.setCell ⟨b, 1, none⟩ v).heap[b]? = some (.cells #[x, v, z] 93 (0, 0)) := by simp [World.setCell, Array.getElem?_modify, hb]

/-- Number's post. -/
def NumPost (M N b : Nat) (s : St) (w : World) (e : Ending) (w' : World) : Prop := e = .returned (.int .i64 (readN s).1) ∧ Rr w' M N b (readN s).2 ∧ w.grownBy w' (some b) ∧ w'.cell? ⟨b, 0, none⟩ = w.cell? ⟨b, 0, none⟩

theorem drop_cons {B : List UInt8} {k : Nat} {c : UInt8} {r : List UInt8} (h : B.drop k = c :: r) : k < B.length ∧ B[k]? = some c ∧ B.length = k + 1 + r.length ∧ ∀ j u, r[j]? = some u → B[k + (j + 1)]? = some u := by
  have hl := congrArg List.length h
  simp only [List.length_drop, List.length_cons] at hl
  have e : ∀ j, (B.drop k)[j]? = B[k + j]? := fun j => by rw [List.getElem?_drop]
  refine ⟨by omega, ?_, by omega, fun j u hj => ?_⟩
  · have := e 0; rw [h] at this; simpa using this.symm
  · rw [← e (j + 1), h, List.getElem?_cons_succ]; exact hj

set_option maxHeartbeats 1000000 in
theorem rnum_err (M N b : Nat) (s : St) (w : World) (h : Rr w M N b s) (he : s.e ≠ 0) : Calls Try.prog 60 #[.pointer (some ⟨b, 0, none⟩)] w (NumPost M N b s w) := by
  have H := hid_mk h
  obtain ⟨_, _, bv, B, k, hb, hy, hk, hr, hB⟩ := h
  obtain ⟨c0, c1, c2, _⟩ := rr_cells hb
  have he' : ((s.e : Int) == 0) = false := by simp; omega
  have FIN := hid_mk (show NumPost M N b s w (.returned (.int .i64 0)) w by unfold NumPost; rw [readN_bad he]; exact ⟨rfl, H.out, grown_refl _ _, rfl⟩)
  clear hy hr hb c0 c1
  go_enter Try.func60, Try.ntmps60
  go_wp2
  go_ret
  exact FIN.out
set_option maxHeartbeats 1000000 in
theorem rnum_end (M N b : Nat) (w : World) (h : Rr w M N b ⟨[], 0⟩) : Calls Try.prog 60 #[.pointer (some ⟨b, 0, none⟩)] w (NumPost M N b ⟨[], 0⟩ w) := by
  have H := hid_mk h
  obtain ⟨hM, hN, bv, B, k, hb, hy, hk, hr, hB⟩ := h
  obtain ⟨c0, c1, c2, hf⟩ := rr_cells hb
  have f2 := hf 2
  have HL := hid_mk (rleft_any M N b ⟨[], 0⟩ w H.out)
  have FIN := hid_mk (fun m => show NumPost M N b ⟨[], 0⟩ w (.returned (.int .i64 0)) ((w.drewN m).setCell ⟨b, 2, none⟩ (.int .i64 20)) by
    refine ⟨rfl, ?_, grown_trans (grown_drewN w m _) (grown_setCell _ _ _ _), by rw [(rr_cells (rr_set2 (W := w.drewN m) hb _)).1, (rr_cells hb).1]⟩
    have := rr_store hM hN hb hy hB (grown_trans (grown_drewN w m _) (grown_setCell _ _ _ _)) k 20 (rr_set2 (W := w.drewN m) hb _) hk
    rw [← hr] at this
    exact this)
  clear hy hr hb c0 c1 hf
  go_enter Try.func60, Try.ntmps60
  go_wp2_with (go_at_call 65; refine HL.out.mono ?_; rintro e wx ⟨rfl, m, rfl⟩)
  go_ret
  exact FIN.out m

set_option maxHeartbeats 2000000 in
theorem rnum_form (M N b : Nat) (c : UInt8) (r : List UInt8) (w : World) (h : Rr w M N b ⟨c :: r, 0⟩) (h6 : 6 < c.toNat) : Calls Try.prog 60 #[.pointer (some ⟨b, 0, none⟩)] w (NumPost M N b ⟨c :: r, 0⟩ w) := by
  have H := hid_mk h
  obtain ⟨hM, hN, bv, B, k, hb, hy, hk, hr, hB⟩ := h
  obtain ⟨c0, c1, c2, hf⟩ := rr_cells hb
  have f2 := hf 2
  have HL := hid_mk (rleft_any M N b ⟨c :: r, 0⟩ w H.out)
  obtain ⟨hkl, hBk, hBl, hBr⟩ := drop_cons hr.symm
  obtain ⟨bb, off, cap, rfl, hcap, hc⟩ := hy.byt.at (by omega)
  have hcc := hc k c hBk
  have FIN := hid_mk (fun W (hW : w.grownBy W none) => show NumPost M N b ⟨c :: r, 0⟩ w (.returned (.int .i64 0)) (W.setCell ⟨b, 2, none⟩ (.int .i64 21)) by
    have e1 : readN ⟨c :: r, 0⟩ = (0, ⟨c :: r, 21⟩) := by rw [readN_ok rfl]; simp only [numR_cons, if_pos h6]; rfl
    unfold NumPost
    rw [e1]
    refine ⟨rfl, ?_, grown_trans (grown_any hW _) (grown_setCell _ _ _ _), by rw [(rr_cells (rr_set2 (W := W) ((hW.block b (Array.getElem?_eq_some_iff.1 hb).1 (by simp)).trans hb) _)).1, (rr_cells hb).1]⟩
    have := rr_store hM hN hb hy hB (grown_trans (grown_any hW _) (grown_setCell _ _ _ _)) k 21 (rr_set2 (W := W) ((hW.block b (Array.getElem?_eq_some_iff.1 hb).1 (by simp)).trans hb) _) hk
    rw [← hr] at this
    exact this)
  have h6' : 6 < (c.toNat : Int) := by omega
  have hc8 := c.toNat_lt
  have hkI : (k : Int) < (B.length : Int) := by omega
  have hkI0 : (0 : Int) ≤ (k : Int) := by omega
  have hl1 : ¬ (((c :: r).length : Int) < 1) := by simp; omega
  generalize (c :: r).length = rl at *
  clear hy hr hb hf hc hBr hBk
  go_enter Try.func60, Try.ntmps60
  go_wp2_with (go_at_call 65; refine HL.out.mono ?_; rintro e wx ⟨rfl, m, rfl⟩)
  go_quiet (fail)
  go_wp2
  go_ret
  exact FIN.out _ (by repeat (first | exact grown_drewN _ _ none | exact grown_refl _ _ | refine grown_trans ?_ (grown_drewN _ _ none)))

theorem rr_fin {M N b k : Nat} {w : World} {bv : Value} {B : List UInt8} {s : St} (hM : M ≤ b) (hN : b < N) (hb : w.heap[b]? = some (.cells #[bv, .int .i64 (k : Nat), .int .i64 (0 : Nat)] 93 (0, 0))) (hy : BytIn w M N bv B) (hB : B.length ≤ 140737488355328) (hk : k ≤ B.length) (hr : s.rest = B.drop k) (h0 : s.e = 0)
    (er : Nat) (hn : numR s.rest = (0, 0, er)) : ∀ W, w.grownBy W none → NumPost M N b s w (.returned (.int .i64 0)) (W.setCell ⟨b, 2, none⟩ (.int .i64 er)) := fun W hW => by
  unfold NumPost
  rw [readN_ok h0, hn]
  refine ⟨rfl, ?_, grown_trans (grown_any hW _) (grown_setCell _ _ _ _), by rw [(rr_cells (rr_set2 (W := W) ((hW.block b (Array.getElem?_eq_some_iff.1 hb).1 (by simp)).trans hb) _)).1, (rr_cells hb).1]⟩
  have := rr_store hM hN hb hy hB (grown_trans (grown_any hW _) (grown_setCell _ _ _ _)) k er (rr_set2 (W := W) ((hW.block b (Array.getElem?_eq_some_iff.1 hb).1 (by simp)).trans hb) _) hk
  rw [← hr] at this
  simpa using this
theorem rleft_all (M N b : Nat) (s : St) (w : World) (h : Rr w M N b s) : ∀ W, w.grownBy W none → Calls Try.prog 65 #[.pointer (some ⟨b, 0, none⟩)] W fun e w' => e = .returned (.int .i64 s.rest.length) ∧ ∃ m, w' = W.drewN m :=
  fun W hW => rleft_any M N b s W (h.kept hW (fun r hr => by cases hr))

set_option maxHeartbeats 2000000 in
theorem rnum_short (M N b : Nat) (c : UInt8) (r : List UInt8) (w : World) (h : Rr w M N b ⟨c :: r, 0⟩) (h6 : ¬ 6 < c.toNat) (hs : r.length < c.toNat) : Calls Try.prog 60 #[.pointer (some ⟨b, 0, none⟩)] w (NumPost M N b ⟨c :: r, 0⟩ w) := by
  have H := hid_mk h
  obtain ⟨hM, hN, bv, B, k, hb, hy, hk, hr, hB⟩ := h
  obtain ⟨c0, c1, c2, hf⟩ := rr_cells hb
  have f2 := hf 2
  have HL := hid_mk (rleft_all M N b ⟨c :: r, 0⟩ w H.out)
  obtain ⟨hkl, hBk, hBl, hBr⟩ := drop_cons hr.symm
  obtain ⟨bb, off, cap, rfl, hcap, hc⟩ := hy.byt.at (by omega)
  have hcc := hc k c hBk
  have FIN := hid_mk (rr_fin (s := ⟨c :: r, 0⟩) hM hN hb hy hB hk hr rfl 20 (by rw [numR_cons, if_neg h6, if_pos hs]))
  have h6' : ¬ (6 < (c.toNat : Int)) := by omega
  have hc8 := c.toNat_lt
  have hkI : (k : Int) < (B.length : Int) := by omega
  have hkI0 : (0 : Int) ≤ (k : Int) := by omega
  obtain ⟨rl, hrl⟩ : ∃ rl, rl = (c :: r).length := ⟨_, rfl⟩
  have hl1 : ¬ ((rl : Int) < 1) := by rw [hrl]; simp; omega
  have hl2 : (rl : Int) < 1 + (c.toNat : Int) := by rw [hrl]; simp; omega
  simp only [← hrl] at HL
  clear hy hr hb hf hc hBr hBk hrl
  go_enter Try.func60, Try.ntmps60
  go_wp2_with (go_at_call 65; refine (HL.out _ (grown_refl _ _)).mono ?_; rintro e wx ⟨rfl, m, rfl⟩)
  go_quiet (fail)
  go_wp2_with (go_at_call 65; refine (HL.out _ ?_).mono ?_; (repeat (first | exact grown_drewN _ _ none | exact grown_refl _ _ | refine grown_trans ?_ (grown_drewN _ _ none))); rintro e wx ⟨rfl, m2, rfl⟩)
  go_ret
  exact FIN.out _ (by repeat (first | exact grown_drewN _ _ none | exact grown_refl _ _ | refine grown_trans ?_ (grown_drewN _ _ none)))

set_option maxHeartbeats 2000000 in
theorem rnum_zero (M N b : Nat) (c : UInt8) (r : List UInt8) (w : World) (h : Rr w M N b ⟨c :: r, 0⟩) (h6 : ¬ 6 < c.toNat) (hs : ¬ r.length < c.toNat) (hz : 0 < c.toNat ∧ (r.take c.toNat).getLast? = some 0) : Calls Try.prog 60 #[.pointer (some ⟨b, 0, none⟩)] w (NumPost M N b ⟨c :: r, 0⟩ w) := by
  have H := hid_mk h
  obtain ⟨hM, hN, bv, B, k, hb, hy, hk, hr, hB⟩ := h
  obtain ⟨c0, c1, c2, hf⟩ := rr_cells hb
  have f2 := hf 2
  have HL := hid_mk (rleft_all M N b ⟨c :: r, 0⟩ w H.out)
  obtain ⟨hkl, hBk, hBl, hBr⟩ := drop_cons hr.symm
  obtain ⟨bb, off, cap, rfl, hcap, hc⟩ := hy.byt.at (by omega)
  have hcc := hc k c hBk
  have FIN := hid_mk (rr_fin (s := ⟨c :: r, 0⟩) hM hN hb hy hB hk hr rfl 21 (by rw [numR_cons, if_neg h6, if_neg hs, if_pos hz]))
  have h6' : ¬ (6 < (c.toNat : Int)) := by omega
  have hc8 := c.toNat_lt
  have hkI : (k : Int) < (B.length : Int) := by omega
  have hkI0 : (0 : Int) ≤ (k : Int) := by omega
  have hz0 : 0 < (c.toNat : Int) := by omega
  have hz0N : 0 < c.toNat := by omega
  have hzd : decide (0 < c.toNat) = true := by simp; omega
  have hcz : w.cell? ⟨bb, off + (k + c.toNat), none⟩ = some (.int .u8 0) := by
    have hg := hz.2
    rw [List.getLast?_eq_getElem?, List.length_take, Nat.min_eq_left (by omega), List.getElem?_take, if_pos (by omega)] at hg
    have := hc (k + c.toNat) 0 (by have := hBr _ _ hg; rwa [show c.toNat - 1 + 1 = c.toNat by omega] at this)
    exact this
  have hkc : (k : Int) + (c.toNat : Int) < (B.length : Int) := by omega
  have hkc0 : (0 : Int) ≤ (k : Int) + (c.toNat : Int) := by omega
  have hkcN : ((k : Int) + (c.toNat : Int)).toNat = k + c.toNat := by omega
  have hkw : IntKind.i64.wrap ((k : Int) + (c.toNat : Int)) = (k : Int) + (c.toNat : Int) := by rw [IntKind.wrap_i64]; omega
  obtain ⟨rl, hrl⟩ : ∃ rl, rl = (c :: r).length := ⟨_, rfl⟩
  have hl1 : ¬ ((rl : Int) < 1) := by rw [hrl]; simp; omega
  have hl2 : ¬ ((rl : Int) < 1 + (c.toNat : Int)) := by rw [hrl]; simp; omega
  simp only [← hrl] at HL
  clear hy hr hb hf hc hBr hBk hrl hz hBl
  go_enter Try.func60, Try.ntmps60
  go_wp2_with (go_at_call 65; refine (HL.out _ (grown_refl _ _)).mono ?_; rintro e wx ⟨rfl, m, rfl⟩)
  go_quiet (fail)
  go_wp2_with (go_at_call 65; refine (HL.out _ ?_).mono ?_; (repeat (first | exact grown_drewN _ _ none | exact grown_refl _ _ | refine grown_trans ?_ (grown_drewN _ _ none))); rintro e wx ⟨rfl, m2, rfl⟩)
  go_quiet (fail)
  go_wp2
  go_ret
  exact FIN.out _ (by repeat (first | exact grown_drewN _ _ none | exact grown_refl _ _ | refine grown_trans ?_ (grown_drewN _ _ none)))

end Go.Proofs.Ytckblgpalbedhaa.W
