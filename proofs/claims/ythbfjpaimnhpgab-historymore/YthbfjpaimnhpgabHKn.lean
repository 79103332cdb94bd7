/- history: the law's knows. -/
import Derived.Test.YthbfjpaimnhpgabHOx
namespace Go.Proofs.Ythbfjpaimnhpgab
open Go.RowKit Go.Maps
set_option linter.unusedVariables false
set_option linter.unusedSimpArgs false
set_option maxRecDepth 100000

/-- What Legal says of calls that may be. -/
def legalB (l : List Ca) (o : List Int) : Nat × Int :=
  if someG l.length o [] = true then
    if countG (rowG l o) < countG l then (o.length, 3)
    else match lateG (rowG l o) with
      | some i => (i, 51)
      | none => match untrueG ⟨0, []⟩ (rowG l o) with
        | some i => (i, 51)
        | none => (0, 0)
  else (0, 1)
theorem legal_right {l : List Ca} (h : RightP l) (o : List Int) : legalG l o = legalB l o := by
  unfold legalG legalB
  by_cases hs : someG l.length o [] = true
  · rw [if_neg (fun e => e ⟨h, hs⟩), if_pos hs]; rfl
  · rw [if_pos (fun e => hs e.2), if_neg hs]
def k0 : Ca := ⟨0, 1, 2, 1, 0, true, 0, 0, 0, 0, [7], []⟩
def k1 : Ca := ⟨1, 3, 4, 2, 0, true, 0, 9, 1, 0, [], [[7]]⟩
theorem k_right : RightP [k0, k1] := ⟨by decide, by decide, by
  simp only [List.pairwise_cons, List.mem_singleton, List.not_mem_nil, false_implies, implies_true, List.Pairwise.nil, and_true]
  rintro y rfl e
  exact absurd e (by decide)⟩
theorem k_leg : legalG [k0, k1] [0, 1] = (0, 0) ∧ legalG [k0, k1] [1, 0] = (0, 51) ∧ legalG [k0, k1] [0] = (1, 3) := by
  rw [legal_right k_right, legal_right k_right, legal_right k_right]
  exact ⟨by decide, by decide, by decide⟩
def kx0 (q : Nat) : CE := ⟨k0, .slice (some ⟨q, 0, none⟩) 1 1, .slice none 0 0, []⟩
def kx1 (q : Nat) : CE := ⟨k1, .slice none 0 0, .slice (some ⟨q + 1 + 1, 0, none⟩) 1 1, [([7], .slice (some ⟨q + 1, 0, none⟩) 1 1)]⟩
theorem kn_world (w : World) : CsR ((((w.alloc (.cells #[.int .u8 7] 5)).alloc (.cells #[.int .u8 7] 5)).alloc (.cells #[.slice (some ⟨w.heap.size + 1, 0, none⟩) 1 1] 24)).alloc (.cells #[.int .i64 0, .int .i64 1, .int .i64 2, .int .i64 1, .int .i64 0, .bool true, .int .i64 0, .int .i64 0, .int .i64 0, .int .i64 0, .slice (some ⟨w.heap.size, 0, none⟩) 1 1, .slice none 0 0, .int .i64 1, .int .i64 3, .int .i64 4, .int .i64 2, .int .i64 0, .bool true, .int .i64 0, .int .i64 9, .int .i64 1, .int .i64 0, .slice none 0 0, .slice (some ⟨w.heap.size + 1 + 1, 0, none⟩) 1 1] 42)) (.slice (some ⟨w.heap.size + 1 + 1 + 1, 0, none⟩) 2 2) [kx0 w.heap.size, kx1 w.heap.size] ∧ w.grownBy ((((w.alloc (.cells #[.int .u8 7] 5)).alloc (.cells #[.int .u8 7] 5)).alloc (.cells #[.slice (some ⟨w.heap.size + 1, 0, none⟩) 1 1] 24)).alloc (.cells #[.int .i64 0, .int .i64 1, .int .i64 2, .int .i64 1, .int .i64 0, .bool true, .int .i64 0, .int .i64 0, .int .i64 0, .int .i64 0, .slice (some ⟨w.heap.size, 0, none⟩) 1 1, .slice none 0 0, .int .i64 1, .int .i64 3, .int .i64 4, .int .i64 2, .int .i64 0, .bool true, .int .i64 0, .int .i64 9, .int .i64 1, .int .i64 0, .slice none 0 0, .slice (some ⟨w.heap.size + 1 + 1, 0, none⟩) 1 1] 42)) none := by
  have g1 := World.grownBy_alloc w (.cells #[.int .u8 7] 5) none
  have g2 := World.grownBy_alloc (w.alloc (.cells #[.int .u8 7] 5)) (.cells #[.int .u8 7] 5) none
  have g3 := World.grownBy_alloc ((w.alloc (.cells #[.int .u8 7] 5)).alloc (.cells #[.int .u8 7] 5)) (.cells #[.slice (some ⟨w.heap.size + 1, 0, none⟩) 1 1] 24) none
  have g4 := World.grownBy_alloc (((w.alloc (.cells #[.int .u8 7] 5)).alloc (.cells #[.int .u8 7] 5)).alloc (.cells #[.slice (some ⟨w.heap.size + 1, 0, none⟩) 1 1] 24)) (.cells #[.int .i64 0, .int .i64 1, .int .i64 2, .int .i64 1, .int .i64 0, .bool true, .int .i64 0, .int .i64 0, .int .i64 0, .int .i64 0, .slice (some ⟨w.heap.size, 0, none⟩) 1 1, .slice none 0 0, .int .i64 1, .int .i64 3, .int .i64 4, .int .i64 2, .int .i64 0, .bool true, .int .i64 0, .int .i64 9, .int .i64 1, .int .i64 0, .slice none 0 0, .slice (some ⟨w.heap.size + 1 + 1, 0, none⟩) 1 1] 42) none
  have b1 := (own_new w [7] #[.int .u8 7] rfl (by unfold maxLen; simp)).byt.kept (grown_trans g2 (grown_trans g3 g4))
  have b2 := (own_new (w.alloc (.cells #[.int .u8 7] 5)) [7] #[.int .u8 7] rfl (by unfold maxLen; simp)).byt.kept (grown_trans g3 g4)
  have b3 := (blk_alloc ((w.alloc (.cells #[.int .u8 7] 5)).alloc (.cells #[.int .u8 7] 5)) #[.slice (some ⟨w.heap.size + 1, 0, none⟩) 1 1] 24).kept g4 (by simp)
  have b4 := blk_alloc (((w.alloc (.cells #[.int .u8 7] 5)).alloc (.cells #[.int .u8 7] 5)).alloc (.cells #[.slice (some ⟨w.heap.size + 1, 0, none⟩) 1 1] 24)) #[.int .i64 0, .int .i64 1, .int .i64 2, .int .i64 1, .int .i64 0, .bool true, .int .i64 0, .int .i64 0, .int .i64 0, .int .i64 0, .slice (some ⟨w.heap.size, 0, none⟩) 1 1, .slice none 0 0, .int .i64 1, .int .i64 3, .int .i64 4, .int .i64 2, .int .i64 0, .bool true, .int .i64 0, .int .i64 9, .int .i64 1, .int .i64 0, .slice none 0 0, .slice (some ⟨w.heap.size + 1 + 1, 0, none⟩) 1 1] 42
  simp only [World.size_alloc] at b2 b3 b4
  refine ⟨⟨.inr ⟨_, 0, 2, rfl, b4.lt, fun j x hj => ?_⟩, fun x hx => ?_⟩, grown_trans g1 (grown_trans g2 (grown_trans g3 g4))⟩
  · rw [Nat.zero_add, b4.cell]
    simpa [cals, calC, kx0, kx1, k0, k1] using hj
  · rcases List.mem_cons.1 hx with rfl | hx
    · exact ⟨b1, RecR.nil _, rfl⟩
    · rw [List.mem_singleton.1 hx]
      refine ⟨Byt.nil _, ⟨.inr ⟨_, 0, 1, rfl, Nat.le_refl _, fun j x hj => ?_⟩, fun p hp => ?_⟩, rfl⟩
      · rw [Nat.zero_add, b3.cell]
        match j, hj with
        | 0, hj => simp [kx1] at hj; subst hj; rfl
        | j + 1, hj => simp [kx1] at hj
      · simp only [kx1, List.mem_singleton] at hp
        subst hp
        exact b2
theorem kn_gs (q : Nat) : gs [kx0 q, kx1 q] = [k0, k1] := rfl
theorem kn_fit (q : Nat) : ∀ x ∈ [kx0 q, kx1 q], x.R.length ≤ 5864062014805 := by
  intro x hx
  rcases List.mem_cons.1 hx with rfl | hx
  · simp [kx0]
  · rw [List.mem_singleton.1 hx]; simp [kx1]
set_option maxHeartbeats 4000000 in
theorem knows_any (w : World) : Calls Try.prog 7 #[] w fun e w' => e = .returned (.bool true) ∧ w.grownBy w' none := by
  have HK := hid_mk (kn_world w)
  go_enter Try.func7, Try.ntmps7
  go_upto_region 2 with fail
  generalize ((((w.alloc (.cells #[.int .u8 7] 5)).alloc (.cells #[.int .u8 7] 5)).alloc (.cells #[.slice (some ⟨w.heap.size + 1, 0, none⟩) 1 1] 24)).alloc (.cells #[.int .i64 0, .int .i64 1, .int .i64 2, .int .i64 1, .int .i64 0, .bool true, .int .i64 0, .int .i64 0, .int .i64 0, .int .i64 0, .slice (some ⟨w.heap.size, 0, none⟩) 1 1, .slice none 0 0, .int .i64 1, .int .i64 3, .int .i64 4, .int .i64 2, .int .i64 0, .bool true, .int .i64 0, .int .i64 9, .int .i64 1, .int .i64 0, .slice none 0 0, .slice (some ⟨w.heap.size + 1 + 1, 0, none⟩) 1 1] 42)) = w1 at *
  obtain ⟨q, hq⟩ : ∃ q, q = w.heap.size := ⟨_, rfl⟩
  rw [← hq] at HK ⊢
  clear hq
  go_wp2_with fail
  have H1 := legal_any ((HK.out.1).kept (World.grownBy_alloc w1 (.cells #[.int .i64 0, .int .i64 1] 3) none)) (by simp) (kn_fit q) (ints_new w1 [0, 1] 3 _ rfl) (by simp)
  rw [kn_gs, k_leg.1] at H1
  refine H1.mono ?_
  rintro e w2 ⟨rfl, hg2⟩
  clear H1
  have G2 := hid_mk (show w1.grownBy w2 none from grown_trans (World.grownBy_alloc w1 _ none) hg2)
  clear hg2
  unfold legV
  go_wp2_with fail
  have H2 := legal_any ((HK.out.1.kept G2.out).kept (World.grownBy_alloc w2 (.cells #[.int .i64 1, .int .i64 0] 3) none)) (by simp) (kn_fit q) (ints_new w2 [1, 0] 3 _ rfl) (by simp)
  rw [kn_gs, k_leg.2.1] at H2
  refine H2.mono ?_
  rintro e w3 ⟨rfl, hg3⟩
  clear H2
  have G3 := hid_mk (show w1.grownBy w3 none from grown_trans G2.out (grown_trans (World.grownBy_alloc w2 _ none) hg3))
  clear hg3 G2
  unfold legV
  go_wp2_with fail
  have H3 := legal_any ((HK.out.1.kept G3.out).kept (World.grownBy_alloc w3 (.cells #[.int .i64 0] 3) none)) (by simp) (kn_fit q) (ints_new w3 [0] 3 _ rfl) (by simp)
  rw [kn_gs, k_leg.2.2] at H3
  refine H3.mono ?_
  rintro e w4 ⟨rfl, hg4⟩
  clear H3
  have G4 := hid_mk (show w1.grownBy w4 none from grown_trans G3.out (grown_trans (World.grownBy_alloc w3 _ none) hg4))
  clear hg4 G3
  unfold legV
  have HR := hid_mk (right_any (HK.out.1.kept G4.out) (by simp))
  rw [kn_gs] at HR
  go_wp2_with (first | (go_at_call 6; refine (num_any _ _).mono ?_; rintro e w' ⟨rfl, hw⟩; rw [hw]; clear hw) | (go_at_call 9; refine HR.out.mono ?_; rintro e w5 ⟨hb, hg⟩; obtain rfl := retB_true hb k_right; clear hb; replace hg := hid_mk hg))
  go_ret
  exact ⟨rfl, grown_trans HK.out.2 (grown_trans G4.out hg.out)⟩
end Go.Proofs.Ythbfjpaimnhpgab
