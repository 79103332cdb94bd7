/- FrameRot: its walk. -/
import Derived.Test.YtdpigghjgjaleaaDoorTorn
namespace Go.Proofs.YtdpigghjgjaleaaDoor
open Go.RowKit Go.Maps
set_option linter.unusedVariables false
set_option linter.unusedSimpArgs false

theorem told_rot (P : List (UInt8 × List UInt8)) (hP : ∀ f ∈ P, f.2.length ≤ 65536) (i : Nat) (p : UInt8 × List UInt8) (hp : P[i]? = some p) (j : Nat) (h4 : 4 ≤ j) (hj : j < p.2.length + 9) (v u : UInt8) (hu : (rowB P)[(rowB (P.take i)).length + j]? = some u) (hv : v ≠ u) {s : List Fr}
    (h : Told ((rowB P).set ((rowB (P.take i)).length + j) v) s) : s.map Fr.pr = P.take i ∧ endOf s = (rowB (P.take i)).length := by
  have hi := (List.getElem?_eq_some_iff.1 hp).1
  have he := (List.getElem?_eq_some_iff.1 hp).2
  have e : rowB P = rowB (P.take i) ++ (putB p.1 p.2 ++ rowB (P.drop (i + 1))) := by
    have : P = P.take i ++ (p :: P.drop (i + 1)) := by rw [← he, ← List.drop_eq_getElem_cons hi, List.take_append_drop]
    conv => lhs; rw [this]
    rw [rowB_append, rowB_cons]
  rw [e] at hu h
  unfold Told at h
  rw [scanB_rot (P.take i) (fun f hf => hP f (List.mem_of_mem_take hf)) p.1 p.2 _ (hP p (List.mem_of_getElem? hp)) j h4 hj v ?_] at h
  · simp only [Prod.mk.injEq] at h
    exact ⟨h.1.symm, h.2.symm⟩
  · rw [List.getElem?_append_right (by omega), show (rowB (P.take i)).length + j - (rowB (P.take i)).length = j by omega, List.getElem?_append_left (by rw [putB_len]; omega)] at hu
    rw [hu]
    intro e
    exact hv (Option.some.inj e).symm
theorem rowB_take_succ (P : List (UInt8 × List UInt8)) (i : Nat) (p : UInt8 × List UInt8) (hp : P[i]? = some p) : (rowB (P.take (i + 1))).length = (rowB (P.take i)).length + (p.2.length + 9) := by
  have hi := (List.getElem?_eq_some_iff.1 hp).1
  have he := (List.getElem?_eq_some_iff.1 hp).2
  rw [List.take_succ_eq_append_getElem hi, he, rowB_append, rowB_cons, rowB_nil]
  simp [putB_len]
theorem rowB_take_le (P : List (UInt8 × List UInt8)) (i : Nat) : (rowB (P.take i)).length ≤ (rowB P).length := by
  conv => rhs; rw [← List.take_append_drop i P, rowB_append]
  simp

set_option maxRecDepth 100000 in
set_option maxHeartbeats 8000000 in
theorem rot_any (fv : Value) (fs : List RF) (i k : Int) (x : UInt8) (w : World) (h : Frs w fv fs) (hl : fs.length ≤ 140737488355328) (ht : Tab w) :
    Calls Tryd.prog 7 #[fv, .int .i64 i, .int .i64 k, .int .u8 x.toNat] w fun e w' => e = .returned (.bool true) ∧ w.grownBy w' none := by
  obtain ⟨av, cv, rfl⟩ := h.len
  have HF := hid_mk h
  have HT := hid_mk ht
  have hx8 := x.toNat_lt
  clear h ht
  go_enter Tryd.func7, Tryd.ntmps7
  go_wp2_with fail
  refine (row_any _ fs w HF.out hl HT.out).mono ?_
  rintro e w1 ⟨hg1, (rfl | ⟨ba, bc, ea, ec, hok, rfl, hob, hoe⟩)⟩
  · have H1 := hid_mk hg1
    clear hg1
    go_wp2_with fail
    refine (knows_any w1 (HT.out.kept H1.out)).mono ?_
    rintro e w2 ⟨rfl, hg2⟩
    go_wp2
    go_ret
    exact ⟨rfl, grown_trans H1.out hg2⟩
  · have HP := hid_mk (prs_ok hok)
    have hLb := row_len_le _ hok
    have hm50 : (fs.take 50).length ≤ 50 := by simp; omega
    have hml : (fs.take 50).length ≤ fs.length := by simp; omega
    obtain ⟨L, hL⟩ : ∃ L, L = (rowB (prs (fs.take 50))).length := ⟨_, rfl⟩
    obtain ⟨m, hm⟩ : ∃ m, m = (fs.take 50).length := ⟨_, rfl⟩
    rw [← hL] at hLb hob ⊢
    rw [← hm] at hm50 hml hLb hoe ⊢
    have hLb' : L ≤ 3277250 := by omega
    have H1 := hid_mk (And.intro hg1 (And.intro hok (And.intro hob hoe)))
    have HL := hid_mk hL
    have HM := hid_mk hm
    clear hg1 hok hob hoe hL hm hLb
    by_cases hm0 : m = 0
    · subst hm0
      go_wp2_with fail
      refine (knows_any w1 (HT.out.kept H1.out.1)).mono ?_
      rintro e w2 ⟨rfl, hg2⟩
      go_wp2
      go_ret
      exact ⟨rfl, grown_trans H1.out.1 hg2⟩
    have hm0' : ((m : Int) == 0) = false := by rw [beq_eq_false_iff_ne]; omega
    by_cases hx0 : x.toNat = 0
    · have hx0' : ((x.toNat : Int) == 0) = true := by simp [hx0]
      go_wp2_with fail
      refine (knows_any w1 (HT.out.kept H1.out.1)).mono ?_
      rintro e w2 ⟨rfl, hg2⟩
      go_wp2
      go_ret
      exact ⟨rfl, grown_trans H1.out.1 hg2⟩
    have hx0' : ((x.toNat : Int) == 0) = false := by rw [beq_eq_false_iff_ne]; omega
    obtain ⟨P, hP⟩ : ∃ P, P = prs (fs.take 50) := ⟨_, rfl⟩
    have hPl : P.length = m := by rw [hP, HM.out]; simp [prs]
    have HEND : Hid (∀ j, j < m → (endsL (fs.take 50))[j]? = some (rowB (P.take (j + 1))).length) := hid_mk fun j hj => by rw [hP]; exact endsL_get _ j (by rw [← HM.out]; exact hj)
    have HPE := hid_mk (And.intro hP hPl)
    have HPK := hid_mk (show ∀ f ∈ P, f.2.length ≤ 65536 by rw [hP]; exact HP.out)
    have HLP := hid_mk (show (rowB P).length = L by rw [hP]; exact HL.out.symm)
    -- which frame
    obtain ⟨q1, q2, q3⟩ := twice_mod i (m : Int) (by omega) (by omega)
    have hi0 := Int.emod_nonneg i (b := (m : Int)) (by omega)
    have hi1 := Int.emod_lt_of_pos i (b := (m : Int)) (by omega)
    obtain ⟨a, ha⟩ : ∃ a : Nat, i % (m : Int) = (a : Int) := ⟨(i % (m : Int)).toNat, by omega⟩
    rw [ha] at q3
    have ham : a < m := by omega
    obtain ⟨p, hp⟩ : ∃ p, P[a]? = some p := ⟨_, List.getElem?_eq_getElem (by omega)⟩
    obtain ⟨F, hF⟩ : ∃ F, F = (rowB (P.take a)).length := ⟨_, rfl⟩
    obtain ⟨y, hy⟩ : ∃ y, y = (rowB (P.take (a + 1))).length := ⟨_, rfl⟩
    have hyF : y = F + (p.2.length + 9) := by rw [hy, hF]; exact rowB_take_succ P a p hp
    have hyL : y ≤ L := by rw [hy, ← HLP.out]; exact rowB_take_le P (a + 1)
    -- which byte
    obtain ⟨nn, hnn⟩ : ∃ nn : Nat, nn = p.2.length + 5 := ⟨_, rfl⟩
    have hnnI : (y : Int) - (F : Int) - 4 = (nn : Int) := by omega
    obtain ⟨r1, r2, r3⟩ := twice_mod k (nn : Int) (by omega) (by omega)
    have hk0 := Int.emod_nonneg k (b := (nn : Int)) (by omega)
    have hk1 := Int.emod_lt_of_pos k (b := (nn : Int)) (by omega)
    obtain ⟨b, hb⟩ : ∃ b : Nat, k % (nn : Int) = (b : Int) := ⟨(k % (nn : Int)).toNat, by omega⟩
    rw [hb] at r3
    obtain ⟨pos, hpos⟩ : ∃ pos, pos = F + 4 + b := ⟨_, rfl⟩
    have hposI : (F : Int) + 4 + (b : Int) = (pos : Int) := by omega
    have hposL : pos < L := by omega
    have hnn0 : ¬ ((nn : Int) = 0) := by omega
    have hmz : ¬ ((m : Int) = 0) := by omega
    have hFL : F < L := by omega
    have hnn5 : nn ≤ 65541 := by
      have := HPK.out p (List.mem_of_getElem? hp)
      omega
    -- the byte itself
    obtain ⟨ge, ec', e1, hcells⟩ := ints_cell H1.out.2.2.2 (by omega)
    injection e1 with e1 _ e3
    subst e1
    subst e3
    have hca := hcells a _ (HEND.out a ham)
    rw [← hy] at hca
    have hcb : 0 < a → w1.cell? ⟨ge, a - 1, none⟩ = some (.int .i64 F) := fun h0 => by
      have := hcells (a - 1) _ (HEND.out (a - 1) (by omega))
      rw [show a - 1 + 1 = a by omega, ← hF] at this
      exact this
    obtain ⟨g, bcap, cur, e5, hge, _⟩ := H1.out.2.2.1.at (by rw [← HL.out]; omega)
    rw [← HL.out] at e5
    injection e5 with e5 _ e7
    subst e5
    subst e7
    obtain ⟨u, hu⟩ : ∃ u, (rowB P)[pos]? = some u := ⟨_, List.getElem?_eq_getElem (by rw [HLP.out]; exact hposL)⟩
    have hby : Byt w1 (.slice (some ⟨g, 0, none⟩) L bc) (rowB P) := by rw [hP]; exact H1.out.2.2.1.byt
    obtain ⟨b', off', cap', e8, _, hcc⟩ := hby.at (by rw [HLP.out]; omega)
    rw [HLP.out] at e8
    cases e8
    have hcu := hcc pos u hu
    rw [Nat.zero_add] at hcu
    have hfz := (lent_blk H1.out.2.2.1).2 pos
    have hxx := xor_u8 u x
    have HBS := hid_mk (hby.set pos (by rw [HLP.out]; exact hposL) (u ^^^ x) _ rfl)
    rw [Nat.zero_add] at HBS
    have hne := xor_ne u x (fun e => hx0 (by rw [e]; rfl))
    have hu8 := u.toNat_lt
    obtain ⟨yy, hyy⟩ : ∃ yy, yy = (u ^^^ x).toNat := ⟨_, rfl⟩
    have hyy8 : yy < 256 := by rw [hyy]; exact (u ^^^ x).toNat_lt
    rw [← hyy] at hxx HBS
    have HALL := hid_mk (And.intro hp (And.intro hF (And.intro hpos (And.intro hu (And.intro hne (And.intro hge (And.intro hnn hb)))))))
    have HB9 := hid_mk (show b < p.2.length + 5 by omega)
    have HYF := hid_mk hyF
    have hFy : F + 9 ≤ y := by omega
    have hbnn : b < nn := by omega
    clear hyF
    clear hP hPl hi0 hi1 hk0 hk1 hcells hby hcc hp hF hpos hu hne hge hnn hb hy hyy
    have hgz : g ≠ 0 := by
      have := HT.out.pos
      have := HALL.out.2.2.2.2.2.1
      omega
    have HG2 := hid_mk (grown_new H1.out.1 (grown_setCell w1 g pos (.int .u8 yy)) HALL.out.2.2.2.2.2.1)
    have HTB := hid_mk ((HT.out.kept H1.out.1).set8 g pos (.int .u8 yy) hgz)
    clear hgz
    rcases Nat.eq_zero_or_pos a with h0 | h0
    · have hF0 : F = 0 := by rw [HALL.out.2.1, h0]; rfl
      subst h0
      subst hF0
      have hnnI' : (y : Int) - 4 = (nn : Int) := by omega
      have hposI' : (4 : Int) + (b : Int) = (pos : Int) := by omega
      have q3' : (i.tmod (m : Int) + (m : Int)).tmod (m : Int) = 0 := by simpa using q3
      clear hcb hnnI hposI q3
      go_wp2_with fail
      refine (scan_any _ ((rowB P).set pos (u ^^^ x)) _ HBS.out HTB.out (by rw [List.length_set, HLP.out]; omega)).mono ?_
      rintro e w2 ⟨s, lv, hT, rfl, hrow, hg2⟩
      have hposE : pos = (rowB (P.take 0)).length + (4 + b) := by rw [← HALL.out.2.1, HALL.out.2.2.1]; omega
      rw [hposE] at hT
      obtain ⟨hs1, hs2⟩ := told_rot P HPK.out 0 p HALL.out.1 (4 + b) (by omega) (by have := HB9.out; omega) (u ^^^ x) u (by rw [← hposE]; exact HALL.out.2.2.2.1) HALL.out.2.2.2.2.1 hT
      rw [← HALL.out.2.1] at hs2
      rw [hs2, List.length_set, HLP.out]
      have hsl : s.length = 0 := by
        have h1 := congrArg List.length hs1
        have := HPE.out.2
        rw [List.length_map, List.length_take] at h1
        omega
      obtain ⟨la2, lc2, rfl⟩ := row_shape hrow.1
      rw [hsl] at hrow ⊢
      have hG2 : w.grownBy w2 none := grown_trans HG2.out hg2
      obtain ⟨a6, c6, hsl6, hfr6⟩ := (HF.out.kept hG2).take 0 (by omega)
      have hsl6' : ∀ w', (Instr.slice 40 (.slice av fs.length cv) none (some (.int .i64 0)) none).run Tryd.prog w' = .ok (.slice a6 0 c6) w' := hsl6
      have hPN : P.take 0 = prs (fs.take 0) := by rw [HPE.out.1, prs_take, prs_take, List.take_take, Nat.min_eq_left (by omega)]
      have hok3 : ∀ f ∈ fs.take 0, okF f := fun f hf => H1.out.2.1 f (by
        have : fs.take 0 = (fs.take 50).take 0 := by rw [List.take_take, Nat.min_eq_left (by omega)]
        rw [this] at hf
        exact List.mem_of_mem_take hf)
      have hms : Calls Tryd.prog 21 #[.slice la2 0 lc2, .slice a6 0 c6] w2 fun e w' => e = .returned (.bool true) ∧ w2.grownBy w' none :=
        same_any _ _ s _ (fs.take 0) w2 hrow hfr6 (alike_of (by rw [hs1, hPN]) hok3) (by omega)
      have HMS := hid_mk hms
      have hdec : decide (0 = L) = false := decide_eq_false (by omega)
      rw [hdec]
      have HG := hid_mk hG2
      clear hT hposE hs1 hs2 hsl hrow hg2 hG2 hsl6 hfr6 hPN hok3 hms hdec
      go_wp2_with (first
        | (go_at_call 21; refine HMS.out.mono ?_; rintro e w5 ⟨rfl, hg5⟩; have G5 := hid_mk hg5; clear hg5)
        | (go_at_call 13; refine (knows_any _ ((HT.out.kept HG.out).kept G5.out)).mono ?_; rintro e w6 ⟨rfl, hg6⟩; have G6 := hid_mk hg6; clear hg6))
      go_ret
      exact ⟨rfl, grown_trans HG.out (grown_trans G5.out G6.out)⟩
    · have hcb' := hcb h0
      have h0I : (0 : Int) < (a : Int) := by omega
      have hbI : (0 : Int) ≤ (a : Int) - 1 := by omega
      have hbI2 : (a : Int) - 1 < (m : Int) := by omega
      have hbN : ((a : Int) - 1).toNat = a - 1 := by omega
      clear hcb
      go_wp2_with fail
      refine (scan_any _ ((rowB P).set pos (u ^^^ x)) _ HBS.out HTB.out (by rw [List.length_set, HLP.out]; omega)).mono ?_
      rintro e w2 ⟨s, lv, hT, rfl, hrow, hg2⟩
      have hposE : pos = (rowB (P.take a)).length + (4 + b) := by rw [← HALL.out.2.1, HALL.out.2.2.1]; omega
      rw [hposE] at hT
      obtain ⟨hs1, hs2⟩ := told_rot P HPK.out a p HALL.out.1 (4 + b) (by omega) (by have := HB9.out; omega) (u ^^^ x) u (by rw [← hposE]; exact HALL.out.2.2.2.1) HALL.out.2.2.2.2.1 hT
      rw [← HALL.out.2.1] at hs2
      rw [hs2, List.length_set, HLP.out]
      have hsl : s.length = a := by
        have h1 := congrArg List.length hs1
        have := HPE.out.2
        rw [List.length_map, List.length_take] at h1
        omega
      obtain ⟨la2, lc2, rfl⟩ := row_shape hrow.1
      rw [hsl] at hrow ⊢
      have hG2 : w.grownBy w2 none := grown_trans HG2.out hg2
      obtain ⟨a6, c6, hsl6, hfr6⟩ := (HF.out.kept hG2).take a (by omega)
      have hsl6' : ∀ w', (Instr.slice 40 (.slice av fs.length cv) none (some (.int .i64 a)) none).run Tryd.prog w' = .ok (.slice a6 a c6) w' := hsl6
      have hPN : P.take a = prs (fs.take a) := by rw [HPE.out.1, prs_take, prs_take, List.take_take, Nat.min_eq_left (by omega)]
      have hok3 : ∀ f ∈ fs.take a, okF f := fun f hf => H1.out.2.1 f (by
        have : fs.take a = (fs.take 50).take a := by rw [List.take_take, Nat.min_eq_left (by omega)]
        rw [this] at hf
        exact List.mem_of_mem_take hf)
      have hms : Calls Tryd.prog 21 #[.slice la2 a lc2, .slice a6 a c6] w2 fun e w' => e = .returned (.bool true) ∧ w2.grownBy w' none :=
        same_any _ _ s _ (fs.take a) w2 hrow hfr6 (alike_of (by rw [hs1, hPN]) hok3) (by omega)
      have HMS := hid_mk hms
      have hdec : decide (F = L) = false := decide_eq_false (by omega)
      rw [hdec]
      have HG := hid_mk hG2
      clear hT hposE hs1 hs2 hsl hrow hg2 hG2 hsl6 hfr6 hPN hok3 hms hdec
      go_wp2_with (first
        | (go_at_call 21; refine HMS.out.mono ?_; rintro e w5 ⟨rfl, hg5⟩; have G5 := hid_mk hg5; clear hg5)
        | (go_at_call 13; refine (knows_any _ ((HT.out.kept HG.out).kept G5.out)).mono ?_; rintro e w6 ⟨rfl, hg6⟩; have G6 := hid_mk hg6; clear hg6))
      go_ret
      exact ⟨rfl, grown_trans HG.out (grown_trans G5.out G6.out)⟩

end Go.Proofs.YtdpigghjgjaleaaDoor
