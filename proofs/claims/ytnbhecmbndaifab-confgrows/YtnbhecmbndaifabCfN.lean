/- conf: ConfGrows: the walk. -/
import Derived.Test.YtnbhecmbndaifabCfH
namespace Go.Proofs.Ytnbhecmbndaifab
open Go.RowKit Go.Maps
set_option linter.unusedVariables false
set_option linter.unusedSimpArgs false
set_option maxRecDepth 100000

/-- A row of numbers that came in. -/
def Nums (w : World) (v : Value) (l : List Int) : Prop := IntsR w v l ∧ l.length ≤ 17592186044416
theorem Nums.kept {w w' : World} {v : Value} {l : List Int} (h : Nums w v l) (hg : w.grownBy w' none) : Nums w' v l := ⟨h.1.kept hg, h.2⟩
/-! ### A list that is written over -/
theorem grown_setCell (w : World) (b i : Nat) (v : Value) : w.grownBy (w.setCell ⟨b, i, none⟩ v) (some b) :=
  ⟨rfl, rfl, rfl, by simp [World.setCell], fun k _ hne => Below.heap_setCell _ _ _ _ (fun e => hne (by rw [e]))⟩
theorem own_set {w W : World} {v : Value} {l : List Int} (hg : w.grownBy W none) (h : OwnI W w.heap.size v l) {i : Nat} (hi : i < l.length) : ∃ g c, v = .slice (some ⟨g, 0, none⟩) l.length c ∧ W.cell? ⟨g, i, none⟩ = some (.int .i64 l[i]) ∧ W.frozen? ⟨g, i, none⟩ = false ∧
    ∀ z, OwnI (W.setCell ⟨g, i, none⟩ (.int .i64 z)) w.heap.size v (l.set i z) ∧ w.grownBy (W.setCell ⟨g, i, none⟩ (.int .i64 z)) none := by
  rcases h.2 with ⟨rfl, h0⟩ | ⟨g, cap, cur, hv, hb, hh, h1, h2, h3, h4⟩
  · omega
  · subst hv
    have hx : cur[i]? = some (.int .i64 l[i]) := by
      have : (i64s l)[i]? = some (.int .i64 l[i]) := by simp [i64s, hi]
      rw [← h4, List.getElem?_take] at this
      split at this
      · simpa using this
      · cases this
    refine ⟨g, cap, rfl, by rw [cell_of_row _ _ _ _ _ _ hh]; exact hx, by simp [World.frozen?, hh], fun z => ⟨⟨by simp [i64s], .inr ⟨g, cap, cur.setIfInBounds i (.int .i64 z), by simp, hb, by simp [World.setCell, Array.getElem?_modify, hh], by simpa using h1, h2, by simpa using h3, ?_⟩⟩, grown_new hg (grown_setCell W g i _) hb⟩⟩
    have e : i64s (l.set i z) = (i64s l).set i (.int .i64 z) := by unfold i64s; rw [List.map_set]
    rw [e, ← h4]
    simp [List.take_set]

theorem BlkI.ints {w : World} {b : Nat} {l : List Int} (h : BlkI w b l) : IntsR w (.slice (some ⟨b, 0, none⟩) l.length l.length) l := .inr ⟨b, 0, l.length, rfl, Nat.le_refl _, fun j x hj => by rw [Nat.zero_add]; exact h.cell hj⟩
theorem nthP_full {n : Nat} {l : List Int} (h : l.length = n) (h0 : 0 < n) : nthP n l = nth l := by
  unfold nthP
  rw [if_neg (by omega), show pad n l = l from by unfold pad; rw [List.take_of_length_le (by omega), show n - l.length = 0 by omega]; simp]
theorem rem_in (i : Int) (L : Nat) (h : 0 < L) : ∃ r : Int, i.tmod L = r ∧ -(L : Int) < r ∧ r < L ∧ ∃ ii : Nat, (r + L).tmod L = ii ∧ ii < L := by
  refine ⟨i.tmod L, rfl, ?_, ?_, ((i.tmod L + L).tmod L).toNat, ?_⟩
  · rcases Int.le_total 0 i with hi | hi
    · have := Int.tmod_nonneg (L : Int) hi; omega
    · have h1 := Int.tmod_lt_of_pos (-i) (show (0 : Int) < L by omega)
      rw [Int.neg_tmod] at h1
      omega
  · exact Int.tmod_lt_of_pos i (by omega)
  · have hlo : -(L : Int) < i.tmod L := by
      rcases Int.le_total 0 i with hi | hi
      · have := Int.tmod_nonneg (L : Int) hi; omega
      · have h1 := Int.tmod_lt_of_pos (-i) (show (0 : Int) < L by omega)
        rw [Int.neg_tmod] at h1
        omega
    have h1 := Int.tmod_nonneg (L : Int) (show 0 ≤ i.tmod L + L by omega)
    have h2 := Int.tmod_lt_of_pos (i.tmod L + L) (show (0 : Int) < L by omega)
    exact ⟨by omega, by omega⟩
/-- append([]int{}, l...), its length by another name. -/
theorem wp_copyn {w W : World} {v : Value} {l : List Int} (hgr : w.grownBy W none) (h : IntsR W v l) (n : Nat) (hn : n = l.length) (hl : n ≤ 17592186044416) {ops : Array Oper} {rest : List Oper} {o : Oper} {a : Act} {Q : Exit → Act → World → Prop} (hgd : o.guard = none) (s y : Operand)
    (ho : o.op = .call { callee := .builtin .append, args := #[s, y], argTypes := #[22, 22] }) (hs : a.eval s = .slice (some ⟨W.heap.size, 0, none⟩) 0 0) (hy : a.eval y = v)
    (hc : ∀ a' c' W', Hid (OwnI W' w.heap.size (.slice a' n c') l ∧ w.grownBy W' none) → wpList Try.prog ops Q rest (a.put o.dst (.slice a' n c')) W') :
    wpList Try.prog ops Q (o :: rest) a (W.alloc (.cells #[] 3)) := by
  subst hn
  exact wp_copyi hgr h hl hgd s y ho hs hy hc
theorem turn_perm (X : List Int) (k : Nat) : (X.drop k ++ X.take k).Perm X := by
  have := List.perm_append_comm (l₁ := X.drop k) (l₂ := X.take k)
  rwa [List.take_append_drop] at this
set_option maxHeartbeats 4000000 in
theorem confGrows_walk (v u : Value) (l y : List Int) (i by' : Int) (w : World) (h : Nums w v l) (k : Nums w u y) : Calls Try.prog 3 #[v, u, .int .i64 i, .int .i64 by'] w fun e w' => e = .returned (.bool true) ∧ w.grownBy w' none := by
  obtain ⟨a1, c1, rfl⟩ := h.1.len
  obtain ⟨a2, c2, rfl⟩ := k.1.len
  have HH := hid_mk (And.intro h k)
  have hl := h.2
  clear h k
  by_cases h0 : l.length = 0
  · have HN := hid_mk (nth_any _ _ l y w hl HH.out.1.1 HH.out.2.1)
    rw [show nthP l.length y = 0 from by rw [h0]; rfl] at HN
    rw [h0] at HN ⊢
    go_enter Try.func3, Try.ntmps3
    go_wp2_with fail
    refine HN.out.mono ?_
    rintro e w1 ⟨rfl, hg⟩
    have G1 := hid_mk hg
    clear hg HN
    go_wp2_with (go_at_call 5; refine (knows_any _).mono ?_; rintro e W8 ⟨rfl, hg⟩; have G8 := hid_mk hg; clear hg)
    go_ret
    exact ⟨rfl, grown_trans G1.out G8.out⟩
  · have hb : ((l.length : Int) == 0) = false := by simp; intro e; exact h0 (by rw [e]; rfl)
    have hmk := made_ints l.length w hl
    have HQ := hid_mk (show 0 < l.length by omega)
    have HNth := hid_mk (fun (u' : Value) (z : List Int) W (hg : w.grownBy W none) (hz : IntsR W u' z) => nth_any _ u' l z W hl (HH.out.1.1.kept hg) hz)
    clear h0
    generalize l.length = L at *
    obtain ⟨w1, hw1⟩ : ∃ w1, w1 = w.alloc (.cells (i64s (List.replicate L 0)).toArray 3) := ⟨_, rfl⟩
    have hB1 : w1.heap[w.heap.size]? = some (.cells (i64s (List.replicate L 0)).toArray 3 (0, 0)) := by rw [hw1]; exact heap_alloc_new w _
    have HG1 := hid_mk (show w.grownBy w1 none by rw [hw1]; exact World.grownBy_alloc _ _ none)
    have HB1 := hid_mk hB1
    rw [← hw1] at hmk
    clear hw1 hB1
    go_enter Try.func3, Try.ntmps3
    go_upto_region 4 with fail
    go_wp2_with (refine wpList_copy_splice rfl (.tmp 29) (.tmp 30) 22 22 rfl 3 Try.underlying22 (by kernel_rfl) (some ⟨w.heap.size, 0, none⟩) a2 L L y.length c2 rfl rfl w.heap.size 0 (i64s (List.replicate L 0)) 3 HB1.out (i64s (y.take L)) (min_pad L y) (fun h0 => ⟨rfl, ints_src (HH.out.2.1.kept HG1.out) L h0⟩) (by simp [i64s]; omega) (i64s_one _) w.heap.size w (below_of_grown HG1.out) (Nat.le_refl _) ?_; intro w2 H2 hbel2; have HG2 := hid_mk (grown_of_below hbel2); clear hbel2)
    have HB2 : Hid (BlkI w2 w.heap.size (pad L y)) := hid_mk (by unfold BlkI; rw [← splice_pad]; exact H2.out)
    have HX := hid_mk (pad_len L y)
    clear H2 HG1 HB1 hmk
    generalize pad L y = X at *
    have HXI := hid_mk (HB2.out.ints)
    rw [HX.out] at HXI
    have HN1 := hid_mk (HNth.out _ X w2 HG2.out HXI.out)
    rw [nthP_full HX.out HQ.out] at HN1
    have HA := hid_mk ((many_good X (by have := HX.out; have := HQ.out; omega)).2)
    have HGr := hid_mk (fun (ii : Nat) (hi : ii < X.length) (z : Int) (hz : X[ii] ≤ z) => nth_grows hi hz)
    have HPm := hid_mk (fun (ii : Nat) => nth_perm (turn_perm X ii))
    generalize nth X = A at *
    refine HN1.out.mono ?_
    rintro e w3 ⟨rfl, hg⟩
    have HG3 := hid_mk (grown_trans HG2.out hg)
    have HX3 := hid_mk (HXI.out.kept hg)
    clear hg HN1 HG2 HXI HB2
    obtain ⟨q, hq⟩ : ∃ q, q = w.heap.size := ⟨_, rfl⟩
    rw [← hq] at HX3 ⊢
    have HQQ := hid_mk hq
    clear hq
    have hXL := HX.out
    have hL0 := HQ.out
    have hc0 : w3.cell? ⟨q, 0, none⟩ = some (.int .i64 (X[0]'(by omega))) := by
      obtain ⟨b, off, cap, e, hc⟩ := HX3.out.get 0 (by omega)
      cases e
      simpa using hc
    have HX0 := hid_mk (show ∀ x ∈ X.take 0, X[0]'(by omega) ≤ x ∧ x ≤ X[0]'(by omega) from by simp)
    generalize X[0]'(by omega) = x0 at *
    have hL0' : (0 : Int) < L := by omega
    go_wp2_with fail
    clear hc0
    go_loopg [11, 12, 13] L (fun g lv mv iv W => ∃ (k : Nat) (lo hi : Int), k ≤ L ∧ g = L - k ∧ lv = .int .i64 lo ∧ mv = .int .i64 hi ∧ iv = .int .i64 k ∧ W = w3 ∧ Hid (∀ x ∈ X.take k, lo ≤ x ∧ x ≤ hi))
    case atStart => exact ⟨0, x0, x0, Nat.zero_le _, rfl, rfl, rfl, rfl, rfl, hid_mk (by simp)⟩
    case round =>
      obtain ⟨k, lo, hi, hk, hgk, rfl, rfl, rfl, hW, H⟩ := hrel
      rw [hW]
      clear hW HX0
      by_cases hlt : k < L
      · have hlt' : (k : Int) < L := by omega
        have hkX : k < X.length := by omega
        have hck : w3.cell? ⟨q, k, none⟩ = some (.int .i64 (X[k]'hkX)) := by
          obtain ⟨b, off, cap, e, hc⟩ := HX3.out.get k hkX
          cases e
          simpa using hc
        have HE := hid_mk (show X.take (k + 1) = X.take k ++ [X[k]'hkX] by rw [List.take_add_one, List.getElem?_eq_getElem hkX]; rfl)
        generalize X[k]'hkX = z at *
        go_wp2_with fail
        go_roundg (L - (k + 1))
        case measure => omega
        case rel =>
          refine ⟨k + 1, _, _, by omega, rfl, rfl, rfl, by go_num, rfl, hid_mk (fun x hx => ?_)⟩
          rw [HE.out] at hx
          rcases List.mem_append.1 hx with hx | hx
          · have := H.out x hx; omega
          · simp at hx; subst hx; omega
      · have hlt' : ¬ (k : Int) < L := by omega
        have HF := hid_mk (show lo ≤ A ∧ A ≤ hi from H.out A (by rw [List.take_of_length_le (by omega)]; exact HA.out))
        clear H HA
        obtain ⟨r, hr, hr1, hr2, ii, hii, hil⟩ := rem_in i L hL0
        have hiX : ii < X.length := by omega
        have hilI : (ii : Int) < L := by omega
        have HGi := hid_mk (HGr.out ii hiX)
        have HPi := hid_mk (HPm.out ii)
        have hwr : IntKind.i64.wrap r = r := by rw [IntKind.wrap_i64]; omega
        have hwr2 : IntKind.i64.wrap (r + L) = r + L := by rw [IntKind.wrap_i64]; omega
        have hwr3 : IntKind.i64.wrap (ii : Int) = ii := by rw [IntKind.wrap_i64]; omega
        have hLne : ¬ (L : Int) = 0 := by omega
        clear HGr HPm
        clear hXL
        go_upto_region 15 with (at_builtin; refine wp_copyn (grown_refl w3 none) HX3.out L HX.out.symm hl rfl _ _ rfl rfl rfl ?_; intro aa ac W4 H4)
        clear hr hr1 hr2 hii hwr hwr2 hwr3
        obtain ⟨g, c, hv, hcell, hfr, hset⟩ := own_set H4.out.2 H4.out.1 hiX
        injection hv with e1 e2 e3
        subst e1
        clear e2 e3
        have HS := hid_mk hset
        have HM := hid_mk (show X[ii] ≤ max X[ii] by' from Int.le_max_left _ _)
        clear hset
        generalize X[ii] = xi at *
        have HS1 := hid_mk (HS.out (max xi by'))
        have HGm := hid_mk (HGi.out (max xi by') HM.out)
        clear HS HM HGi H4
        go_upto_region 16 with fail
        generalize W4.setCell ⟨g, ii, none⟩ (.int .i64 (max xi by')) = W5 at *
        generalize max xi by' = mx at *
        have HX5 := hid_mk (HX3.out.kept HS1.out.2)
        obtain ⟨qa, qc, hs2, hi2⟩ := HX5.out.l ii (by omega)
        obtain ⟨pa, pc, hs1, hi1⟩ := HX5.out.h ii (by omega)
        rw [HX.out] at hs2 hi2
        have HI2 := hid_mk hi2
        have HI1 := hid_mk hi1
        clear hi1 hi2 hcell hfr
        have HDL := hid_mk (show (X.drop ii).length = L - ii by rw [List.length_drop, HX.out])
        have HZL := hid_mk (show (X.drop ii ++ X.take ii).length = L by rw [List.length_append, List.length_drop, List.length_take, HX.out]; omega)
        have hdl : L - ii ≤ 17592186044416 := by omega
        obtain ⟨hF1, hF2⟩ := HF.out
        go_wp2_with (first
          | (at_builtin; refine wp_copyn (grown_refl W5 none) HI2.out (L - ii) HDL.out.symm hdl rfl _ _ rfl rfl rfl ?_; intro za zc W6 H6)
          | (at_builtin; refine wp_joini H6.out.2 H6.out.1 (HI1.out.kept H6.out.2) L HZL.out.symm hl rfl _ _ rfl rfl rfl ?_; intro ya yc W7 H7))
        have HY7 := hid_mk (HS1.out.1.kept H7.out.2)
        have G7 := hid_mk (grown_trans HG3.out (grown_trans HS1.out.2 H7.out.2))
        have HN2 := hid_mk (HNth.out _ (X.set ii mx) W7 G7.out HY7.out.ints)
        rw [nthP_full (by rw [List.length_set, HX.out]) hL0] at HN2
        have HN3 := hid_mk (fun W (hg : W7.grownBy W none) => HNth.out _ (X.drop ii ++ X.take ii) W (grown_trans G7.out hg) (H7.out.1.ints.kept hg))
        rw [nthP_full HZL.out hL0, HPi.out] at HN3
        have hF3 := HGm.out
        generalize nth (X.set ii mx) = B at *
        clear hs1 hs2 HNth HS1 HX5 HI1 HI2 H7 HY7 HPi HGm HF
        refine HN2.out.mono ?_
        rintro e W8 ⟨rfl, hg⟩
        have G8 := hid_mk hg
        clear hg HN2
        go_wp2_with fail
        refine (HN3.out W8 G8.out).mono ?_
        rintro e W9 ⟨rfl, hg⟩
        have G9 := hid_mk (grown_trans G7.out (grown_trans G8.out hg))
        clear hg HN3
        go_wp2_with (go_at_call 5; refine (knows_any _).mono ?_; rintro e W10 ⟨rfl, hg⟩; have G10 := hid_mk hg; clear hg)
        go_ret
        exact ⟨rfl, grown_trans G9.out G10.out⟩
end Go.Proofs.Ytnbhecmbndaifab
