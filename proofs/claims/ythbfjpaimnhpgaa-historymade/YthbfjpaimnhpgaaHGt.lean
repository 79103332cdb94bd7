/- history: Get of a model. -/
import Derived.Test.YthbfjpaimnhpgaaHDg
import Derived.Test.YthbfjpaimnhpgaaHSv
namespace Go.Proofs.Ythbfjpaimnhpgaa
open Go.RowKit Go.Maps
set_option linter.unusedVariables false
set_option linter.unusedSimpArgs false
set_option maxRecDepth 100000
attribute [local go_sem] Oper.semAt_some

/-- Where Get stands. -/
structure GetI (w : World) (pl pb : Nat) (v : Value) (A : List RV) (k : Nat) (W : World) : Prop where
  gr : w.grownBy W none
  box : Boxed W pb 26 v
  out : ∃ lv Rk, Boxed W pl 26 lv ∧ OwnRec W w.heap.size lv Rk ∧ Rk.length = k ∧ Rk.map (·.1) = (A.take k).map (·.1)
theorem rec_free {W W' : World} {B B' : Nat} {v : Value} {R : List RV} {row : Option Nat} (h : OwnRec W B v R) (hg : W.grownBy W' row) (hb : BkF B' W row) : OwnRec W' B v R :=
  ⟨row_free h.1 hg hb (by decide), fun p hp => row_free (h.2 p hp) hg hb (by decide)⟩
theorem get_no {w : World} {b : Nat} {vm : Value} {R : List RV} {s : Nat} (h : IsM w b vm R s) (fr mo : Int) (hf : hasM ⟨s, R.map (·.1)⟩ fr = false) :
    Calls Try.prog 14 #[.pointer (some ⟨b, 0, none⟩), .int .i64 fr, .int .i64 mo] w fun e w' => e = .returned (.tuple #[.slice none 0 0, .bool false]) ∧ w.grownBy w' none := by
  have HH := hid_mk (has_any h fr)
  rw [hf] at HH
  clear h hf
  go_enter Try.func14, Try.ntmps14
  go_wp2_with (go_at_call 29; refine HH.out.mono ?_; rintro e w' ⟨rfl, m, rfl⟩)
  refine bodyPost_ret (results_tmp2 rfl _ _ _) rfl ?_
  exact ⟨rfl, grown_drewN w m none⟩
theorem get_none (fr mo : Int) (w : World) : Calls Try.prog 14 #[.pointer none, .int .i64 fr, .int .i64 mo] w fun e w' => e = .returned (.tuple #[.slice none 0 0, .bool false]) ∧ w' = w := by
  go_enter Try.func14, Try.ntmps14
  go_wp2_with (go_at_call 29; refine (has_no _ _).mono ?_; rintro e w' ⟨rfl, hw⟩; rw [hw]; clear hw)
  refine bodyPost_ret (results_tmp2 rfl _ _ _) rfl ?_
  exact ⟨rfl, rfl⟩
set_option maxHeartbeats 8000000 in
theorem get_any {w : World} {b : Nat} {vm : Value} {R : List RV} {s : Nat} (h : IsM w b vm R s) (rd : ∀ p ∈ R, Byt w p.2 p.1) (rl : ∀ p ∈ R, p.1.length ≤ 140737488355328) (fr mo : Int) (hf : hasM ⟨s, R.map (·.1)⟩ fr = true) :
    Calls Try.prog 14 #[.pointer (some ⟨b, 0, none⟩), .int .i64 fr, .int .i64 mo] w fun e w' => ∃ v' R', e = .returned (.tuple #[v', .bool true]) ∧ OwnRec w' w.heap.size v' R' ∧ R'.map (·.1) = (toldR R s fr mo).map (·.1) ∧ w.grownBy w' none := by
  have hf' : (s : Int) ≤ fr ∧ fr ≤ ((s + R.length : Nat) : Int) := by simpa [hasM, Mo.next] using hf
  have hAl : (toldR R s fr mo).length ≤ R.length := by unfold toldR; simp; omega
  have hRl := h.fit
  have HA := hid_mk (show ∀ p ∈ toldR R s fr mo, Byt w p.2 p.1 ∧ p.1.length ≤ 140737488355328 from fun p hp => by
    have hp' : p ∈ R := List.mem_of_mem_drop (List.mem_of_mem_take hp)
    exact ⟨rd p hp', rl p hp'⟩)
  have HAl := hid_mk (show (toldR R s fr mo).length ≤ 5864062014805 by omega)
  have HT := hid_mk (fun (w1 : World) (hw : w.grownBy w1 none) => tell_any h hw fr mo hf')
  obtain ⟨A, hAe⟩ : ∃ A, A = toldR R s fr mo := ⟨_, rfl⟩
  rw [← hAe] at HA HAl HT ⊢
  have HH := hid_mk (has_any h fr)
  rw [hf] at HH
  clear h rd rl hf hf' hAl hRl hAe
  refine (callsIn_wide (n := 11)).1 ?_
  refine callsIn_of_wp_marks Try.func14 rfl trivial ?_ rfl
  simp only [Try.ntmps14, List.size_toArray, List.length_cons, List.length_nil, Nat.reduceAdd, Nat.reduceSub, Array.replicate_succ, Array.replicate_zero, List.push_toArray, List.append_toArray, List.nil_append, List.cons_append]
  gi_wp2_with fail
  refine ⟨trivial, (callsIn_wide.2 HH.out).mono ?_⟩
  rintro e w1 ⟨rfl, m, rfl⟩
  have G1 := hid_mk (grown_drewN w m none)
  generalize w.drewN m = w1 at *
  have HB := hid_mk (And.intro (Boxed.new w1 26 (.slice none 0 0)) (World.grownBy_alloc w1 (.cells #[.slice none 0 0] 26) none))
  gi_upto_region 4 with fail
  generalize w1.alloc (.cells #[.slice none 0 0] 26) = w2 at *
  obtain ⟨pl, hpl⟩ : ∃ p, p = w1.heap.size := ⟨_, rfl⟩
  rw [← hpl] at HB ⊢
  have H2 := hid_mk (show w.grownBy w2 none ∧ Boxed w2 pl 26 (.slice none 0 0) ∧ w.heap.size ≤ pl ∧ pl < w2.heap.size from ⟨grown_trans G1.out HB.out.2, HB.out.1, by have := G1.out.size; omega, HB.out.1.lt⟩)
  clear HB hpl
  gi_wp2_with fail
  refine ⟨trivial, (callsIn_wide.2 (HT.out _ H2.out.1)).mono ?_⟩
  rintro e w3 ⟨pb, v, rfl, hpb, hbx, hrv, hg3⟩
  have H3 := hid_mk (show GetI w pl pb v A 0 w3 ∧ RowV w v (A.map (·.2)) ∧ w.heap.size ≤ pl ∧ pl < w2.heap.size ∧ w2.heap.size ≤ pb ∧ pb < w3.heap.size from
    ⟨⟨grown_trans H2.out.1 hg3, hbx, ⟨_, [], H2.out.2.1.kept hg3 (by simp), OwnRec.nil _ _, rfl, by simp⟩⟩, hrv, H2.out.2.2.1, H2.out.2.2.2, hpb, hbx.lt⟩)
  clear hpb hbx hrv hg3 H2 HT HH
  gi_wp2_with fail
  refine range_seq (values_seq pb v (A.map (·.2)) (by simpa using HAl.out) (fun u hu => by
    obtain ⟨p, hp, rfl⟩ := List.mem_map.1 hu
    obtain ⟨a, c, e⟩ := (HA.out p hp).1.len
    exact ⟨_, _, _, e⟩)) rfl ?size (GetI w pl pb v A) (fun k W h => ⟨h.box.cell, H3.out.2.1.grown h.gr⟩) ?clI (fun c W => False) (fun _ _ _ _ h => h.elim) H3.out.1 ?body ?done (fun _ _ _ _ h => h.elim)
  case size => rintro k vs W ⟨u, _, rfl⟩; rfl
  case clI =>
    intro k X Y row h hg hbk
    have hq := H3.out.2.2
    obtain ⟨lv, Rk, hl1, hl2, hl3, hl4⟩ := h.out
    exact ⟨hbk.grown h.gr hg (by have := H3.out.1.gr.size; omega), boxed_low h.box hg hbk (by omega), ⟨lv, Rk, boxed_low hl1 hg hbk (by obtain ⟨_, _, h9, _⟩ := H3.out.1.out; have := h9.lt; omega), rec_free hl2 hg hbk, hl3, hl4⟩⟩
  case done =>
    intro D0 W2 hD hI hK
    rw [List.length_map] at hI
    obtain ⟨lv, Rk, hl1, hl2, hl3, hl4⟩ := hI.out
    rw [List.take_length] at hl4
    obtain ⟨la, lc, rfl⟩ := hl2.len
    have HX := hid_mk (show w.grownBy W2 none ∧ W2.heap[D0]? = some (.deferred (some [])) ∧ w3.heap.size ≤ D0 ∧ OwnRec W2 w.heap.size (.slice la Rk.length lc) Rk ∧ Rk.map (·.1) = A.map (·.1) from ⟨hI.gr, hK, hD, hl2, hl4⟩)
    have c5 := hl1.cell
    clear hI hK hD hl1 hl2 hl3 hl4
    generalize Rk.length = n at *
    gi_wp2_with fail
    have g2 := grownBy_putObj' W2 D0 (.deferred none)
    refine ⟨by simp, .inl ⟨_, _, rfl, run_takeDeferred HX.out.2.1, ?_⟩⟩
    have hsz := H3.out.1.gr.size
    have hd := HX.out.2.2.1
    exact ⟨_, results_tmp2 rfl _ _ _, _, rfl, Rk, rec_free (B' := D0) HX.out.2.2.2.1 g2 (fun r e => by cases e; exact ⟨Nat.le_refl _, _, HX.out.2.1, .inl (.inr ⟨_, rfl⟩)⟩), HX.out.2.2.2.2, grown_new HX.out.1 g2 (by omega)⟩
  case body =>
    rintro l2 k vs W2 rfl hsz hI ⟨u, hu, rfl⟩ hdf r hr
    have hk : k < A.length := by have := (List.getElem?_eq_some_iff.1 hu).1; simpa using this
    have hue : u = A[k].2 := by rw [List.getElem?_map, List.getElem?_eq_getElem hk] at hu; simpa using hu.symm
    have hby := HA.out _ (List.getElem_mem hk)
    obtain ⟨ua, uc, hus⟩ := hby.1.len
    have HT := hid_mk (take_succ_map hk)
    rw [hus] at hby
    have HU := hid_mk hby
    rw [hue, hus]
    clear hu hue hby hus
    generalize A[k].1 = d at *
    have HI := hid_mk (And.intro hsz (And.intro hI (And.intro hdf hr)))
    clear hsz hI hdf hr
    gi_wp2
    refine ⟨⟨rfl, rfl⟩, fun o' ho' => ?_⟩
    have HP := hid_mk (show GetI w pl pb v A k (W2.putObj (w3.heap.size + 1) o') ∧ w3.heap.size + 2 ≤ (W2.putObj (w3.heap.size + 1) o').heap.size ∧ (∃ o1 : Obj, (W2.putObj (w3.heap.size + 1) o').heap[w3.heap.size]? = some o1 ∧ Book o1) ∧ (∃ o2 : Obj, (W2.putObj (w3.heap.size + 1) o').heap[w3.heap.size + 1]? = some o2 ∧ Book o2) from by
      obtain ⟨q1, h, q3, q4⟩ := HI.out
      have hg := grownBy_putObj' W2 (w3.heap.size + 1) o'
      have hbk : BkF w3.heap.size W2 (some (w3.heap.size + 1)) := fun r e => by cases e; exact ⟨by omega, _, q4, .inl (.inl ⟨_, rfl⟩)⟩
      have hq := H3.out.2.2
      obtain ⟨lv, Rk, hl1, hl2, hl3, hl4⟩ := h.out
      refine ⟨⟨hbk.grown h.gr hg (by have := H3.out.1.gr.size; omega), boxed_low h.box hg hbk (by omega), ⟨lv, Rk, boxed_low hl1 hg hbk (by obtain ⟨_, _, h9, _⟩ := H3.out.1.out; have := h9.lt; omega), rec_free hl2 hg hbk, hl3, hl4⟩⟩, Nat.le_trans q1 hg.size, ⟨_, (World.putObj_heap_other (by omega)).trans q3, .inr ⟨_, rfl⟩⟩, ⟨o', World.putObj_heap_same (by omega), ho'⟩⟩)
    clear HI
    generalize W2.putObj (w3.heap.size + 1) o' = Y at *
    obtain ⟨lv, Rk, hl1, hl2, hl3, hl4⟩ := HP.out.1.out
    obtain ⟨la, lc, rfl⟩ := hl2.len
    have c8 := hl1.cell
    have HL := hid_mk (And.intro hl1 (And.intro hl2 (And.intro hl3 hl4)))
    clear hl1 hl2 hl3 hl4
    gi_upto_region 6 with fail
    refine wpIn_region_mixL [(0, true), (1, true), (2, false), (3, false), (4, false)] 5 (at0 Y (fun W => Boxed W pl 26 (.slice la Rk.length lc))) (by kernel_rfl) (by kernel_rfl) (by kernel_rfl) rfl (by kernel_rfl) rfl (by kernel_rfl) (shut_at0 (fun m => HL.out.1.kept (grown_drewN _ m none) (by simp))) ⟨1, rfl⟩ ?_
    repeat (refine mix_rd1 rfl rfl (fun K hK => ?_); apply Exists.intro; refine ⟨fun W hW => ?_, ?_⟩; (have x0 := Boxed.cell hW; go_simp; rfl); (go_simp; refine hK _ _ ?_; clear hK K))
    refine mix_call rfl rfl 28 #[.slice ua d.length uc] (fun W0 => by go_simp) ?_
    rintro W0 ⟨m1, rfl⟩
    have g1 := grown_drewN Y m1 none
    refine (clone_any _ d (Y.drewN m1) (HU.out.1.kept (grown_trans HP.out.1.gr g1)) HU.out.2).mono ?_
    rintro e W3 ⟨v5, rfl, ho5, hg5⟩
    obtain ⟨a5, c5, rfl⟩ := ho5.len
    have G3 := hid_mk (grown_trans g1 hg5)
    have HO5 := hid_mk ho5
    have HS5 := hid_mk (show Y.heap.size ≤ (Y.drewN m1).heap.size from g1.size)
    refine ⟨_, rfl, at0 W3 (fun W => Boxed W pl 26 (.slice la Rk.length lc)), ⟨0, rfl⟩, shut_at0 (fun m => (HL.out.1.kept G3.out (by simp)).kept (grown_drewN _ m none) (by simp)), fun _ h => h, ?_⟩
    clear g1 ho5 hg5
    go_simp
    refine mix_do rfl rfl ?_
    rintro W0 ⟨m4, rfl⟩
    refine ⟨.slice (some ⟨W3.heap.size, 0, none⟩) 1 1, (W3.drewN m4).alloc (.cells #[.slice a5 d.length c5] 30), by go_simp, ?_⟩
    have g6 := grown_trans (grown_drewN W3 m4 none) (World.grownBy_alloc (W3.drewN m4) (.cells #[.slice a5 d.length c5] 30) none)
    have G6 := hid_mk (grown_trans G3.out g6)
    have HO6 := hid_mk ((own_grown HO5.out g6).base HS5.out)
    have HBC := hid_mk (show Blk ((W3.drewN m4).alloc (.cells #[.slice a5 d.length c5] 30)) W3.heap.size #[.slice a5 d.length c5] 30 from blk_alloc (W3.drewN m4) _ 30)
    refine ⟨at0 ((W3.drewN m4).alloc (.cells #[.slice a5 d.length c5] 30)) (fun W => Boxed W pl 26 (.slice la Rk.length lc)), ⟨0, rfl⟩, shut_at0 (fun m => (HL.out.1.kept G6.out (by simp)).kept (grown_drewN _ m none) (by simp)), fun _ h => h, ?_⟩
    go_simp
    clear g6 G3 HO5 HS5
    generalize (W3.drewN m4).alloc (.cells #[.slice a5 d.length c5] 30) = W6 at *
    generalize W3.heap.size = q5 at *
    refine mix_do rfl rfl ?_
    rintro W0 ⟨m5, rfl⟩
    have g6d := grown_trans G6.out (grown_drewN W6 m5 none)
    have hrow := HL.out.2.1.kept g6d
    have hlen := HL.out.2.2.1
    have hAl := HAl.out
    obtain ⟨a3, c3, W7, hr3, ho3, hg3⟩ := appR hrow ((own_grown HO6.out (grown_drewN W6 m5 none)).base HP.out.1.gr.size) q5 (HBC.out.kept (grown_drewN W6 m5 none) (by simp)) (by omega) (Nat.le_trans HP.out.1.gr.size g6d.size) 26
    have hbb := HL.out.1.kept g6d (by simp)
    have hbr : some pl ≠ (Value.slice la Rk.length lc).ownBlock := own_ne hrow.1 hbb (by decide)
    have HB7 := hid_mk (hbb.kept hg3 hbr)
    have HBK := hid_mk (show BkB w3.heap.size Y W7 from by
      have hne : ∀ i (o1 : Obj), Y.heap[i]? = some o1 → Book o1 → W7.heap[i]? = Y.heap[i]? := fun i o1 h1 h2 => by
        have hlt := (Array.getElem?_eq_some_iff.1 h1).1
        have h3 : (W6.drewN m5).heap[i]? = Y.heap[i]? := g6d.block i hlt (by simp)
        refine (hg3.block i (Nat.lt_of_lt_of_le hlt g6d.size) (fun e => ?_)).trans h3
        obtain ⟨_, c, hc⟩ := own_low hrow.1 i e.symm
        rw [h3, h1] at hc
        cases hc
        have := h2.plain
        simp [Obj.isCells] at this
      obtain ⟨⟨o1, h1, h2⟩, ⟨o2, h3, h4⟩⟩ := HP.out.2.2
      exact ⟨hne _ _ h1 h2, hne _ _ h3 h4⟩)
    have HW7 := hid_mk (show w.grownBy W7 none ∧ OwnRec W7 w.heap.size (.slice a3 (Rk.length + 1) c3) (Rk ++ [(d, .slice a5 d.length c5)]) ∧ Y.heap.size ≤ W7.heap.size ∧ Boxed W7 pb 26 v from ⟨by
      cases hv4 : (Value.slice la Rk.length lc).ownBlock with
      | none => rw [hv4] at hg3; exact grown_trans (grown_trans HP.out.1.gr g6d) hg3
      | some g => rw [hv4] at hg3; exact grown_new (grown_trans HP.out.1.gr g6d) hg3 (owns_lt HL.out.2.1.1 hv4).1, ho3, Nat.le_trans g6d.size hg3.size, (HP.out.1.box.kept g6d (by simp)).kept hg3 (own_ne hrow.1 (show Blk (W6.drewN m5) pb #[v] 26 from HP.out.1.box.kept g6d (by simp)) (by decide))⟩)
    refine ⟨_, _, exec_app (s := .tmp 19) (y := .tmp 22) rfl rfl rfl hr3, at0 W7 (fun W => Boxed W pl 26 (.slice la Rk.length lc)), ⟨0, rfl⟩, shut_at0 (fun m => HB7.out.kept (grown_drewN _ m none) (by simp)), fun _ h => h, ?_⟩
    clear g6d hrow hr3 ho3 hg3 hbb hbr HBC HO6 G6
    go_simp
    refine mix_nil ?_
    rintro W ⟨m6, rfl⟩
    have b7 : (W7.drewN m6).cell? ⟨pl, 0, none⟩ = some (.slice la Rk.length lc) := (HB7.out.kept (grown_drewN W7 m6 none) (by simp)).cell
    have f7 : (W7.drewN m6).frozen? ⟨pl, 0, none⟩ = false := (HB7.out.kept (grown_drewN W7 m6 none) (by simp)).frozen
    refine ⟨(W7.drewN m6).setCell ⟨pl, 0, none⟩ (.slice a3 (Rk.length + 1) c3), by go_simp, ?_⟩
    have HF := hid_mk (show BkB w3.heap.size Y ((W7.drewN m6).setCell ⟨pl, 0, none⟩ (.slice a3 (Rk.length + 1) c3)) ∧ GetI w pl pb v A (k + 1) ((W7.drewN m6).setCell ⟨pl, 0, none⟩ (.slice a3 (Rk.length + 1) c3)) from by
      have hq := H3.out.2.2
      have hg := grown_setCell (W7.drewN m6) pl 0 (.slice a3 (Rk.length + 1) c3)
      have hs2 := HP.out.2.1
      have hs3 := HW7.out.2.2.1
      have hd1 := grown_drewN W7 m6 none
      have hs4 : W7.heap.size = (W7.drewN m6).heap.size := rfl
      have hpl : pl < w3.heap.size := by obtain ⟨_, _, h9, _⟩ := H3.out.1.out; exact h9.lt
      refine ⟨HBK.out.trans ⟨(hg.block _ (by omega) (by simp; omega)).trans (hd1.block _ (by omega) (by simp)), (hg.block _ (by omega) (by simp; omega)).trans (hd1.block _ (by omega) (by simp))⟩, ⟨grown_new (grown_trans HW7.out.1 hd1) hg hq.1, (HW7.out.2.2.2.kept hd1 (by simp)).kept hg (by simp; omega), ⟨_, Rk ++ [(d, .slice a5 d.length c5)], (HB7.out.kept hd1 (by simp)).set _, (HW7.out.2.1.kept hd1).but hg (show (W7.drewN m6).heap[pl]? = some (.cells #[.slice la Rk.length lc] 26 (0, 0)) from HB7.out.kept hd1 (by simp)) (by decide) (by decide), by simp [HL.out.2.2.1], by rw [List.map_append, HL.out.2.2.2, HT.out]; rfl⟩⟩⟩)
    clear b7 f7
    gi_wp2
    have h9 := HF.out
    rw [hlen] at h9
    exact h9
end Go.Proofs.Ythbfjpaimnhpgaa
