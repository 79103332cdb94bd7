/- history: tells. -/
import Derived.Test.YthbfjpaimnhpgabHTa
namespace Go.Proofs.Ythbfjpaimnhpgab
open Go.RowKit Go.Maps
set_option linter.unusedVariables false
set_option linter.unusedSimpArgs false
set_option maxRecDepth 100000
attribute [local go_sem] Oper.semAt_some

theorem results_cell1 {fn : Func} {p : Tmp} {ty : TypeId} (h : fn.results = #[.cell p ty]) (tmps : Array Value) (P : Program) (w : World) :
    (results fn tmps).run P w = ((asAddr (tmps.getD p undef)).run P w).andThen fun a w => (loadVar ty a).run P w := by
  simp [results, h]
theorem ret_box4 {fn : Func} {p : Tmp} (h : fn.results = #[.cell p 4]) (tmps : Array Value) (w : World) (g : Nat) (v : Bool) (hp : tmps.getD p undef = .pointer (some ⟨g, 0, none⟩)) (hb : Boxed w g 4 (.bool v)) : (results fn tmps).run Try.prog w = .ok (.bool v) w := by
  have ha : (asAddr (.pointer (some ⟨g, 0, none⟩))).run Try.prog w = .ok ⟨g, 0, none⟩ w := by simp [asAddr]
  have hc := hb.cell
  rw [results_cell1 h, hp, ha]
  simp [Result.andThen, go_sem, hc]
/-- Where tells stands: A: what is told; C: the call's own records. -/
structure TelI (w : World) (pr pl pb : Nat) (v : Value) (A C : List RV) (k : Nat) (W : World) : Prop where
  gr : w.grownBy W none
  res : Boxed W pr 4 (.bool false)
  box : Boxed W pb 25 v
  left : ∃ lv, Boxed W pl 25 lv ∧ RowV w lv ((C.drop k).map (·.2))
  le : k ≤ C.length
  same : (A.take k).map (·.1) = (C.take k).map (·.1)
theorem TelI.end {w : World} {pr pl pb : Nat} {v : Value} {A C : List RV} {W : World} (h : TelI w pr pl pb v A C A.length W) : decide ((C.drop A.length).length = 0) = decide (C.map (·.1) = A.map (·.1)) := by
  have h1 := h.le
  have h2 := h.same
  rw [List.take_length] at h2
  rw [List.length_drop]
  by_cases hl : C.length = A.length
  · rw [← hl, List.take_length] at h2
    rw [decide_eq_true (by omega : C.length - A.length = 0), decide_eq_true h2.symm]
  · rw [decide_eq_false (by omega : ¬ C.length - A.length = 0), decide_eq_false (fun e => hl (by have := congrArg List.length e; simpa using this))]
theorem take_succ_map {A : List RV} {k : Nat} (h : k < A.length) : (A.take (k + 1)).map (·.1) = (A.take k).map (·.1) ++ [A[k].1] := by
  rw [List.take_add_one, List.getElem?_eq_getElem h, List.map_append]; rfl
theorem drop_cons_map {C : List RV} {k : Nat} (h : k < C.length) : (C.drop k).map (·.2) = C[k].2 :: (C.drop (k + 1)).map (·.2) := by
  rw [List.drop_eq_getElem_cons h]; rfl
set_option maxHeartbeats 8000000 in
theorem tells_any {w : World} {b : Nat} {vm : Value} {R : List RV} {s : Nat} (h : IsM w b vm R s) (rd : ∀ p ∈ R, Byt w p.2 p.1) (x : CE) (xa : Option Addr) (xn xc : Nat) (ra : Option Addr) (rc : Nat) (hx : RecR w (.slice ra x.R.length rc) x.R) (hl : x.R.length ≤ 5864062014805)
    (hf : (s : Int) ≤ x.g.fr ∧ x.g.fr ≤ ((s + R.length : Nat) : Int)) :
    Calls Try.prog 35 #[.pointer (some ⟨b, 0, none⟩), .agg #[.int .i64 x.g.c, .int .i64 x.g.b, .int .i64 x.g.e, .int .i64 x.g.k, .int .i64 x.g.at', .bool x.g.an, .int .i64 x.g.fr, .int .i64 x.g.mo, .int .i64 x.g.nu, .int .i64 x.g.st, .slice xa xn xc, .slice ra x.R.length rc]] w
      fun e w' => e = .returned (.bool (decide (x.R.map (·.1) = getM ⟨s, R.map (·.1)⟩ x.g.fr x.g.mo))) ∧ w.grownBy w' none := by
  rw [← toldR_bytes]
  have HL := hid_mk (And.intro h (And.intro hx hf))
  have hAl : (toldR R s x.g.fr x.g.mo).length ≤ R.length := by unfold toldR; simp; omega
  have hRl := h.fit
  have HA := hid_mk (show ∀ p ∈ toldR R s x.g.fr x.g.mo, Byt w p.2 p.1 from fun p hp => rd p (List.mem_of_mem_drop (List.mem_of_mem_take hp)))
  have HAl := hid_mk (show (toldR R s x.g.fr x.g.mo).length ≤ 5864062014805 by omega)
  obtain ⟨A, hAe⟩ : ∃ A, A = toldR R s x.g.fr x.g.mo := ⟨_, rfl⟩
  rw [← hAe] at HA HAl ⊢
  have HAe := hid_mk hAe
  clear h rd hx hf hAl hRl hAe
  refine (callsIn_wide (n := 11)).1 ?_
  refine callsIn_of_wp_marks Try.func35 rfl trivial ?_ rfl
  simp only [Try.ntmps35, List.size_toArray, List.length_cons, List.length_nil, Nat.reduceAdd, Nat.reduceSub, Array.replicate_succ, Array.replicate_zero, List.push_toArray, List.append_toArray, List.nil_append, List.cons_append]
  obtain ⟨C, hC⟩ : ∃ C : Array Value, C = #[.int .i64 x.g.c, .int .i64 x.g.b, .int .i64 x.g.e, .int .i64 x.g.k, .int .i64 x.g.at', .bool x.g.an, .int .i64 x.g.fr, .int .i64 x.g.mo, .int .i64 x.g.nu, .int .i64 x.g.st, .slice xa xn xc, .slice ra x.R.length rc] := ⟨_, rfl⟩
  have HB := hid_mk (show Blk ((w.alloc (.cells C 42)).alloc (.cells #[.bool false] 4)) w.heap.size C 42 ∧ Boxed ((w.alloc (.cells C 42)).alloc (.cells #[.bool false] 4)) (w.heap.size + 1) 4 (.bool false) ∧ w.grownBy ((w.alloc (.cells C 42)).alloc (.cells #[.bool false] 4)) none from by
    have h1 := blk_alloc w C 42
    have h2 := Boxed.new (w.alloc (.cells C 42)) 4 (.bool false)
    rw [World.size_alloc] at h2
    exact ⟨h1.kept (World.grownBy_alloc _ _ none) (by simp), h2, grown_trans (World.grownBy_alloc _ _ none) (World.grownBy_alloc _ _ none)⟩)
  rw [hC] at HB
  clear hC C
  gi_upto_region 1 with fail
  generalize ((w.alloc (.cells #[.int .i64 x.g.c, .int .i64 x.g.b, .int .i64 x.g.e, .int .i64 x.g.k, .int .i64 x.g.at', .bool x.g.an, .int .i64 x.g.fr, .int .i64 x.g.mo, .int .i64 x.g.nu, .int .i64 x.g.st, .slice xa xn xc, .slice ra x.R.length rc] 42)).alloc (.cells #[.bool false] 4)) = w1 at *
  obtain ⟨d0, d1, d2, d3, d4, d5, d6, d7, d8, d9, d10, d11, df⟩ := blk12 HB.out.1
  have HX2 := hid_mk (show Boxed (w1.alloc (.cells #[.slice ra x.R.length rc] 25)) w1.heap.size 25 (.slice ra x.R.length rc) from Boxed.new _ _ _)
  have HG2 := hid_mk (World.grownBy_alloc w1 (.cells #[.slice ra x.R.length rc] 25) none)
  gi_upto_region 2 with fail
  generalize w1.alloc (.cells #[.slice ra x.R.length rc] 25) = w2 at *
  clear d0 d1 d2 d3 d4 d5 d6 d7 d8 d9 d10 d11 df
  obtain ⟨pl, hpl⟩ : ∃ p, p = w1.heap.size := ⟨_, rfl⟩
  obtain ⟨pr, hpr⟩ : ∃ p, p = w.heap.size + 1 := ⟨_, rfl⟩
  rw [← hpl] at HX2 ⊢
  rw [← hpr] at HB ⊢
  have H2 := hid_mk (show w.grownBy w2 none ∧ Boxed w2 pr 4 (.bool false) ∧ Boxed w2 pl 25 (.slice ra x.R.length rc) ∧ Blk w2 w.heap.size #[.int .i64 x.g.c, .int .i64 x.g.b, .int .i64 x.g.e, .int .i64 x.g.k, .int .i64 x.g.at', .bool x.g.an, .int .i64 x.g.fr, .int .i64 x.g.mo, .int .i64 x.g.nu, .int .i64 x.g.st, .slice xa xn xc, .slice ra x.R.length rc] 42 ∧ pr ≠ pl ∧ w.heap.size ≤ pr ∧ w.heap.size ≤ pl ∧ pr < w2.heap.size ∧ pl < w2.heap.size from
    ⟨grown_trans HB.out.2.2 HG2.out, HB.out.2.1.kept HG2.out (by simp), HX2.out, HB.out.1.kept HG2.out (by simp), by have := HB.out.2.1.lt; have := HB.out.2.2.size; have := HX2.out.lt; have := HG2.out.size; omega⟩)
  clear hpl hpr HB HX2 HG2
  obtain ⟨d0, d1, d2, d3, d4, d5, d6, d7, d8, d9, d10, d11, df⟩ := blk12 H2.out.2.2.2.1
  gi_wp2_with fail
  clear d0 d1 d2 d3 d4 d5 d6 d7 d8 d9 d10 d11 df
  refine ⟨trivial, (callsIn_wide.2 (tell_any HL.out.1 H2.out.1 x.g.fr x.g.mo HL.out.2.2)).mono ?_⟩
  rintro e w3 ⟨pb, v, rfl, hpb, hbx, hrv, hg3⟩
  rw [← HAe.out] at hrv
  have H3 := hid_mk (show TelI w pr pl pb v A x.R 0 w3 ∧ RowV w v (A.map (·.2)) ∧ pr ≠ pl ∧ w.heap.size ≤ pr ∧ w.heap.size ≤ pl ∧ pr < w2.heap.size ∧ pl < w2.heap.size ∧ w2.heap.size ≤ pb ∧ pb < w3.heap.size from
    ⟨⟨grown_trans H2.out.1 hg3, H2.out.2.1.kept hg3 (by simp), hbx, ⟨_, H2.out.2.2.1.kept hg3 (by simp), by simpa using HL.out.2.1.row⟩, Nat.zero_le _, by simp⟩, hrv, H2.out.2.2.2.2.1, H2.out.2.2.2.2.2.1, H2.out.2.2.2.2.2.2.1, H2.out.2.2.2.2.2.2.2.1, H2.out.2.2.2.2.2.2.2.2, hpb, hbx.lt⟩)
  clear hpb hbx hrv hg3 H2
  gi_wp2_with fail
  refine range_seq (values_seq pb v (A.map (·.2)) (by simpa using HAl.out) (fun u hu => by
    obtain ⟨p, hp, rfl⟩ := List.mem_map.1 hu
    obtain ⟨a, c, e⟩ := (HA.out p hp).len
    exact ⟨_, _, _, e⟩)) rfl ?size (TelI w pr pl pb v A x.R) (fun k W h => ⟨h.box.cell, H3.out.2.1.grown h.gr⟩) ?clI (fun c W => c = .ret ∧ w.grownBy W none ∧ Boxed W pr 4 (.bool false) ∧ ¬ x.R.map (·.1) = A.map (·.1)) ?clX H3.out.1 ?body ?done ?left
  case size => rintro k vs W ⟨u, _, rfl⟩; rfl
  case clI =>
    intro k X Y row h hg hbk
    have hq := H3.out.2.2
    have hs := h.gr
    obtain ⟨lv, hl1, hl2⟩ := h.left
    exact ⟨hbk.grown h.gr hg (by have := H3.out.1.gr.size; omega), boxed_low h.res hg hbk (by have := H3.out.1.res.lt; omega), boxed_low h.box hg hbk (by omega), ⟨lv, boxed_low hl1 hg hbk (by obtain ⟨_, h9, _⟩ := H3.out.1.left; have := h9.lt; omega), hl2⟩, h.le, h.same⟩
  case clX =>
    rintro c X Y row ⟨h1, h2, h3, h4⟩ hg hbk
    exact ⟨h1, hbk.grown h2 hg (by have := H3.out.1.gr.size; omega), boxed_low h3 hg hbk (by have := H3.out.1.res.lt; omega), h4⟩
  case done =>
    intro D0 W2 hD hI hK
    rw [List.length_map] at hI
    have hend := hI.end
    obtain ⟨lv, hl1, la, lc, rfl, hl2, hl3⟩ := hI.left
    rw [List.length_map] at hl1 hl2
    have HX := hid_mk (show w.grownBy W2 none ∧ W2.heap[D0]? = some (.deferred (some [])) ∧ w3.heap.size ≤ D0 ∧ Boxed W2 pr 4 (.bool false) from ⟨hI.gr, hK, hD, hI.res⟩)
    have c5 := hl1.cell
    have cr := hI.res.cell
    have zr := hI.res.frozen
    have hle : (x.R.drop A.length).length ≤ 5864062014805 := by rw [List.length_drop]; omega
    have HE := hid_mk hend
    clear hI hK hD hl1 hl2 hl3 hend
    generalize (x.R.drop A.length).length = n at *
    gi_wp2_with fail
    have g := grown_setCell W2 pr 0 (.bool ((n : Int) == 0))
    have hpr : pr < w3.heap.size := H3.out.1.res.lt
    have hq := H3.out.2.2
    have hx3 := HX.out.2.2.1
    have hsz := H3.out.1.gr.size
    have hk2 : (W2.setCell ⟨pr, 0, none⟩ (.bool ((n : Int) == 0))).heap[D0]? = some (.deferred (some [])) := (g.block _ (Array.getElem?_eq_some_iff.1 HX.out.2.1).1 (by simp; omega)).trans HX.out.2.1
    have g2 := grownBy_putObj' (W2.setCell ⟨pr, 0, none⟩ (.bool ((n : Int) == 0))) D0 (.deferred none)
    refine ⟨by simp, .inl ⟨_, _, rfl, run_takeDeferred hk2, ?_⟩⟩
    exact ⟨_, ret_box4 rfl _ _ _ ((n : Int) == 0) rfl ((HX.out.2.2.2.set _).kept g2 (by simp; omega)), ret_bool (by rw [← HE.out, Bool.eq_iff_iff]; simp), grown_new (grown_new HX.out.1 g hq.2.1) g2 (by omega)⟩
  case left =>
    rintro D0 c W2 hD ⟨rfl, h1, h2, h3⟩ hK
    have HX := hid_mk (show w.heap.size ≤ D0 ∧ w3.heap.size ≤ D0 from ⟨by have := H3.out.1.gr.size; omega, hD⟩)
    have HX2 := hid_mk (And.intro h1 (And.intro h2 h3))
    clear h1 h2 h3
    gi_wp2_with fail
    have g2 := grownBy_putObj' W2 D0 (.deferred none)
    refine ⟨by simp, .inl ⟨_, _, rfl, run_takeDeferred hK, ?_⟩⟩
    have hpr := H3.out.1.res.lt
    have hd := HX.out
    exact ⟨_, ret_box4 rfl _ _ _ false rfl (HX2.out.2.1.kept g2 (by simp; omega)), by rw [decide_eq_false HX2.out.2.2], grown_new HX2.out.1 g2 hd.1⟩
  case body =>
    rintro l2 k vs W2 rfl hsz hI ⟨u, hu, rfl⟩ hdf r hr
    have hk : k < A.length := by have := (List.getElem?_eq_some_iff.1 hu).1; simpa using this
    have hue : u = A[k].2 := by rw [List.getElem?_map, List.getElem?_eq_getElem hk] at hu; simpa using hu.symm
    have hby := HA.out _ (List.getElem_mem hk)
    obtain ⟨ua, uc, hus⟩ := hby.len
    have HU := hid_mk (And.intro hby (And.intro hus hk))
    rw [hue, hus]
    clear hu hue hby hus
    have HI := hid_mk (And.intro hsz (And.intro hI (And.intro hdf hr)))
    clear hsz hI hdf hr
    gi_wp2
    refine ⟨⟨rfl, rfl⟩, fun o' ho' => ?_⟩
    have HP := hid_mk (show TelI w pr pl pb v A x.R k (W2.putObj (w3.heap.size + 1) o') ∧ w3.heap.size + 2 ≤ (W2.putObj (w3.heap.size + 1) o').heap.size from by
      obtain ⟨q1, h, q3, q4⟩ := HI.out
      have hg := grownBy_putObj' W2 (w3.heap.size + 1) o'
      have hbk : BkF w3.heap.size W2 (some (w3.heap.size + 1)) := fun r e => by cases e; exact ⟨by omega, _, q4, .inl (.inl ⟨_, rfl⟩)⟩
      have hq := H3.out.2.2
      obtain ⟨lv, hl1, hl2⟩ := h.left
      refine ⟨⟨hbk.grown h.gr hg (by have := H3.out.1.gr.size; omega), boxed_low h.res hg hbk (by have := H3.out.1.res.lt; omega), boxed_low h.box hg hbk (by omega), ⟨lv, boxed_low hl1 hg hbk (by obtain ⟨_, h9, _⟩ := H3.out.1.left; have := h9.lt; omega), hl2⟩, h.le, h.same⟩, Nat.le_trans q1 hg.size⟩)
    clear HI
    generalize W2.putObj (w3.heap.size + 1) o' = Y at *
    obtain ⟨lv, hl1, la, lc, rfl, hl2, hl3⟩ := HP.out.1.left
    rw [List.length_map, List.length_drop] at hl1 hl2 hl3
    have HLV := hid_mk (show RowV w (.slice la (x.R.length - k) lc) ((x.R.drop k).map (·.2)) from ⟨la, lc, by simp, by simpa using hl2, by simpa using hl3⟩)
    have c5 := hl1.cell
    have z5 := hl1.frozen
    have HBL := hid_mk hl1
    have cr := HP.out.1.res.cell
    have zr := HP.out.1.res.frozen
    have HSTOP := hid_mk (show ∀ h : ¬ x.R.map (·.1) = A.map (·.1), BkB w3.heap.size Y (Y.setCell ⟨pr, 0, none⟩ (.bool false)) ∧ w.grownBy (Y.setCell ⟨pr, 0, none⟩ (.bool false)) none ∧ Boxed (Y.setCell ⟨pr, 0, none⟩ (.bool false)) pr 4 (.bool false) ∧ ¬ x.R.map (·.1) = A.map (·.1) from fun h => by
      have g := grown_setCell Y pr 0 (.bool false)
      have hpr : pr < w3.heap.size := H3.out.1.res.lt
      have hq := H3.out.2.2
      have hs2 := HP.out.2
      exact ⟨⟨g.block _ (by omega) (by simp; omega), g.block _ (by omega) (by simp; omega)⟩, grown_new HP.out.1.gr g hq.2.1, HP.out.1.res.set _, h⟩)
    have hle := HP.out.1.le
    by_cases hlt : k < x.R.length
    · obtain ⟨m, hm⟩ : ∃ m, m = x.R.length - k := ⟨_, rfl⟩
      have hm0 : 0 < m := by omega
      have hme : ((m : Int) == 0) = false := by simp; omega
      have hml : m ≤ 5864062014805 := by omega
      obtain ⟨lb, lo, rfl, hlc⟩ := hl3 (by omega)
      have hcell := HP.out.1.gr.cell (hlc 0 x.R[k].2 (by rw [drop_cons_map hlt]; rfl)) (by simp)
      have hbc := HL.out.2.1.2 _ (List.getElem_mem hlt)
      obtain ⟨ca, cc, hcs⟩ := hbc.len
      obtain ⟨a2, k2, hsl, hrv⟩ := HLV.out.l (i := 1) (by simp; omega)
      rw [hcs] at hcell
      rw [hcs] at hbc
      simp only [List.length_map, List.length_drop] at hsl hrv
      rw [← hm] at hsl hrv c5
      have HE := hid_mk (equal_any (by have := HU.out.1.kept HP.out.1.gr; rw [HU.out.2.1] at this; exact this) (hbc.kept HP.out.1.gr))
      have HN := hid_mk (show RowV w (.slice a2 (m - 1) k2) ((x.R.drop (k + 1)).map (·.2)) from by rw [← List.map_drop, List.drop_drop] at hrv; exact hrv)
      have HW := hid_mk hm
      rw [Nat.add_zero] at hcell
      have hsl : ∀ w', (Instr.slice 25 (.slice (some ⟨lb, lo, none⟩) m lc) (some (.int .i64 1)) none none).run Try.prog w' = .ok (.slice a2 (m - 1) k2) w' := hsl
      clear hlc hcs hbc hrv hl1 hl2 hl3 hm
      by_cases heq : A[k].1 = x.R[k].1
      · rw [decide_eq_true heq] at HE
        have HS := hid_mk (show k + 1 ≤ x.R.length ∧ (A.take (k + 1)).map (·.1) = (x.R.take (k + 1)).map (·.1) from ⟨hlt, by rw [take_succ_map HU.out.2.2, take_succ_map hlt, HP.out.1.same, heq]⟩)
        clear heq
        gi_wp2_with fail
        refine ⟨trivial, (CallsIn.inRound _ (callsIn_wide.2 HE.out)).mono ?_⟩
        rintro e Y2 ⟨rfl, hy⟩
        rw [hy]
        clear hy
        have HF := hid_mk (show BkB w3.heap.size Y (Y.setCell ⟨pl, 0, none⟩ (.slice a2 (m - 1) k2)) ∧ TelI w pr pl pb v A x.R (k + 1) (Y.setCell ⟨pl, 0, none⟩ (.slice a2 (m - 1) k2)) from by
          have g := grown_setCell Y pl 0 (.slice a2 (m - 1) k2)
          have hq := H3.out.2.2
          have hs2 := HP.out.2
          have hpl : pl < w3.heap.size := by obtain ⟨_, h9, _⟩ := H3.out.1.left; exact h9.lt
          exact ⟨⟨g.block _ (by omega) (by simp; omega), g.block _ (by omega) (by simp; omega)⟩, ⟨grown_new HP.out.1.gr g hq.2.2.1, HP.out.1.res.kept g (by simp; omega), HP.out.1.box.kept g (by simp; omega), ⟨_, HBL.out.set _, HN.out⟩, HS.out.1, HS.out.2⟩⟩)
        gi_wp2_with fail
        exact HF.out
      · rw [decide_eq_false heq] at HE
        have HNE := hid_mk (show ¬ x.R.map (·.1) = A.map (·.1) from fun e => heq (by
          have h1 : (x.R.map (·.1))[k]? = (A.map (·.1))[k]? := by rw [e]
          rw [List.getElem?_map, List.getElem?_map, List.getElem?_eq_getElem hlt, List.getElem?_eq_getElem HU.out.2.2] at h1
          simpa using h1.symm))
        clear heq
        gi_wp2_with fail
        refine ⟨trivial, (CallsIn.inRound _ (callsIn_wide.2 HE.out)).mono ?_⟩
        rintro e Y2 ⟨rfl, hy⟩
        rw [hy]
        clear hy
        gi_wp2_with fail
        exact HSTOP.out HNE.out
    · have hkx : x.R.length - k = 0 := by omega
      rw [hkx] at c5
      have hz0 : (((0 : Nat) : Int) == 0) = true := rfl
      have HNE := hid_mk (show ¬ x.R.map (·.1) = A.map (·.1) from fun e => by
        have h1 := congrArg List.length e
        simp only [List.length_map] at h1
        have := HU.out.2.2
        omega)
      clear hl1 hl2 hl3 hkx hlt hle
      gi_wp2_with fail
      refine ⟨trivial, ?_⟩
      gi_wp2_with fail
      exact HSTOP.out HNE.out
end Go.Proofs.Ythbfjpaimnhpgab
