/- reads: won. -/
import Derived.Test.YthfdoliojbhcjaaBkB
namespace Go.Proofs.Ythfdoliojbhcjaa
open Go.RowKit Go.Maps
set_option linter.unusedVariables false
set_option linter.unusedSimpArgs false
set_option maxRecDepth 100000

theorem mix_load_mid {P : Program} {ops : Array Oper} {Q : Act → Cl → Prop} {a : Act} {C : Cl} {i : Nat} {rest : List (Nat × Bool)} {o : Oper} (ho : ops[i]? = some o) (hw : Region.wanted o (yielded ops a.tmps) = true) (ty : TypeId) (x : Operand) (hop : o.op = .load ty x)
    (b off : Nat) (hx : a.eval x = .pointer (some ⟨b, off, none⟩)) (cs : List Value) (d : TypeDesc) (hS : ∀ w, C.all w → w.rangeAt b off cs)
    (hu : P.underlying ty = some d) (hd : d.isRow = true) (hi : (P.info? ty).map (·.size) = some cs.length) (h : wpMix P ops Q rest (a.put o.dst (.agg cs.toArray)) C) : wpMix P ops Q ((i, true) :: rest) a C :=
  mix_rd ho hw _ (fun w hw' => by
    unfold execOp
    simp only [hop, hx, Instr.loadAt, Instr.sureAddr, Sem.run_bind, Sem.run_pure, Result.andThen_ok, run_loadVar_mid w b off ty cs d (hS w hw') hu hd hi]) h
theorem i64s_len (l : List Int) : (i64s l).length = l.length := by simp [i64s]
theorem one_wf (H : List Int) (R : Int) : ∀ x ∈ thL H R, Wf x := fun x hx => by
  obtain ⟨i, h1, rfl, _⟩ := mem_thL.1 hx
  simp [Wf, Lit.wf, IntKind.min, IntKind.max, IntKind.signed, IntKind.bits]
  omega
set_option maxHeartbeats 2000000 in
theorem won1_any (sv : Value) (S H T : List Int) (i bs br bc : Nat) (W : World) (hH : H.length = 16) (hT : T.length = 16) (hi : i < 16) (hs : W.cell? ⟨bs, 0, none⟩ = some sv) (hr : BlkT W br H 42)
    (hc : ∀ (j : Nat) x, T[j]? = some x → W.cell? ⟨bc, j, none⟩ = some (.int .i64 x)) (hS : Nums W sv S) :
    Calls Try.prog 38 #[.int .i64 i, .pointer (some ⟨bs, 0, none⟩), .pointer (some ⟨br, 0, none⟩), .pointer (some ⟨bc, 0, none⟩)] W fun e w' => e = .returned (.bool (!wonB S (thL H (T.getD i 0)))) ∧ W.grownBy w' none := by
  have hci := hc i (T.getD i 0) (by simp [hT, hi])
  obtain ⟨x, hx⟩ : ∃ x, x = T.getD i 0 := ⟨_, rfl⟩
  rw [← hx] at hci ⊢
  obtain ⟨sa, sc, rfl⟩ := hS.1.len
  have HN := hid_mk hS
  have HR := hid_mk hr
  have hi' : (i : Int) < 16 := by omega
  have HF : ∀ W0, W.grownBy W0 none → W0.cell? ⟨bs, 0, none⟩ = some (.slice sa S.length sc) ∧ W0.cell? ⟨bc, i, none⟩ = some (.int .i64 x) := fun W0 hW => ⟨hW.cell hs (by simp), hW.cell hci (by simp)⟩
  have HH := hid_mk hH
  clear hx hc hS hr hs hci hH
  go_enter Try.func38, Try.ntmps38
  go_upto_region 1 with fail
  refine wp_region_mix [(0, true), (1, true), (2, true), (3, true), (4, true), (5, false), (6, false), (7, true), (8, true)] (at0 W (fun W0 => W.grownBy W0 none)) (by kernel_rfl) (by kernel_rfl) rfl (by kernel_rfl) (shut_at0 (fun m => grown_drewN _ m none)) ⟨1, rfl⟩ ?_
  refine mix_rd1 rfl rfl (fun K hK => ?_); apply Exists.intro; refine ⟨fun W0 hW => ?_, ?_⟩
  · obtain ⟨f0, f1⟩ := HF W0 hW
    go_simp
    rfl
  go_simp
  refine hK _ _ ?_
  clear hK K
  refine mix_load_mid rfl rfl 42 (.tmp 2) rfl br 0 rfl (i64s H) _ (fun w hw => by have := range_blk (Blk.kept HR.out hw (by simp)); simpa using this) Try.underlying42 rfl (by rw [i64s_len, HH.out]; exact info42) ?_
  repeat (first
    | (refine mix_rd1 rfl rfl (fun K hK => ?_); apply Exists.intro; refine ⟨fun W0 hW => ?_, ?_⟩; (obtain ⟨f0, f1⟩ := HF W0 hW; go_simp; rfl); (go_simp; refine hK _ _ ?_; clear hK K)))
  refine mix_call rfl rfl 40 #[.agg (i64s H).toArray, .int .i64 x] (fun W0 => by go_simp) ?_
  rintro W0 ⟨m3, rfl⟩
  refine (there_any H HH.out x (W.drewN m3)).mono ?_
  rintro e w3 ⟨v, rfl, hv, hg3⟩
  have G3 := hid_mk (grown_trans (grown_drewN W m3 none) hg3)
  have HV := hid_mk (show Nums w3 v (thL H x) from ⟨hv.ints, one_wf H x, by have := thN_len H x 16; unfold thL; omega⟩)
  clear hg3 hv
  refine ⟨_, rfl, at0 w3 (fun W0 => w3.grownBy W0 none), ⟨0, rfl⟩, shut_at0 (fun m => grown_drewN _ m none), fun _ h => grown_trans G3.out h, ?_⟩
  refine mix_call rfl rfl 39 #[.slice sa S.length sc, v] (fun W0 => by go_simp) ?_
  rintro W0 ⟨m4, rfl⟩
  refine (won_any _ _ S (thL H x) (w3.drewN m4) (HN.out.kept (grown_trans G3.out (grown_drewN _ m4 none))) (HV.out.kept (grown_drewN _ m4 none))).mono ?_
  rintro e w4 ⟨rfl, hg4⟩
  have G4 := hid_mk (grown_trans G3.out (grown_trans (grown_drewN w3 m4 none) hg4))
  refine ⟨_, rfl, at0 w4 (fun W0 => w4.grownBy W0 none), ⟨0, rfl⟩, shut_at0 (fun m => grown_drewN _ m none), fun _ h => grown_trans (grown_trans (grown_drewN w3 m4 none) hg4) h, ?_⟩
  clear hg4
  obtain ⟨wb, hwb⟩ : ∃ wb, wonB S (thL H x) = wb := ⟨_, rfl⟩
  rw [hwb]
  have HWb := hid_mk hwb
  clear hwb
  repeat (first
    | (refine mix_rd1 rfl rfl (fun K hK => ?_); apply Exists.intro; refine ⟨fun W0 hW => ?_, ?_⟩; (go_simp; rfl); (go_simp; refine hK _ _ ?_; clear hK K)))
  refine mix_nil ?_
  rintro W1 ⟨m5, rfl⟩
  go_wp2
  go_ret
  exact ⟨ret_bool (by rw [HWb.out]), grown_trans G4.out (grown_drewN _ _ none)⟩
def z16 : Array Value := (Array.replicate 16 (Value.int .i64 0))
theorem zero42 : (Try.prog.info? 42).map (fun i => (i.zero, i.size)) = some (some (.agg z16), 16) := by kernel_rfl
theorem wpList_alloc42 {w : World} {ops : Array Oper} {rest : List Oper} {o : Oper} {a : Act} {Q : Exit → Act → World → Prop} (hgd : o.guard = none) (ho : o.op = .alloc 42)
    (h : wpList Try.prog ops Q rest (a.put o.dst (.pointer (some ⟨w.heap.size, 0, none⟩))) (w.alloc (.cells z16 42))) : wpList Try.prog ops Q (o :: rest) a w := by
  refine wpList_plain hgd fun K hK => ?_
  have hz := (zero_of_info zero42).1
  unfold Oper.wp
  simp [execOp, ho, Instr.alloc, hz, newVar, newRow, Value.cells, Result.andThen]
  exact hK _ _ h
theorem wpList_store42 {w : World} {ops : Array Oper} {rest : List Oper} {o : Oper} {a : Act} {Q : Exit → Act → World → Prop} (hgd : o.guard = none) (x y : Operand) (ho : o.op = .store 42 x y) (c c' : Array Value) (hx : a.eval x = .pointer (some ⟨w.heap.size, 0, none⟩)) (hy : a.eval y = .agg c')
    (h1 : c.size = 16) (h2 : c'.size = 16) (h3 : c'.all (·.oneCell') = true) (h : wpList Try.prog ops Q rest (a.put o.dst undef) (w.alloc (.cells c' 42))) : wpList Try.prog ops Q (o :: rest) a (w.alloc (.cells c 42)) := by
  refine wpList_plain hgd fun K hK => ?_
  have := run_storeAt_new (P := Try.prog) w 42 c c' (by rw [h2]; exact info42) (by rw [h1, h2]) h3
  unfold Oper.wp execOp
  simp only [ho, hx, hy, Sem.run_bind, this, Result.andThen_ok, Sem.run_pure]
  exact hK _ _ h
theorem one_i64s (l : List Int) : (i64s l).toArray.all (·.oneCell') = true := all_oneCell_toArray (fun v hv => by
  obtain ⟨x, _, rfl⟩ := List.mem_map.1 hv; rfl)
theorem ent38 : ∀ args w, (callFunc 38 args).run Try.prog w = .ok (.enter 38 args) w := fun args w => by go_simp
set_option maxHeartbeats 2000000 in
theorem wonF_any (sv : Value) (S H : List Int) (w : World) (hH : H.length = 16) (hA : (9223372036854775807 : Int) ∈ H) (hS : Nums w sv S) :
    Calls Try.prog 31 #[.agg (i64s H).toArray, sv] w fun e w' => ∃ z, e = .returned (.int .i64 z) ∧ Last S H z ∧ w.grownBy w' none := by
  have hsz : (i64s H).toArray.size = 16 := by simp [i64s, hH]
  obtain ⟨sa, sc, rfl⟩ := hS.1.len
  have HK := hid_mk (And.intro hH (And.intro hA hS))
  have HO := hid_mk (one_i64s H)
  obtain ⟨A, hAe⟩ : ∃ A, A = (i64s H).toArray := ⟨_, rfl⟩
  rw [← hAe] at hsz HO ⊢
  have HAe := hid_mk hAe
  clear hAe hH hA hS
  go_enter Try.func31, Try.ntmps31
  go_upto_region 1 with fail
  have g1 := World.grownBy_alloc w (.cells A 42) none
  have H1 := hid_mk (show Blk ((w.alloc (.cells A 42)).alloc (.cells #[.slice sa S.length sc] 32)) w.heap.size A 42 ∧ Blk ((w.alloc (.cells A 42)).alloc (.cells #[.slice sa S.length sc] 32)) (w.heap.size + 1) #[.slice sa S.length sc] 32 ∧ w.grownBy ((w.alloc (.cells A 42)).alloc (.cells #[.slice sa S.length sc] 32)) none ∧ ((w.alloc (.cells A 42)).alloc (.cells #[.slice sa S.length sc] 32)).heap.size = w.heap.size + 2 from
    ⟨Blk.kept (show Blk (w.alloc (.cells A 42)) w.heap.size A 42 from heap_alloc_new _ _) (World.grownBy_alloc _ _ none) (by simp), by have := heap_alloc_new (w.alloc (.cells A 42)) (.cells #[.slice sa S.length sc] 32); simpa [Blk] using this, ga g1 _, by simp⟩)
  clear g1
  generalize ((w.alloc (.cells A 42)).alloc (.cells #[.slice sa S.length sc] 32)) = w1 at *
  refine wp_region_lit ?_
  refine wpList_load_mid rfl 42 (.tmp 2) rfl w.heap.size 0 rfl A.toList _ (range_blk H1.out.1) Try.underlying42 rfl (by rw [Array.length_toList, hsz]; exact info42) ?_
  refine wpList_alloc42 rfl rfl ?_
  refine wpList_store42 rfl (.tmp 5) (.tmp 7) rfl z16 A rfl rfl rfl hsz HO.out ?_
  have H2 := hid_mk (show Blk (w1.alloc (.cells A 42)) w.heap.size A 42 ∧ Blk (w1.alloc (.cells A 42)) (w.heap.size + 1) #[.slice sa S.length sc] 32 ∧ Blk (w1.alloc (.cells A 42)) w1.heap.size A 42 ∧ w.grownBy (w1.alloc (.cells A 42)) none ∧ w1.heap.size = w.heap.size + 2 from
    ⟨H1.out.1.kept (World.grownBy_alloc _ _ none) (by simp), H1.out.2.1.kept (World.grownBy_alloc _ _ none) (by simp), heap_alloc_new _ _, ga H1.out.2.2.1 _, H1.out.2.2.2⟩)
  clear H1
  generalize w1.alloc (.cells A 42) = w2 at *
  generalize w1.heap.size = b2 at *
  go_wp2_with fail
  have HS := hid_mk (sort_any b2 16 H w2 (t := 42) (show Blk w2 b2 _ 42 by rw [← HAe.out]; exact H2.out.2.2.1) (by rw [HK.out.1]; omega))
  rw [HK.out.1] at HS
  refine HS.out.mono ?_
  clear HS
  rintro e w3 ⟨rfl, hc3, hg3⟩
  have H3 := hid_mk (show Blk w3 w.heap.size A 42 ∧ w3.cell? ⟨w.heap.size + 1, 0, none⟩ = some (.slice sa S.length sc) ∧ (∀ (j : Nat) x, (srt H)[j]? = some x → w3.cell? ⟨b2, j, none⟩ = some (.int .i64 x)) ∧ w.grownBy w3 none from by
    have e2 := H2.out.2.2.2.2
    refine ⟨H2.out.1.kept hg3 (by simp; omega), ?_, hc3, grown_new H2.out.2.2.2.1 hg3 (by omega)⟩
    rw [(H2.out.2.1.kept hg3 (by simp; omega)).cell]
    rfl)
  clear hc3 hg3 H2
  go_wp2_with fail
  have HT : (srt H).length = 16 := by rw [srt_len, HK.out.1]
  refine (search_gen 38 #[.pointer (some ⟨w.heap.size + 1, 0, none⟩), .pointer (some ⟨w.heap.size, 0, none⟩), .pointer (some ⟨b2, 0, none⟩)] 16 (fun i => !wB S H i) w3 ent38 (by omega) (fun W hW i hi => won1_any _ S H (srt H) i _ _ _ W HK.out.1 HT hi (hW.cell H3.out.2.1 (by simp)) (by have := H3.out.1.kept hW (by simp); unfold BlkT; rw [← HAe.out]; exact this) (fun j x hj => hW.cell (H3.out.2.2.1 j x hj) (by simp)) (HK.out.2.2.kept (grown_trans H3.out.2.2.2 hW))) (wB_mono HK.out.1)).mono ?_
  rintro e w4 ⟨k, rfl, hk, h1, h2, hg4⟩
  have H4 := hid_mk (show (∀ t, t < k → (!wB S H t) = false) ∧ (∀ t, k ≤ t → t < 16 → (!wB S H t) = true) ∧ w.grownBy w4 none from ⟨h1, h2, grown_trans H3.out.2.2.2 hg4⟩)
  have HC := hid_mk (fun (j : Nat) x (hj : (srt H)[j]? = some x) => hg4.cell (H3.out.2.2.1 j x hj) (by simp))
  clear h1 h2 hg4 H3
  cases k with
  | zero =>
    go_wp2
    go_ret
    exact ⟨_, rfl, last_none HK.out.1 HK.out.2.1 (fun t h1 h2 => H4.out.2.1 t h1 h2), H4.out.2.2⟩
  | succ k =>
    have hk1 : ((k : Int) + 1 == 0) = false := by simp; omega
    have hki : ((k : Int) + 1) - 1 = k := by omega
    have hk16 : (k : Int) < 16 := by omega
    have hk16' : k < 16 := by omega
    have hcx := HC.out k ((srt H).getD k 0) (by simp [HT, hk16'])
    have HZ := hid_mk (last_some HK.out.1 hk16' HK.out.2.1 H4.out.1 H4.out.2.1)
    rw [show (((k + 1 : Nat)) : Int) = (k : Int) + 1 by omega]
    generalize (srt H).getD k 0 = z at *
    go_wp2
    go_ret
    exact ⟨_, rfl, HZ.out, H4.out.2.2⟩
end Go.Proofs.Ythfdoliojbhcjaa
