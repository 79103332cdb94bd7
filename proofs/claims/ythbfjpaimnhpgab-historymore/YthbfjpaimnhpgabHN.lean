/- history: put, Trim, Put of a model. -/
import Derived.Test.YthbfjpaimnhpgabHM
namespace Go.Proofs.Ythbfjpaimnhpgab
open Go.RowKit Go.Maps
set_option linter.unusedVariables false
set_option linter.unusedSimpArgs false
set_option maxRecDepth 100000

theorem heap_setCells_in {g : Nat} {e : TypeId} : ∀ (vs : List Value) (o : Nat) (w : World) (cur : Array Value), w.heap[g]? = some (.cells cur e (0, 0)) →
    ∃ cur', (w.setCells g o vs).heap[g]? = some (.cells cur' e (0, 0)) ∧ cur'.size = cur.size ∧ ∀ j, (j < o ∨ o + vs.length ≤ j) → cur'[j]? = cur[j]?
  | [], o, w, cur, h => ⟨cur, h, rfl, fun _ _ => rfl⟩
  | v :: vs, o, w, cur, h => by
    obtain ⟨c, h1, h2, h3⟩ := heap_setCells_in (g := g) (e := e) vs (o + 1) (w.setCell ⟨g, o, none⟩ v) (cur.setIfInBounds o v) (by simp [World.setCell, Array.getElem?_modify, h])
    refine ⟨c, h1, by rw [h2]; simp, fun j hj => ?_⟩
    rw [h3 j (by simp at hj; omega), Array.getElem?_setIfInBounds_ne (by simp at hj; omega)]
theorem elem26 : Try.prog.elem 25 = 24 := by kernel_rfl
theorem under26 : Try.prog.underlying 25 = some (.slice (Try.prog.elem 25)) := by rw [elem26]; exact Try.underlying25
theorem run_clear_none (w : World) (ty : TypeId) (a : Option Addr) (c : Nat) : (Builtin.clear_ #[25] ty #[.slice a 0 c]).run Try.prog w = .ok (.tuple #[]) w := by
  cases a <;> simp [Builtin.clear_, run_underlying Try.underlying25]
/-- The first ones of a row are cleared, and cut off. -/
theorem RowO.cut {w : World} {v : Value} {n : Nat} {xs : List Value} (h : RowO w 24 v n xs) {g : Nat} (hg : g ≤ n) (hn : n ≤ 5864062014805) :
    ∃ a1 c1 a2 c2 W', (∀ w', (Instr.slice 25 v none (some (.int .i64 g)) none).run Try.prog w' = .ok (.slice a1 g c1) w') ∧ (∀ w', (Instr.slice 25 v (some (.int .i64 g)) none none).run Try.prog w' = .ok (.slice a2 (n - g) c2) w') ∧
      (∀ ty, (Builtin.clear_ #[25] ty #[.slice a1 g c1]).run Try.prog w = .ok (.tuple #[]) W') ∧ RowO W' 24 (.slice a2 (n - g) c2) (n - g) (xs.drop g) ∧ w.grownBy W' v.ownBlock ∧ ∀ k, (Value.slice a2 (n - g) c2).ownBlock = some k → v.ownBlock = some k := by
  rcases h.2 with ⟨rfl, rfl⟩ | ⟨q, off, cap, cur, rfl, hq, hnc, hcs, hel⟩
  · obtain rfl : g = 0 := by omega
    have hxs : xs = [] := List.eq_nil_of_length_eq_zero h.1
    subst hxs
    refine ⟨none, 0, none, 0, w, fun w' => ?_, fun w' => ?_, fun ty => run_clear_none w ty _ _, RowO.nil _ _, grown_refl _ _, fun k e => by cases e⟩
    · rw [run_slice_h w' 25 none 0 0 under26 .i64 ((0 : Nat) : Int) (by omega) (by omega), elem26, Try.sizeOf24 w']
      rfl
    · rw [run_slice_l w' 25 none 0 0 under26 .i64 ((0 : Nat) : Int) (by omega) (by omega), elem26, Try.sizeOf24 w']
      rfl
  · have hs1 : ∀ w', (Instr.slice 25 (.slice (some ⟨q, off, none⟩) n cap) none (some (.int .i64 g)) none).run Try.prog w' = .ok (.slice (some ⟨q, off, none⟩) g cap) w' := fun w' => by
      rw [run_slice_h w' 25 (some ⟨q, off, none⟩) n cap under26 .i64 (g : Int) (by omega) (by omega), elem26, Try.sizeOf24 w']
      simp only [Result.andThen, Int.toNat_natCast, sliced]
      split
      · rename_i e; simp
      · simp [add_at]
    have hs2 : ∀ w', (Instr.slice 25 (.slice (some ⟨q, off, none⟩) n cap) (some (.int .i64 g)) none none).run Try.prog w' = .ok (.slice (some ⟨q, if cap = g then off else off + g, none⟩) (n - g) (cap - g)) w' := fun w' => by
      rw [run_slice_l w' 25 (some ⟨q, off, none⟩) n cap under26 .i64 (g : Int) (by omega) (by omega), elem26, Try.sizeOf24 w']
      simp only [Result.andThen, Int.toNat_natCast, sliced]
      split
      · rfl
      · simp [add_at]
    have hcl : ∃ W' cur', (∀ ty, (Builtin.clear_ #[25] ty #[.slice (some ⟨q, off, none⟩) g cap]).run Try.prog w = .ok (.tuple #[]) W') ∧ W'.heap[q]? = some (.cells cur' 24 (0, 0)) ∧ cur'.size = cur.size ∧ (∀ j, off + g ≤ j → cur'[j]? = cur[j]?) ∧ w.grownBy W' (some q) := by
      rcases Nat.eq_zero_or_pos g with rfl | hg0
      · exact ⟨w, cur, fun ty => run_clear_none w ty _ _, hq, rfl, fun _ _ => rfl, grown_refl _ _⟩
      · obtain ⟨i0, hi, hz0, hz1, hz2⟩ := info_parts info30
        obtain ⟨cur', h1, h2, h3⟩ := heap_setCells_in (List.replicate g (.slice none 0 0)) off w cur hq
        refine ⟨w.setCells q off (List.replicate g (.slice none 0 0)), cur', fun ty => ?_, h1, h2, fun j hj => h3 j (.inr (by simpa using hj)), grown_setCells _ _ _ _⟩
        refine Lib.run_clear_slice w 25 24 ty (.slice none 0 0) Try.underlying25 (fun w => by simp [zeroValue, typeInfo, hi, hz0]) rfl rfl q off g cap hg0 (fun j hj => ?_) (fun j hj => by simp [World.frozen?, hq])
        rw [show w.cell? ⟨q, off + j, none⟩ = cur[off + j]? from by simp [World.cell?, hq], Array.getElem?_eq_getElem (by omega)]
        rfl
    obtain ⟨W', cur', hc1, hc2, hc3, hc4, hc5⟩ := hcl
    refine ⟨_, _, _, _, W', hs1, hs2, hc1, ⟨by rw [List.length_drop, h.1], .inr ⟨q, _, _, cur', rfl, hc2, by omega, by split <;> omega, fun j u hj => ?_⟩⟩, hc5, fun k e => e⟩
    rw [List.getElem?_drop] at hj
    have hjn : g + j < n := by have := (List.getElem?_eq_some_iff.1 hj).1; rw [h.1] at this; exact this
    rw [if_neg (by omega), hc4 _ (by omega), Nat.add_assoc]
    exact hel _ u hj
theorem keeps_set {w w' : World} {F : Nat → Prop} (h : Keeps F w w') {b : Nat} (hb : F b) (i : Nat) (x : Value) : Keeps F w (w'.setCell ⟨b, i, none⟩ x) := keeps_then h (Keeps.one (Z := fun k => k = b) (grown_setCell w' b i x) rfl) (fun k _ e => by cases e; exact hb)
set_option maxHeartbeats 4000000 in
theorem put_any {w : World} {b : Nat} {vm : Value} {R : List RV} {s : Nat} (h : IsM w b vm R s) (d : List UInt8) (u : Value) (hu : IsSl u) (hf : s + R.length + 1 ≤ 5864062014805) :
    Calls Try.prog 31 #[.pointer (some ⟨b, 0, none⟩), u] w fun e w' => e = .returned (.int .i64 ((s + R.length : Nat) : Int)) ∧ ∃ vm', IsM w' b vm' (R ++ [(d, u)]) s ∧ MP w w' b vm vm' := by
  obtain ⟨ua, un, uc, rfl⟩ := hu
  have HN := hid_mk (next_any h)
  have HM := hid_mk h
  obtain ⟨va, vc, rfl⟩ := h.row.shape
  clear h
  go_enter Try.func31, Try.ntmps31
  go_upto_region 2 with (go_at_call 34; refine HN.out.mono ?_; rintro e w' ⟨rfl, m, rfl⟩)
  have h1 := HM.out.grown (grown_drewN w m none)
  have h2 := h1.grown (World.grownBy_alloc (w.drewN m) (.cells #[.slice ua un uc] 24) none)
  obtain ⟨c0, c1, cf⟩ := h2.cells
  obtain ⟨i0, hi, hz0, hz1, hz2⟩ := info_parts info30
  have hb := blk_alloc (w.drewN m) #[.slice ua un uc] 24
  obtain ⟨v', W2, hr, ho, hg, hnb⟩ := run_append_o ((w.drewN m).alloc (.cells #[.slice ua un uc] 24)) 25 25 24 i0 (.slice none 0 0) 24 Try.underlying25 hi hz0 hz1 hz2 rfl (.slice va R.length vc) R.length (R.map (·.2)) h2.row ⟨(w.drewN m).heap.size, 0, none⟩ 1 (.slice ua un uc) (by rw [add_at, Nat.add_zero, hb.cell]; rfl) rfl (by unfold maxLen; omega) (by omega)
  have hbr : some b ≠ (Value.slice va R.length vc).ownBlock := h2.row.tag h2.blk (by decide)
  obtain ⟨a', c', rfl⟩ := ho.shape
  have hblk2 := h2.blk.kept hg hbr
  have HX := hid_mk (show IsM (W2.setCell ⟨b, 1, none⟩ (.slice a' (R.length + 1) c')) b (.slice a' (R.length + 1) c') (R ++ [(d, .slice ua un uc)]) s ∧ MP w (W2.setCell ⟨b, 1, none⟩ (.slice a' (R.length + 1) c')) b (.slice va R.length vc) (.slice a' (R.length + 1) c') from by
    refine ⟨⟨hblk2.set 1 _, ?_, by simp; omega⟩, keeps_set (keeps_then (F := MF b (.slice va R.length vc)) (Keeps.of_none (grown_trans (grown_drewN w m none) (World.grownBy_alloc (w.drewN m) (.cells #[.slice ua un uc] 24) none))) (Keeps.of_grown hg (fun k e _ => e)) (fun k _ e => .inr e)) (.inl rfl) _ _, fun k e => ?_⟩
    · rw [List.map_append, List.length_append]
      exact ho.kept (grown_setCell _ _ _ _) (fun g cur hgc e => by
        injection e with e
        subst e
        unfold Blk at hblk2
        rw [hblk2] at hgc
        cases hgc)
    · rcases e with e | e
      · exact .inl (.inl e)
      · rcases hnb with hnb | hnb
        · rw [hnb] at e; exact .inl (.inr e)
        · have := hnb k e
          rw [World.size_alloc] at this
          exact .inr (by have h9 : (w.drewN m).heap.size = w.heap.size := rfl; omega))
  have hcell : W2.cell? ⟨b, 1, none⟩ = some (.slice va R.length vc) := by rw [hblk2.cell]; rfl
  have hfz : W2.frozen? ⟨b, 1, none⟩ = false := hblk2.frozen 1
  have HR := hid_mk hr
  have d1 : (w.drewN m).cell? ⟨b, 1, none⟩ = some (.slice va R.length vc) := h1.cells.2.1
  clear h1 h2 c0 c1 cf hb ho hg hnb hbr hblk2 hr hi hz0 hz1 hz2 HM HN
  go_wp2_with (at_builtin; refine wp_run_app rfl (.tmp 12) (.tmp 14) rfl rfl rfl HR.out ?_)
  go_ret
  exact ⟨rfl, _, HX.out⟩
set_option maxHeartbeats 4000000 in
theorem trim_any {w : World} {b : Nat} {vm : Value} {R : List RV} {s : Nat} (h : IsM w b vm R s) (t0 : Int) :
    Calls Try.prog 32 #[.pointer (some ⟨b, 0, none⟩), .int .i64 t0] w fun e w' => e = .returned (.int .i64 ((s + goneM ⟨s, R.map (·.1)⟩ t0 : Nat) : Int)) ∧ ∃ vm', IsM w' b vm' (R.drop (goneM ⟨s, R.map (·.1)⟩ t0)) (s + goneM ⟨s, R.map (·.1)⟩ t0) ∧ MP w w' b vm vm' := by
  have hgone : goneM ⟨s, R.map (·.1)⟩ t0 = min (t0.toNat - s) R.length := by simp [goneM]
  rw [hgone]
  clear hgone
  by_cases hto : t0 ≤ s
  · have h0 : min (t0.toNat - s) R.length = 0 := by omega
    rw [h0]
    obtain ⟨c0, c1, cf⟩ := h.cells
    have HM := hid_mk h
    clear h
    have hto' : ¬ (s : Int) < t0 := by omega
    go_enter Try.func32, Try.ntmps32
    go_wp2_with fail
    go_ret
    exact ⟨rfl, _, HM.out, MP.of_grown (grown_refl _ _)⟩
  · have hto' : (s : Int) < t0 := by omega
    obtain ⟨g, hg⟩ : ∃ g, g = min (t0.toNat - s) R.length := ⟨_, rfl⟩
    rw [← hg]
    have hgn : g ≤ R.length := by omega
    have hfit := h.fit
    have hmin : min t0 ((s + R.length : Nat) : Int) = ((s + g : Nat) : Int) := by omega
    have HN := hid_mk (next_any h)
    have HM := hid_mk h
    obtain ⟨c0, c1, cf⟩ := h.cells
    clear h
    have hwr : IntKind.i64.wrap ((s : Int) + (g : Int) - s) = g := by rw [wrap_in (by omega)]; omega
    generalize hsn : s + R.length = n at *
    have HGn := hid_mk hg
    clear hg
    go_enter Try.func32, Try.ntmps32
    go_upto_region 4 with fail
    refine wp_region_mix [(0, true), (1, true), (2, true), (3, true), (4, true), (5, true), (6, true), (7, true), (8, true), (9, true)] (at0 w (fun W => IsM W b vm R s)) (by kernel_rfl) (by kernel_rfl) rfl (by kernel_rfl) (shut_at0 (fun m => HM.out.grown (grown_drewN _ m none))) ⟨1, rfl⟩ ?_
    have HC := hid_mk (fun (W : World) (hW : IsM W b vm R s) => hW.cells)
    repeat (refine mix_rd1 rfl rfl (fun K hK => ?_); apply Exists.intro; refine ⟨fun W hW => ?_, ?_⟩; (obtain ⟨x0, x1, xf⟩ := HC.out W hW; go_simp; rfl); (go_simp; refine hK _ _ ?_; clear hK K))
    refine mix_rdcall rfl rfl 34 #[.pointer (some ⟨b, 0, none⟩)] (.int .i64 n) (fun W => by go_simp) (fun W hW => by have := next_any hW; rwa [hsn] at this) ?_
    go_simp
    repeat (refine mix_rd1 rfl rfl (fun K hK => ?_); apply Exists.intro; refine ⟨fun W hW => ?_, ?_⟩; (obtain ⟨x0, x1, xf⟩ := HC.out W hW; go_simp; rfl); (go_simp; refine hK _ _ ?_; clear hK K))
    refine mix_nil ?_
    rintro W ⟨m1, rfl⟩
    clear c0 c1 cf HC HN
    have hM1 := HM.out.grown (grown_drewN w m1 none)
    obtain ⟨a1, c1, a2, c2, W', hs1, hs2, hcl, hro, hgr, hnb⟩ := hM1.row.cut hgn (by omega)
    have hbr : some b ≠ vm.ownBlock := hM1.row.tag hM1.blk (by decide)
    have hblk2 := hM1.blk.kept hgr hbr
    have d1 : (w.drewN m1).cell? ⟨b, 1, none⟩ = some vm := hM1.cells.2.1
    have e0 : W'.cell? ⟨b, 0, none⟩ = some (.int .i64 s) := by rw [hblk2.cell]; rfl
    have e1 : W'.cell? ⟨b, 1, none⟩ = some vm := by rw [hblk2.cell]; rfl
    have ef : ∀ i, W'.frozen? ⟨b, i, none⟩ = false := fun i => hblk2.frozen i
    have HX := hid_mk (show IsM ((W'.setCell ⟨b, 1, none⟩ (.slice a2 (R.length - g) c2)).setCell ⟨b, 0, none⟩ (.int .i64 ((s + g : Nat) : Int))) b (.slice a2 (R.length - g) c2) (R.drop g) (s + g) ∧ MP w ((W'.setCell ⟨b, 1, none⟩ (.slice a2 (R.length - g) c2)).setCell ⟨b, 0, none⟩ (.int .i64 ((s + g : Nat) : Int))) b vm (.slice a2 (R.length - g) c2) from by
      refine ⟨⟨(hblk2.set 1 _).set 0 _, ?_, by rw [List.length_drop]; omega⟩, keeps_set (keeps_set (keeps_then (F := MF b vm) (Keeps.of_none (grown_drewN w m1 none)) (Keeps.of_grown hgr (fun k e _ => e)) (fun k _ e => .inr e)) (.inl rfl) _ _) (.inl rfl) _ _, fun k e => ?_⟩
      · rw [List.map_drop, List.length_drop]
        exact hro.kept (grown_trans (grown_setCell _ _ _ _) (grown_setCell _ _ _ _)) (fun g cur hgc e => by
          injection e with e
          subst e
          unfold Blk at hblk2
          rw [hblk2] at hgc
          cases hgc)
      · rcases e with e | e
        · exact .inl (.inl e)
        · exact .inl (.inr (hnb k e)))
    clear hM1 hro hgr hnb hbr hblk2 HM
    go_wp2_with fail
    have h9 := HX.out
    rw [show ((s + g : Nat) : Int) = (s : Int) + g from by simp] at h9
    go_ret
    exact ⟨rfl, _, h9⟩
theorem trim_no (t0 : Int) (w : World) : Calls Try.prog 32 #[.pointer none, .int .i64 t0] w fun e w' => e = .returned (.int .i64 0) ∧ w' = w := by
  go_enter Try.func32, Try.ntmps32
  go_wp2
  go_ret
  exact ⟨rfl, rfl⟩
end Go.Proofs.Ythbfjpaimnhpgab
