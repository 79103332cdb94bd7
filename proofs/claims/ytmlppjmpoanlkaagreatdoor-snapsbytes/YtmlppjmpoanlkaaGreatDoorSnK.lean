/- snaps: made, read. -/
import Derived.Test.YtmlppjmpoanlkaaGreatDoorSnJ
namespace Go.Proofs.YtmlppjmpoanlkaaGreatDoor.W
open Go.RowKit Go.Maps Go.Shelf
set_option linter.unusedVariables false
set_option linter.unusedSimpArgs false
set_option maxRecDepth 100000

theorem right_U : V.rightB nmU = true := by decide
theorem size_U : nmU.size ≤ maxLen := by unfold maxLen; decide
theorem nmS_size (i : Nat) : (nmS i).size = 18 := by
  show (nmS i).data.size = 18
  rw [← Array.length_toList, nmS_list]
  simp [preL, digN_len]
theorem size_S (i : Nat) : (nmS i).size ≤ maxLen := by rw [nmS_size]; unfold maxLen; decide

theorem made_ok (N b : Nat) (F : Nat → Prop) (m : V.Mem) (w : World) (h : V.IsDisk w F N b m) : Calls Tryz.prog 50 #[.pointer (some ⟨b, 0, none⟩)] w fun e w' => e = .returned (.bool true) ∧ w.grownBy w' none := by
  cases hf : V.fileAt m.names (V.key nmU) with
  | none =>
    have HC := hid_mk (V.read_none N b F m nmU w h size_U right_U hf)
    clear h hf
    unfold nmU at HC
    go_enter Tryz.func50, Tryz.ntmps50
    go_wp2_with (go_at_call 87; refine HC.out.mono ?_; rintro e w' ⟨rfl, rfl⟩)
    go_ret
    exact ⟨rfl, grown_refl _ _⟩
  | some f =>
    obtain ⟨x, hx⟩ := h.rest.gN.at hf
    have HC := hid_mk (V.read_ok N b F m nmU f x w h size_U right_U hf hx)
    clear h hf hx
    unfold nmU at HC
    go_enter Tryz.func50, Tryz.ntmps50
    go_wp2_with fail
    refine HC.out.mono ?_
    rintro e w1 ⟨v1, rfl, hr1, hg1⟩
    obtain ⟨a1, c1, rfl⟩ := row_shape hr1
    have H1 := hid_mk hg1
    clear hr1 hg1 HC
    go_wp2_with fail
    go_ret
    exact ⟨rfl, H1.out⟩
theorem made_nil (w : World) : Calls Tryz.prog 50 #[.pointer none] w fun e w' => e = .returned (.bool false) ∧ w' = w := by
  have HC := hid_mk (V.read_nil nmU w)
  unfold nmU at HC
  go_enter Tryz.func50, Tryz.ntmps50
  go_wp2_with (go_at_call 87; refine HC.out.mono ?_; rintro e w' ⟨rfl, rfl⟩)
  go_ret
  exact ⟨rfl, rfl⟩
theorem made_zero (b : Nat) (w : World) (h : w.cell? ⟨b, 3, none⟩ = some (.map none)) : Calls Tryz.prog 50 #[.pointer (some ⟨b, 0, none⟩)] w fun e w' => e = .returned (.bool false) ∧ w' = w := by
  have HC := hid_mk (V.read_zero b nmU w h)
  unfold nmU at HC
  go_enter Tryz.func50, Tryz.ntmps50
  go_wp2_with (go_at_call 87; refine HC.out.mono ?_; rintro e w' ⟨rfl, rfl⟩)
  go_ret
  exact ⟨rfl, rfl⟩

/-- A snapshot's file lies on the disk, whole. -/
def HasS (m : V.Mem) (x : Snap) : Prop := ∃ f g, V.fileAt m.names (V.key (nmS x.i.toNat)) = some f ∧ m.files f = some g ∧ g.data = snapB x ∧ mayS x = true
theorem gS_put {x : Snap} (h : mayS x = true) : gS (snapB x) = some x := by
  obtain ⟨hs, hb⟩ := mayS_iff.1 h
  obtain ⟨b1, b2, b3, b4, b5⟩ := inB_iff.1 hb
  have hsl := srvB_len hs
  have hl : (inS x).length ≤ 65536 := by
    unfold inS txtB
    simp only [List.length_append]
    have := numB_le (n := x.i.toNat) (by omega)
    have := numB_le (n := x.t.toNat) (by omega)
    have := numB_le (n := (srvB x.s).length) (by omega)
    have := numB_le (n := x.d.length) (by omega)
    omega
  have e1 : readN ⟨inS x, 0⟩ = (x.i.toNat, ⟨numB x.t.toNat ++ (txtB (srvB x.s) ++ txtB x.d), 0⟩) := readN_put (by omega) _
  have e2 : readN ⟨numB x.t.toNat ++ (txtB (srvB x.s) ++ txtB x.d), 0⟩ = (x.t.toNat, ⟨txtB (srvB x.s) ++ txtB x.d, 0⟩) := readN_put (by omega) _
  have e3 : readB ⟨txtB (srvB x.s) ++ txtB x.d, 0⟩ = (srvB x.s, ⟨txtB x.d, 0⟩) := readB_put (by omega) _
  have e4 : readB ⟨txtB x.d, 0⟩ = (x.d, ⟨[], 0⟩) := by
    have := readB_put (d := x.d) (by omega) []
    rwa [List.append_nil] at this
  have r1 : rd1 (inS x) = ⟨numB x.t.toNat ++ (txtB (srvB x.s) ++ txtB x.d), 0⟩ := by unfold rd1; rw [e1]
  have r2 : rd2 (inS x) = ⟨txtB (srvB x.s) ++ txtB x.d, 0⟩ := by unfold rd2; rw [r1, e2]
  have r3 : rd3 (inS x) = ⟨txtB x.d, 0⟩ := by unfold rd3; rw [r2, e3]
  have r4 : rd4 (inS x) = ⟨[], 0⟩ := by unfold rd4; rw [r3, e4]
  have hg := getS_put hs
  have hgo : getOk (srvB x.s) = true ∧ getL (srvB x.s) = x.s := by
    unfold getS at hg
    split at hg
    · rename_i ho
      exact ⟨ho, Option.some.inj hg⟩
    · cases hg
  have hv : valS (inS x) = x := by
    unfold valS
    rw [e1, r1, e2, r2, e3, r3, e4]
    simp only
    rw [(got_ok hgo.1).1, hgo.2, show ((x.i.toNat : Nat) : Int) = x.i by omega, show ((x.t.toNat : Nat) : Int) = x.t by omega]
  have hok : okS (inS x) = true := okS_iff.2 ⟨by rw [r2, e3]; exact (got_ok hgo.1).2, by rw [r4]; rfl, by rw [hv]; exact hb⟩
  have e5 : F.scanB (snapB x) = ([(5, inS x)], (snapB x).length) := by
    have := F.scanB_put 5 (inS x) [] hl
    rw [List.append_nil, F.scanB_nil] at this
    unfold snapB
    rw [this, F.putB_len]
    rfl
  unfold gS
  rw [e5]
  show (if _ then _ else _) = _
  rw [if_pos ⟨rfl, rfl, hok⟩, hv]
theorem snapB_len {x : Snap} (h : mayS x = true) : (snapB x).length ≤ 64300 := by
  obtain ⟨hs, hb⟩ := mayS_iff.1 h
  obtain ⟨b1, b2, b3, b4, b5⟩ := inB_iff.1 hb
  have hsl := srvB_len hs
  unfold snapB
  rw [F.putB_len]
  unfold inS txtB
  simp only [List.length_append]
  have := numB_le (n := x.i.toNat) (by omega)
  have := numB_le (n := x.t.toNat) (by omega)
  have := numB_le (n := (srvB x.s).length) (by omega)
  have := numB_le (n := x.d.length) (by omega)
  omega
theorem right_S (i : Nat) : V.rightB (nmS i) = true := by
  unfold V.rightB
  rw [nmS_size, nmS_list]
  simp only [Bool.and_eq_true, decide_eq_true_eq, List.all_eq_true]
  refine ⟨by omega, by omega, fun c hc => ?_⟩
  rcases List.mem_append.1 hc with h | h
  · simp [preL] at h
    rcases h with rfl | rfl | rfl | rfl | rfl <;> decide
  · have := digN_mem 13 i c h
    omega

set_option maxHeartbeats 2000000 in
theorem readS_ok (N b : Nat) (F : Nat → Prop) (m : V.Mem) (x : Snap) (w : World) (h : V.IsDisk w F N b m) (hx : HasS m x) (ht : Go.Proofs.YtmlppjmpoanlkaaGreatDoor.F.Tab w) (hp : Pw w) :
    Calls Tryz.prog 52 #[.pointer (some ⟨b, 0, none⟩), .int .i64 x.i] w fun e w' => ∃ sv dv, e = .returned (.tuple #[snapV x sv dv, .bool true]) ∧ OwnI w' w.heap.size sv x.s ∧ Own w' w.heap.size dv x.d ∧ w.grownBy w' none := by
  obtain ⟨f, g, hf, hg, hd, hm⟩ := hx
  obtain ⟨b1, b2, b3, b4, b5⟩ := inB_iff.1 (mayS_iff.1 hm).2
  have HG : Hid (SB (w.alloc (.cells #[.int .i64 0, .int .i64 0, .slice none 0 0, .slice none 0 0] 27)) w.heap.size 0 0 (.slice none 0 0) (.slice none 0 0) ∧ w.grownBy (w.alloc (.cells #[.int .i64 0, .int .i64 0, .slice none 0 0, .slice none 0 0] 27)) none) := hid_mk ⟨heap_alloc_new _ _, World.grownBy_alloc _ _ _⟩
  have HN := hid_mk (nameOf_any x.i.toNat _ (by omega) (by omega) (hp.kept HG.out.2))
  rw [show ((x.i.toNat : Nat) : Int) = x.i by omega] at HN
  have HT := hid_mk ht
  have HM := hid_mk hm
  have HR : Hid (∀ w1, w.grownBy w1 none → Calls Tryz.prog 87 #[.pointer (some ⟨b, 0, none⟩), .string (nmS x.i.toNat)] w1 fun e w' => ∃ v', e = .returned (.tuple #[v', .int .i64 0]) ∧ w'.ownsRow w1.heap.size 5 1 v' (snapB x).length (V.u8s (snapB x)) ∧ w1.grownBy w' none) := hid_mk (fun w1 hg1 => by
    have := V.read_ok N b F m (nmS x.i.toNat) f g w1 (h.kept_none hg1) (size_S _) (right_S _) hf hg
    rw [hd] at this
    exact this)
  clear h hf hg hd hm ht hp
  generalize nmS x.i.toNat = nm at *
  go_enter Tryz.func52, Tryz.ntmps52
  go_wp2_with fail
  generalize (w.alloc (.cells #[.int .i64 0, .int .i64 0, .slice none 0 0, .slice none 0 0] 27)) = w0 at *
  refine HN.out.mono ?_
  rintro e w1 ⟨rfl, hg1⟩
  have H1 := hid_mk (show SB w1 w.heap.size 0 0 (.slice none 0 0) (.slice none 0 0) ∧ w.grownBy w1 none from ⟨V.Blk.kept HG.out.1 hg1 (by simp), grown_trans HG.out.2 hg1⟩)
  clear hg1 HN HG
  go_wp2_with fail
  refine (HR.out w1 H1.out.2).mono ?_
  rintro e w2 ⟨v2, rfl, hr2, hg2⟩
  obtain ⟨a2, c2, rfl⟩ := row_shape hr2
  have H2 := hid_mk (show Byt w2 (.slice a2 (snapB x).length c2) (snapB x) ∧ w.grownBy w2 none ∧ SB w2 w.heap.size 0 0 (.slice none 0 0) (.slice none 0 0) from ⟨Own.byt (B := w1.heap.size) hr2, grown_trans H1.out.2 hg2, V.Blk.kept H1.out.1 hg2 (by simp)⟩)
  clear hr2 hg2 HR H1
  go_wp2_with fail
  refine (getS_own _ (snapB x) w2 H2.out.1 (HT.out.kept H2.out.2.1) (by have := snapB_len HM.out; omega)).mono ?_
  rw [gS_put HM.out]
  rintro e w3 ⟨hg3, sv, dv, rfl, hs3, hd3⟩
  obtain ⟨sa, sc, rfl⟩ := hs3.len
  obtain ⟨da, dc, rfl⟩ := hd3.len
  have H3 := hid_mk (show OwnI w3 (w.heap.size + 1) (.slice sa x.s.length sc) x.s ∧ Own w3 (w.heap.size + 1) (.slice da x.d.length dc) x.d ∧ SB w3 w.heap.size 0 0 (.slice none 0 0) (.slice none 0 0) ∧ w.grownBy w3 none from ⟨hs3.base (V.Blk.lt H2.out.2.2), hd3.base (V.Blk.lt H2.out.2.2), V.Blk.kept H2.out.2.2 hg3 (by simp), grown_trans H2.out.2.1 hg3⟩)
  have ga := World.grownBy_alloc w3 (.cells #[.int .i64 x.i, .int .i64 x.t, .slice sa x.s.length sc, .slice da x.d.length dc] 27) none
  have H4 := hid_mk (show OwnI (w3.alloc (.cells #[.int .i64 x.i, .int .i64 x.t, .slice sa x.s.length sc, .slice da x.d.length dc] 27)) (w.heap.size + 1) (.slice sa x.s.length sc) x.s ∧ Own (w3.alloc (.cells #[.int .i64 x.i, .int .i64 x.t, .slice sa x.s.length sc, .slice da x.d.length dc] 27)) (w.heap.size + 1) (.slice da x.d.length dc) x.d ∧ SB (w3.alloc (.cells #[.int .i64 x.i, .int .i64 x.t, .slice sa x.s.length sc, .slice da x.d.length dc] 27)) w.heap.size 0 0 (.slice none 0 0) (.slice none 0 0) ∧ w.grownBy (w3.alloc (.cells #[.int .i64 x.i, .int .i64 x.t, .slice sa x.s.length sc, .slice da x.d.length dc] 27)) none from ⟨H3.out.1.kept ga, H3.out.2.1.kept ga (.inl rfl), V.Blk.kept H3.out.2.2.1 ga (by simp), grown_trans H3.out.2.2.2 ga⟩)
  obtain ⟨c0, c1, c2', c3, cf⟩ := H4.out.2.2.1.all
  clear hs3 hd3 hg3 H2 ga H3
  unfold snapV
  go_wp2_with fail
  refine bodyPost_ret (ret_snap rfl _ _ w.heap.size x.i x.t _ _ rfl (H4.out.2.2.1.laid x.i x.t _ _)) rfl ?_
  refine ⟨_, _, rfl, ?_, ?_, grown_new (grown_new (grown_new (grown_new H4.out.2.2.2 (grown_setCell _ _ _ _) (Nat.le_refl _)) (grown_setCell _ _ _ _) (Nat.le_refl _)) (grown_setCell _ _ _ _) (Nat.le_refl _)) (grown_setCell _ _ _ _) (Nat.le_refl _)⟩
  · have hs : ∀ (W : World) (i : Nat) (u : Value), OwnI W (w.heap.size + 1) (.slice sa x.s.length sc) x.s → OwnI (W.setCell ⟨w.heap.size, i, none⟩ u) (w.heap.size + 1) (.slice sa x.s.length sc) x.s := fun W i u h => h.kept_low (grown_setCell W w.heap.size i u) (by omega)
    exact (hs _ _ _ (hs _ _ _ (hs _ _ _ (hs _ _ _ H4.out.1)))).base (Nat.le_succ _)
  · have hd : ∀ (W : World) (i : Nat) (u : Value), Own W (w.heap.size + 1) (.slice da x.d.length dc) x.d → Own (W.setCell ⟨w.heap.size, i, none⟩ u) (w.heap.size + 1) (.slice da x.d.length dc) x.d := fun W i u h => h.kept_low (grown_setCell W w.heap.size i u) (by omega)
    exact (hd _ _ _ (hd _ _ _ (hd _ _ _ (hd _ _ _ H4.out.2.1)))).base (Nat.le_succ _)

end Go.Proofs.YtmlppjmpoanlkaaGreatDoor.W
