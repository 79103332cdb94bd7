/- check. -/
import Derived.Test.YtliefofdlpljaaaDoorMsg
namespace Go.Proofs.YtliefofdlpljaaaDoor
open Go.RowKit Go.Maps
set_option linter.unusedVariables false
set_option linter.unusedSimpArgs false

def inSpan (p : Int × Int) (x : Int) : Bool := decide (p.1 ≤ x ∧ x ≤ p.2)
def numsOk (l : List Int) : Bool := (List.zipWith inSpan spanL l).all id
def lensOk (kind : Int) (ne ns nd : Nat) : Bool := decide ((ne = 0 ∨ kind = 3) ∧ ne ≤ 8 ∧ (ns = 0 ∨ kind = 5) ∧ (nd = 0 ∨ kind = 5) ∧ nd ≤ 65536)
def chk (m : Msg) : Bool := numsOk (nums m) && lensOk m.kind m.ents.length m.srv.length m.data.length
def msgCells (m : Msg) (ev sv dv : Value) : Array Value := #[.int .i64 m.kind, .int .i64 m.frm, .int .i64 m.dst, .int .i64 m.term, .int .i64 m.a, .int .i64 m.b, .int .i64 m.c, .int .i64 m.d, .bool m.yes, ev, sv, dv]
/-- A block that holds a message. -/
def MB (w : World) (t : TypeId) (b : Nat) (m : Msg) (ev sv dv : Value) : Prop := w.heap[b]? = some (.cells (msgCells m ev sv dv) t (0, 0))
theorem MB.kept {w w' : World} {t : TypeId} {b : Nat} {m : Msg} {ev sv dv : Value} (h : MB w t b m ev sv dv) (hg : w.grownBy w' none) : MB w' t b m ev sv dv := (hg.block b (Array.getElem?_eq_some_iff.1 h).1 (by simp)).trans h
theorem MB.num {w : World} {t : TypeId} {b : Nat} {m : Msg} {ev sv dv : Value} (h : MB w t b m ev sv dv) (k : Nat) (x : Int) (hk : (nums m)[k]? = some x) : w.cell? ⟨b, k, none⟩ = some (.int .i64 x) := by
  rw [cell_of_row _ _ _ _ _ _ h]
  match k, hk with
  | 0, hk => cases hk; rfl
  | 1, hk => cases hk; rfl
  | 2, hk => cases hk; rfl
  | 3, hk => cases hk; rfl
  | 4, hk => cases hk; rfl
  | 5, hk => cases hk; rfl
  | 6, hk => cases hk; rfl
  | 7, hk => cases hk; rfl
theorem MB.rest {w : World} {t : TypeId} {b : Nat} {m : Msg} {ev sv dv : Value} (h : MB w t b m ev sv dv) : w.cell? ⟨b, 8, none⟩ = some (.bool m.yes) ∧ w.cell? ⟨b, 9, none⟩ = some ev ∧ w.cell? ⟨b, 10, none⟩ = some sv ∧ w.cell? ⟨b, 11, none⟩ = some dv ∧ ∀ i, w.frozen? ⟨b, i, none⟩ = false :=
  ⟨by rw [cell_of_row _ _ _ _ _ _ h]; rfl, by rw [cell_of_row _ _ _ _ _ _ h]; rfl, by rw [cell_of_row _ _ _ _ _ _ h]; rfl, by rw [cell_of_row _ _ _ _ _ _ h]; rfl, fun i => by unfold MB at h; simp [World.frozen?, h]⟩

theorem drawn (w : World) (m : Nat) : w.grownBy (w.drewN m) none := grown_drewN _ m none
theorem need_any (c : Bool) (w : World) : Calls Tryd.prog 44 #[.bool c] w fun e w' => w' = w ∧ ((c = true ∧ e = .returned (.tuple #[])) ∨ (c = false ∧ e = .panicked upChain)) := by
  cases c
  · exact (need_no w).mono fun e w' ⟨h1, h2⟩ => ⟨h2, .inr ⟨rfl, h1⟩⟩
  · exact (need_ok w).mono fun e w' ⟨h1, h2⟩ => ⟨h2, .inl ⟨rfl, h1⟩⟩
theorem idx_fld (b k : Nat) (hk : k < 8) (w : World) : (Instr.index 73 (fldV b) (.int .i64 k)).run Tryd.prog w = .ok (.pointer (some ⟨b, k, none⟩)) w := by
  match k, hk with
  | 0, _ => simp [Instr.index, run_underlying Tryd.underlying73, asIntOf, part, go_sem, fldV]
  | 1, _ => simp [Instr.index, run_underlying Tryd.underlying73, asIntOf, part, go_sem, fldV]
  | 2, _ => simp [Instr.index, run_underlying Tryd.underlying73, asIntOf, part, go_sem, fldV]
  | 3, _ => simp [Instr.index, run_underlying Tryd.underlying73, asIntOf, part, go_sem, fldV]
  | 4, _ => simp [Instr.index, run_underlying Tryd.underlying73, asIntOf, part, go_sem, fldV]
  | 5, _ => simp [Instr.index, run_underlying Tryd.underlying73, asIntOf, part, go_sem, fldV]
  | 6, _ => simp [Instr.index, run_underlying Tryd.underlying73, asIntOf, part, go_sem, fldV]
  | 7, _ => simp [Instr.index, run_underlying Tryd.underlying73, asIntOf, part, go_sem, fldV]

theorem chk_no {m : Msg} {k : Nat} {p : Int × Int} {x : Int} (hp : spanL[k]? = some p) (hx : (nums m)[k]? = some x) (h : inSpan p x = false) : chk m = false := by
  unfold chk
  have : numsOk (nums m) = false := by
    unfold numsOk
    rw [List.all_eq_false]
    have hk : (List.zipWith inSpan spanL (nums m))[k]? = some false := by
      rw [List.getElem?_zipWith, hp, hx]
      simp [h]
    exact ⟨false, List.mem_of_getElem? hk, by simp⟩
  rw [this]; rfl
theorem nums_ok {m : Msg} (h : ∀ (j : Nat) p x, j < 8 → spanL[j]? = some p → (nums m)[j]? = some x → inSpan p x = true) : numsOk (nums m) = true := by
  unfold numsOk
  rw [List.all_eq_true]
  intro y hy
  obtain ⟨j, hj⟩ := List.getElem?_of_mem hy
  rw [List.getElem?_zipWith] at hj
  cases hp : spanL[j]? with
  | none => rw [hp] at hj; simp at hj
  | some p =>
    cases hx : (nums m)[j]? with
    | none => rw [hp, hx] at hj; simp at hj
    | some x =>
      rw [hp, hx] at hj
      have hl : j < 8 := (List.getElem?_eq_some_iff.1 hp).1
      have := h j p x hl hp hx
      simp at hj
      rw [← hj]; exact this
theorem idx_span (k : Nat) (hk : k < 8) (w : World) : (Instr.indexAt 78 (.pointer (some ⟨0, 0, none⟩)) (.int .i64 k)).run Tryd.prog w = .ok (.pointer (some ⟨0, 2 * k, none⟩)) w := by
  have h1 : (k : Int) < 8 := by omega
  have hadd : (if k * 2 = 0 then (⟨0, 0, none⟩ : Addr) else ⟨0, k * 2, none⟩) = ⟨0, k * 2, none⟩ := by
    split
    · rename_i h; rw [h]
    · rfl
  simp [Instr.indexAt, Instr.sureAddr, run_underlying Tryd.underlying78, asIntOf, go_sem, hk, Addr.add, Nat.mul_comm]
  rw [Nat.mul_comm] at hadd
  simpa [Nat.mul_comm] using hadd

set_option maxRecDepth 100000 in
set_option maxHeartbeats 4000000 in
theorem check_any (b : Nat) (m : Msg) (ev sv dv : Value) (ae asv ad : Option Addr) (ce cs cd : Nat) (w : World) (h : MB w 27 b m ev sv dv) (hs : Spans w) (he : ev = .slice ae m.ents.length ce) (hv : sv = .slice asv m.srv.length cs) (hd : dv = .slice ad m.data.length cd) :
    Calls Tryd.prog 22 #[.pointer (some ⟨b, 0, none⟩)] w fun e w' => ((chk m = true ∧ e = .returned (.tuple #[])) ∨ (chk m = false ∧ e = .panicked upChain)) ∧ w.grownBy w' none := by
  subst he hv hd
  have HM := hid_mk h
  have HS := hid_mk hs
  clear h hs
  go_enter Tryd.func22, Tryd.ntmps22
  go_wp2_with fail
  refine (fields_any b w).mono ?_
  rintro e w1 ⟨rfl, hg1⟩
  have G1 := hid_mk hg1
  clear hg1
  go_wp2_with fail
  go_loopw [6] (fun iv W => ∃ k : Nat, k ≤ 8 ∧ iv = .int .i64 k ∧ Hid (w.grownBy W none ∧ ∀ (j : Nat) p x, j < k → spanL[j]? = some p → (nums m)[j]? = some x → inSpan p x = true)) (fun iv _ => 8 - (intOf iv).toNat)
  case atStart => exact ⟨0, Nat.zero_le _, rfl, hid_mk ⟨G1.out, fun j p x hj => by omega⟩⟩
  case round =>
    obtain ⟨k, hk, rfl, H⟩ := hrel
    rename World => w2
    by_cases hlt : k < 8
    · have hix := idx_fld b k hlt
      have hspan := idx_span k hlt
      obtain ⟨p, hp⟩ : ∃ p, spanL[k]? = some p := ⟨spanL[k]'(by simpa [spanL] using hlt), by simp⟩
      obtain ⟨x, hx⟩ : ∃ x, (nums m)[k]? = some x := ⟨(nums m)[k]'(by simpa [nums] using hlt), by simp⟩
      have HC : ∀ W, w2.grownBy W none → W.cell? ⟨b, k, none⟩ = some (.int .i64 x) ∧ W.cell? ⟨0, 2 * k, none⟩ = some (.int .i64 p.1) ∧ W.cell? ⟨0, 2 * k + 1, none⟩ = some (.int .i64 p.2) := fun W hW =>
        ⟨(HM.out.kept (grown_trans H.out.1 hW)).num k x hx, ((HS.out.kept (grown_trans H.out.1 hW)) k p hp).1, ((HS.out.kept (grown_trans H.out.1 hW)) k p hp).2⟩
      have HP := hid_mk (And.intro hp hx)
      clear hp hx
      go_upto_region 3 with fail
      by_cases h1 : p.1 ≤ x
      · by_cases h2 : x ≤ p.2
        · refine wp_region_mixX (X := fun _ _ _ => False) [(0, true), (1, true), (2, true), (3, true), (4, true), (5, true), (6, true), (7, true), (8, true), (9, true), (10, true), (11, true), (12, true), (13, true), (14, true), (15, true), (16, true), (17, true), (18, false)] (at0 w2 (fun W => w2.grownBy W none)) (by kernel_rfl) (by kernel_rfl) rfl (by kernel_rfl) ?hX (shut_at0 (drawn w2)) ⟨1, rfl⟩ ?_
          case hX => exact fun ch a W h => h.elim
          repeat (first
            | (refine mix_no1X rfl rfl (fun K hK => ?_); go_simp; refine hK _ _ ?_; clear hK K)
            | (refine mix_rd1X rfl rfl (fun K hK => ?_); apply Exists.intro; refine ⟨fun W hW => ?_, ?_⟩; (obtain ⟨q0, q1, q2⟩ := HC W hW; go_simp; rfl); (go_simp; refine hK _ _ ?_; clear hK K)))
          refine mix_callX rfl rfl 44 #[.bool true] (fun W => by go_simp) ?_
          rintro W ⟨m7, rfl⟩
          refine (need_ok _).mono ?_
          rintro e w' ⟨rfl, rfl⟩
          refine .inl ⟨_, rfl, at0 (w2.drewN m7) (fun W => w2.grownBy W none), ⟨0, rfl⟩, shut_at0 (fun n => grown_trans (drawn _ _) (drawn _ _)), fun _ h => h, ?_⟩
          refine mix_nilX ?_
          rintro W ⟨mz, rfl⟩
          go_wp2_with fail
          go_roundw
          case rel => exact ⟨k + 1, by omega, by go_num, hid_mk ⟨grown_trans H.out.1 (drawn _ _), fun j p' x' hj hp' hx' => by
            by_cases hjk : j = k
            · subst hjk
              rw [HP.out.1] at hp'
              rw [HP.out.2] at hx'
              cases hp'
              cases hx'
              exact decide_eq_true ⟨h1, h2⟩
            · exact H.out.2 j p' x' (by omega) hp' hx'⟩⟩
          case measure => simp [intOf]; omega
        · have HN := hid_mk (chk_no HP.out.1 HP.out.2 (decide_eq_false (fun h => h2 h.2)))
          refine wp_region_mixX (X := fun ch df W => (ch = upChain ∧ df = []) ∧ w2.grownBy W none) [(0, true), (1, true), (2, true), (3, true), (4, true), (5, true), (6, true), (7, true), (8, true), (9, true), (10, true), (11, true), (12, true), (13, true), (14, true), (15, true), (16, true), (17, true), (18, false)] (at0 w2 (fun W => w2.grownBy W none)) (by kernel_rfl) (by kernel_rfl) rfl (by kernel_rfl) ?hX (shut_at0 (drawn w2)) ⟨1, rfl⟩ ?_
          case hX => rintro ch a W ⟨⟨rfl, hdf⟩, hW⟩; go_wp2_with fail; exact ⟨hdf, .inr ⟨HN.out, rfl⟩, grown_trans H.out.1 hW⟩
          repeat (first
            | (refine mix_no1X rfl rfl (fun K hK => ?_); go_simp; refine hK _ _ ?_; clear hK K)
            | (refine mix_rd1X rfl rfl (fun K hK => ?_); apply Exists.intro; refine ⟨fun W hW => ?_, ?_⟩; (obtain ⟨q0, q1, q2⟩ := HC W hW; go_simp; rfl); (go_simp; refine hK _ _ ?_; clear hK K)))
          refine mix_callX rfl rfl 44 #[.bool false] (fun W => by go_simp) ?_
          rintro W ⟨m7, rfl⟩
          refine (need_no _).mono ?_
          rintro e w' ⟨rfl, rfl⟩
          exact .inr ⟨_, rfl, ⟨rfl, rfl⟩, drawn _ _⟩
      · have HN := hid_mk (chk_no HP.out.1 HP.out.2 (decide_eq_false (fun h => h1 h.1)))
        refine wp_region_mixX (X := fun ch df W => (ch = upChain ∧ df = []) ∧ w2.grownBy W none) [(0, true), (1, true), (2, true), (3, true), (4, true), (5, true), (6, true), (7, true), (8, true), (9, true), (10, true), (11, true), (12, true), (13, true), (14, true), (15, true), (16, true), (17, true), (18, false)] (at0 w2 (fun W => w2.grownBy W none)) (by kernel_rfl) (by kernel_rfl) rfl (by kernel_rfl) ?hX (shut_at0 (drawn w2)) ⟨1, rfl⟩ ?_
        case hX => rintro ch a W ⟨⟨rfl, hdf⟩, hW⟩; go_wp2_with fail; exact ⟨hdf, .inr ⟨HN.out, rfl⟩, grown_trans H.out.1 hW⟩
        repeat (first
          | (refine mix_no1X rfl rfl (fun K hK => ?_); go_simp; refine hK _ _ ?_; clear hK K)
          | (refine mix_rd1X rfl rfl (fun K hK => ?_); apply Exists.intro; refine ⟨fun W hW => ?_, ?_⟩; (obtain ⟨q0, q1, q2⟩ := HC W hW; go_simp; rfl); (go_simp; refine hK _ _ ?_; clear hK K)))
        refine mix_callX rfl rfl 44 #[.bool false] (fun W => by go_simp) ?_
        rintro W ⟨m7, rfl⟩
        refine (need_no _).mono ?_
        rintro e w' ⟨rfl, rfl⟩
        exact .inr ⟨_, rfl, ⟨rfl, rfl⟩, drawn _ _⟩
    · have hk8 : k = 8 := by omega
      subst hk8
      have HN := hid_mk (nums_ok H.out.2)
      have G2 := hid_mk H.out.1
      clear H hk hlt
      have hr := (HM.out.kept G2.out).rest
      have hn := (HM.out.kept G2.out).num 0 m.kind rfl
      obtain ⟨_, r9, r10, r11, _⟩ := hr
      have HL : Hid (chk m = lensOk m.kind m.ents.length m.srv.length m.data.length) := hid_mk (by unfold chk; rw [HN.out]; rfl)
      clear HN HM HS
      generalize m.ents.length = ne at *
      generalize m.srv.length = ns at *
      generalize m.data.length = nd at *
      generalize m.kind = kd at *
      go_upto_region 5 with fail
      go_cut [0] (fun s W => s = .pointer (some ⟨b, 0, none⟩) ∧ W = w2 ∧ Hid (ne = 0 ∨ kd = 3))
      case first =>
        go_wp2_with fail
        all_goals
          refine (need_any _ _).mono ?_
          rintro e wx ⟨hwx, hq⟩
          subst wx
          rcases hq with ⟨hc, rfl⟩ | ⟨hc, rfl⟩
          rotate_left
          · go_wp2_with fail
            exact ⟨rfl, .inr ⟨by rw [HL.out]; unfold lensOk; rw [decide_eq_false_iff_not]; simp at hc; all_goals omega, rfl⟩, G2.out⟩
          have HQ : Hid (ne = 0 ∨ kd = 3) := hid_mk (by simp at hc ⊢; all_goals omega)
          clear hc
          go_wp2_with fail
          go_meet
          case rel => exact ⟨rfl, rfl, HQ⟩
      obtain ⟨rfl, hwx, N1⟩ := hcut
      rename World => wx
      subst wx
      go_wp2_with fail
      refine (need_any _ _).mono ?_
      rintro e wx ⟨hwx, hq⟩
      subst wx
      rcases hq with ⟨hc, rfl⟩ | ⟨hc, rfl⟩
      rotate_left
      · go_wp2_with fail
        exact ⟨rfl, .inr ⟨by rw [HL.out]; unfold lensOk; rw [decide_eq_false_iff_not]; simp at hc; all_goals omega, rfl⟩, G2.out⟩
      have N2 := hid_mk hc
      clear hc
      go_upto_region 7 with fail
      go_cut [0] (fun s W => s = .pointer (some ⟨b, 0, none⟩) ∧ W = w2 ∧ Hid (ns = 0 ∨ kd = 5))
      case first =>
        go_wp2_with fail
        all_goals
          refine (need_any _ _).mono ?_
          rintro e wx ⟨hwx, hq⟩
          subst wx
          rcases hq with ⟨hc, rfl⟩ | ⟨hc, rfl⟩
          rotate_left
          · go_wp2_with fail
            exact ⟨rfl, .inr ⟨by rw [HL.out]; unfold lensOk; rw [decide_eq_false_iff_not]; simp at hc; all_goals omega, rfl⟩, G2.out⟩
          have HQ : Hid (ns = 0 ∨ kd = 5) := hid_mk (by simp at hc ⊢; all_goals omega)
          clear hc
          go_wp2_with fail
          go_meet
          case rel => exact ⟨rfl, rfl, HQ⟩
      obtain ⟨rfl, hwx, N3⟩ := hcut
      rename World => wx
      subst wx
      go_upto_region 8 with fail
      go_cut [0] (fun s W => s = .pointer (some ⟨b, 0, none⟩) ∧ W = w2 ∧ Hid (nd = 0 ∨ kd = 5))
      case first =>
        go_wp2_with fail
        all_goals
          refine (need_any _ _).mono ?_
          rintro e wx ⟨hwx, hq⟩
          subst wx
          rcases hq with ⟨hc, rfl⟩ | ⟨hc, rfl⟩
          rotate_left
          · go_wp2_with fail
            exact ⟨rfl, .inr ⟨by rw [HL.out]; unfold lensOk; rw [decide_eq_false_iff_not]; simp at hc; all_goals omega, rfl⟩, G2.out⟩
          have HQ : Hid (nd = 0 ∨ kd = 5) := hid_mk (by simp at hc ⊢; all_goals omega)
          clear hc
          go_wp2_with fail
          go_meet
          case rel => exact ⟨rfl, rfl, HQ⟩
      obtain ⟨rfl, hwx, N4⟩ := hcut
      rename World => wx
      subst wx
      go_wp2_with fail
      refine (need_any _ _).mono ?_
      rintro e wx ⟨hwx, hq⟩
      subst wx
      rcases hq with ⟨hc, rfl⟩ | ⟨hc, rfl⟩
      rotate_left
      · go_wp2_with fail
        exact ⟨rfl, .inr ⟨by rw [HL.out]; unfold lensOk; rw [decide_eq_false_iff_not]; simp at hc; all_goals omega, rfl⟩, G2.out⟩
      have N5 := hid_mk hc
      clear hc
      go_wp2_with fail
      go_end0
      refine ⟨.inl ⟨?_, rfl⟩, G2.out⟩
      rw [HL.out]
      unfold lensOk
      rw [decide_eq_true_iff]
      have n1 := N1.out
      have n2 := N2.out
      have n3 := N3.out
      have n4 := N4.out
      have n5 := N5.out
      simp at n2 n5
      omega

end Go.Proofs.YtliefofdlpljaaaDoor
