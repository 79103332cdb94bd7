/- ClientEnds: an order ends with the first answer that is neither a refusal nor a wait. -/
import Derived.Test.YtgebhomiehadmaaCcV
namespace Go.Proofs.Ytgebhomiehadmaa
open Go.RowKit Go.Maps
set_option linter.unusedVariables false
set_option linter.unusedSimpArgs false
set_option maxRecDepth 100000

def refs : List Int := [30, 42, 37, 31, 32, 7]
/-- While it waits. -/
structure EnP (g : Cli) : Prop where
  id : g.id = 4
  st : g.st = 1
  o : g.o = ⟨3, 0, 5, []⟩
  pa : g.pa = 2
theorem EnP.last {g : Cli} (h : EnP g) : lastI g = 4000000 + g.tr := by unfold lastI; rw [h.id]; omega
theorem enP_start : EnP (doG (newC 4 2 [1, 3, 5]) ⟨3, 0, 5, []⟩) := ⟨rfl, rfl, rfl, rfl⟩
theorem EnP.tick {g : Cli} (h : EnP g) : EnP (tickG g) := by
  unfold tickG
  rw [if_pos h.st]
  split
  · exact ⟨h.id, h.st, h.o, h.pa⟩
  · exact ⟨h.id, h.st, h.o, h.pa⟩
theorem EnP.heard {g : Cli} (h : EnP g) {a : Ans} (hi : a.id = 4000000 + g.tr) (he : a.e ∈ refs) : heardE g a = 0 ∧ EnP (heardG g a) := by
  have h1 := heardE_ok (g := g) (a := a) ⟨h.st, by rw [h.last]; exact hi⟩
  refine ⟨h1.1, ?_⟩
  rw [h1.2]
  by_cases e0 : a.e = 30
  · rw [hearK_lead e0]; exact ⟨h.id, h.st, h.o, h.pa⟩
  · rw [hearK_wait (by simp [refs] at he; omega)]; exact ⟨h.id, h.st, h.o, h.pa⟩
theorem EnP.none {g : Cli} (h : EnP g) {a : Ans} (hi : a.id = 4000000 + g.tr - 1) : heardE g a = 3 ∧ heardG g a = g :=
  heardE_bad (fun k => by have h1 := k.2; rw [h.last, hi] at h1; omega)
theorem EnP.fin {g : Cli} (h : EnP g) {a : Ans} (hi : a.id = 4000000 + g.tr) (he : ¬ a.e ∈ refs) : heardE g a = 0 ∧ (heardG g a).st = 2 ∧ (heardG g a).o = ⟨3, 0, 5, []⟩ ∧ (heardG g a).an = a := by
  have h1 := heardE_ok (g := g) (a := a) ⟨h.st, by rw [h.last]; exact hi⟩
  rw [h1.2, hearK_end (by simp [refs] at he; omega) (by simp [refs] at he; omega)]
  exact ⟨h1.1, rfl, h.o, rfl⟩
theorem Blk.client {w w' : World} {q : Nat} {cs : Array Value} {t : TypeId} (h : Blk w q cs t) (h1 : 58 ≠ t) (h2 : t ≠ 64) {B b : Nat} {V V' : CV} {g g' : Cli} (hI : IsC w B b V g) (hp : CPv w w' B b V V' g g') : Blk w' q cs t :=
  h.keeps hp.keeps (fun e => by
    rcases e with rfl | e
    · exact (hI.blk.ne h h1) rfl
    · exact own_ne hI.row h h2 e.symm)
def refA : Array Value := #[.int .i64 30, .int .i64 42, .int .i64 37, .int .i64 31, .int .i64 32, .int .i64 7]
theorem ref_cell {w : World} {q : Nat} (h : Blk w q refA 3) {k : Nat} (hk : k < 6) : ∃ r, r ∈ refs ∧ ∀ w', Blk w' q refA 3 → w'.cell? ⟨q, k, none⟩ = some (.int .i64 r) := by
  refine ⟨refs.getD k 0, ?_, fun w' h' => ?_⟩
  · match k, hk with
    | 0, _ => decide
    | 1, _ => decide
    | 2, _ => decide
    | 3, _ => decide
    | 4, _ => decide
    | 5, _ => decide
  · rw [h'.cell]
    match k, hk with
    | 0, _ => rfl
    | 1, _ => rfl
    | 2, _ => rfl
    | 3, _ => rfl
    | 4, _ => rfl
    | 5, _ => rfl
theorem ref_at {w : World} {q : Nat} (h : Blk w q refA 3) {k : Nat} (hk : k < 6) : w.cell? ⟨q, k, none⟩ = some (.int .i64 (refs.getD k 0)) ∧ refs.getD k 0 ≠ 0 := by
  rw [h.cell]
  match k, hk with
  | 0, _ => exact ⟨rfl, by decide⟩
  | 1, _ => exact ⟨rfl, by decide⟩
  | 2, _ => exact ⟨rfl, by decide⟩
  | 3, _ => exact ⟨rfl, by decide⟩
  | 4, _ => exact ⟨rfl, by decide⟩
  | 5, _ => exact ⟨rfl, by decide⟩
theorem refs_not {e : Int} (h : ∀ j, j < 6 → e ≠ refs.getD j 0) : ¬ e ∈ refs := fun hm => by
  obtain ⟨j, hj, rfl⟩ := List.getElem_of_mem hm
  have hj6 : j < 6 := hj
  have := h j hj6
  rw [List.getD_eq_getElem?_getD, List.getElem?_eq_getElem hj] at this
  exact this rfl
set_option maxHeartbeats 8000000 in
theorem clientEnds_walk (v : Value) (l : List Int) (e number : Int) (w : World) (hl : IntsR w v l) (hl2 : l.length ≤ 17592186044416) (he : -9223372036854775808 ≤ e ∧ e ≤ 9223372036854775807) (hn : -9223372036854775808 ≤ number ∧ number ≤ 9223372036854775807) :
    Calls Try.prog 8 #[v, .int .i64 e, .int .i64 number] w fun e w' => e = .returned (.bool true) ∧ w.grownBy w' none := by
  clear he hn
  have HL := hid_mk hl
  obtain ⟨la, lc, rfl⟩ := hl.len
  clear hl
  have HI := hid_mk (ints_new w [1, 3, 5] 3 _ rfl)
  obtain ⟨E, hE, hE1⟩ := md_get e 256 (by omega) (by omega)
  have HE := hid_mk (And.intro hE hE1)
  clear hE hE1
  go_enter Try.func8, Try.ntmps8
  go_wp2_with fail
  refine (m_new (World.grownBy_alloc w _ none) 4 2 _ [1, 3, 5] HI.out (by simp)).mono ?_
  rintro e w1 hw1
  obtain ⟨b, vs1, rfl, h1⟩ : ∃ b vs, e = .returned (.tuple #[.pointer (some ⟨b, 0, none⟩), .int .i64 0]) ∧ Mine w w1 b (newV vs) (newC 4 2 [1, 3, 5]) := by
    rcases hw1 with ⟨h, _⟩ | ⟨_, h⟩
    · exact absurd h (by decide)
    · exact h
  have H1 := hid_mk h1
  clear hw1 h1 HI
  go_wp2_with (go_at_call 11; refine (num_any _ _).mono ?_; rintro e w' ⟨rfl, hw⟩; rw [hw]; clear hw)
  refine (do_any (o := ⟨3, 0, 5, []⟩) (v := .slice none 0 0) H1.out.1 ((fit_new 4 2 [1, 3, 5]).le (by omega)) (Byt.nil _) (by simp)).mono ?_
  rintro e w2 ⟨rfl, V2, h2⟩
  rw [show doE (newC 4 2 [1, 3, 5]) ⟨3, 0, 5, []⟩ = 0 from rfl]
  obtain ⟨g0, hg0⟩ : ∃ g, g = doG (newC 4 2 [1, 3, 5]) ⟨3, 0, 5, []⟩ := ⟨_, rfl⟩
  have H2 := hid_mk (show Mine w w2 b V2 g0 ∧ EnP g0 ∧ Fit g0 1001 from by rw [hg0]; exact ⟨H1.out.cpv h2, enP_start, fit_do (fit_new 4 2 [1, 3, 5]) _⟩)
  clear h2 H1 hg0
  go_wp2_with (first | (go_at_call 11; refine (num_any _ _).mono ?_; rintro e w' ⟨rfl, hw⟩; rw [hw]; clear hw) | (go_at_call 12; refine (knows_any _).mono ?_; rintro e w3 ⟨rfl, hg⟩; have HK := hid_mk hg; clear hg))
  have gA := World.grownBy_alloc w3 (.cells refA 3) none
  have H4 := hid_mk (And.intro (H2.out.1.kept (grown_trans HK.out gA)) (blk_alloc w3 refA 3))
  clear gA HK
  generalize hw4 : w3.alloc (.cells #[.int .i64 30, .int .i64 42, .int .i64 37, .int .i64 31, .int .i64 32, .int .i64 7] 3) = w4 at *
  rw [show w3.alloc (.cells refA 3) = w4 from hw4] at H4
  clear hw4
  generalize w3.heap.size = q3 at *
  go_loopg [10] l.length (fun gg iv W => ∃ (k : Nat) (V : CV) (g : Cli), k ≤ l.length ∧ gg = l.length - k ∧ iv = .int .i64 k ∧ Hid (Mine w W b V g ∧ EnP g ∧ Fit g (1001 + 2 * k) ∧ k ≤ 50 ∧ Blk W q3 refA 3))
  case atStart => exact ⟨0, V2, g0, Nat.zero_le _, rfl, rfl, hid_mk ⟨H4.out.1, H2.out.2.1, H2.out.2.2.le (by omega), by omega, H4.out.2⟩⟩
  case round =>
    obtain ⟨k, V, g, hk, hgk, rfl, H⟩ := hrel
    rename World => W
    clear H4
    by_cases hlt : k < l.length ∧ k < 50
    · have hlt' : (k : Int) < l.length := by omega
      have hlt5 : (k : Int) < 50 := by omega
      obtain ⟨lb, off, cap, z, e, hc0⟩ : ∃ lb off cap z, Value.slice la l.length lc = .slice (some ⟨lb, off, none⟩) l.length cap ∧ w.cell? ⟨lb, off + k, none⟩ = some (.int .i64 z) := by
        obtain ⟨lb, off, cap, e, hc⟩ := HL.out.get k hlt.1
        exact ⟨lb, off, cap, _, e, hc⟩
      injection e with e1 e2 e3
      clear e2 e3
      subst e1
      have HC := hid_mk (fun (W' : World) (hW : w.grownBy W' none) => hW.cell hc0 (by simp))
      have HKK := hid_mk hlt
      clear hlt
      obtain ⟨K, hK, hK6⟩ := md_get z 6 (by omega) (by omega)
      obtain ⟨r, hr, hrc⟩ := ref_cell H.out.2.2.2.2 (show K < 6 by omega)
      have HRC := hid_mk (And.intro hr hrc)
      have HKZ := hid_mk hK
      have ck := HC.out W H.out.1.2
      clear hr hrc hc0
      go_upto_region 9 with fail
      have hK6' : (K : Int) < 6 := hK6
      have HCL := hid_mk (fun (W' : World) (h1 : w.grownBy W' none) (h2 : Blk W' q3 refA 3) => And.intro (HC.out W' h1) (HRC.out.2 W' h2))
      have htr0 : 0 ≤ g.tr := H.out.1.1.ok.tr
      have htr1 : g.tr ≤ 1000000 := by have := H.out.2.2.1.tr; omega
      have hwr : IntKind.i64.wrap (4000000 + g.tr) = 4000000 + g.tr := wrap_in (by omega)
      refine wp_region_mix [(0, true), (1, true), (4, true), (5, true), (6, true), (7, true), (8, true), (9, true), (10, true), (11, true), (2, false), (3, true), (12, true), (13, false), (14, false), (15, true), (16, true), (17, true), (18, false), (19, true), (20, true)] (at0 W (fun W' => W'.cell? ⟨lb, off + k, none⟩ = some (.int .i64 z) ∧ W'.cell? ⟨q3, K, none⟩ = some (.int .i64 r))) (by kernel_rfl) (by kernel_rfl) rfl (by kernel_rfl) (shut_at0 (fun m => HCL.out _ (grown_trans H.out.1.2 (grown_drewN W m none)) (H.out.2.2.2.2.kept (grown_drewN W m none) (by simp)))) ⟨1, rfl⟩ ?_
      clear ck
      repeat (refine mix_rd1 rfl rfl (fun KK hKK => ?_); apply Exists.intro; refine ⟨fun W' hW => ?_, ?_⟩; (obtain ⟨d0, d1⟩ := hW; go_simp; rfl); (go_simp; refine hKK _ _ ?_; clear hKK KK))
      refine mix_call rfl rfl 24 #[.pointer (some ⟨b, 0, none⟩)] (fun W0 => by go_simp) ?_
      rintro W0 ⟨m0, rfl⟩
      refine (tries_any (H.out.1.1.drew m0)).mono ?_
      rintro e x ⟨rfl, hx⟩
      subst hx
      refine ⟨_, rfl, at0 (W.drewN m0) (fun W' => W'.cell? ⟨lb, off + k, none⟩ = some (.int .i64 z) ∧ W'.cell? ⟨q3, K, none⟩ = some (.int .i64 r)), ⟨0, rfl⟩, shut_at0 (fun m => HCL.out _ (grown_trans H.out.1.2 (grown_trans (grown_drewN W m0 none) (grown_drewN _ m none))) ((H.out.2.2.2.2.kept (grown_drewN W m0 none) (by simp)).kept (grown_drewN _ m none) (by simp))), fun _ h => h, ?_⟩
      go_simp
      repeat (refine mix_rd1 rfl rfl (fun KK hKK => ?_); apply Exists.intro; refine ⟨fun W' hW => ?_, ?_⟩; (obtain ⟨d0, d1⟩ := hW; go_simp; rfl); (go_simp; refine hKK _ _ ?_; clear hKK KK))
      have hee := H.out.2.1.heard (a := ⟨4000000 + g.tr, r, 0, 0, z, []⟩) rfl HRC.out.1
      have HEE := hid_mk hee
      refine mix_call rfl rfl 18 #[.pointer (some ⟨b, 0, none⟩), .agg #[.int .i64 (4000000 + g.tr), .int .i64 r, .int .i64 0, .int .i64 0, .slice none 0 0, .int .i64 z]] (fun W0 => by go_simp) ?_
      rintro W0 ⟨m1, rfl⟩
      refine (heard_any (a := ⟨4000000 + g.tr, r, 0, 0, z, []⟩) ((H.out.1.1.drew m0).drew m1) (H.out.2.2.1.le (by have := H.out.2.2.2.1; omega)) (.slice none 0 0) [] (ansIn_nil _ _ _ _ _ _)).mono ?_
      rintro e w5 ⟨rfl, V5, h5⟩
      rw [hee.1]
      have gD := grown_trans (grown_drewN W m0 none) (grown_drewN (W.drewN m0) m1 none)
      obtain ⟨g5, hg5⟩ : ∃ g5, g5 = heardG g ⟨4000000 + g.tr, r, 0, 0, z, []⟩ := ⟨_, rfl⟩
      have H5 := hid_mk (show Mine w w5 b V5 g5 ∧ EnP g5 ∧ Fit g5 (1001 + 2 * k + 1) ∧ Blk w5 q3 refA 3 from by
        rw [hg5]
        exact ⟨(H.out.1.kept gD).cpv h5, hee.2, fit_heard H.out.2.2.1 H.out.1.1.ok.pa1 _, (H.out.2.2.2.2.kept gD (by simp)).client (by decide) (by decide) (H.out.1.kept gD).1 h5⟩)
      clear h5 hg5 gD hee
      refine ⟨_, rfl, at0 w5 (fun W' => W'.cell? ⟨lb, off + k, none⟩ = some (.int .i64 z) ∧ W'.cell? ⟨q3, K, none⟩ = some (.int .i64 r)), ⟨0, rfl⟩, shut_at0 (fun m => HCL.out _ (H5.out.1.kept (grown_drewN w5 m none)).2 (H5.out.2.2.2.kept (grown_drewN w5 m none) (by simp))), fun _ h => h, ?_⟩
      go_simp
      refine mix_call rfl rfl 11 #[.int .i64 0] (fun W0 => by go_simp) ?_
      rintro W0 ⟨m2, rfl⟩
      refine (num_any _ _).mono ?_
      rintro e x ⟨rfl, hx⟩
      subst hx
      refine ⟨_, rfl, at0 (w5.drewN m2) (fun W' => W'.cell? ⟨lb, off + k, none⟩ = some (.int .i64 z) ∧ W'.cell? ⟨q3, K, none⟩ = some (.int .i64 r)), ⟨0, rfl⟩, shut_at0 (fun m => HCL.out _ ((H5.out.1.kept (grown_drewN w5 m2 none)).kept (grown_drewN _ m none)).2 ((H5.out.2.2.2.kept (grown_drewN w5 m2 none) (by simp)).kept (grown_drewN _ m none) (by simp))), fun _ h => h, ?_⟩
      go_simp
      repeat (refine mix_rd1 rfl rfl (fun KK hKK => ?_); apply Exists.intro; refine ⟨fun W' hW => ?_, ?_⟩; (obtain ⟨d0, d1⟩ := hW; go_simp; rfl); (go_simp; refine hKK _ _ ?_; clear hKK KK))
      refine mix_call rfl rfl 15 #[.pointer (some ⟨b, 0, none⟩)] (fun W0 => by go_simp) ?_
      rintro W0 ⟨m3, rfl⟩
      refine (busy_any ((H5.out.1.1.drew m2).drew m3)).mono ?_
      rintro e x ⟨rfl, hx⟩
      subst hx
      rw [show decide (g5.st ≠ 0) = true from by rw [H5.out.2.1.st]; rfl]
      have H6 := hid_mk (And.intro ((H5.out.1.kept (grown_drewN w5 m2 none)).kept (grown_drewN _ m3 none)) (And.intro H5.out.2.1 (And.intro H5.out.2.2.1 ((H5.out.2.2.2.kept (grown_drewN w5 m2 none) (by simp)).kept (grown_drewN _ m3 none) (by simp)))))
      generalize (w5.drewN m2).drewN m3 = w6 at *
      clear H H5
      refine ⟨_, rfl, at0 w6 (fun W' => W'.cell? ⟨lb, off + k, none⟩ = some (.int .i64 z) ∧ W'.cell? ⟨q3, K, none⟩ = some (.int .i64 r)), ⟨0, rfl⟩, shut_at0 (fun m => HCL.out _ (H6.out.1.kept (grown_drewN _ m none)).2 (H6.out.2.2.2.kept (grown_drewN _ m none) (by simp))), fun _ h => h, ?_⟩
      go_simp
      repeat (refine mix_rd1 rfl rfl (fun KK hKK => ?_); apply Exists.intro; refine ⟨fun W' hW => ?_, ?_⟩; (obtain ⟨d0, d1⟩ := hW; go_simp; rfl); (go_simp; refine hKK _ _ ?_; clear hKK KK))
      refine mix_nil ?_
      rintro W9 ⟨m9, rfl⟩
      have H7 := hid_mk (And.intro (H6.out.1.kept (grown_drewN w6 m9 none)) (And.intro H6.out.2.1 (And.intro H6.out.2.2.1 (H6.out.2.2.2.kept (grown_drewN w6 m9 none) (by simp)))))
      generalize w6.drewN m9 = w7 at *
      clear H6
      go_wp2_with fail
      refine (tick_any H7.out.1.1 (H7.out.2.2.1.le (by have := HKK.out; omega))).mono ?_
      rintro e w8 ⟨rfl, V8, h8⟩
      have H8 := hid_mk (show Mine w w8 b V8 (tickG g5) ∧ EnP (tickG g5) ∧ Fit (tickG g5) (1001 + 2 * k + 1 + 1) ∧ Blk w8 q3 refA 3 from ⟨H7.out.1.cpv h8, H7.out.2.1.tick, fit_tick H7.out.2.2.1, H7.out.2.2.2.client (by decide) (by decide) H7.out.1.1 h8⟩)
      clear h8 H7
      go_wp2_with fail
      refine (done_bad H8.out.1.1 (by rw [H8.out.2.1.st]; decide)).mono ?_
      rintro e w9 ⟨rfl, hg9⟩
      unfold ordZ ansZ
      have gZ := grown_trans hg9 (ga2 w9 (.cells #[.int .i64 0, .int .i64 0, .int .i64 0, .slice none 0 0] 42) (.cells #[.int .i64 0, .int .i64 0, .int .i64 0, .int .i64 0, .slice none 0 0, .int .i64 0] 44))
      have H9 := hid_mk (And.intro (H8.out.1.kept gZ) (And.intro H8.out.2.1 (And.intro H8.out.2.2.1 (H8.out.2.2.2.kept gZ (by simp)))))
      clear hg9 gZ H8
      go_wp2_with fail
      go_roundg (l.length - (k + 1))
      case measure => omega
      case rel => exact ⟨k + 1, V8, tickG g5, by omega, rfl, by go_num, hid_mk ⟨H9.out.1, H9.out.2.1, H9.out.2.2.1.le (by omega), by omega, H9.out.2.2.2⟩⟩
    · have HX := hid_mk (And.intro H.out.1 (And.intro H.out.2.1 (And.intro (H.out.2.2.1.le (show (1001 + 2 * (k : Int)) ≤ 2000 by have := H.out.2.2.2.1; omega)) H.out.2.2.2.2)))
      have hEnd : ¬ (k : Int) < l.length ∨ ((k : Int) < l.length ∧ ¬ (k : Int) < 50) := by omega
      clear H hlt
      have hEE := HE.out.1
      rcases hEnd with h5 | ⟨h5, h6⟩
      all_goals
        go_wp2_with fail
        clear hEE
        go_loopg [1, 15] 6 (fun gg ev iv W => ∃ (i : Nat) (x : Int), i ≤ 6 ∧ gg = 6 - i ∧ iv = .int .i64 i ∧ ev = .int .i64 x ∧ Hid ((∀ j, j < i → x ≠ refs.getD j 0) ∧ Mine w W b V g ∧ Blk W q3 refA 3))
        case atStart => exact ⟨0, E, by omega, rfl, rfl, rfl, hid_mk ⟨fun j hj => absurd hj (by omega), HX.out.1, HX.out.2.2.2⟩⟩
        case round =>
          obtain ⟨i, x, hi, hgi, rfl, rfl, HI2⟩ := hrel
          rename World => W8
          by_cases hi6 : i < 6
          · have hi6' : (i : Int) < 6 := by omega
            obtain ⟨cr, hr0⟩ := ref_at HI2.out.2.2 hi6
            generalize hrr : refs.getD i 0 = r at *
            have HRR := hid_mk (And.intro hrr hr0)
            clear hrr hr0
            by_cases hxr : x = r
            · have hxr' : (x == r) = true := by simpa using hxr
              have HXR := hid_mk hxr
              clear hxr
              go_wp2_with fail
              go_roundg (6 - (i + 1))
              case measure => omega
              case rel => exact ⟨i + 1, 0, by omega, rfl, by go_num, rfl, hid_mk ⟨fun j hj h => (ref_at HI2.out.2.2 (show j < 6 by omega)).2 h.symm, HI2.out.2⟩⟩
            · have hxr' : (x == r) = false := by simpa using hxr
              have HXR := hid_mk hxr
              clear hxr
              go_wp2_with fail
              go_roundg (6 - (i + 1))
              case measure => omega
              case rel => exact ⟨i + 1, x, by omega, rfl, by go_num, rfl, hid_mk ⟨fun j hj => by
                rcases Nat.lt_succ_iff_lt_or_eq.1 hj with h | h
                · exact HI2.out.1 j h
                · rw [h, HRR.out.1]; exact HXR.out, HI2.out.2⟩⟩
          · have hi6' : ¬ (i : Int) < 6 := by omega
            obtain rfl : i = 6 := by omega
            have hnr := refs_not HI2.out.1
            have HNR := hid_mk hnr
            have htr0 : 0 ≤ g.tr := HI2.out.2.1.1.ok.tr
            have htr1 : g.tr ≤ 1000000 := by have := HX.out.2.2.1.tr; omega
            have hwr : IntKind.i64.wrap (4000000 + g.tr) = 4000000 + g.tr := wrap_in (by omega)
            have hwr1 : IntKind.i64.wrap (4000000 + g.tr - 1) = 4000000 + g.tr - 1 := wrap_in (by omega)
            clear hnr hi6 hi6'
            go_wp2_with (go_at_call 24; refine (tries_any HI2.out.2.1.1).mono ?_; rintro e w' ⟨rfl, hw⟩; rw [hw]; clear hw)
            refine (heard_any (a := ⟨4000000 + g.tr - 1, 0, 0, 0, 0, []⟩) HI2.out.2.1.1 (HX.out.2.2.1.le (by omega)) (.slice none 0 0) [] (ansIn_nil _ _ _ _ _ _)).mono ?_
            rintro e w9 ⟨rfl, V9, h9⟩
            obtain ⟨n1, n2⟩ := HX.out.2.1.none (a := ⟨4000000 + g.tr - 1, 0, 0, 0, 0, []⟩) rfl
            rw [n1]
            rw [n2] at h9
            have H9 := hid_mk (HI2.out.2.1.cpv h9)
            clear n1 n2 h9 HI2
            go_wp2_with (first | (go_at_call 11; refine (num_any _ _).mono ?_; rintro e w' ⟨rfl, hw⟩; rw [hw]; clear hw) | (go_at_call 24; refine (tries_any H9.out.1).mono ?_; rintro e w' ⟨rfl, hw⟩; rw [hw]; clear hw))
            refine (heard_any (a := ⟨4000000 + g.tr, x, 0, number, 0, []⟩) H9.out.1 (HX.out.2.2.1.le (by omega)) (.slice none 0 0) [] (ansIn_nil _ _ _ _ _ _)).mono ?_
            rintro e w10 ⟨rfl, V10, h10⟩
            have hff := HX.out.2.1.fin (a := ⟨4000000 + g.tr, x, 0, number, 0, []⟩) rfl HNR.out
            rw [hff.1]
            obtain ⟨gf, hgf⟩ : ∃ gf, gf = heardG g ⟨4000000 + g.tr, x, 0, number, 0, []⟩ := ⟨_, rfl⟩
            have H10 := hid_mk (show Mine w w10 b V10 gf ∧ gf.st = 2 ∧ gf.o = ⟨3, 0, 5, []⟩ ∧ gf.an = ⟨4000000 + g.tr, x, 0, number, 0, []⟩ ∧ Fit gf 2001 from by
              rw [hgf]
              exact ⟨H9.out.cpv h10, hff.2.1, hff.2.2.1, hff.2.2.2, fit_heard HX.out.2.2.1 H9.out.1.ok.pa1 _⟩)
            clear h10 hff hgf H9
            go_wp2_with (go_at_call 11; refine (num_any _ _).mono ?_; rintro e w' ⟨rfl, hw⟩; rw [hw]; clear hw)
            refine (done_ok H10.out.1.1 H10.out.2.1).mono ?_
            rintro e w11 ⟨rfl, h11, ho11, hr11⟩
            obtain ⟨oa, oc, hvo⟩ := ho11.len
            obtain ⟨ra, rc, hvr⟩ := hr11.len
            rw [show ordL gf.o V10.vo = #[.int .i64 3, .int .i64 0, .int .i64 5, .slice oa gf.o.b.length oc] from by rw [hvo]; unfold ordL; rw [H10.out.2.2.1], show ansL gf.an V10.vr = #[.int .i64 (4000000 + g.tr), .int .i64 x, .int .i64 0, .int .i64 number, .slice ra V10.R.length rc, .int .i64 0] from by rw [hvr]; unfold ansL; rw [H10.out.2.2.2.1]]
            have gZ := ga2 w11 (.cells #[.int .i64 3, .int .i64 0, .int .i64 5, .slice oa gf.o.b.length oc] 42) (.cells #[.int .i64 (4000000 + g.tr), .int .i64 x, .int .i64 0, .int .i64 number, .slice ra V10.R.length rc, .int .i64 0] 44)
            have bZ := blk_alloc2 w11 #[.int .i64 3, .int .i64 0, .int .i64 5, .slice oa gf.o.b.length oc] #[.int .i64 (4000000 + g.tr), .int .i64 x, .int .i64 0, .int .i64 number, .slice ra V10.R.length rc, .int .i64 0] 42 44
            have hst : (doneG gf).st = 0 := by unfold doneG; rw [if_pos H10.out.2.1]
            have H11 := hid_mk (And.intro ((H10.out.1.cpv h11).kept gZ) (And.intro hst (And.intro (fit_done H10.out.2.2.2.2) bZ)))
            clear h11 ho11 hr11 hvo hvr gZ bZ hst
            go_wp2_with fail
            generalize hw12 : ((w11.alloc (.cells #[.int .i64 3, .int .i64 0, .int .i64 5, .slice oa gf.o.b.length oc] 42)).alloc (.cells #[.int .i64 (4000000 + g.tr), .int .i64 x, .int .i64 0, .int .i64 number, .slice ra V10.R.length rc, .int .i64 0] 44)) = w12 at *
            clear hw12
            generalize w11.heap.size = q11 at *
            refine (done_bad H11.out.1.1 (by rw [H11.out.2.1]; decide)).mono ?_
            rintro e w13 ⟨rfl, hg13⟩
            unfold ordZ ansZ
            have gY := grown_trans hg13 (ga2 w13 (.cells #[.int .i64 0, .int .i64 0, .int .i64 0, .slice none 0 0] 42) (.cells #[.int .i64 0, .int .i64 0, .int .i64 0, .int .i64 0, .slice none 0 0, .int .i64 0] 44))
            have H13 := hid_mk (And.intro (H11.out.1.kept gY) (And.intro H11.out.2.1 (And.intro H11.out.2.2.1 (And.intro (H11.out.2.2.2.1.kept gY (by simp)) (H11.out.2.2.2.2.kept gY (by simp))))))
            obtain ⟨x0, x1, x2, x3, xf⟩ := blk4 H13.out.2.2.2.1
            obtain ⟨y0, y1, y2, y3, y4, y5, yf⟩ := blk6 H13.out.2.2.2.2
            clear hg13 gY H11
            go_wp2_with (first | (go_at_call 11; refine (num_any _ _).mono ?_; rintro e w' ⟨rfl, hw⟩; rw [hw]; clear hw) | (go_at_call 15; refine (busy_any H13.out.1.1).mono ?_; rintro e w' ⟨rfl, hw⟩; rw [hw]; clear hw; rw [show decide ((doneG gf).st ≠ 0) = false from by rw [H13.out.2.1]; rfl]))
            have hdE := doE_ok (g := doneG gf) (o := ⟨1, 0, 0, []⟩) rfl H13.out.2.1 (fun h => absurd h.1 (by decide))
            refine (do_any (o := ⟨1, 0, 0, []⟩) (v := .slice none 0 0) H13.out.1.1 (H13.out.2.2.1.le (by omega)) (Byt.nil _) (by simp)).mono ?_
            rintro e w14 ⟨rfl, V14, h14⟩
            rw [hdE.1]
            have H14 := hid_mk (H13.out.1.cpv h14)
            clear h14 hdE
            go_wp2_with (go_at_call 11; refine (num_any _ _).mono ?_; rintro e w' ⟨rfl, hw⟩; rw [hw]; clear hw)
            go_ret
            exact ⟨rfl, H14.out.2⟩
end Go.Proofs.Ytgebhomiehadmaa
