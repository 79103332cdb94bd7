/- reads: New, Heard, Waiting. -/
import Derived.Test.YthfdoliojbhcjaaBkE
namespace Go.Proofs.Ythfdoliojbhcjaa
open Go.RowKit Go.Maps
set_option linter.unusedVariables false
set_option linter.unusedSimpArgs false
set_option maxRecDepth 100000

theorem alone_me {m : Nat} (hm : m < 16) : (aloneL m)[m]? = some 9223372036854775807 := by
  unfold aloneL
  rw [List.getElem?_set_self (by simp; omega)]
theorem alone_wf (m : Nat) : ∀ x ∈ aloneL m, -1 ≤ x ∧ x ≤ 9223372036854775807 := fun x hx => by
  unfold aloneL at hx
  rcases List.mem_or_eq_of_mem_set hx with h | h
  · have := (List.mem_replicate.1 h).2; omega
  · omega
def newB (m : Nat) : Bk := ⟨m, aloneL m, []⟩
theorem newB_ok {m : Nat} (hm : m < 16) : OkB (newB m) := ⟨hm, alone_len m, alone_me hm, alone_wf m, by simp [newB], by simp [newB]⟩
theorem new_bad (n : Int) (w : World) (h : ¬ (0 ≤ n ∧ n < 16)) : Calls Try.prog 8 #[.int .i64 n] w fun e w' => e = .returned (.tuple #[.pointer none, .int .i64 1]) ∧ w' = w := by
  have HM := hid_mk (mayBe_any n w)
  rw [decide_eq_false h] at HM
  clear h
  go_enter Try.func8, Try.ntmps8
  go_wp2_with (go_at_call 19; refine HM.out.mono ?_; rintro e w' ⟨rfl, hw⟩; rw [hw]; clear hw)
  go_ret2
  exact ⟨rfl, rfl⟩
set_option maxHeartbeats 1000000 in
theorem new_any (m : Nat) (hm : m < 16) (w : World) : Calls Try.prog 8 #[.int .i64 m] w fun e w' => ∃ b, e = .returned (.tuple #[.pointer (some ⟨b, 0, none⟩), .int .i64 0]) ∧ IsB w' w.heap.size b (.slice none 0 0) (newB m) ∧ w.grownBy w' none := by
  have HM := hid_mk (mayBe_any m w)
  rw [decide_eq_true (show (0 : Int) ≤ m ∧ (m : Int) < 16 by omega)] at HM
  have HA := hid_mk (alone_any m hm w)
  obtain ⟨x0, x1, x2, x3, x4, x5, x6, x7, x8, x9, x10, x11, x12, x13, x14, x15, hx⟩ := list16 (alone_len m)
  rw [hx] at HA
  have HX := hid_mk hx
  have HM2 := hid_mk hm
  clear hx hm
  rw [show (i64s [x0, x1, x2, x3, x4, x5, x6, x7, x8, x9, x10, x11, x12, x13, x14, x15]).toArray = #[.int .i64 x0, .int .i64 x1, .int .i64 x2, .int .i64 x3, .int .i64 x4, .int .i64 x5, .int .i64 x6, .int .i64 x7, .int .i64 x8, .int .i64 x9, .int .i64 x10, .int .i64 x11, .int .i64 x12, .int .i64 x13, .int .i64 x14, .int .i64 x15] from rfl] at HA
  go_enter Try.func8, Try.ntmps8
  go_wp2_with (first
    | (go_at_call 19; refine HM.out.mono ?_; rintro e w' ⟨rfl, hw⟩; rw [hw]; clear hw)
    | (go_at_call 20; refine HA.out.mono ?_; rintro e w1 ⟨rfl, hg⟩; have HG := hid_mk hg; clear hg))
  go_ret2
  refine ⟨w1.heap.size, rfl, ⟨?_, World.ownsRow_nil _ _ _ _, HG.out.size, newB_ok HM2.out⟩, ga HG.out _⟩
  show Blk _ _ (bkL m (aloneL m) (.slice none 0 0)).toArray 45
  rw [HX.out]
  exact heap_alloc_new w1 _
/-! ### Heard -/
theorem heard_bad {w : World} {B b : Nat} {v : Value} {g : Bk} (h : IsB w B b v g) (n r : Int) (hn : ¬ (0 ≤ n ∧ n < 16) ∨ r < 0) : Calls Try.prog 14 #[.pointer (some ⟨b, 0, none⟩), .int .i64 n, .int .i64 r] w fun e w' => e = .returned (.int .i64 1) ∧ ∃ nq, w' = w.drewN nq := by
  have HD := hid_mk (made_any h)
  clear h
  by_cases hm : (0 ≤ n ∧ n < 16)
  · have hr : r < 0 := by
      rcases hn with hn | hn
      · exact absurd hm hn
      · exact hn
    have HM := hid_mk (fun w => mayBe_any n w)
    rw [decide_eq_true hm] at HM
    clear hn hm
    go_enter Try.func14, Try.ntmps14
    go_wp2_with (first
      | (go_at_call 28; refine HD.out.mono ?_; rintro e w' ⟨rfl, nq, hw⟩; rw [hw]; clear hw)
      | (go_at_call 19; refine (HM.out _).mono ?_; rintro e w' ⟨rfl, hw⟩; rw [hw]; clear hw))
    go_ret
    exact ⟨rfl, _, rfl⟩
  · have HM := hid_mk (fun w => mayBe_any n w)
    rw [decide_eq_false hm] at HM
    clear hn hm
    go_enter Try.func14, Try.ntmps14
    go_wp2_with (first
      | (go_at_call 28; refine HD.out.mono ?_; rintro e w' ⟨rfl, nq, hw⟩; rw [hw]; clear hw)
      | (go_at_call 19; refine (HM.out _).mono ?_; rintro e w' ⟨rfl, hw⟩; rw [hw]; clear hw))
    go_ret
    exact ⟨rfl, _, rfl⟩
def hearB (g : Bk) (k : Nat) (r : Int) : Bk := ⟨g.me, g.H.set k (max (g.H.getD k 0) r), g.L⟩
theorem hearB_ok {g : Bk} (h : OkB g) {k : Nat} (hk : k < 16) {r : Int} (h0 : 0 ≤ r) (hr : r ≤ 9223372036854775807) : OkB (hearB g k r) := by
  have hkl : k < g.H.length := by have := h.len; omega
  have hw := h.wf _ (List.getElem_mem hkl)
  refine ⟨h.me, by simp [hearB, h.len], ?_, fun x hx => ?_, h.few, h.rds⟩
  · show (g.H.set k _)[g.me]? = _
    by_cases e : k = g.me
    · rw [e, List.getElem?_set_self (by have := h.me; have := h.len; omega), List.getD_eq_getElem?_getD, h.always]
      simp
      omega
    · rw [List.getElem?_set_ne e]
      exact h.always
  · rcases List.mem_or_eq_of_mem_set hx with h1 | h1
    · exact h.wf x h1
    · rw [h1, List.getD_eq_getElem?_getD, List.getElem?_eq_getElem hkl]
      simp
      omega
theorem bkL_set (m : Nat) (H : List Int) (v : Value) (k : Nat) (hk : k < H.length) (x : Int) : (bkL m H v).toArray.setIfInBounds (1 + k) (.int .i64 x) = (bkL m (H.set k x) v).toArray := by
  unfold bkL
  rw [List.setIfInBounds_toArray, Nat.add_comm, List.set_cons_succ, List.set_append_left _ _ (by simpa [i64s] using hk)]
  simp [i64s, List.map_set]
theorem IsB.other {w w' : World} {B b : Nat} {v : Value} {g : Bk} (h : IsB w B b v g) (hg : w.grownBy w' (some b)) {g' : Bk} (hL : g'.L = g.L) (hb : Blk w' b (bkL g'.me g'.H v).toArray 45) (ok : OkB g') : IsB w' B b v g' :=
  ⟨hb, by rw [OwnR, hL]; exact owns_kept h.row hg (fun g1 cur hh => by
    have := h.blk
    intro e
    injection e with e
    subst e
    unfold Blk at this
    rw [this] at hh
    simp at hh), h.low, ok⟩
set_option maxHeartbeats 1000000 in
theorem heard_ok {w : World} {B b : Nat} {v : Value} {g : Bk} (h : IsB w B b v g) (k : Nat) (r : Int) (hk : k < 16) (h0 : 0 ≤ r) (hr : r ≤ 9223372036854775807) : Calls Try.prog 14 #[.pointer (some ⟨b, 0, none⟩), .int .i64 k, .int .i64 r] w fun e w' => e = .returned (.int .i64 0) ∧ IsB w' B b v (hearB g k r) ∧ w.grownBy w' (some b) := by
  have HD := hid_mk (made_any h)
  have HM := hid_mk (fun w => mayBe_any k w)
  rw [decide_eq_true (show (0 : Int) ≤ k ∧ (k : Int) < 16 by omega)] at HM
  have hkl : k < g.H.length := by have := h.ok.len; omega
  obtain ⟨x, hx⟩ : ∃ x, g.H[k]? = some x := ⟨_, List.getElem?_eq_getElem hkl⟩
  have hxd : g.H.getD k 0 = x := by rw [List.getD_eq_getElem?_getD, hx]; rfl
  have HC := hid_mk (fun W (hg : w.grownBy W none) => (h.kept hg).cH hx)
  have HZ := hid_mk (fun W (hg : w.grownBy W none) => (h.kept hg).blk.frozen (1 + k))
  have H := hid_mk h
  have HK := hid_mk (And.intro hkl (And.intro hk (And.intro h0 hr)))
  have hk' : (k : Int) < 16 := by omega
  have h0' : ¬ r < 0 := by omega
  obtain ⟨M, hM⟩ : ∃ M, M = max x r := ⟨_, rfl⟩
  have hif : (if x < r then r else x) = M := by rw [hM]; split <;> omega
  have hif2 : max x r = M := hM.symm
  have HMM := hid_mk (show max (g.H.getD k 0) r = M by rw [hxd, hM])
  clear hM h hkl hx hxd hk h0 hr
  go_enter Try.func14, Try.ntmps14
  go_upto_region 3 with (first
    | (go_at_call 28; refine HD.out.mono ?_; rintro e w' ⟨rfl, nq, hw⟩; rw [hw]; clear hw)
    | (go_at_call 19; refine (HM.out _).mono ?_; rintro e w' ⟨rfl, hw⟩; rw [hw]; clear hw))
  have HF : ∀ W, (w.drewN nq).grownBy W none → W.cell? ⟨b, 1 + k, none⟩ = some (.int .i64 x) := fun W hW => HC.out W (grown_trans (grown_drewN w nq none) hW)
  have HG0 := hid_mk (grown_drewN w nq none)
  generalize w.drewN nq = w1 at *
  refine wp_region_mixL [(0, true), (1, true), (2, true), (3, true), (4, true), (5, true), (6, true), (7, true), (8, true), (9, true), (10, true), (11, true), (12, true)] 13 (at0 w1 (fun W => w1.grownBy W none)) (by kernel_rfl) (by kernel_rfl) rfl (by kernel_rfl) rfl (by kernel_rfl) (shut_at0 (fun m => grown_drewN _ m none)) ⟨1, rfl⟩ ?_
  repeat (refine mix_rd1 rfl rfl (fun K hK => ?_); apply Exists.intro; refine ⟨fun W hW => ?_, ?_⟩; (have c1 := HF W hW; go_simp; rfl); (go_simp; refine hK _ _ ?_; clear hK K))
  refine mix_nil ?_
  refine ⟨rfl, ?_⟩
  rintro W ⟨m5, rfl⟩
  have c1 := HF (w1.drewN m5) (grown_drewN _ m5 none)
  have HG1 := hid_mk (grown_trans HG0.out (grown_drewN w1 m5 none))
  have z1 := HZ.out (w1.drewN m5) HG1.out
  refine ⟨(w1.drewN m5).setCell ⟨b, 1 + k, none⟩ (.int .i64 M), by go_simp, ?_⟩
  have HG2 := hid_mk (grown_trans (grown_any HG1.out (some b)) (grown_setCell (w1.drewN m5) b (1 + k) (.int .i64 M)))
  have HB := hid_mk ((H.out.blk.kept HG1.out (by simp)).set (1 + k) (.int .i64 M))
  generalize (w1.drewN m5).setCell ⟨b, 1 + k, none⟩ (.int .i64 M) = w2 at *
  clear c1 z1 HF
  go_wp2
  go_ret
  refine ⟨rfl, H.out.other HG2.out rfl ?_ (hearB_ok H.out.ok HK.out.2.1 HK.out.2.2.1 HK.out.2.2.2), HG2.out⟩
  show Blk w2 b (bkL g.me (g.H.set k (max (g.H.getD k 0) r)) v).toArray 45
  rw [HMM.out, ← bkL_set _ _ _ _ HK.out.1]
  exact HB.out
end Go.Proofs.Ythfdoliojbhcjaa
