/- reads: Ready. -/
import Derived.Test.YthfdoliojbhcjaaBkI
namespace Go.Proofs.Ythfdoliojbhcjaa
open Go.RowKit Go.Maps
set_option linter.unusedVariables false
set_option linter.unusedSimpArgs false
set_option maxRecDepth 100000

theorem ready1_any (r : Rd) (q : Nat) (z : Int) (w : World) (h : w.cell? ⟨q, 0, none⟩ = some (.int .i64 z)) : Calls Try.prog 33 #[rdV r, .pointer (some ⟨q, 0, none⟩)] w fun e w' => e = .returned (.bool (decide (r.rd ≤ z))) ∧ w.grownBy w' none := by
  unfold rdV
  obtain ⟨x, y, u⟩ := r
  have c1 : (w.alloc (.cells #[.int .i64 x, .int .i64 y, .int .i64 u] 66)).cell? ⟨q, 0, none⟩ = some (.int .i64 z) := (World.grownBy_alloc w _ none).cell h (by simp)
  have hq := World.block_lt_of_cell? w _ h
  clear h
  go_enter Try.func33, Try.ntmps33
  go_wp2
  go_ret
  exact ⟨rfl, World.grownBy_alloc _ _ none⟩
theorem ent33 : ∀ args w, (callFunc 33 args).run Try.prog w = .ok (.enter 33 args) w := fun args w => by go_simp
def rdyB (S H : List Int) (r : Rd) : Bool := wonB S (thL H r.rd)
def leftB (S : List Int) (g : Bk) : Bk := ⟨g.me, g.H, g.L.filter (fun r => !rdyB S g.H r)⟩
def doneB (S : List Int) (g : Bk) : List Rd := g.L.filter (rdyB S g.H)
theorem last_dec {S H : List Int} {z : Int} (h : Last S H z) {r : Rd} (h0 : 0 ≤ r.rd) (h1 : r.rd ≤ 9223372036854775807) : decide (r.rd ≤ z) = rdyB S H r := by
  rw [Bool.eq_iff_iff, decide_eq_true_eq]
  exact h.is r.rd h0 h1
theorem last_filt {S : List Int} {g : Bk} (ok : OkB g) {z : Int} (h : Last S g.H z) : g.L.filter (fun r => decide (r.rd ≤ z)) = doneB S g ∧ g.L.filter (fun r => !decide (r.rd ≤ z)) = (leftB S g).L := by
  constructor
  · exact List.filter_congr (fun r hr => last_dec h (ok.rds r hr).1 (ok.rds r hr).2)
  · exact List.filter_congr (fun r hr => by rw [last_dec h (ok.rds r hr).1 (ok.rds r hr).2])
theorem leftB_ok {S : List Int} {g : Bk} (ok : OkB g) : OkB (leftB S g) :=
  ⟨ok.me, ok.len, ok.always, ok.wf, Nat.le_trans (List.length_filter_le _ _) ok.few, fun r hr => ok.rds r (List.mem_filter.1 hr).1⟩
/-- Behind a Ready. -/
def RdyP (w w' : World) (B b : Nat) (v : Value) (g : Bk) (S : List Int) (u : Value) : Prop := OwnY 50 w' w.heap.size u (doneB S g) ∧ ∃ v', IsB w' B b v' (leftB S g) ∧ Keeps (Ofb b v) w w' ∧ Nw w v v'
theorem ready_none {w : World} {B b : Nat} {v : Value} {g : Bk} (h : IsB w B b v g) (S : List Int) (sv : Value) (h0 : g.L = []) : Calls Try.prog 15 #[.pointer (some ⟨b, 0, none⟩), sv] w fun e w' => ∃ u, e = .returned u ∧ RdyP w w' B b v g S u := by
  have HD := hid_mk (made_any h)
  obtain ⟨va, vc, rfl⟩ := h.len
  have c17 := fun nq => (h.drew nq).c17
  have hl : g.L.length = 0 := by rw [h0]; rfl
  rw [hl] at c17
  have HH := hid_mk (show ∀ nq, RdyP w (w.drewN nq) B b (.slice va g.L.length vc) g S (.slice none 0 0) from fun nq => by
    have e1 : doneB S g = [] := by unfold doneB; rw [h0]; rfl
    have e2 : leftB S g = g := by unfold leftB; rw [h0]; simp; rw [← h0]
    refine ⟨by rw [e1]; exact World.ownsRow_nil _ _ _ _, _, by rw [e2]; exact h.drew nq, Keeps.of_none (grown_drewN _ _ none), fun k e => .inl e⟩)
  clear h h0 hl
  go_enter Try.func15, Try.ntmps15
  go_wp2_with (go_at_call 28; refine HD.out.mono ?_; rintro e w' ⟨rfl, nq, hw⟩; rw [hw]; clear hw)
  go_ret
  exact ⟨_, rfl, HH.out nq⟩
set_option maxHeartbeats 4000000 in
theorem ready_some {w : World} {B b : Nat} {v : Value} {g : Bk} (h : IsB w B b v g) (S : List Int) (sv : Value) (hS : Nums w sv S) (h0 : 0 < g.L.length) : Calls Try.prog 15 #[.pointer (some ⟨b, 0, none⟩), sv] w fun e w' => ∃ u, e = .returned u ∧ RdyP w w' B b v g S u := by
  have HD := hid_mk (made_any h)
  obtain ⟨va, vc, rfl⟩ := h.len
  obtain ⟨sa, sc, rfl⟩ := hS.1.len
  have c17 := fun nq => (h.drew nq).c17
  have HB := hid_mk h
  have HS := hid_mk hS
  have hl := h.ok.few
  have hne : ((g.L.length : Int) == 0) = false := beq_eq_false_iff_ne.2 (by omega)
  clear h h0 hS
  go_enter Try.func15, Try.ntmps15
  go_upto_region 3 with (go_at_call 28; refine HD.out.mono ?_; rintro e w' ⟨rfl, nq, hw⟩; rw [hw]; clear hw)
  clear c17 hne HD
  have H1 := hid_mk (show IsB (w.drewN nq) B b (.slice va g.L.length vc) g ∧ Nums (w.drewN nq) (.slice sa S.length sc) S ∧ w.grownBy (w.drewN nq) none from ⟨HB.out.drew nq, HS.out.kept (grown_drewN _ _ none), grown_drewN _ _ none⟩)
  generalize w.drewN nq = w1 at *
  refine wp_region_lit ?_
  iterate 3 (refine wpList_plain rfl fun K hK => ?_; go_simp; refine hK _ _ ?_; clear hK K)
  refine wpList_load_mid rfl 42 (.tmp 23) rfl b 1 rfl (i64s g.H) _ H1.out.1.range Try.underlying42 rfl (by rw [i64s_len, HB.out.ok.len]; exact info42) ?_
  go_wp2_with fail
  refine (wonF_any _ S g.H w1 HB.out.ok.len (List.mem_of_getElem? HB.out.ok.always) H1.out.2.1).mono ?_
  rintro e w2 ⟨z, rfl, hlast, hg2⟩
  have HL := hid_mk hlast
  have gA := World.grownBy_alloc w2 (.cells #[.int .i64 z] 3) none
  have H3 := hid_mk (show IsB (w2.alloc (.cells #[.int .i64 z] 3)) B b (.slice va g.L.length vc) g ∧ Blk (w2.alloc (.cells #[.int .i64 z] 3)) w2.heap.size #[.int .i64 z] 3 ∧ w.grownBy (w2.alloc (.cells #[.int .i64 z] 3)) none from ⟨(H1.out.1.kept hg2).kept gA, heap_alloc_new _ _, grown_trans H1.out.2.2 (grown_trans hg2 gA)⟩)
  clear hlast hg2 gA H1
  go_upto_region 5 with fail
  generalize w2.alloc (.cells #[.int .i64 z] 3) = w3 at *
  generalize w2.heap.size = q at *
  have c17 := H3.out.1.c17
  go_wp2_with fail
  refine (part_any 33 #[.pointer (some ⟨q, 0, none⟩)] ent33 (fun r => decide (r.rd ≤ z)) va vc B g.L w3 H3.out.1.row hl (fun W hW r => ready1_any r q z W (by rw [(H3.out.2.1.kept hW (by simp)).cell]; rfl))).mono ?_
  rintro e w4 ⟨a1, n1, c1, a2, n2, c2, rfl, htwo⟩
  obtain ⟨ef1, ef2⟩ := last_filt HB.out.ok HL.out
  rw [ef1, ef2] at htwo
  have H4 := hid_mk (show IsB w4 B b (.slice va g.L.length vc) g ∧ Two w3 w4 (.slice a1 n1 c1) (.slice a2 n2 c2) n1 n2 (doneB S g) (leftB S g).L ∧ w.grownBy w4 none from ⟨H3.out.1.kept htwo.2.2.2.2.2, htwo, grown_trans H3.out.2.2 htwo.2.2.2.2.2⟩)
  have HW3 := hid_mk H3.out.2.2.size
  clear ef1 ef2 htwo c17 H3 HL
  have c17 := H4.out.1.c17
  have z17 := H4.out.1.blk.frozen 17
  go_upto_region 7 with fail
  have gS := grown_setCell w4 b 17 (.slice a2 n2 c2)
  have H5 := hid_mk (show IsB (w4.setCell ⟨b, 17, none⟩ (.slice a2 n2 c2)) B b (.slice a2 n2 c2) (leftB S g) ∧ OwnR 66 (w4.setCell ⟨b, 17, none⟩ (.slice a2 n2 c2)) w3.heap.size (.slice a1 n1 c1) (doneB S g) ∧ n1 = (doneB S g).length ∧ Keeps (Ofb b (.slice va g.L.length vc)) w (w4.setCell ⟨b, 17, none⟩ (.slice a2 n2 c2)) ∧ Nw w (.slice va g.L.length vc) (.slice a2 n2 c2) from by
    obtain ⟨k1, ⟨t1, t2, t3, t4, t5, t6⟩, k3⟩ := H4.out
    have n1' := fun g1 (e : (Value.slice a1 n1 c1).ownBlock = some g1) => show some g1 ≠ some b from fun e2 => own_ne t1 k1.blk (by decide) (e2 ▸ e.symm)
    have n2' := fun g1 (e : (Value.slice a2 n2 c2).ownBlock = some g1) => show some g1 ≠ some b from fun e2 => own_ne t3 k1.blk (by decide) (e2 ▸ e.symm)
    refine ⟨⟨?_, ?_, k1.low, leftB_ok k1.ok⟩, ?_, t2, (Keeps.of_none k3).thenZ (Keeps.one gS (.inl rfl)), fun k e => .inr ?_⟩
    · show Blk _ b (bkL g.me g.H (.slice a2 n2 c2)).toArray 45
      rw [← bkL_row _ _ (.slice va g.L.length vc) _ k1.ok.len]
      exact k1.blk.set 17 _
    · show World.ownsRow _ B 66 3 (.slice a2 n2 c2) (leftB S g).L.length (rds (leftB S g).L)
      rw [← t4]
      exact owns_low (owns_kept2 t3 gS n2') (by have := HB.out.low; have := HB.out.blk.lt; have := HW3.out; omega)
    · show World.ownsRow _ w3.heap.size 66 3 (.slice a1 n1 c1) (doneB S g).length (rds (doneB S g))
      rw [← t2]
      exact owns_kept2 t1 gS n1'
    · have := (owns_lt t3 e).1
      have := HW3.out
      omega)
  clear gS H4 c17 z17
  generalize w4.setCell ⟨b, 17, none⟩ (.slice a2 n2 c2) = w5 at *
  have hn1 : n1 ≤ 100 := by
    rw [H5.out.2.2.1]
    exact Nat.le_trans (List.length_filter_le _ _) hl
  obtain ⟨D, hD⟩ : ∃ D, D = doneB S g := ⟨_, rfl⟩
  have HR := hid_mk (show OwnR 66 w5 w3.heap.size (.slice a1 n1 c1) D ∧ n1 = D.length by rw [hD]; exact ⟨H5.out.2.1, H5.out.2.2.1⟩)
  have HD := hid_mk hD
  clear hD
  go_wp2_with fail
  go_loopg [7, 41] n1 (fun gg ov iv W => ∃ (k n : Nat) (a : Option Addr) (c : Nat), k ≤ n1 ∧ n ≤ k ∧ gg = n1 - k ∧ iv = .int .i64 k ∧ ov = .slice a n c ∧ Hid (W.ownsRow w5.heap.size 50 2 (.slice a n c) n (rys (D.take k)) ∧ w5.grownBy W none))
  case atStart => exact ⟨0, 0, none, 0, Nat.zero_le _, Nat.le_refl _, rfl, rfl, rfl, hid_mk ⟨World.ownsRow_nil _ _ _ _, grown_refl _ _⟩⟩
  case round =>
    obtain ⟨k, n, a, c, hk, hnk, hgk, rfl, rfl, HI⟩ := hrel
    rename World => W
    by_cases hlt : k < n1
    · have hlt' : (k : Int) < n1 := by omega
      have hltD : k < D.length := by have := HR.out.2; omega
      obtain ⟨gb, cap, e, d0, d1, d2⟩ := OwnR.get (show OwnR 66 W w3.heap.size (.slice a1 n1 c1) D from owns_kept HR.out.1 HI.out.2 (fun _ _ _ => by simp)) k hltD
      injection e with e1 e2 e3
      subst e1
      clear e2 e3
      have HT := hid_mk (show rys (D.take (k + 1)) = rys (D.take k) ++ [.int .i64 D[k].id, .int .i64 D[k].ix] by rw [take_one D k hltD, rys_snoc]; rfl)
      generalize D[k].id = x at *
      generalize D[k].ix = y at *
      generalize D[k].rd = zz at *
      go_wp2_with (at_builtin; refine wp_appG2 _ (World.size_alloc _ _) Try.underlying38 info50 rfl (by decide) (by decide) (ga HI.out.2 _) (owns_kept HI.out.1 (World.grownBy_alloc _ _ none) (fun _ _ _ => by simp)) [.int .i64 x, .int .i64 y] rfl (one_ryC x y) (by omega) rfl _ _ rfl rfl rfl ?_; intro a' c' W' HA)
      go_roundg (n1 - (k + 1))
      case measure => omega
      case rel => exact ⟨k + 1, n + 1, a', c', by omega, by omega, rfl, by go_num, rfl, hid_mk ⟨by rw [HT.out]; exact HA.out.1, HA.out.2.1⟩⟩
    · have hlt' : ¬ (k : Int) < n1 := by omega
      go_wp2
      go_ret
      refine ⟨_, rfl, ?_, .slice a2 n2 c2, H5.out.1.kept HI.out.2, H5.out.2.2.2.1.thenZ (Keeps.of_none HI.out.2), H5.out.2.2.2.2⟩
      have h1 := HI.out.1
      rw [List.take_of_length_le (by have := HR.out.2; omega)] at h1
      have h2 := h1.1
      have h3 : n = D.length := by
        have : ∀ l : List Rd, (rys l).length = 2 * l.length := fun l => by induction l with | nil => rfl | cons a l ih => simp [rys, ryC] at *; omega
        rw [this] at h2
        omega
      rw [← HD.out]
      show W.ownsRow w.heap.size 50 2 (.slice a n c) D.length (rys D)
      rw [← h3]
      exact owns_low h1 (H5.out.2.2.2.1).size
theorem ready_any {w : World} {B b : Nat} {v : Value} {g : Bk} (h : IsB w B b v g) (S : List Int) (sv : Value) (hS : Nums w sv S) : Calls Try.prog 15 #[.pointer (some ⟨b, 0, none⟩), sv] w fun e w' => ∃ u, e = .returned u ∧ RdyP w w' B b v g S u := by
  rcases Nat.eq_zero_or_pos g.L.length with h0 | h0
  · exact ready_none h S sv (List.length_eq_zero_iff.1 h0)
  · exact ready_some h S sv hS h0
end Go.Proofs.Ythfdoliojbhcjaa
