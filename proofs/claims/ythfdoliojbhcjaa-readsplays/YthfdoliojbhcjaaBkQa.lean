/- reads: the document's book: forget, New, Waiting, Clear. -/
import Derived.Test.YthfdoliojbhcjaaBkL
namespace Go.Proofs.Ythfdoliojbhcjaa
open Go.RowKit Go.Maps
set_option linter.unusedVariables false
set_option linter.unusedSimpArgs false
set_option maxRecDepth 100000

def dkL (me : Nat) (H : List Int) (v : Value) : List Value := .int .i64 me :: v :: i64s H
structure OkD (g : Bk) : Prop where
  me : g.me < 16
  len : g.H.length = 16
  few : g.L.length ≤ 100
/-- The document's book, in blocks from B on. -/
structure IsD (w : World) (B b : Nat) (v : Value) (g : Bk) : Prop where
  blk : Blk w b (dkL g.me g.H v).toArray 58
  row : OwnR 72 w B v g.L
  low : B ≤ b
  ok : OkD g
theorem IsD.c0 {w : World} {B b : Nat} {v : Value} {g : Bk} (h : IsD w B b v g) : w.cell? ⟨b, 0, none⟩ = some (.int .i64 g.me) := by rw [h.blk.cell]; rfl
theorem IsD.c1 {w : World} {B b : Nat} {v : Value} {g : Bk} (h : IsD w B b v g) : w.cell? ⟨b, 1, none⟩ = some v := by rw [h.blk.cell]; rfl
theorem dk_cell {w : World} {b m : Nat} {v : Value} {H : List Int} (h : Blk w b (dkL m H v).toArray 58) {k : Nat} {x : Int} (hk : H[k]? = some x) : w.cell? ⟨b, 2 + k, none⟩ = some (.int .i64 x) := by
  rw [h.cell, Nat.add_comm]
  simp [dkL, i64s, hk]
theorem IsD.kept {w w' : World} {B b : Nat} {v : Value} {g : Bk} (h : IsD w B b v g) (hg : w.grownBy w' none) : IsD w' B b v g := ⟨h.blk.kept hg (by simp), owns_kept h.row hg (fun _ _ _ => by simp), h.low, h.ok⟩
theorem IsD.drew {w : World} {B b : Nat} {v : Value} {g : Bk} (h : IsD w B b v g) (n : Nat) : IsD (w.drewN n) B b v g := h.kept (grown_drewN w n none)
theorem IsD.len {w : World} {B b : Nat} {v : Value} {g : Bk} (h : IsD w B b v g) : ∃ a c, v = .slice a g.L.length c := row_shape h.row
theorem dkL_set (m : Nat) (H : List Int) (v : Value) (k : Nat) (x : Int) : (dkL m H v).toArray.setIfInBounds (2 + k) (.int .i64 x) = (dkL m (H.set k x) v).toArray := by
  unfold dkL
  rw [List.setIfInBounds_toArray, Nat.add_comm, List.set_cons_succ, List.set_cons_succ]
  simp [i64s, List.map_set]
theorem dkL_row (m : Nat) (H : List Int) (v v' : Value) : (dkL m H v).toArray.setIfInBounds 1 v' = (dkL m H v').toArray := by
  unfold dkL
  rw [List.setIfInBounds_toArray, List.set_cons_succ, List.set_cons_zero]
/-! ### forget -/
def forL (H : List Int) (k : Nat) : List Int := List.replicate k (-1) ++ H.drop k
theorem forL_len (H : List Int) (h : H.length = 16) (k : Nat) (hk : k ≤ 16) : (forL H k).length = 16 := by unfold forL; simp; omega
theorem forL_set (H : List Int) (h : H.length = 16) (k : Nat) (hk : k < 16) : (forL H k).set k (-1) = forL H (k + 1) := by
  unfold forL
  rw [List.set_append_right _ _ (by simp), List.length_replicate, Nat.sub_self, List.drop_eq_getElem_cons (by omega), List.set_cons_zero, List.replicate_succ', List.append_assoc]
  rfl
def noneL : List Int := List.replicate 16 (-1)
theorem forL_all (H : List Int) (h : H.length = 16) : forL H 16 = noneL := by unfold forL; rw [List.drop_of_length_le (by omega), List.append_nil]; rfl
set_option maxHeartbeats 1000000 in
theorem forget_any (m : Nat) (H : List Int) (v : Value) (b : Nat) (w : World) (hH : H.length = 16) (h : Blk w b (dkL m H v).toArray 58) : Calls Try.prog 21 #[.pointer (some ⟨b, 0, none⟩)] w fun e w' => e = .returned (.tuple #[]) ∧ Blk w' b (dkL m noneL v).toArray 58 ∧ w.grownBy w' (some b) := by
  have H1 := hid_mk (And.intro hH h)
  clear hH h
  go_enter Try.func21, Try.ntmps21
  go_wp2_with fail
  go_loopg [2] 16 (fun gg iv W => ∃ k : Nat, k ≤ 16 ∧ gg = 16 - k ∧ iv = .int .i64 k ∧ Hid (Blk W b (dkL m (forL H k) v).toArray 58 ∧ w.grownBy W (some b)))
  case atStart => exact ⟨0, by omega, rfl, rfl, hid_mk ⟨by have := H1.out.2; simpa [forL] using this, grown_refl _ _⟩⟩
  case round =>
    obtain ⟨k, hk, hgk, rfl, HI⟩ := hrel
    rename World => W
    by_cases hlt : k < 16
    · have hlt' : (k : Int) < 16 := by omega
      have hl := forL_len H H1.out.1 k hk
      obtain ⟨x, hx⟩ : ∃ x, (forL H k)[k]? = some x := ⟨_, List.getElem?_eq_getElem (by omega)⟩
      have hc := dk_cell HI.out.1 hx
      have hz := Blk.frozen HI.out.1 (2 + k)
      clear hx hl
      go_wp2_with fail
      go_roundg (16 - (k + 1))
      case measure => omega
      case rel => exact ⟨k + 1, by omega, rfl, by go_num, hid_mk ⟨by rw [← forL_set H H1.out.1 k hlt, ← dkL_set]; exact Blk.set HI.out.1 (2 + k) _, grown_trans HI.out.2 (grown_setCell _ _ _ _)⟩⟩
    · obtain rfl : k = 16 := by omega
      go_wp2
      refine bodyPost_end (results_none rfl _ _ _) rfl ?_
      exact ⟨rfl, by have := HI.out.1; rwa [forL_all H H1.out.1] at this, HI.out.2⟩
def newD (m : Nat) : Bk := ⟨m, noneL, []⟩
theorem newD_ok {m : Nat} (hm : m < 16) : OkD (newD m) := ⟨hm, rfl, by simp [newD]⟩
theorem rnew_bad (n : Int) (w : World) (h : ¬ (0 ≤ n ∧ n < 16)) : Calls Try.prog 9 #[.int .i64 n] w fun e w' => e = .returned (.pointer none) ∧ w' = w := by
  by_cases h0 : n < 0
  · clear h
    go_enter Try.func9, Try.ntmps9
    go_wp2
    go_ret
    exact ⟨rfl, rfl⟩
  · have h1 : 16 ≤ n := by omega
    clear h
    go_enter Try.func9, Try.ntmps9
    go_wp2
    go_ret
    exact ⟨rfl, rfl⟩
set_option maxHeartbeats 1000000 in
theorem rnew_any (m : Nat) (hm : m < 16) (w : World) : Calls Try.prog 9 #[.int .i64 m] w fun e w' => ∃ b, e = .returned (.pointer (some ⟨b, 0, none⟩)) ∧ IsD w' w.heap.size b (.slice none 0 0) (newD m) ∧ w.grownBy w' none := by
  have h0 : ¬ (m : Int) < 0 := by omega
  have h1 : ¬ (16 : Int) ≤ (m : Int) := by omega
  have HM := hid_mk hm
  clear hm
  go_enter Try.func9, Try.ntmps9
  go_upto_region 4 with fail
  have H1 := hid_mk (show Blk (w.alloc (.cells (dkL m (List.replicate 16 0) (.slice none 0 0)).toArray 58)) w.heap.size (dkL m (List.replicate 16 0) (.slice none 0 0)).toArray 58 ∧ w.grownBy (w.alloc (.cells (dkL m (List.replicate 16 0) (.slice none 0 0)).toArray 58)) none from ⟨heap_alloc_new _ _, World.grownBy_alloc _ _ none⟩)
  rw [show (dkL m (List.replicate 16 0) (.slice none 0 0)).toArray = #[.int .i64 m, .slice none 0 0, .int .i64 0, .int .i64 0, .int .i64 0, .int .i64 0, .int .i64 0, .int .i64 0, .int .i64 0, .int .i64 0, .int .i64 0, .int .i64 0, .int .i64 0, .int .i64 0, .int .i64 0, .int .i64 0, .int .i64 0, .int .i64 0] from rfl] at H1
  generalize w.alloc (.cells #[.int .i64 m, .slice none 0 0, .int .i64 0, .int .i64 0, .int .i64 0, .int .i64 0, .int .i64 0, .int .i64 0, .int .i64 0, .int .i64 0, .int .i64 0, .int .i64 0, .int .i64 0, .int .i64 0, .int .i64 0, .int .i64 0, .int .i64 0, .int .i64 0] 58) = w1 at *
  go_wp2_with fail
  refine (forget_any m (List.replicate 16 0) (.slice none 0 0) w.heap.size w1 (by simp) H1.out.1).mono ?_
  rintro e w2 ⟨rfl, hb, hg⟩
  have H2 := hid_mk (And.intro hb (grown_new H1.out.2 hg (Nat.le_refl _)))
  clear hb hg H1
  go_wp2
  go_ret
  exact ⟨_, rfl, ⟨H2.out.1, World.ownsRow_nil _ _ _ _, Nat.le_refl _, newD_ok HM.out⟩, H2.out.2⟩
/-! ### Waiting, Clear -/
set_option maxHeartbeats 1000000 in
theorem rwaiting_any {w : World} {B b : Nat} {v : Value} {g : Bk} (h : IsD w B b v g) : Calls Try.prog 27 #[.pointer (some ⟨b, 0, none⟩)] w fun e w' => ∃ u, e = .returned u ∧ OwnI w' w.heap.size u (ids g.L) ∧ w.grownBy w' none := by
  obtain ⟨va, vc, rfl⟩ := h.len
  have hl := h.ok.few
  have HB := hid_mk h
  clear h
  obtain ⟨l, hle⟩ : ∃ l, l = g.L := ⟨_, rfl⟩
  rw [← hle] at hl HB
  have HL := hid_mk hle
  rw [← hle]
  clear hle
  go_enter Try.func27, Try.ntmps27
  go_wp2_with fail
  go_loopg [3, 4] l.length (fun gg ov iv W => ∃ (k n : Nat) (a : Option Addr) (c : Nat), k ≤ l.length ∧ gg = l.length - k ∧ iv = .int .i64 k ∧ ov = .slice a n c ∧ Hid (OwnI W w.heap.size (.slice a n c) (ids (l.take k)) ∧ w.grownBy W none))
  case atStart => exact ⟨0, 0, none, 0, Nat.zero_le _, rfl, rfl, rfl, hid_mk ⟨OwnI.nil _ _, grown_refl _ _⟩⟩
  case round =>
    obtain ⟨k, n, a, c, hk, hgk, rfl, rfl, HI⟩ := hrel
    rename World => W
    have c1 := (HB.out.kept HI.out.2).c1
    by_cases hlt : k < l.length
    · have hlt' : (k : Int) < l.length := by omega
      obtain ⟨gb, cap, e, d0, d1, d2⟩ := OwnR.get (show OwnR 72 W B (.slice va l.length vc) l from by have := (HB.out.kept HI.out.2).row; rwa [← HL.out] at this) k hlt
      injection e with e1 e2 e3
      subst e1
      clear e2 e3
      have HT := hid_mk (ids_take l k hlt)
      have HN : Hid (n = (ids (l.take k)).length ∧ n < 17592186044416) := hid_mk (by
        obtain ⟨a', c', e⟩ := HI.out.1.len
        injection e with _ e _
        refine ⟨e, ?_⟩
        rw [e, ids, List.length_map, List.length_take]
        omega)
      generalize l[k].id = x at *
      generalize l[k].ix = y at *
      generalize l[k].rd = z at *
      go_wp2_with (at_builtin; refine wp_appi HI.out.2 HI.out.1 x n HN.out.1 HN.out.2 rfl _ _ rfl rfl rfl ?_; intro a' c' W' HA)
      go_roundg (l.length - (k + 1))
      case measure => omega
      case rel => exact ⟨k + 1, n + 1, a', c', by omega, rfl, by go_num, rfl, hid_mk ⟨by rw [HT.out]; exact HA.out.1, HA.out.2⟩⟩
    · have hlt' : ¬ (k : Int) < l.length := by omega
      go_wp2
      go_ret
      exact ⟨_, rfl, by have := HI.out.1; rwa [List.take_of_length_le (by omega)] at this, HI.out.2⟩
theorem rclear_any {w : World} {B b : Nat} {v : Value} {g : Bk} (h : IsD w B b v g) : Calls Try.prog 26 #[.pointer (some ⟨b, 0, none⟩)] w fun e w' => ∃ u, e = .returned u ∧ OwnI w' w.heap.size u (ids g.L) ∧ IsD w' B b (.slice none 0 0) (newD g.me) ∧ w.grownBy w' (some b) := by
  have HB := hid_mk h
  clear h
  go_enter Try.func26, Try.ntmps26
  go_wp2_with fail
  refine (rwaiting_any HB.out).mono ?_
  rintro e w1 ⟨u, rfl, hu, hg⟩
  obtain ⟨ua, uc, rfl⟩ := hu.len
  have H1 := hid_mk (And.intro hu (And.intro (HB.out.kept hg) hg))
  clear hu hg
  obtain ⟨va, vc, hv⟩ := HB.out.len
  have c1 := H1.out.2.1.c1
  have z1 := H1.out.2.1.blk.frozen 1
  rw [hv] at c1
  clear hv
  go_upto_region 3 with fail
  have gS := grown_setCell w1 b 1 (.slice none 0 0)
  have H2 := hid_mk (show Blk (w1.setCell ⟨b, 1, none⟩ (.slice none 0 0)) b (dkL g.me g.H (.slice none 0 0)).toArray 58 ∧ OwnI (w1.setCell ⟨b, 1, none⟩ (.slice none 0 0)) w.heap.size (.slice ua (ids g.L).length uc) (ids g.L) ∧ w.grownBy (w1.setCell ⟨b, 1, none⟩ (.slice none 0 0)) (some b) from
    ⟨by have := H1.out.2.1.blk.set 1 (.slice none 0 0); rwa [dkL_row] at this, owns_kept2 H1.out.1 gS (fun g1 e e2 => own_ne H1.out.1 H1.out.2.1.blk (by decide) (e2 ▸ e.symm)), grown_trans (grown_any H1.out.2.2 _) gS⟩)
  clear gS c1 z1 H1
  generalize w1.setCell ⟨b, 1, none⟩ (.slice none 0 0) = w2 at *
  go_wp2_with fail
  refine (forget_any g.me g.H (.slice none 0 0) b w2 HB.out.ok.len H2.out.1).mono ?_
  rintro e w3 ⟨rfl, hb, hg⟩
  have H3 := hid_mk (And.intro hb (And.intro (show OwnI w3 w.heap.size (.slice ua (ids g.L).length uc) (ids g.L) from owns_kept2 H2.out.2.1 hg (fun g1 e e2 => own_ne H2.out.2.1 H2.out.1 (by decide) (e2 ▸ e.symm))) (grown_trans H2.out.2.2 hg)))
  clear hb hg H2
  go_wp2
  go_ret
  exact ⟨_, rfl, H3.out.2.1, ⟨H3.out.1, World.ownsRow_nil _ _ _ _, HB.out.low, newD_ok HB.out.ok.me⟩, H3.out.2.2⟩
end Go.Proofs.Ythfdoliojbhcjaa
