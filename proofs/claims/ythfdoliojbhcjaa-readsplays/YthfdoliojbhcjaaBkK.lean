/- reads: Clear; no book, and one that nobody made. -/
import Derived.Test.YthfdoliojbhcjaaBkJ
namespace Go.Proofs.Ythfdoliojbhcjaa
open Go.RowKit Go.Maps
set_option linter.unusedVariables false
set_option linter.unusedSimpArgs false
set_option maxRecDepth 100000

theorem set_cells (w : World) (b : Nat) (t : TypeId) : ∀ (vs : List Value) (o : Nat) (w : World) (cs : Array Value), Blk w b cs t → Blk (w.setCells b o vs) b ((vs.zipIdx o).foldl (fun c p => c.setIfInBounds p.2 p.1) cs) t
  | [], _, _, _, h => h
  | v :: r, o, w, cs, h => by
    rw [World.setCells]
    exact set_cells w b t r (o + 1) _ _ (h.set o v)
theorem fold_list : ∀ (ps : List (Value × Nat)) (l : List Value), ps.foldl (fun c p => c.setIfInBounds p.2 p.1) l.toArray = (ps.foldl (fun (c : List Value) p => c.set p.2 p.1) l).toArray
  | [], _ => rfl
  | p :: ps, l => by
    rw [List.foldl_cons, List.foldl_cons, List.setIfInBounds_toArray]
    exact fold_list ps _
theorem fold_set : ∀ (l' l pre r : List Value), l.length = l'.length → (l'.zipIdx pre.length).foldl (fun (c : List Value) p => c.set p.2 p.1) (pre ++ (l ++ r)) = pre ++ (l' ++ r)
  | [], l, pre, r, h => by
    obtain rfl : l = [] := List.length_eq_zero_iff.1 h
    rfl
  | v :: l', [], pre, r, h => by simp at h
  | v :: l', a :: l, pre, r, h => by
    rw [List.zipIdx_cons, List.foldl_cons]
    have e : (pre ++ ((a :: l) ++ r)).set pre.length v = (pre ++ [v]) ++ (l ++ r) := by
      rw [List.set_append_right _ _ (Nat.le_refl _)]
      simp
    have e2 : pre.length + 1 = (pre ++ [v]).length := by simp
    show List.foldl _ ((pre ++ ((a :: l) ++ r)).set pre.length v) _ = _
    rw [e, e2, fold_set l' l (pre ++ [v]) r (by simpa using h)]
    simp
theorem bkL_all (m : Nat) (H H' : List Int) (v : Value) (hH : H.length = 16) (hH' : H'.length = 16) : ((i64s H').zipIdx 1).foldl (fun c p => c.setIfInBounds p.2 p.1) (bkL m H v).toArray = (bkL m H' v).toArray := by
  rw [fold_list]
  congr 1
  exact fold_set (i64s H') (i64s H) [.int .i64 m] [v] (by rw [i64s_len, i64s_len, hH, hH'])
set_option maxHeartbeats 2000000 in
theorem clear_any {w : World} {B b : Nat} {v : Value} {g : Bk} (h : IsB w B b v g) : Calls Try.prog 17 #[.pointer (some ⟨b, 0, none⟩)] w fun e w' => ∃ u, e = .returned u ∧ OwnI w' w.heap.size u (ids g.L) ∧ IsB w' B b (.slice none 0 0) (newB g.me) ∧ w.grownBy w' (some b) := by
  have HD := hid_mk (made_any h)
  have HW := hid_mk (fun nq => waiting_any (h.drew nq))
  have HB := hid_mk h
  clear h
  go_enter Try.func17, Try.ntmps17
  go_wp2_with (go_at_call 28; refine HD.out.mono ?_; rintro e w' ⟨rfl, nq, hw⟩; rw [hw]; clear hw)
  refine (HW.out nq).mono ?_
  rintro e w1 ⟨u, rfl, hu, hg1⟩
  obtain ⟨ua, uc, rfl⟩ := hu.len
  have H1 := hid_mk (show OwnI w1 w.heap.size (.slice ua (ids g.L).length uc) (ids g.L) ∧ IsB w1 B b v g ∧ w.grownBy w1 none from ⟨hu, (HB.out.drew nq).kept hg1, grown_trans (grown_drewN _ _ none) hg1⟩)
  clear hu hg1 HW HD
  have c0 := H1.out.2.1.c0
  go_wp2_with fail
  refine (alone_any g.me HB.out.ok.me w1).mono ?_
  rintro e w2 ⟨rfl, hg2⟩
  have H2 := hid_mk (show OwnI w2 w.heap.size (.slice ua (ids g.L).length uc) (ids g.L) ∧ IsB w2 B b v g ∧ w.grownBy w2 none from ⟨H1.out.1.kept hg2, H1.out.2.1.kept hg2, grown_trans H1.out.2.2 hg2⟩)
  clear hg2 H1 c0
  have c17 := H2.out.2.1.c17
  have z17 := H2.out.2.1.blk.frozen 17
  obtain ⟨va, vc, hv⟩ := H2.out.2.1.len
  rw [hv] at c17
  clear hv
  have hth : (w2.setCell ⟨b, 17, none⟩ (.slice none 0 0)).there b 1 (i64s (aloneL g.me)).toArray.size := fun j hj => by
    have hj' : j < 16 := by simpa [i64s, alone_len] using hj
    have hbl := H2.out.2.1.blk.set 17 (.slice none 0 0)
    rw [bkL_row _ _ _ _ HB.out.ok.len] at hbl
    refine ⟨?_, hbl.frozen _⟩
    rw [hbl.cell]
    have hl := HB.out.ok.len
    have : 1 + j < (bkL g.me g.H (.slice none 0 0)).length := by simp [bkL, i64s, hl]; omega
    simp [List.getElem?_eq_getElem this]
  have hsz : (i64s (aloneL g.me)).toArray.size = 16 := by simp [i64s, alone_len]
  have ho := one_i64s (aloneL g.me)
  have HBL := hid_mk (show Blk ((w2.setCell ⟨b, 17, none⟩ (.slice none 0 0)).setCells b 1 (i64s (aloneL g.me)).toArray.toList) b (bkL g.me (aloneL g.me) (.slice none 0 0)).toArray 45 from by
    have hbl := H2.out.2.1.blk.set 17 (.slice none 0 0)
    rw [bkL_row _ _ _ _ HB.out.ok.len] at hbl
    have := set_cells w2 b 45 (i64s (aloneL g.me)) 1 _ _ hbl
    rw [bkL_all _ _ _ _ HB.out.ok.len (alone_len _)] at this
    exact this)
  have HG := hid_mk (grown_trans (grown_setCell w2 b 17 (.slice none 0 0)) (grown_setCells b (i64s (aloneL g.me)).toArray.toList 1 (w2.setCell ⟨b, 17, none⟩ (.slice none 0 0))))
  generalize (i64s (aloneL g.me)).toArray = A at *
  go_wp2_with (refine wpList_store_mid rfl 42 (.tmp 19) (.tmp 15) rfl b 1 A rfl rfl hth (by rw [hsz]; exact info42) ho ?_)
  go_ret
  refine ⟨_, rfl, ?_, ⟨HBL.out, World.ownsRow_nil _ _ _ _, HB.out.low, newB_ok HB.out.ok.me⟩, grown_trans (grown_any H2.out.2.2 _) HG.out⟩
  exact owns_kept H2.out.1 HG.out (fun g1 cur hh e => by
    injection e with e
    subst e
    have := H2.out.2.1.blk
    unfold Blk at this
    rw [this] at hh
    simp at hh)
end Go.Proofs.Ythfdoliojbhcjaa
