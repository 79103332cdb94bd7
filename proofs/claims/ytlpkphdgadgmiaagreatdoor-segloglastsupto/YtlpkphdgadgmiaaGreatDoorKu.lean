import Derived.Test.YtlpkphdgadgmiaaGreatDoorKs
namespace Go.Proofs.YtlpkphdgadgmiaaGreatDoor.W
open Go.RowKit Go.Maps Go.Shelf
set_option linter.unusedVariables false
set_option linter.unusedSimpArgs false
set_option maxRecDepth 100000

theorem has_is (s : LS) (n : Int) : (decide (s.i < n) && decide (n ≤ s.i + (s.es.length : Int))) = s.hasB n := rfl
set_option maxHeartbeats 4000000 in
theorem cutL_bad (Z G : Nat → Prop) (N db lb : Nat) (n : Int) (m : V.Mem) (p : Pl) (s : LS) (w : World) (h : DL w Z G N db m lb p s) (hout : p.out = false) (hb : s.hasB n = false) :
  Calls Tryz.prog 31 #[.pointer (some ⟨lb, 0, none⟩), .int .i64 n] w fun e w' => e = .returned (.int .i64 35) ∧ w.grownBy w' none := by
 have HM := hid_mk (madeL_ok G lb p s w h.log (by rw [h.dk]; rfl))
 have H := hid_mk h
 have HB := hid_mk hb
 clear h hb
 go_enter Tryz.func31, Tryz.ntmps31
 go_wp2_with fail
 refine HM.out.mono ?_
 rintro e w1 ⟨rfl, hg1⟩
 have G1 := hid_mk hg1
 have H1 := hid_mk (H.out.kept hg1)
 clear hg1 HM
 obtain ⟨c0, c1, c2, c3, c4, c5, c6, cz⟩ := log_cells H1.out.log
 rw [hout] at c5
 clear c0 c1 c2 c3 c4 c6 cz
 go_wp2_with fail
 clear c5
 obtain ⟨v2, hf2⟩ := takeE_facts H1.out.log
 refine (has_any lb 6 s.i s.t v2 s.es n w1 (hf2 w1 (grown_refl _ _)).1).mono ?_
 rintro e w2 ⟨rfl, hg2⟩
 rw [has_is, HB.out]
 have G2 := hid_mk (grown_trans G1.out hg2)
 clear hg2 hf2
 go_wp2_with fail
 go_ret
 exact ⟨rfl, G2.out⟩
set_option maxHeartbeats 8000000 in
theorem cutL_ok (Z G : Nat → Prop) (N db lb : Nat) (n : Nat) (m : V.Mem) (p : Pl) (s : LS) (w : World) (h : DL w Z G N db m lb p s) (hN : N + 4 < 1099511627776) (hp : p.num ≤ 99999999) (hps : p.size ≤ 1000000000000) (hzt : ∀ W, V.Keeps (fun k => Z k ∨ G k) w W → Pw W ∧ F.Tab W) (hout : p.out = false) (hn : n < 281474976710656) (hb : s.hasB n = true) :
  Calls Tryz.prog 31 #[.pointer (some ⟨lb, 0, none⟩), .int .i64 n] w fun e w' => ∃ r m' p', e = .returned (.int .i64 r) ∧ WriteSpec m p (cutB n) r m' p' ∧ AP Z G (N + 4) db lb w w' m' p' (if r = 0 then s.cutTo n else s) := by
 have HM := hid_mk (madeL_ok G lb p s w h.log (by rw [h.dk]; rfl))
 have H := hid_mk (And.intro h hzt)
 have HB := hid_mk hb
 clear h hb hzt
 go_enter Tryz.func31, Tryz.ntmps31
 go_wp2_with fail
 refine HM.out.mono ?_
 rintro e w1 ⟨rfl, hg1⟩
 have G1 := hid_mk hg1
 have H1 := hid_mk (H.out.1.kept hg1)
 clear hg1 HM
 obtain ⟨c0, c1, c2, c3, c4, c5, c6, cz⟩ := log_cells H1.out.log
 rw [hout] at c5
 clear c0 c1 c2 c3 c4 c6 cz
 go_wp2_with fail
 clear c5
 obtain ⟨v2, hf2⟩ := takeE_facts H1.out.log
 refine (has_any lb 6 s.i s.t v2 s.es n w1 (hf2 w1 (grown_refl _ _)).1).mono ?_
 rintro e w2 ⟨rfl, hg2⟩
 rw [has_is, HB.out]
 have G2 := hid_mk (grown_trans G1.out hg2)
 clear hg2 hf2 H1 G1
 go_upto_region 7 with fail
 refine wp_region_mix [(0, true), (1, true), (2, true), (3, true), (4, false), (5, false), (6, true)] (at0 w2 (fun W => True)) (by kernel_rfl) (by kernel_rfl) rfl (by kernel_rfl) (shut_at0 (fun m => trivial)) ⟨1, rfl⟩ ?_
 repeat (refine mix_rd1 rfl rfl (fun K hK => ?_); apply Exists.intro; refine ⟨fun W hW => ?_, ?_⟩; (go_simp; rfl); (go_simp; refine hK _ _ ?_; clear hK K))
 refine mix_call rfl rfl 77 #[.int .i64 n] (fun W => by go_simp) ?_
 rintro X ⟨m3, rfl⟩
 have G3 := hid_mk (grown_trans G2.out (grown_drewN w2 m3 none))
 refine (cutRecord_any n (w2.drewN m3) hn (H.out.2 _ (V.Keeps.of_none G3.out)).2).mono ?_
 rintro e w4 ⟨g4, k4, rfl, ho4, hg4⟩
 have hk4 : k4 = (cutB n).length := by
  obtain ⟨_, _, e⟩ := ho4.len
  cases e
  rfl
 have H4 := hid_mk (show Own w4 w.heap.size (.slice (some ⟨g4, 0, none⟩) k4 k4) (cutB n) ∧ w.grownBy w4 none from ⟨row_base ho4 G3.out.size, grown_trans G3.out hg4⟩)
 clear ho4 hg4 G3 hk4
 refine ⟨_, rfl, at0 w4 (fun W => True), ⟨0, rfl⟩, shut_at0 (fun m => trivial), fun _ h => h, ?_⟩
 go_simp
 refine mix_call rfl rfl 75 #[.pointer (some ⟨lb, 0, none⟩), .slice (some ⟨g4, 0, none⟩) k4 k4] (fun W => by go_simp) ?_
 rintro X ⟨m5, rfl⟩
 have G5 := hid_mk (grown_trans H4.out.2 (grown_drewN w4 m5 none))
 have hD5 := H.out.1.kept G5.out
 have hfr : ∀ k, w.heap.size ≤ k → ¬ (Z k ∨ G k) := fun k hk hh => by
  rcases hh with hh | hh
  ·have := H.out.1.zb k hh; omega
  ·have := H.out.1.gb k hh; omega
 refine (write_any Z G N db lb (.slice (some ⟨g4, 0, none⟩) k4 k4) (cutB n) m p s (w4.drewN m5) hD5 hN hp hps (fun W hk => (H.out.2 W ((V.Keeps.of_none G5.out).then hk)).1) (fun W hk => (show Own W w.heap.size (.slice (some ⟨g4, 0, none⟩) k4 k4) (cutB n) from V.rows_keeps (H4.out.1.kept (grown_drewN w4 m5 none) (.inl rfl)) hk (fun k e => hfr k (own_at H4.out.1 e).1)).byt) (by have := frm_len 2 (numB n); have := numB_le hn; unfold cutB; omega)).mono ?_
 rintro e w6 ⟨n6, m6, p6, rfl, hS6, hP6⟩
 have H6 := hid_mk (And.intro hS6 (And.intro hP6 (And.intro (hP6.dl hD5.apart hD5.gb) (show V.Keeps (fun k => Z k ∨ G k) w w6 from (V.Keeps.of_none G5.out).then hP6.kp))))
 have G5s := hid_mk G5.out.size
 clear hS6 hP6 hD5 hfr G5
 refine ⟨_, rfl, at0 w6 (fun W => True), ⟨0, rfl⟩, shut_at0 (fun m => trivial), fun _ h => h, ?_⟩
 go_simp
 repeat (refine mix_rd1 rfl rfl (fun K hK => ?_); apply Exists.intro; refine ⟨fun W hW => ?_, ?_⟩; (go_simp; rfl); (go_simp; refine hK _ _ ?_; clear hK K))
 refine mix_nil ?_
 rintro X ⟨m7, rfl⟩
 have H7 := hid_mk (show DL (w6.drewN m7) (fun k => (Z k ∨ (w4.drewN m5).heap.size ≤ k) ∧ k < w6.heap.size) G (N + 4) db m6 lb p6 s ∧ V.Keeps (fun k => Z k ∨ G k) w (w6.drewN m7) from ⟨H6.out.2.2.1.kept (grown_drewN _ m7 none), H6.out.2.2.2.then (V.Keeps.of_none (grown_drewN _ m7 none))⟩)
 have HS := hid_mk H6.out.1
 clear H6
 generalize w6.drewN m7 = w7 at *
 by_cases hn0 : n6 = 0
 ·subst hn0
  go_wp2_with fail
  refine (cutS_any G lb p6 s n w7 H7.out.1.log).mono ?_
  rintro e w8 ⟨rfl, hl8, hk8⟩
  rw [HB.out] at hl8 ⊢
  have H8 := hid_mk (show LogAt w8 G lb p6 (s.cutTo n) ∧ V.Keeps G w7 w8 from ⟨by simpa using hl8, hk8⟩)
  clear hl8 hk8
  go_wp2_with fail
  go_ret
  refine ⟨0, m6, p6, rfl, HS.out, (fun k => (Z k ∨ (w4.drewN m5).heap.size ≤ k) ∧ k < w6.heap.size), G, ?_, fun k hk => ?_, fun k hk => .inl hk, H7.out.2.then (H8.out.2.mono (fun k hk => .inr hk))⟩
  ·rw [if_pos rfl]
   exact ⟨H7.out.1.dsk.keeps H8.out.2 (fun k hk hg => H7.out.1.apart k hg hk), H8.out.1, H7.out.1.dk, H7.out.1.apart, fun k hk => Nat.lt_of_lt_of_le (H7.out.1.zb k hk) H8.out.2.size, fun k hk => Nat.lt_of_lt_of_le (H7.out.1.gb k hk) H8.out.2.size⟩
  ·exact (show (Z k ∨ (w4.drewN m5).heap.size ≤ k) ∧ k < w6.heap.size from hk).1.elim .inl (fun h => .inr (Nat.le_trans G5s.out h))
 ·have hq2 : (n6 != 0) = true := by simp [hn0]
  go_wp2_with fail
  go_ret
  refine ⟨n6, m6, p6, rfl, HS.out, _, G, by rw [if_neg hn0]; exact H7.out.1, fun k hk => ?_, fun k hk => .inl hk, H7.out.2⟩
  exact (show (Z k ∨ (w4.drewN m5).heap.size ≤ k) ∧ k < w6.heap.size from hk).1.elim .inl (fun h => .inr (Nat.le_trans G5s.out h))
set_option maxHeartbeats 4000000 in
theorem rebase_bad (Z G : Nat → Prop) (N db lb : Nat) (i t : Int) (m : V.Mem) (p : Pl) (s : LS) (w : World) (h : DL w Z G N db m lb p s) (hout : p.out = false) (he : rebErr s i t ≠ 0) :
  Calls Tryz.prog 32 #[.pointer (some ⟨lb, 0, none⟩), .int .i64 i, .int .i64 t] w fun e w' => e = .returned (.int .i64 (rebErr s i t)) ∧ w.grownBy w' none := by
 have HM := hid_mk (madeL_ok G lb p s w h.log (by rw [h.dk]; rfl))
 have H := hid_mk h
 clear h
 have hcase : (i < 1 ∧ rebErr s i t = 1) ∨ (¬ i < 1 ∧ 1099511627775 < i ∧ rebErr s i t = 1) ∨ (¬ i < 1 ∧ ¬ 1099511627775 < i ∧ t < 1 ∧ rebErr s i t = 1) ∨ (¬ i < 1 ∧ ¬ 1099511627775 < i ∧ ¬ t < 1 ∧ 1099511627776 ≤ t ∧ rebErr s i t = 1) ∨ (¬ i < 1 ∧ ¬ 1099511627775 < i ∧ ¬ t < 1 ∧ ¬ 1099511627776 ≤ t ∧ i ≤ s.i ∧ rebErr s i t = 36) := by
  unfold rebErr at he ⊢
  by_cases a : i < 1
  ·exact .inl ⟨a, if_pos (.inl a)⟩
  ·by_cases b : 1099511627775 < i
   ·exact .inr (.inl ⟨a, b, if_pos (.inr (.inl b))⟩)
   ·by_cases c : t < 1
    ·exact .inr (.inr (.inl ⟨a, b, c, if_pos (.inr (.inr (.inl c)))⟩))
    ·by_cases d : 1099511627776 ≤ t
     ·exact .inr (.inr (.inr (.inl ⟨a, b, c, d, if_pos (.inr (.inr (.inr d)))⟩)))
     ·have hn : ¬ (i < 1 ∨ 1099511627775 < i ∨ t < 1 ∨ 1099511627776 ≤ t) := by omega
      rw [if_neg hn] at he ⊢
      by_cases f : i ≤ s.i
      ·exact .inr (.inr (.inr (.inr ⟨a, b, c, d, f, if_pos f⟩)))
      ·rw [if_neg f] at he; exact absurd rfl he
 clear he
 go_enter Tryz.func32, Tryz.ntmps32
 go_wp2_with fail
 refine HM.out.mono ?_
 rintro e w1 ⟨rfl, hg1⟩
 have G1 := hid_mk hg1
 have H1 := hid_mk (H.out.kept hg1)
 clear hg1 HM
 obtain ⟨c0, c1, c2, c3, c4, c5, c6, cz⟩ := log_cells H1.out.log
 rw [hout] at c5
 clear c0 c1 c2 c3 c4 cz
 rcases hcase with ⟨a, e⟩ | ⟨a, b, e⟩ | ⟨a, b, c, e⟩ | ⟨a, b, c, d, e⟩ | ⟨a, b, c, d, f, e⟩
 all_goals
  have HE := hid_mk e
  clear e
  go_wp2_with fail
  go_ret
  exact ⟨by rw [HE.out]; rfl, G1.out⟩
end Go.Proofs.YtlpkphdgadgmiaaGreatDoor.W

namespace Go.Proofs.YtlpkphdgadgmiaaGreatDoor.W
open Go.RowKit Go.Maps Go.Shelf
set_option linter.unusedVariables false
set_option linter.unusedSimpArgs false
set_option maxRecDepth 100000

theorem bytes_ne {a b : List UInt8} (h : a ≠ b) : ((⟨a.toArray⟩ : ByteArray).toList == (⟨b.toArray⟩ : ByteArray).toList) = false := by
 rw [ByteArray.toList_eq, ByteArray.toList_eq]
 simpa using h

set_option maxHeartbeats 4000000 in
theorem same_gen (x y : Ent) (dv dv' : Value) (w : World) (h : Byt w dv x.data) (h' : Byt w dv' y.data) :
  Calls Tryz.prog 23 #[entV x dv, entV y dv'] w fun e w' => ∃ b : Bool, e = .returned (.bool b) ∧ (b = true ↔ x = y) ∧ w.grownBy w' none := by
 obtain ⟨av, cv, rfl⟩ := h.len
 obtain ⟨av', cv', rfl⟩ := h'.len
 have G : ∀ o o', w.grownBy ((w.alloc o).alloc o') none := fun o o' => grown_trans (World.grownBy_alloc _ _ _) (World.grownBy_alloc _ _ _)
 have t1 := fun o o' => (h.kept (G o o')).text
 have t2 := fun o o' => (h'.kept (G o o')).text
 have HG := hid_mk G
 clear h h' G
 obtain ⟨xt, xi, xk, xd⟩ := x
 obtain ⟨yt, yi, yk, yd⟩ := y
 unfold entV
 simp only at t1 t2 ⊢
 generalize xd.length = n1 at *
 generalize yd.length = n2 at *
 by_cases h1 : xt = yt
 ·subst h1
  by_cases h2 : xi = yi
  ·subst h2
   by_cases h3 : xk = yk
   ·subst h3
    by_cases h4 : xd = yd
    ·subst h4
     go_enter Tryz.func23, Tryz.ntmps23
     go_wp2
     go_ret
     exact ⟨true, rfl, by simp, HG.out _ _⟩
    ·have HD := hid_mk (show ¬ (⟨xt, xi, xk, xd⟩ : Ent) = ⟨xt, xi, xk, yd⟩ from fun e => h4 (by injection e))
     have hne2 := bytes_ne h4
     generalize (⟨xd.toArray⟩ : ByteArray) = s1 at *
     generalize (⟨yd.toArray⟩ : ByteArray) = s2 at *
     go_enter Tryz.func23, Tryz.ntmps23
     go_wp2
     go_ret
     exact ⟨false, rfl, ⟨(fun e => by cases e), fun e => absurd e HD.out⟩, HG.out _ _⟩
   ·have HD := hid_mk (show ¬ (⟨xt, xi, xk, xd⟩ : Ent) = ⟨xt, xi, yk, yd⟩ from fun e => h3 (by injection e))
    have hq : (xk == yk) = false := by simpa using h3
    go_enter Tryz.func23, Tryz.ntmps23
    go_wp2
    go_ret
    exact ⟨false, rfl, ⟨(fun e => by cases e), fun e => absurd e HD.out⟩, HG.out _ _⟩
  ·have HD := hid_mk (show ¬ (⟨xt, xi, xk, xd⟩ : Ent) = ⟨xt, yi, yk, yd⟩ from fun e => h2 (by injection e))
   have hq : (xi == yi) = false := by simpa using h2
   go_enter Tryz.func23, Tryz.ntmps23
   go_wp2
   go_ret
   exact ⟨false, rfl, ⟨(fun e => by cases e), fun e => absurd e HD.out⟩, HG.out _ _⟩
 ·have HD := hid_mk (show ¬ (⟨xt, xi, xk, xd⟩ : Ent) = ⟨yt, yi, yk, yd⟩ from fun e => h1 (by injection e))
  have hq : (xt == yt) = false := by simpa using h1
  go_enter Tryz.func23, Tryz.ntmps23
  go_wp2
  go_ret
  exact ⟨false, rfl, ⟨(fun e => by cases e), fun e => absurd e HD.out⟩, HG.out _ _⟩

set_option maxHeartbeats 8000000 in
theorem same18_any (G R : Nat → Prop) (lb rb : Nat) (p : Pl) (s u : LS) (w : World) (h : LogAt w G lb p s) (hd : p.dk.isSome = true) (hr : RG w R rb u) : Calls Tryz.prog 18 #[.pointer (some ⟨lb, 0, none⟩), .pointer (some ⟨rb, 0, none⟩)] w fun e w' => ∃ b : Bool, e = .returned (.bool b) ∧ (b = true ↔ s = u) ∧ w.grownBy w' none := by
 have H := hid_mk (And.intro h (And.intro hd hr))
 obtain ⟨ar, cr, hfr⟩ := hr.facts
 have HR := hid_mk hfr
 have hlo := hr.lo
 have hls := h.lo
 have hns := h.n
 have hn := hr.n
 clear h hd hr hfr
 go_enter Tryz.func18, Tryz.ntmps18
 go_wp2_with fail
 refine (base_ok G lb p s w H.out.1 H.out.2.1).mono ?_
 rintro e w1 ⟨rfl, hg1⟩
 have G1 := hid_mk hg1
 clear hg1
 obtain ⟨c0, c1, c2, _⟩ := (HR.out w1 G1.out).1.cells
 clear c0 c1
 go_wp2_with fail
 clear c2
 refine (entries_any G lb p s 0 ((u.es.length : Int) + 2) w1 (H.out.1.kept G1.out) H.out.2.1 (by omega) hls.1 (by omega)).mono ?_
 rintro e w2 ⟨v2, ps2, rfl, hp2, he2⟩
 have HP := hid_mk (And.intro hp2 he2)
 obtain ⟨a2, c2, e2⟩ := row_shape he2.row
 have G2 := hid_mk (grown_trans G1.out he2.gr)
 clear hp2 he2 G1
 subst e2
 obtain ⟨x0, x1, x2, _⟩ := (HR.out w2 G2.out).1.cells
 clear x2
 by_cases hi : s.i = u.i
 case neg =>
  have HN := hid_mk (show ¬ s = u from fun e => hi (by rw [e]))
  have hq : (s.i != u.i) = true := by simp [hi]
  go_wp2_with fail
  go_ret
  exact ⟨false, rfl, ⟨(fun e => by cases e), fun e => absurd e HN.out⟩, G2.out⟩
 have hq : (s.i != u.i) = false := by simp [hi]
 by_cases ht : s.t = u.t
 case neg =>
  have HN := hid_mk (show ¬ s = u from fun e => ht (by rw [e]))
  have hq2 : (s.t != u.t) = true := by simp [ht]
  go_wp2_with fail
  go_ret
  exact ⟨false, rfl, ⟨(fun e => by cases e), fun e => absurd e HN.out⟩, G2.out⟩
 have hq2 : (s.t != u.t) = false := by simp [ht]
 have HIT := hid_mk (And.intro hi ht)
 clear hi ht
 go_wp2_with fail
 clear x0 x1
 refine (lastL_ok G lb p s w2 (H.out.1.kept G2.out) H.out.2.1).mono ?_
 rintro e w3 ⟨rfl, hg3⟩
 have G23 := hid_mk hg3
 have G3 := hid_mk (grown_trans G2.out hg3)
 rw [show s.last = s.i + (s.es.length : Int) from rfl]
 clear hg3 G2
 go_wp2_with fail
 refine (rLast_any R rb u w3 (H.out.2.2.kept G3.out)).mono ?_
 rintro e w4 ⟨rfl, hg4⟩
 have G24 := hid_mk (grown_trans G23.out hg4)
 have G4 := hid_mk (grown_trans G3.out hg4)
 clear hg4 G3 G23
 by_cases hlen : s.es.length = u.es.length
 case neg =>
  have HN := hid_mk (show ¬ s = u from fun e => hlen (by rw [e]))
  have hq3 : (s.i + (s.es.length : Int) != u.i + (u.es.length : Int)) = true := by
   have := HIT.out.1
   simp
   omega
  go_wp2_with fail
  go_ret
  exact ⟨false, rfl, ⟨(fun e => by cases e), fun e => absurd e HN.out⟩, G4.out⟩
 have hq3 : (s.i + (s.es.length : Int) != u.i + (u.es.length : Int)) = false := by
  have := HIT.out.1
  simp
  omega
 have hq4 : (s.i + (u.es.length : Int) != u.i + (u.es.length : Int)) = false := by
  have := HIT.out.1
  simp
  omega
 have hl2 : ps2.length = u.es.length := by
  have := congrArg List.length HP.out.1
  rw [List.length_map, List.length_take] at this
  omega
 have HE4 := hid_mk (show EntsR w4 (.slice a2 ps2.length c2) s.es from by
  have h1 := (HP.out.2.reads).kept G24.out
  rw [HP.out.1, List.take_of_length_le (by omega)] at h1
  exact h1)
 rw [hl2] at HE4 ⊢
 clear HP hl2 G24
 obtain ⟨x0, x1, x2, _⟩ := (HR.out w4 G4.out).1.cells
 clear x0 x1
 go_wp2_with fail
 clear x2 hq hq2 hq3 hq4
 go_loopw [8] (fun iv W => ∃ k : Nat, k ≤ u.es.length ∧ iv = .int .i64 k ∧ Hid (w4.grownBy W none ∧ ∀ j, j < k → s.es[j]? = u.es[j]?)) (fun iv _ => u.es.length - (intOf iv).toNat)
 case atStart => exact ⟨0, Nat.zero_le _, rfl, hid_mk ⟨grown_refl _ _, fun j hj => by omega⟩⟩
 case round =>
  obtain ⟨k, hk, rfl, HK⟩ := hrel
  rename World => w5
  by_cases hlt : k < u.es.length
  ·obtain ⟨x, hx⟩ : ∃ x, s.es[k]? = some x := ⟨s.es[k], by simp⟩
   obtain ⟨y, hy⟩ : ∃ y, u.es[k]? = some y := ⟨u.es[k], by simp⟩
   obtain ⟨b1, o1, ha1, hc1, hs1⟩ := (HE4.out.kept HK.out.1).at (by omega)
   obtain ⟨d1, p0, p1, p2, p3, hb1, hl1⟩ := hs1 k x hx
   have HB2 := (HR.out w5 (grown_trans G4.out HK.out.1))
   obtain ⟨b2, o2, ha2, hc2, hs2⟩ := HB2.2.at (by omega)
   obtain ⟨d2, q0, q1, q2, q3, hb2, hl2⟩ := hs2 k y hy
   subst ha1
   subst ha2
   have r2 := HB2.1.cells.2.2.1
   have HXY := hid_mk (And.intro hx hy)
   have HQ := hid_mk (show ∀ W, w5.grownBy W none → (W.cell? ⟨b1, o1 + k * 4, none⟩ = some (.int .i64 x.term) ∧ W.cell? ⟨b1, o1 + k * 4 + 1, none⟩ = some (.int .i64 x.index) ∧ W.cell? ⟨b1, o1 + k * 4 + 2, none⟩ = some (.int .i64 x.kind) ∧ W.cell? ⟨b1, o1 + k * 4 + 3, none⟩ = some d1) ∧ (W.cell? ⟨b2, o2 + k * 4, none⟩ = some (.int .i64 y.term) ∧ W.cell? ⟨b2, o2 + k * 4 + 1, none⟩ = some (.int .i64 y.index) ∧ W.cell? ⟨b2, o2 + k * 4 + 2, none⟩ = some (.int .i64 y.kind) ∧ W.cell? ⟨b2, o2 + k * 4 + 3, none⟩ = some d2) ∧ W.cell? ⟨rb, 2, none⟩ = some (.slice (some ⟨b2, o2, none⟩) u.es.length cr) from fun W hW => ⟨⟨hW.cell p0 (by simp), hW.cell p1 (by simp), hW.cell p2 (by simp), hW.cell p3 (by simp)⟩, ⟨hW.cell q0 (by simp), hW.cell q1 (by simp), hW.cell q2 (by simp), hW.cell q3 (by simp)⟩, hW.cell r2 (by simp)⟩)
   have HB := hid_mk (And.intro hb1 hb2)
   clear hx hy hs1 hs2 hb1 hb2 HB2 p0 p1 p2 p3 q0 q1 q2 q3 r2
   go_upto_region 8 with fail
   refine wp_region_mix [(0, true), (1, true), (2, true), (3, true), (4, true), (5, true), (6, true), (7, true), (8, true), (9, true), (10, true), (11, false), (12, true)] (at0 w5 (fun W => w5.grownBy W none)) (by kernel_rfl) (by kernel_rfl) rfl (by kernel_rfl) (shut_at0 (fun m => grown_drewN _ m none)) ⟨1, rfl⟩ ?_
   repeat (refine mix_rd1 rfl rfl (fun K hK => ?_); apply Exists.intro; refine ⟨fun W hW => ?_, ?_⟩; (obtain ⟨⟨p0, p1, p2, p3⟩, ⟨q0, q1, q2, q3⟩, r2⟩ := HQ.out W hW; go_simp; rfl); (go_simp; refine hK _ _ ?_; clear hK K))
   refine mix_call rfl rfl 23 #[entV x d1, entV y d2] (fun W => by unfold entV; go_simp) ?_
   rintro X ⟨m1, rfl⟩
   have HG1 := hid_mk (grown_drewN w5 m1 none)
   refine (same_gen x y d1 d2 (w5.drewN m1) (HB.out.1.kept HG1.out) (HB.out.2.kept HG1.out)).mono ?_
   rintro e w6 ⟨bq, rfl, hbq, hg6⟩
   have G6 := hid_mk (show w5.grownBy w6 none from grown_trans HG1.out hg6)
   clear hg6 HG1
   have HBQ := hid_mk hbq
   clear hbq
   refine ⟨_, rfl, at0 w6 (fun W => w5.grownBy W none), ⟨0, rfl⟩, shut_at0 (all_kept G6.out), fun _ h => h, ?_⟩
   go_simp
   repeat (refine mix_rd1 rfl rfl (fun K hK => ?_); apply Exists.intro; refine ⟨fun W hW => ?_, ?_⟩; (go_simp; rfl); (go_simp; refine hK _ _ ?_; clear hK K))
   refine mix_nil ?_
   rintro X ⟨m7, rfl⟩
   have G7 := hid_mk (grown_trans HK.out.1 (grown_trans G6.out (grown_drewN w6 m7 none)))
   clear G6
   generalize w6.drewN m7 = w7 at *
   cases bq with
   | true =>
    have hxy : x = y := HBQ.out.1 rfl
    have HN := hid_mk (show w4.grownBy w7 none ∧ ∀ j, j < k + 1 → s.es[j]? = u.es[j]? from ⟨G7.out, fun j hj => by
     by_cases e : j = k
     ·rw [e, HXY.out.1, HXY.out.2, hxy]
     ·exact HK.out.2 j (by omega)⟩)
    clear hxy HK
    go_wp2_with fail
    go_roundw
    case rel => exact ⟨k + 1, by omega, by go_num, HN⟩
    case measure => simp [intOf]; omega
   | false =>
    have HN := hid_mk (show ¬ s = u from fun e => by
     have h1 := HXY.out.1
     rw [e, HXY.out.2] at h1
     have : x = y := (Option.some.inj h1).symm
     have h2 := HBQ.out.2 this
     cases h2)
    clear HK
    go_wp2_with fail
    go_ret
    exact ⟨false, rfl, ⟨(fun e => by cases e), fun e => absurd e HN.out⟩, grown_trans G4.out G7.out⟩
  ·obtain rfl : k = u.es.length := by omega
   have HN := hid_mk (show s = u from by
    have h1 : s.es = u.es := by
     apply List.ext_getElem?
     intro j
     by_cases hj : j < u.es.length
     ·exact HK.out.2 j hj
     ·rw [List.getElem?_eq_none (by omega), List.getElem?_eq_none (by omega)]
    obtain ⟨si, st, se⟩ := s
    obtain ⟨ui, ut, ue⟩ := u
    have := HIT.out
    simp only at this h1
    rw [this.1, this.2, h1])
   have G5 := hid_mk (grown_trans G4.out HK.out.1)
   clear HK hk hlt
   go_wp2_with fail
   go_ret
   exact ⟨true, rfl, ⟨fun _ => HN.out, fun _ => rfl⟩, G5.out⟩
end Go.Proofs.YtlpkphdgadgmiaaGreatDoor.W

namespace Go.Proofs.YtlpkphdgadgmiaaGreatDoor.W
open Go.RowKit Go.Maps Go.Shelf
set_option linter.unusedVariables false
set_option linter.unusedSimpArgs false
set_option maxRecDepth 100000

def Src (W : World) (v : Value) (ps : List (Ent × Value)) : Prop := (v = .slice none 0 0 ∧ ps = []) ∨ ∃ ad c, v = .slice (some ad) ps.length c ∧ ∀ j u, (ps.flatMap entCells)[j]? = some u → W.cell? (ad.add j) = some u
theorem Src.kept {W W' : World} {v : Value} {ps : List (Ent × Value)} (h : Src W v ps) (hg : W.grownBy W' none) : Src W' v ps := by
 rcases h with h | ⟨ad, c, e, hc⟩
 ·exact .inl h
 ·exact .inr ⟨ad, c, e, fun j u hj => hg.cell (hc j u hj) (by simp)⟩
theorem row_src {W : World} {B : Nat} {v : Value} {ps : List (Ent × Value)} (h : W.ownsRow B 51 4 v ps.length (ps.flatMap entCells)) : Src W v ps := by
 rcases h.2 with ⟨e, h0⟩ | ⟨g, cap, cur, e, _, hg, _⟩
 ·exact .inl ⟨e, List.length_eq_zero_iff.1 h0⟩
 ·refine .inr ⟨⟨g, 0, none⟩, cap, e, fun j u hj => ?_⟩
  have hj' : j < ps.length * 4 := by have := (List.getElem?_eq_some_iff.1 hj).1; rw [entCells_len] at this; exact this
  rw [e] at h
  rw [addr_add, Nat.zero_add, h.cellAt j hj']
  exact hj
theorem mix_appS {ops : Array Oper} {Q : Act → Cl → Prop} {act : Act} {all : World → Prop} {i : Nat} {rest : List (Nat × Bool)} {o : Oper} {w X : World} {G : Nat → Prop} {v sv : Value} {ps p2 : List (Ent × Value)} (hop0 : ops[i]? = some o) (hw : Region.wanted o (yielded ops act.tmps) = true) (s y : Operand)
  (hop : o.op = .call { callee := .builtin .append, args := #[s, y], argTypes := #[30, 30] }) (hs : act.eval s = v) (hy : act.eval y = sv)
  (h : EX w X G v ps) (hc : Src X sv p2) (ho : ∀ q ∈ p2, Own X 0 q.2 q.1.data ∧ q.1.data.length ≤ 140737488355328) (hoG : ∀ q ∈ p2, ∀ k, q.2.ownBlock = some k → G k ∨ w.heap.size ≤ k) (hl : ps.length + p2.length ≤ 1000000000000)
  (hK : ∀ a' c' X' W', (X.grownBy X' none ∧ EX w W' G (.slice a' (ps.length + p2.length) c') (ps ++ p2) ∧ X'.grownBy W' v.ownBlock) → Behind (at0 X all) (wpMix Tryz.prog ops Q rest) (act.put o.dst (.slice a' (ps.length + p2.length) c')) W') :
  wpMix Tryz.prog ops Q ((i, false) :: rest) act (at0 X all) := by
 rcases hc with ⟨e, rfl⟩ | ⟨ad, c, e, hcc⟩
 ·refine mix_do hop0 hw ?_
  rintro W ⟨m, rfl⟩
  obtain ⟨i0, hi, hz0, hz1, hz2⟩ := info_parts info47
  have hE := h.kept (grown_drewN X m none)
  have hrun := run_append_owned_none (P := Tryz.prog) (X.drewN m) w.heap.size 30 o.type 51 i0 4 Tryz.underlying30 hi v ps.length (ps.flatMap entCells) hE.row
  obtain ⟨a', c', rfl⟩ := row_shape hE.row
  refine ⟨.slice a' ps.length c', X.drewN m, ?_, ?_⟩
  ·rw [e] at hy
   simp [execOp, hop, resolve, invoke, builtin, hs, hy, hrun, Result.andThen]
  ·have := hK a' c' (X.drewN m) (X.drewN m) ⟨grown_drewN X m none, by simpa using hE, grown_refl _ _⟩
   simpa using this
 ·exact mix_appX (c2 := c) hop0 hw s y hop hs (by rw [hy, e]) h hcc ho hoG hl hK
theorem ex_new (w W : World) (G : Nat → Prop) (hg : w.grownBy W none) : EX w (W.alloc (.cells #[] 51)) G (.slice (some ⟨W.heap.size, 0, none⟩) 0 0) [] := by
 refine ⟨?_, fun p hp => (by cases hp), fun p hp => (by cases hp), grown_trans hg (World.grownBy_alloc _ _ none)⟩
 exact ⟨rfl, .inr ⟨W.heap.size, 0, #[], rfl, hg.size, heap_alloc_new _ _, Nat.le_refl _, by unfold maxLen; omega, rfl, rfl⟩⟩
theorem EX.take {w W : World} {G : Nat → Prop} {g n c : Nat} {ps : List (Ent × Value)} (h : EX w W G (.slice (some ⟨g, 0, none⟩) n c) ps) (k : Nat) (hk : k ≤ ps.length) : EX w W G (.slice (some ⟨g, 0, none⟩) k c) (ps.take k) := by
 refine ⟨?_, fun p hp => h.own p (List.mem_of_mem_take hp), fun p hp => h.ownG p (List.mem_of_mem_take hp), h.gr⟩
 rcases h.row.2 with ⟨e, _⟩ | ⟨g', cap, cur, e, hb, hg, r1, r2, r3, r4⟩
 ·cases e
 ·cases e
  have hl : (ps.take k).length = k := by rw [List.length_take]; omega
  have e2 : (ps.take k).flatMap entCells = (ps.flatMap entCells).take (k * 4) := by
   have h0 : ps.flatMap entCells = (ps.take k).flatMap entCells ++ (ps.drop k).flatMap entCells := by rw [← List.flatMap_append, List.take_append_drop]
   have h1 := entCells_len (ps.take k)
   rw [hl] at h1
   rw [h0, List.take_append_of_le_length (by omega)]
   exact (List.take_of_length_le (by omega)).symm
  refine ⟨by rw [entCells_len], .inr ⟨g, c, cur, by rw [hl], hb, hg, by rw [hl]; omega, r2, r3, ?_⟩⟩
  rw [hl, e2, ← r4, List.take_take]
  congr 1
  omega

set_option maxHeartbeats 8000000 in
theorem copy_any (G : Nat → Prop) (rb : Nat) (s : LS) (w : World) (h : RG w G rb s) : Calls Tryz.prog 35 #[.pointer (some ⟨rb, 0, none⟩)] w fun e w' => ∃ rb', e = .returned (.pointer (some ⟨rb', 0, none⟩)) ∧ RL w w' G rb' s := by
 obtain ⟨v, ps, b1, b2, b3⟩ := h.blk
 have hlen := hid_mk (show ps.length = s.es.length from by rw [← b3, List.length_map])
 have hn := h.n
 have hlo := h.lo
 have HB := hid_mk (And.intro b1 (And.intro b2 b3))
 have HC := hid_mk (show ∀ W, w.grownBy W none → W.cell? ⟨rb, 0, none⟩ = some (.int .i64 s.i) ∧ W.cell? ⟨rb, 1, none⟩ = some (.int .i64 s.t) ∧ W.cell? ⟨rb, 2, none⟩ = some v from fun W hW => by
  obtain ⟨c0, c1, c2, _⟩ := RB32.cells b1
  exact ⟨hW.cell c0 (by simp), hW.cell c1 (by simp), hW.cell c2 (by simp)⟩)
 obtain ⟨av, cv, hv⟩ := row_shape b2.row
 subst hv
 clear h b1 b2 b3
 go_enter Tryz.func35, Tryz.ntmps35
 go_upto_region 1 with fail
 refine wp_region_mix [(0, true), (1, true), (2, true), (3, true), (4, true), (5, true), (6, true), (7, true), (9, true), (10, true), (11, true), (12, true), (8, false), (13, false), (14, true), (15, false), (16, true)] (at0 w (fun W => w.grownBy W none)) (by kernel_rfl) (by kernel_rfl) rfl (by kernel_rfl) (shut_at0 (fun m => grown_drewN _ m none)) ⟨1, rfl⟩ ?_
 repeat (refine mix_rd1 rfl rfl (fun K hK => ?_); apply Exists.intro; refine ⟨fun W hW => ?_, ?_⟩; (obtain ⟨c0, c1, c2⟩ := HC.out W hW; go_simp; rfl); (go_simp; refine hK _ _ ?_; clear hK K))
 refine mix_do rfl rfl ?_
 rintro X ⟨m1, rfl⟩
 have H1 := hid_mk (show EX w ((w.drewN m1).alloc (.cells #[] 51)) G (.slice (some ⟨w.heap.size, 0, none⟩) 0 0) [] from ex_new w (w.drewN m1) G (grown_drewN w m1 none))
 refine ⟨.slice (some ⟨w.heap.size, 0, none⟩) 0 0, (w.drewN m1).alloc (.cells #[] 51), by go_simp, at0 ((w.drewN m1).alloc (.cells #[] 51)) (fun W => w.grownBy W none), ⟨0, rfl⟩, shut_at0 (all_kept H1.out.gr), fun _ h => h, ?_⟩
 generalize (w.drewN m1).alloc (.cells #[] 51) = w1 at *
 go_simp
 refine mix_appS (w := w) (G := G) (ps := []) (p2 := ps) rfl rfl (.tmp 11) (.tmp 15) rfl rfl rfl H1.out ((row_src HB.out.2.1.row).kept H1.out.gr) (fun q hq => ⟨(HB.out.2.1.own q hq).1.kept H1.out.gr (.inl rfl), (HB.out.2.1.own q hq).2⟩) (fun q hq k e => .inl (HB.out.2.1.ownG q hq k e)) (by have := hlen.out; simp; omega) ?_
 rintro a2 c2 X2 w2 ⟨_, he2, _⟩
 simp only [List.length_nil, Nat.zero_add, List.nil_append] at he2 ⊢
 have H2 := hid_mk he2
 clear he2 H1
 refine ⟨at0 w2 (fun W => w.grownBy W none), ⟨0, rfl⟩, shut_at0 (all_kept H2.out.gr), fun _ h => h, ?_⟩
 go_simp
 repeat (refine mix_rd1 rfl rfl (fun K hK => ?_); apply Exists.intro; refine ⟨fun W hW => ?_, ?_⟩; (go_simp; rfl); (go_simp; refine hK _ _ ?_; clear hK K))
 refine mix_do rfl rfl ?_
 rintro X ⟨m3, rfl⟩
 have H3 := hid_mk (show RL w ((w2.drewN m3).alloc (.cells #[.int .i64 s.i, .int .i64 s.t, .slice a2 ps.length c2] 32)) G w2.heap.size s from ⟨⟨_, ps, heap_alloc_new (w2.drewN m3) _, (H2.out.kept (grown_drewN w2 m3 none)).kept (World.grownBy_alloc _ _ none), HB.out.2.2⟩, H2.out.gr.size, hlo, hn⟩)
 refine ⟨.pointer (some ⟨w2.heap.size, 0, none⟩), (w2.drewN m3).alloc (.cells #[.int .i64 s.i, .int .i64 s.t, .slice a2 ps.length c2] 32), by go_simp, at0 ((w2.drewN m3).alloc (.cells #[.int .i64 s.i, .int .i64 s.t, .slice a2 ps.length c2] 32)) (fun W => w.grownBy W none), ⟨0, rfl⟩, shut_at0 (all_kept H3.out.gr), fun _ h => h, ?_⟩
 generalize (w2.drewN m3).alloc (.cells _ 32) = w3 at *
 go_simp
 repeat (refine mix_rd1 rfl rfl (fun K hK => ?_); apply Exists.intro; refine ⟨fun W hW => ?_, ?_⟩; (go_simp; rfl); (go_simp; refine hK _ _ ?_; clear hK K))
 refine mix_nil ?_
 rintro X ⟨m4, rfl⟩
 go_wp2_with fail
 go_ret
 exact ⟨_, rfl, H3.out.kept (grown_drewN _ m4 none)⟩

def cutErr (s : LS) (n : Int) : Int := if s.hasB n = true then 0 else 35
def LS.cutS (s : LS) (n : Int) : LS := if s.hasB n = true then s.cutTo n else s
theorem cutE_no {s : LS} {n : Int} (h : s.hasB n = false) : cutErr s n = 35 ∧ s.cutS n = s := by unfold cutErr LS.cutS; rw [h]; exact ⟨rfl, rfl⟩
theorem cutE_yes {s : LS} {n : Int} (h : s.hasB n = true) : cutErr s n = 0 ∧ s.cutS n = s.cutTo n := by unfold cutErr LS.cutS; rw [h]; exact ⟨rfl, rfl⟩
theorem cut_es (s : LS) (n : Int) (hi : 0 ≤ s.i) (hb : s.hasB n = true) : ∃ k : Nat, n - s.i - 1 = (k : Int) ∧ k < s.es.length ∧ s.cutTo n = ⟨s.i, s.t, s.es.take k⟩ := by
 unfold LS.hasB at hb
 simp only [Bool.and_eq_true, decide_eq_true_iff] at hb
 refine ⟨(n - s.i - 1).toNat, by omega, by omega, rfl⟩
set_option maxHeartbeats 8000000 in
theorem rCut_any (w0 : World) (G : Nat → Prop) (rb : Nat) (s : LS) (n : Int) (w : World) (h : RL w0 w G rb s) :
  Calls Tryz.prog 58 #[.pointer (some ⟨rb, 0, none⟩), .int .i64 n] w fun e w' => e = .returned (.int .i64 (cutErr s n)) ∧ RL w0 w' G rb (s.cutS n) := by
 have H := hid_mk h
 obtain ⟨v, ps, b1, b2, b3⟩ := h.blk
 have hlen : ps.length = s.es.length := by rw [← b3, List.length_map]
 have hn := h.n
 have hlo := h.i0
 obtain ⟨c0, c1, c2, _⟩ := RB32.cells b1
 have HB := hid_mk (And.intro b1 (And.intro b2 b3))
 clear h b1 b3 c1
 by_cases h1 : n ≤ s.i
 ·have HF := hid_mk (show s.hasB n = false from by unfold LS.hasB; rw [decide_eq_false (by omega)]; rfl)
  go_enter Tryz.func58, Tryz.ntmps58
  go_wp2_with fail
  go_ret
  rw [(cutE_no HF.out).1, (cutE_no HF.out).2]
  exact ⟨rfl, H.out⟩
 have h1' : ¬ n ≤ s.i := h1
 go_enter Tryz.func58, Tryz.ntmps58
 go_wp2_with fail
 refine (rLast_any _ rb s w H.out.rg).mono ?_
 rintro e w1 ⟨rfl, hg1⟩
 have G1 := hid_mk hg1
 clear hg1 c0 c2
 by_cases h2 : s.i + (s.es.length : Int) < n
 ·have HF := hid_mk (show s.hasB n = false from by unfold LS.hasB; rw [decide_eq_false (show ¬ n ≤ s.i + (s.es.length : Int) by omega)]; simp)
  go_wp2_with fail
  go_ret
  rw [(cutE_no HF.out).1, (cutE_no HF.out).2]
  exact ⟨rfl, H.out.kept G1.out⟩
 have h2' : ¬ s.i + (s.es.length : Int) < n := h2
 have hT : s.hasB n = true := by unfold LS.hasB; rw [decide_eq_true (by omega), decide_eq_true (by omega)]; rfl
 obtain ⟨k, hk1, hk2, hk3⟩ := cut_es s n hlo.1 hT
 have HT := hid_mk (And.intro hT hk3)
 obtain ⟨g, cap, hv, hcap, hcm⟩ : ∃ g cap, v = .slice (some ⟨g, 0, none⟩) s.es.length cap ∧ s.es.length ≤ cap ∧ cap ≤ 9223372036854775807 := by
  rcases b2.row.2 with ⟨_, h0⟩ | ⟨g, cap, cur, e, _, hg, r1, r2, _⟩
  ·omega
  ·rw [hlen] at e r1
   exact ⟨g, cap, e, r1, by unfold maxLen at r2; omega⟩
 subst hv
 have HC := hid_mk (show ∀ W, w1.grownBy W none → RB32 W rb s (.slice (some ⟨g, 0, none⟩) s.es.length cap) from fun W hW => V.Blk.kept (V.Blk.kept HB.out.1 G1.out (by simp)) hW (by simp))
 clear b2 hT hk3
 have ek : n - s.i - 1 = (k : Int) := hk1
 have ek2 : n - s.i = (k : Int) + 1 := by omega
 have ek3 : (k : Int) + 1 - 1 = (k : Int) := by omega
 have ew1 : IntKind.i64.wrap (n - s.i) = n - s.i := by rw [IntKind.wrap_i64]; omega
 have ew2 : IntKind.i64.wrap (n - s.i - 1) = n - s.i - 1 := by rw [IntKind.wrap_i64]; omega
 have ew3 : IntKind.i64.wrap ((k : Int) + 1) = (k : Int) + 1 := by rw [IntKind.wrap_i64]; omega
 have ew4 : IntKind.i64.wrap (k : Int) = (k : Int) := by rw [IntKind.wrap_i64]; omega
 have hk0 : (0 : Int) ≤ (k : Int) := by omega
 have hkc : k ≤ cap := by omega
 go_upto_region 3 with fail
 refine wp_region_mixL [(0, true), (1, true), (2, true), (3, true), (4, true), (5, true), (6, true), (7, true), (8, true), (9, true), (10, true), (11, true), (12, true), (13, true), (14, true)] 15 (at0 w1 (fun W => w1.grownBy W none)) (by kernel_rfl) (by kernel_rfl) rfl (by kernel_rfl) rfl (by kernel_rfl) (shut_at0 (fun m => grown_drewN _ m none)) ⟨1, rfl⟩ ?_
 repeat (refine mix_rd1 rfl rfl (fun K hK => ?_); apply Exists.intro; refine ⟨fun W hW => ?_, ?_⟩; (obtain ⟨c0, c1, c2, _⟩ := (HC.out W hW).cells; go_simp; rfl); (go_simp; refine hK _ _ ?_; clear hK K))
 refine mix_nil ?_
 first | refine ⟨rfl, ?_⟩ | skip
 rintro X ⟨m2, rfl⟩
 have G2 := hid_mk (grown_drewN w1 m2 none)
 have HE2 := hid_mk (show RB32 (w1.drewN m2) rb s (.slice (some ⟨g, 0, none⟩) s.es.length cap) ∧ EX w0 (w1.drewN m2) G (.slice (some ⟨g, 0, none⟩) s.es.length cap) ps from ⟨HC.out _ G2.out, (HB.out.2.1.kept G1.out).kept G2.out⟩)
 generalize w1.drewN m2 = w2 at *
 obtain ⟨c0, c1, c2, cz⟩ := HE2.out.1.cells
 have cz2 := cz 2
 refine ⟨w2.setCell ⟨rb, 2, none⟩ (.slice (some ⟨g, 0, none⟩) k cap), by go_simp, ?_⟩
 have H3 := hid_mk (show RL w0 (w2.setCell ⟨rb, 2, none⟩ (.slice (some ⟨g, 0, none⟩) k cap)) G rb (s.cutTo n) from by
  rw [HT.out.2]
  exact RL.next HE2.out.1 (HE2.out.2.take k (by omega)) (by show (ps.take k).map (·.1) = s.es.take k; rw [List.map_take, HB.out.2.2]) rfl rfl H.out.lo hlo (by show (s.es.take k).length ≤ _; rw [List.length_take]; omega))
 clear c0 c1 c2 cz cz2
 generalize w2.setCell ⟨rb, 2, none⟩ _ = w3 at *
 go_simp
 go_wp2_with fail
 go_ret
 rw [(cutE_yes HT.out.1).1, (cutE_yes HT.out.1).2]
 exact ⟨rfl, H3.out⟩

def LS.rebS (s : LS) (i t : Int) : LS := if rebErr s i t = 0 then s.rebase i t else s
theorem reb_no {s : LS} {i t : Int} (h : rebErr s i t ≠ 0) : s.rebS i t = s := if_neg h
theorem reb_yes {s : LS} {i t : Int} (h : rebErr s i t = 0) : s.rebS i t = s.rebase i t := if_pos h
theorem RB32.setI {W : World} {rb : Nat} {s : LS} {v : Value} (h : RB32 W rb s v) (i : Int) : RB32 (W.setCell ⟨rb, 0, none⟩ (.int .i64 i)) rb ⟨i, s.t, s.es⟩ v := by
 unfold RB32 V.Blk at *
 simp [World.setCell, Array.getElem?_modify, h]
theorem RB32.setT {W : World} {rb : Nat} {s : LS} {v : Value} (h : RB32 W rb s v) (t : Int) : RB32 (W.setCell ⟨rb, 1, none⟩ (.int .i64 t)) rb ⟨s.i, t, s.es⟩ v := by
 unfold RB32 V.Blk at *
 simp [World.setCell, Array.getElem?_modify, h]
theorem src_drop {W : World} {B g n c : Nat} {ps : List (Ent × Value)} (h : W.ownsRow B 51 4 (.slice (some ⟨g, 0, none⟩) n c) ps.length (ps.flatMap entCells)) (hn : n = ps.length) (k : Nat) (hk : k ≤ ps.length) (c' : Nat) (ad : Addr) (had : ad = ⟨g, k * 4, none⟩ ∨ k = ps.length) : Src W (.slice (some ad) (ps.length - k) c') (ps.drop k) := by
 subst hn
 refine .inr ⟨ad, c', by rw [List.length_drop], fun j u hj => ?_⟩
 have hl := entCells_len (ps.drop k)
 rw [List.length_drop] at hl
 have hj' : j < (ps.length - k) * 4 := by have := (List.getElem?_eq_some_iff.1 hj).1; omega
 rcases had with rfl | e
 ·rw [addr_add, h.cellAt (k * 4 + j) (by omega)]
  have h0 : ps.flatMap entCells = (ps.take k).flatMap entCells ++ (ps.drop k).flatMap entCells := by rw [← List.flatMap_append, List.take_append_drop]
  have h1 := entCells_len (ps.take k)
  rw [List.length_take, Nat.min_eq_left hk] at h1
  rw [h0, List.getElem?_append_right (by omega), h1, Nat.add_sub_cancel_left]
  exact hj
 ·omega
end Go.Proofs.YtlpkphdgadgmiaaGreatDoor.W

namespace Go.Proofs.YtlpkphdgadgmiaaGreatDoor.W
open Go.RowKit Go.Maps Go.Shelf
set_option linter.unusedVariables false
set_option linter.unusedSimpArgs false
set_option maxRecDepth 100000

theorem RL.putI {w W : World} {G : Nat → Prop} {rb : Nat} {s : LS} (h : RL w W G rb s) (i : Int) (hi : 0 ≤ i ∧ i < 281474976710656) : RL w (W.setCell ⟨rb, 0, none⟩ (.int .i64 i)) G rb ⟨i, s.t, s.es⟩ := by
 obtain ⟨v, ps, h1, h2, h3⟩ := h.blk
 exact ⟨⟨v, ps, h1.setI i, h2.but h1 (by decide) (by decide) h.lo (grown_setCell _ _ _ _), h3⟩, h.lo, hi, h.n⟩
theorem RL.putT {w W : World} {G : Nat → Prop} {rb : Nat} {s : LS} (h : RL w W G rb s) (t : Int) : RL w (W.setCell ⟨rb, 1, none⟩ (.int .i64 t)) G rb ⟨s.i, t, s.es⟩ := by
 obtain ⟨v, ps, h1, h2, h3⟩ := h.blk
 exact ⟨⟨v, ps, h1.setT t, h2.but h1 (by decide) (by decide) h.lo (grown_setCell _ _ _ _), h3⟩, h.lo, h.i0, h.n⟩
theorem RL.cells {w W : World} {G : Nat → Prop} {rb : Nat} {s : LS} (h : RL w W G rb s) : W.cell? ⟨rb, 0, none⟩ = some (.int .i64 s.i) ∧ W.cell? ⟨rb, 1, none⟩ = some (.int .i64 s.t) ∧ (∃ v, W.cell? ⟨rb, 2, none⟩ = some v) ∧ ∀ j, W.frozen? ⟨rb, j, none⟩ = false := by
 obtain ⟨v, ps, h1, h2, h3⟩ := h.blk
 obtain ⟨c0, c1, c2, cz⟩ := h1.cells
 exact ⟨c0, c1, ⟨v, c2⟩, cz⟩
theorem RL.nilL {w W : World} {G : Nat → Prop} {rb : Nat} {s : LS} (h : RL w W G rb s) : RL w (W.setCell ⟨rb, 2, none⟩ (.slice none 0 0)) G rb ⟨s.i, s.t, []⟩ := by
 obtain ⟨v, ps, h1, h2, h3⟩ := h.blk
 exact RL.next (s' := ⟨s.i, s.t, []⟩) (ps := []) h1 ⟨World.ownsRow_nil _ _ _ _, fun p hp => (by cases hp), fun p hp => (by cases hp), h2.gr⟩ rfl rfl rfl h.lo h.i0 (by simp)
theorem reb_has {s : LS} {i t : Int} (h : (s.hasB i && decide (s.termAt i = t)) = true) : s.rebase i t = ⟨i, t, s.es.drop (i - s.i).toNat⟩ := by unfold LS.rebase; rw [if_pos h]
theorem reb_hasno {s : LS} {i t : Int} (h : (s.hasB i && decide (s.termAt i = t)) = false) : s.rebase i t = ⟨i, t, []⟩ := by unfold LS.rebase; rw [if_neg (by rw [h]; simp)]

set_option maxHeartbeats 16000000 in
theorem rebase100 (w0 : World) (G : Nat → Prop) (rb : Nat) (s : LS) (i t : Int) (w : World) (h : RL w0 w G rb s) (hi1 : s.i < i) (hi2 : i < 281474976710656) :
  Calls Tryz.prog 100 #[.pointer (some ⟨rb, 0, none⟩), .int .i64 i, .int .i64 t] w fun e w' => e = .returned (.tuple #[]) ∧ RL w0 w' G rb (s.rebase i t) := by
 have H := hid_mk h
 obtain ⟨v, ps, b1, b2, b3⟩ := h.blk
 have HLEN := hid_mk (show ps.length = s.es.length from by rw [← b3, List.length_map])
 have hn := h.n
 have hlo := h.i0
 have HB := hid_mk (And.intro b1 (And.intro b2 b3))
 have hi0 : 0 ≤ i := by omega
 clear h b1 b3
 by_cases hl : i ≤ s.i + (s.es.length : Int)
 ·obtain ⟨k, hk⟩ : ∃ k : Nat, i - s.i - 1 = (k : Int) := ⟨(i - s.i - 1).toNat, by omega⟩
  have hkl : k < s.es.length := by omega
  obtain ⟨x, hx⟩ : ∃ x, s.es[k]? = some x := ⟨s.es[k], by simp⟩
  obtain ⟨g, cap, hv, hcap, hcm⟩ : ∃ g cap, v = .slice (some ⟨g, 0, none⟩) s.es.length cap ∧ s.es.length ≤ cap ∧ cap ≤ 9223372036854775807 := by
   have hh := HLEN.out
   rcases b2.row.2 with ⟨_, h0⟩ | ⟨g, cap, cur, e, _, hg, r1, r2, _⟩
   ·omega
   ·rw [hh] at e r1
    exact ⟨g, cap, e, r1, by unfold maxLen at r2; omega⟩
  subst hv
  have HC := hid_mk (show ∀ W, w.grownBy W none → RB32 W rb s (.slice (some ⟨g, 0, none⟩) s.es.length cap) ∧ W.cell? ⟨g, k * 4, none⟩ = some (.int .i64 x.term) from fun W hW => ⟨V.Blk.kept HB.out.1 hW (by simp), by
   have hrd := (HB.out.2.1.esg.reads).kept hW
   rw [HB.out.2.2] at hrd
   obtain ⟨b, off, e, _, hcs⟩ := hrd.at (by omega)
   cases e
   obtain ⟨dv, q0, _⟩ := hcs k x hx
   rw [Nat.zero_add] at q0
   exact q0⟩)
  have HTA := hid_mk (show s.termAt i = x.term from by
   unfold LS.termAt
   rw [if_neg (by omega)]
   have : s.at i = k := by unfold LS.at; omega
   rw [this, hx]
   rfl)
  have HHB := hid_mk (show s.hasB i = true from by unfold LS.hasB; rw [decide_eq_true hi1, decide_eq_true hl]; rfl)
  clear hx b2
  have ek2 : i - s.i = (k : Int) + 1 := by omega
  have ek3 : (k : Int) + 1 - 1 = (k : Int) := by omega
  have ew3 : IntKind.i64.wrap ((k : Int) + 1) = (k : Int) + 1 := by rw [IntKind.wrap_i64]; omega
  have ew4 : IntKind.i64.wrap (k : Int) = (k : Int) := by rw [IntKind.wrap_i64]; omega
  have hk0 : (0 : Int) ≤ (k : Int) := by omega
  have hklI : (k : Int) < (s.es.length : Int) := by omega
  go_enter Tryz.func100, Tryz.ntmps100
  go_upto_region 0 with fail
  refine wp_region_mix [(0, true), (1, true), (2, false), (3, true), (4, true), (5, true), (6, true), (7, true), (8, true), (9, true), (10, true), (11, true), (12, true), (13, true), (14, true), (15, true), (16, true), (17, true), (18, true), (19, true), (20, true), (21, true)] (at0 w (fun W => w.grownBy W none)) (by kernel_rfl) (by kernel_rfl) rfl (by kernel_rfl) (shut_at0 (fun m => grown_drewN _ m none)) ⟨1, rfl⟩ ?_
  repeat (refine mix_rd1 rfl rfl (fun K hK => ?_); apply Exists.intro; refine ⟨fun W hW => ?_, ?_⟩; (go_simp; rfl); (go_simp; refine hK _ _ ?_; clear hK K))
  refine mix_call rfl rfl 61 #[.pointer (some ⟨rb, 0, none⟩)] (fun W => by go_simp) ?_
  rintro X ⟨m1, rfl⟩
  have HG1 := hid_mk (grown_drewN w m1 none)
  refine (rLast_any _ rb s (w.drewN m1) (H.out.kept HG1.out).rg).mono ?_
  rintro e w1 ⟨rfl, hg1⟩
  have G1 := hid_mk (show w.grownBy w1 none from grown_trans HG1.out hg1)
  clear hg1 HG1
  refine ⟨_, rfl, at0 w1 (fun W => w.grownBy W none), ⟨0, rfl⟩, shut_at0 (all_kept G1.out), fun _ h => h, ?_⟩
  go_simp
  repeat (first | (refine mix_no1 rfl rfl (fun K hK => ?_); go_simp; refine hK _ _ ?_; clear hK K) | (refine mix_rd1 rfl rfl (fun K hK => ?_); apply Exists.intro; refine ⟨fun W hW => ?_, ?_⟩; (obtain ⟨hr, q0⟩ := HC.out W hW; obtain ⟨c0, c1, c2, _⟩ := RB32.cells hr; go_simp; rfl); (go_simp; refine hK _ _ ?_; clear hK K)))
  refine mix_nil ?_
  rintro X ⟨m2, rfl⟩
  have G2 := hid_mk (grown_trans G1.out (grown_drewN w1 m2 none))
  clear G1
  generalize w1.drewN m2 = w2 at *
  by_cases htt : x.term = t
  ·have hq : (x.term == t) = true := by simp [htt]
   have HR := hid_mk (show s.rebase i t = ⟨i, t, s.es.drop (k + 1)⟩ from by
    rw [reb_has (by rw [HHB.out, HTA.out, decide_eq_true htt]; rfl)]
    congr 2
    omega)
   obtain ⟨A, hA⟩ : ∃ A : Addr, (if cap = k + 1 then some (⟨g, 0, none⟩ : Addr) else some ⟨g, (k + 1) * 4, none⟩) = some A := by
    by_cases h : cap = k + 1
    ·exact ⟨_, by rw [if_pos h]⟩
    ·exact ⟨_, by rw [if_neg h]⟩
   have HSRC := hid_mk (show ∀ W, w.grownBy W none → Src W (.slice (some A) (s.es.length - (k + 1)) (cap - (k + 1))) (ps.drop (k + 1)) from fun W hW => by
    have hh := HLEN.out
    have h1 := (HB.out.2.1.kept hW).row
    have h2 := src_drop (c := cap) (n := s.es.length) (g := g) h1 hh.symm (k + 1) (by omega) (cap - (k + 1)) A (by
     by_cases e : cap = k + 1
     ·right; omega
     ·left; rw [if_neg e] at hA; exact (Option.some.inj hA).symm)
    rw [hh] at h2
    exact h2)
   have hkc : (k + 1 : Nat) ≤ cap := by omega
   have hkI : (k : Int) + 1 = ((k + 1 : Nat) : Int) := by omega
   have hkI2 : ((k + 1 : Nat) : Int) ≤ (s.es.length : Int) := by omega
   rw [hkI] at ek2 ew3
   clear ek3 hkI
   obtain ⟨k1, hk1⟩ : ∃ k1, k1 = k + 1 := ⟨_, rfl⟩
   rw [← hk1] at hA HSRC hkc hkI2 ek2 ew3 HR
   have hk0' : (0 : Int) ≤ (k1 : Int) := by omega
   have hk1l : k1 ≤ s.es.length := by omega
   clear hk1 hk0
   go_upto_region 1 with fail
   refine wp_region_mixL [(0, true), (2, true), (3, true), (4, true), (5, true), (6, true), (7, true), (8, true), (9, true), (10, true), (11, true), (12, true), (1, false), (13, false), (14, true), (15, true)] 16 (at0 w2 (fun W => RB32 W rb s (.slice (some ⟨g, 0, none⟩) s.es.length cap))) (by kernel_rfl) (by kernel_rfl) rfl (by kernel_rfl) rfl (by kernel_rfl) (shut_at0 (fun m => (HC.out _ (grown_trans G2.out (grown_drewN _ m none))).1)) ⟨1, rfl⟩ ?_
   repeat (refine mix_rd1 rfl rfl (fun K hK => ?_); apply Exists.intro; refine ⟨fun W hW => ?_, ?_⟩; (obtain ⟨c0, c1, c2, _⟩ := RB32.cells hW; go_simp; rfl); (go_simp; refine hK _ _ ?_; clear hK K))
   refine mix_do rfl rfl ?_
   rintro X ⟨m3, rfl⟩
   have H3 := hid_mk (show EX w0 ((w2.drewN m3).alloc (.cells #[] 51)) G (.slice (some ⟨w2.heap.size, 0, none⟩) 0 0) [] ∧ w.grownBy ((w2.drewN m3).alloc (.cells #[] 51)) none ∧ V.Blk ((w2.drewN m3).alloc (.cells #[] 51)) w2.heap.size #[] 51 from ⟨ex_new w0 (w2.drewN m3) G (grown_trans H.out.gr (grown_trans G2.out (grown_drewN w2 m3 none))), grown_trans G2.out (grown_trans (grown_drewN w2 m3 none) (World.grownBy_alloc _ _ none)), heap_alloc_new (w2.drewN m3) _⟩)
   refine ⟨.slice (some ⟨w2.heap.size, 0, none⟩) 0 0, (w2.drewN m3).alloc (.cells #[] 51), by go_simp, at0 ((w2.drewN m3).alloc (.cells #[] 51)) (fun W => RB32 W rb s (.slice (some ⟨g, 0, none⟩) s.es.length cap)), ⟨0, rfl⟩, shut_at0 (fun m => (HC.out _ (grown_trans H3.out.2.1 (grown_drewN _ m none))).1), fun _ h => h, ?_⟩
   have HNB := hid_mk (show w2.heap.size ≠ rb from by
    have h1 := (HC.out w2 G2.out).1
    have := V.Blk.lt h1
    omega)
   generalize (w2.drewN m3).alloc (.cells #[] 51) = w3 at *
   generalize w2.heap.size = nb at *
   go_simp
   refine mix_appS (w := w0) (G := G) (v := .slice (some ⟨nb, 0, none⟩) 0 0) (ps := []) (p2 := ps.drop k1) rfl rfl (.tmp 29) (.tmp 40) rfl rfl rfl H3.out.1 (HSRC.out w3 H3.out.2.1) (fun q hq => ⟨(HB.out.2.1.own q (List.mem_of_mem_drop hq)).1.kept H3.out.2.1 (.inl rfl), (HB.out.2.1.own q (List.mem_of_mem_drop hq)).2⟩) (fun q hq j e => HB.out.2.1.ownG q (List.mem_of_mem_drop hq) j e) (by have := HLEN.out; simp; omega) ?_
   rintro a4 c4 X4 w4 ⟨hx4, he4, hg4⟩
   simp only [List.length_nil, Nat.zero_add, List.nil_append] at he4 ⊢
   obtain ⟨nl, hnl⟩ : ∃ nl, nl = (ps.drop k1).length := ⟨_, rfl⟩
   rw [← hnl] at he4 ⊢
   clear hnl
   have H4 := hid_mk (show EX w0 w4 G (.slice a4 nl c4) (ps.drop k1) ∧ RB32 w4 rb s (.slice (some ⟨g, 0, none⟩) s.es.length cap) from ⟨he4, V.Blk.kept (V.Blk.kept (HC.out w3 H3.out.2.1).1 hx4 (by simp)) hg4 (by
    intro e
    have e2 : some nb = some rb := by simpa [Value.ownBlock] using e.symm
    exact HNB.out (Option.some.inj e2))⟩)
   clear hx4 he4 hg4 H3
   refine ⟨at0 w4 (fun W => RB32 W rb s (.slice (some ⟨g, 0, none⟩) s.es.length cap)), ⟨0, rfl⟩, shut_at0 (fun m => V.Blk.kept H4.out.2 (grown_drewN _ m none) (by simp)), fun _ h => h, ?_⟩
   go_simp
   repeat (refine mix_rd1 rfl rfl (fun K hK => ?_); apply Exists.intro; refine ⟨fun W hW => ?_, ?_⟩; (go_simp; rfl); (go_simp; refine hK _ _ ?_; clear hK K))
   refine mix_nil ?_
   first | refine ⟨rfl, ?_⟩ | skip
   rintro X ⟨m5, rfl⟩
   have H5 := hid_mk (show EX w0 (w4.drewN m5) G (.slice a4 nl c4) (ps.drop k1) ∧ RB32 (w4.drewN m5) rb s (.slice (some ⟨g, 0, none⟩) s.es.length cap) from ⟨H4.out.1.kept (grown_drewN _ m5 none), V.Blk.kept H4.out.2 (grown_drewN _ m5 none) (by simp)⟩)
   clear H4
   generalize w4.drewN m5 = w5 at *
   obtain ⟨c0, c1, c2, cz⟩ := RB32.cells H5.out.2
   have cz2 := cz 2
   refine ⟨w5.setCell ⟨rb, 2, none⟩ (.slice a4 nl c4), by go_simp, ?_⟩
   have H6 := hid_mk (show RL w0 (w5.setCell ⟨rb, 2, none⟩ (.slice a4 nl c4)) G rb ⟨s.i, s.t, s.es.drop k1⟩ from RL.next H5.out.2 H5.out.1 (by show (ps.drop k1).map (·.1) = s.es.drop k1; rw [List.map_drop, HB.out.2.2]) rfl rfl H.out.lo hlo (by show (s.es.drop k1).length ≤ _; rw [List.length_drop]; omega))
   clear c0 c1 c2 cz cz2 H5
   generalize w5.setCell ⟨rb, 2, none⟩ _ = w6 at *
   go_simp
   obtain ⟨c0, c1, ⟨_, c2⟩, cz⟩ := H6.out.cells
   have cz0 := cz 0
   have H7 := hid_mk (H6.out.putI i ⟨hi0, hi2⟩)
   go_upto_region 4 with fail
   clear c0 c1 c2 cz cz0
   generalize w6.setCell ⟨rb, 0, none⟩ (.int .i64 i) = w7 at *
   obtain ⟨c0, c1, ⟨_, c2⟩, cz⟩ := H7.out.cells
   have cz1 := cz 1
   have H8 := hid_mk (H7.out.putT t)
   go_wp2_with fail
   go_end0
   rw [HR.out]
   exact ⟨rfl, H8.out⟩
  ·have hq : (x.term == t) = false := by simp [htt]
   have HR := hid_mk (show s.rebase i t = ⟨i, t, []⟩ from reb_hasno (by rw [HHB.out, HTA.out, decide_eq_false htt]; rfl))
   have H2 := hid_mk (H.out.kept G2.out)
   obtain ⟨c0, c1, ⟨_, c2⟩, cz⟩ := H2.out.cells
   have cz2 := cz 2
   have H6 := hid_mk H2.out.nilL
   go_upto_region 3 with fail
   clear c0 c1 c2 cz cz2
   generalize w2.setCell ⟨rb, 2, none⟩ (.slice none 0 0) = w6 at *
   obtain ⟨c0, c1, ⟨_, c2⟩, cz⟩ := H6.out.cells
   have cz0 := cz 0
   have H7 := hid_mk (H6.out.putI i ⟨hi0, hi2⟩)
   go_upto_region 4 with fail
   clear c0 c1 c2 cz cz0
   generalize w6.setCell ⟨rb, 0, none⟩ (.int .i64 i) = w7 at *
   obtain ⟨c0, c1, ⟨_, c2⟩, cz⟩ := H7.out.cells
   have cz1 := cz 1
   have H8 := hid_mk (H7.out.putT t)
   go_wp2_with fail
   go_end0
   rw [HR.out]
   exact ⟨rfl, H8.out⟩
 ·have HR := hid_mk (show s.rebase i t = ⟨i, t, []⟩ from reb_hasno (by
   have : s.hasB i = false := by unfold LS.hasB; rw [decide_eq_false hl]; simp
   rw [this]; rfl))
  clear b2
  go_enter Tryz.func100, Tryz.ntmps100
  go_upto_region 0 with fail
  refine wp_region_mix [(0, true), (1, true), (2, false), (3, true), (4, true), (5, true), (6, true), (7, true), (8, true), (9, true), (10, true), (11, true), (12, true), (13, true), (14, true), (15, true), (16, true), (17, true), (18, true), (19, true), (20, true), (21, true)] (at0 w (fun W => w.grownBy W none)) (by kernel_rfl) (by kernel_rfl) rfl (by kernel_rfl) (shut_at0 (fun m => grown_drewN _ m none)) ⟨1, rfl⟩ ?_
  repeat (refine mix_rd1 rfl rfl (fun K hK => ?_); apply Exists.intro; refine ⟨fun W hW => ?_, ?_⟩; (go_simp; rfl); (go_simp; refine hK _ _ ?_; clear hK K))
  refine mix_call rfl rfl 61 #[.pointer (some ⟨rb, 0, none⟩)] (fun W => by go_simp) ?_
  rintro X ⟨m1, rfl⟩
  have HG1 := hid_mk (grown_drewN w m1 none)
  refine (rLast_any _ rb s (w.drewN m1) (H.out.kept HG1.out).rg).mono ?_
  rintro e w1 ⟨rfl, hg1⟩
  have G1 := hid_mk (show w.grownBy w1 none from grown_trans HG1.out hg1)
  clear hg1 HG1
  refine ⟨_, rfl, at0 w1 (fun W => w.grownBy W none), ⟨0, rfl⟩, shut_at0 (all_kept G1.out), fun _ h => h, ?_⟩
  go_simp
  repeat (first | (refine mix_no1 rfl rfl (fun K hK => ?_); go_simp; refine hK _ _ ?_; clear hK K) | (refine mix_rd1 rfl rfl (fun K hK => ?_); apply Exists.intro; refine ⟨fun W hW => ?_, ?_⟩; (go_simp; rfl); (go_simp; refine hK _ _ ?_; clear hK K)))
  refine mix_nil ?_
  rintro X ⟨m2, rfl⟩
  have G2 := hid_mk (grown_trans G1.out (grown_drewN w1 m2 none))
  clear G1
  generalize w1.drewN m2 = w2 at *
  have H2 := hid_mk (H.out.kept G2.out)
  obtain ⟨c0, c1, ⟨_, c2⟩, cz⟩ := H2.out.cells
  have cz2 := cz 2
  have H6 := hid_mk H2.out.nilL
  go_upto_region 3 with fail
  clear c0 c1 c2 cz cz2
  generalize w2.setCell ⟨rb, 2, none⟩ (.slice none 0 0) = w6 at *
  obtain ⟨c0, c1, ⟨_, c2⟩, cz⟩ := H6.out.cells
  have cz0 := cz 0
  have H7 := hid_mk (H6.out.putI i ⟨hi0, hi2⟩)
  go_upto_region 4 with fail
  clear c0 c1 c2 cz cz0
  generalize w6.setCell ⟨rb, 0, none⟩ (.int .i64 i) = w7 at *
  obtain ⟨c0, c1, ⟨_, c2⟩, cz⟩ := H7.out.cells
  have cz1 := cz 1
  have H8 := hid_mk (H7.out.putT t)
  go_wp2_with fail
  go_end0
  rw [HR.out]
  exact ⟨rfl, H8.out⟩
end Go.Proofs.YtlpkphdgadgmiaaGreatDoor.W
