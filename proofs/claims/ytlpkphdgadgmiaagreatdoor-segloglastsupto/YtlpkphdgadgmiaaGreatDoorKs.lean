import Derived.Test.YtlpkphdgadgmiaaGreatDoorKr
namespace Go.Proofs.YtlpkphdgadgmiaaGreatDoor.W
open Go.RowKit Go.Maps Go.Shelf
set_option linter.unusedVariables false
set_option linter.unusedSimpArgs false
set_option maxRecDepth 100000

def replC (lb db pb bb xb : Nat) : Array Value := #[.func (.func 116) #[.pointer (some ⟨lb, 0, none⟩)] #[], .func (.func 117) #[] #[.pointer (some ⟨pb, 0, none⟩)], .func (.func 118) #[] #[.pointer (some ⟨pb, 0, none⟩), .pointer (some ⟨bb, 0, none⟩)], .func (.func 119) #[] #[.pointer (some ⟨pb, 0, none⟩)], .func (.func 120) #[] #[.pointer (some ⟨pb, 0, none⟩), .pointer (some ⟨xb, 0, none⟩)], .func (.func 122) #[.pointer (some ⟨db, 0, none⟩)] #[], .func (.func 123) #[.pointer (some ⟨lb, 0, none⟩)] #[]]
set_option maxHeartbeats 8000000 in
theorem replace_any (Z G : Nat → Prop) (N db lb : Nat) (v : Value) (b : List UInt8) (L : List (Nat × Nat)) (m : V.Mem) (p : Pl) (s : LS) (w : World) (h : DL w Z G N db m lb p s) (hN : N + 6 + L.length < 1099511627776) (hp : p.num ≤ 99999999) (hzt : ∀ W, V.Keeps (fun k => Z k ∨ G k) w W → Pw W) (hv : ∀ W, V.Keeps (fun k => Z k ∨ G k) w W → Byt W v b) (hb : b.length ≤ 1000000000000)
  (hm : m.names = dirS L none) (hasc : Asc L) (hL : ∀ x ∈ L, x.1 < p.num + 1) :
  Calls Tryz.prog 80 #[.pointer (some ⟨lb, 0, none⟩), v] w fun e w' => ∃ n m' p', e = .returned (.int .i64 n) ∧ ReplaceSpec b (L.map (·.1)) m p n m' p' ∧ PF Z G (N + 6 + L.length) db lb s w w' m' p' := by
 obtain ⟨av, cv, rfl⟩ := (hv w (V.Keeps.refl _ _)).len
 have H := hid_mk (And.intro h hzt)
 have HV := hid_mk hv
 have HM := hid_mk (And.intro hm (And.intro hasc hL))
 have hdk := h.dk
 clear h hzt hv hm hasc hL
 have HA : Hid (V.Blk ((w.alloc (.cells #[.pointer (some ⟨lb, 0, none⟩)] 148)).alloc (.cells #[.slice av b.length cv] 49)) w.heap.size #[.pointer (some ⟨lb, 0, none⟩)] 148 ∧ V.Blk ((w.alloc (.cells #[.pointer (some ⟨lb, 0, none⟩)] 148)).alloc (.cells #[.slice av b.length cv] 49)) (w.heap.size + 1) #[.slice av b.length cv] 49 ∧ w.grownBy ((w.alloc (.cells #[.pointer (some ⟨lb, 0, none⟩)] 148)).alloc (.cells #[.slice av b.length cv] 49)) none ∧ ((w.alloc (.cells #[.pointer (some ⟨lb, 0, none⟩)] 148)).alloc (.cells #[.slice av b.length cv] 49)).heap.size = w.heap.size + 2) := hid_mk (by
  have b1 := heap_alloc_new w (.cells #[.pointer (some ⟨lb, 0, none⟩)] 148)
  have b2 := heap_alloc_new (w.alloc (.cells #[.pointer (some ⟨lb, 0, none⟩)] 148)) (.cells #[.slice av b.length cv] 49)
  have g1 := World.grownBy_alloc w (.cells #[.pointer (some ⟨lb, 0, none⟩)] 148) none
  have g2 := World.grownBy_alloc (w.alloc (.cells #[.pointer (some ⟨lb, 0, none⟩)] 148)) (.cells #[.slice av b.length cv] 49) none
  simp only [World.size_alloc] at b2
  exact ⟨V.Blk.kept b1 g2 (by simp), b2, grown_trans g1 g2, by simp⟩)
 go_enter Tryz.func80, Tryz.ntmps80
 go_upto_region 1 with fail
 generalize (w.alloc (.cells _ 148)).alloc (.cells _ 49) = w1 at *
 obtain ⟨pb, hpb⟩ : ∃ pb, pb = w.heap.size := ⟨_, rfl⟩
 obtain ⟨bb, hbb⟩ : ∃ bb, bb = w.heap.size + 1 := ⟨_, rfl⟩
 rw [← hbb, ← hpb] at HA ⊢
 have HPB := hid_mk (And.intro hpb hbb)
 clear hpb hbb
 have HL1 := hid_mk (H.out.1.log.kept HA.out.2.2.1)
 obtain ⟨c0, c1, c2, c3, c4, c5, c6, cz⟩ := log_cells HL1.out
 have x0 : w1.cell? ⟨pb, 0, none⟩ = some (.pointer (some ⟨lb, 0, none⟩)) := by rw [HA.out.1.cell]; rfl
 clear c2 c3 c4 c5 c6 cz
 by_cases h9 : p.num = 99999999
 ·have hq : ((p.num : Int) == 99999999) = true := by simp [h9]
  go_wp2_with fail
  go_ret
  exact ⟨53, m, p, rfl, .inl ⟨h9, rfl, rfl, rfl⟩, ⟨((H.out.1.dsk.kept_none HA.out.2.2.1).monoF (fun k hk => .inl hk)).monoN (by omega), HL1.out, H.out.1.dk, V.Keeps.of_none HA.out.2.2.1⟩⟩
 ·have hq : ((p.num : Int) == 99999999) = false := by simp; omega
  go_upto_region 3 with fail
  go_wp2_with fail
  clear c0 c1 x0
  have e1 : ((p.num : Int) + 1) = ((p.num + 1 : Nat) : Int) := by omega
  rw [e1]
  clear e1
  refine (name_any (p.num + 1) w1 (by omega) (by omega) (H.out.2 w1 (V.Keeps.of_none HA.out.2.2.1))).mono ?_
  rintro e w2 ⟨rfl, hg2⟩
  have HX : Hid (V.Blk (w2.alloc (.cells #[.string (nmL (p.num + 1))] 9)) w2.heap.size #[.string (nmL (p.num + 1))] 9 ∧ w2.grownBy (w2.alloc (.cells #[.string (nmL (p.num + 1))] 9)) none) := hid_mk ⟨heap_alloc_new _ _, World.grownBy_alloc _ _ _⟩
  have HG2 := hid_mk hg2
  clear hg2
  go_upto_region 4 with fail
  generalize w2.alloc (.cells _ 9) = w3 at *
  have G3 := hid_mk (show w1.grownBy w3 none from grown_trans HG2.out HX.out.2)
  have H3 := hid_mk (H.out.1.kept (grown_trans HA.out.2.2.1 G3.out))
  obtain ⟨xb, hxb⟩ : ∃ xb, xb = w2.heap.size := ⟨_, rfl⟩
  rw [← hxb] at HX ⊢
  have C3 := hid_mk (show w3.cell? ⟨pb, 0, none⟩ = some (.pointer (some ⟨lb, 0, none⟩)) ∧ w3.cell? ⟨bb, 0, none⟩ = some (.slice av b.length cv) ∧ w3.cell? ⟨xb, 0, none⟩ = some (.string (nmL (p.num + 1))) from ⟨by rw [(HA.out.1.kept G3.out (by simp)).cell]; rfl, by rw [(HA.out.2.1.kept G3.out (by simp)).cell]; rfl, by rw [HX.out.1.cell]; rfl⟩)
  have HXB := hid_mk (show pb = w.heap.size ∧ bb = w.heap.size + 1 ∧ w.heap.size + 2 ≤ xb ∧ xb < w3.heap.size from ⟨HPB.out.1, HPB.out.2, by have := HA.out.2.2.2; have := HG2.out.size; have := HPB.out; have := hxb; omega, HX.out.1.lt⟩)
  clear hxb HX HG2 HPB
  refine wp_region_mix [(0, true), (1, true), (2, true), (3, true), (4, true), (5, true), (6, true), (7, true), (8, true), (9, true), (10, true), (11, true), (12, true), (13, true), (14, false), (15, false), (16, true)] (at0 w3 (fun W => W.cell? ⟨pb, 0, none⟩ = some (.pointer (some ⟨lb, 0, none⟩)) ∧ W.cell? ⟨lb, 0, none⟩ = some (.pointer (some ⟨db, 0, none⟩)))) (by kernel_rfl) (by kernel_rfl) rfl (by kernel_rfl) (shut_at0 (fun m => ⟨(grown_drewN _ m none).cell C3.out.1 (by simp), (grown_drewN _ m none).cell (by rw [(log_cells H3.out.log).1, hdk]) (by simp)⟩)) ⟨1, rfl⟩ ?_
  repeat (refine mix_rd1 rfl rfl (fun K hK => ?_); apply Exists.intro; refine ⟨fun W hW => ?_, ?_⟩; (obtain ⟨x0, x1⟩ := hW; go_simp; rfl); (go_simp; refine hK _ _ ?_; clear hK K))
  refine mix_do rfl rfl ?_
  rintro X ⟨m4, rfl⟩
  have HB : Hid (V.Blk ((w3.drewN m4).alloc (.cells (replC lb db pb bb xb) 37)) w3.heap.size (replC lb db pb bb xb) 37 ∧ w3.grownBy ((w3.drewN m4).alloc (.cells (replC lb db pb bb xb) 37)) none) := hid_mk ⟨heap_alloc_new (w3.drewN m4) _, grown_trans (grown_drewN w3 m4 none) (World.grownBy_alloc _ _ _)⟩
  refine ⟨.slice (some ⟨w3.heap.size, 0, none⟩) 7 7, (w3.drewN m4).alloc (.cells (replC lb db pb bb xb) 37), by unfold replC; go_simp, at0 ((w3.drewN m4).alloc (.cells (replC lb db pb bb xb) 37)) (fun W => W.cell? ⟨pb, 0, none⟩ = some (.pointer (some ⟨lb, 0, none⟩)) ∧ W.cell? ⟨lb, 0, none⟩ = some (.pointer (some ⟨db, 0, none⟩))), ⟨0, rfl⟩, shut_at0 (fun m => ⟨(grown_trans HB.out.2 (grown_drewN _ m none)).cell C3.out.1 (by simp), (grown_trans HB.out.2 (grown_drewN _ m none)).cell (by rw [(log_cells H3.out.log).1, hdk]) (by simp)⟩), fun _ h => h, ?_⟩
  generalize (w3.drewN m4).alloc (.cells _ 37) = w4 at *
  go_simp
  refine mix_call rfl rfl 49 #[.pointer (some ⟨lb, 0, none⟩), .slice (some ⟨w3.heap.size, 0, none⟩) 7 7] (fun W => by go_simp) ?_
  rintro X ⟨m5, rfl⟩
  have G5 := hid_mk (show w3.grownBy (w4.drewN m5) none from grown_trans HB.out.2 (grown_drewN w4 m5 none))
  have GW := hid_mk (show w.grownBy (w4.drewN m5) none from grown_trans HA.out.2.2.1 (grown_trans G3.out G5.out))
  have hB5 : V.Blk (w4.drewN m5) w3.heap.size (replC lb db pb bb xb) 37 := HB.out.1.kept (grown_drewN w4 m5 none) (by simp)
  have hz : ∀ k, w.heap.size ≤ k → ¬ (Z k ∨ G k) := fun k hk hh => by
   rcases hh with hh | hh
   ·have := H.out.1.zb k hh; omega
   ·have := H.out.1.gb k hh; omega
  have hxs := HXB.out
  refine (replSteps_any Z G N db lb w3.heap.size pb bb xb (.slice av b.length cv) b L m p s (w4.drewN m5) (H.out.1.kept GW.out) hN (by omega) (fun W hk => H.out.2 W ((V.Keeps.of_none GW.out).then hk)) (fun W hk => HV.out W ((V.Keeps.of_none GW.out).then hk)) (by omega) HM.out.1 HM.out.2.1 HM.out.2.2 (G5.out.cell C3.out.1 (by simp)) (G5.out.cell C3.out.2.1 (by simp)) (G5.out.cell C3.out.2.2 (by simp)) (hz _ (by omega)) (hz _ (by omega)) (hz _ (by omega)) (hz _ (by omega)) (by rw [hB5.cell]; rfl) (by rw [hB5.cell]; rfl) (by rw [hB5.cell]; rfl) (by rw [hB5.cell]; rfl) (by rw [hB5.cell]; rfl) (by rw [hB5.cell]; rfl) (by rw [hB5.cell]; rfl)).mono ?_
  rintro e w6 ⟨n6, m6, q6, rfl, hS6, hP6⟩
  have H6 := hid_mk (show ReplSteps b (L.map (·.1)) m p n6 m6 q6 ∧ PF Z G (N + 6 + L.length) db lb s w w6 m6 (if n6 = 0 then q6 else { q6 with out := true }) ∧ w6.cell? ⟨pb, 0, none⟩ = some (.pointer (some ⟨lb, 0, none⟩)) ∧ w6.cell? ⟨bb, 0, none⟩ = some (.slice av b.length cv) from ⟨hS6, hP6.from GW.out, cell_keeps hP6.kp (G5.out.cell C3.out.1 (by simp)) (hz pb (by omega)), cell_keeps hP6.kp (G5.out.cell C3.out.2.1 (by simp)) (hz bb (by omega))⟩)
  have hc6 : w6.cell? ⟨lb, 0, none⟩ = some (.pointer (some ⟨db, 0, none⟩)) := by rw [(log_cells H6.out.2.1.log).1, H6.out.2.1.dk]
  have HC6 := hid_mk hc6
  clear hS6 hP6 hB5 hz hxs G5 GW HB hc6
  refine ⟨_, rfl, at0 w6 (fun W => W.cell? ⟨pb, 0, none⟩ = some (.pointer (some ⟨lb, 0, none⟩)) ∧ W.cell? ⟨lb, 0, none⟩ = some (.pointer (some ⟨db, 0, none⟩))), ⟨0, rfl⟩, shut_at0 (fun m => ⟨(grown_drewN _ m none).cell H6.out.2.2.1 (by simp), (grown_drewN _ m none).cell HC6.out (by simp)⟩), fun _ h => h, ?_⟩
  go_simp
  repeat (refine mix_rd1 rfl rfl (fun K hK => ?_); apply Exists.intro; refine ⟨fun W hW => ?_, ?_⟩; (go_simp; rfl); (go_simp; refine hK _ _ ?_; clear hK K))
  refine mix_nil ?_
  rintro X ⟨m7, rfl⟩
  have H7 := hid_mk (show PF Z G (N + 6 + L.length) db lb s w (w6.drewN m7) m6 (if n6 = 0 then q6 else { q6 with out := true }) ∧ (w6.drewN m7).cell? ⟨pb, 0, none⟩ = some (.pointer (some ⟨lb, 0, none⟩)) ∧ (w6.drewN m7).cell? ⟨bb, 0, none⟩ = some (.slice av b.length cv) from ⟨H6.out.2.1.grow (grown_drewN _ m7 none), (grown_drewN _ m7 none).cell H6.out.2.2.1 (by simp), (grown_drewN _ m7 none).cell H6.out.2.2.2 (by simp)⟩)
  have HS := hid_mk H6.out.1
  clear H6 HC6
  generalize w6.drewN m7 = w7 at *
  by_cases hn0 : n6 = 0
  ·subst hn0
   simp only [if_true] at H7
   have HN := hid_mk HS.out.num
   have hdb := H7.out.1.dk
   have HK7 := hid_mk (show ∀ W, w7.grownBy W none → W.cell? ⟨pb, 0, none⟩ = some (.pointer (some ⟨lb, 0, none⟩)) ∧ W.cell? ⟨bb, 0, none⟩ = some (.slice av b.length cv) ∧ W.cell? ⟨lb, 0, none⟩ = some (.pointer (some ⟨db, 0, none⟩)) ∧ W.cell? ⟨lb, 1, none⟩ = some (.int .i64 (p.num : Nat)) from fun W hW => by
    obtain ⟨c0, c1, _⟩ := log_cells (H7.out.1.log.kept hW)
    rw [hdb] at c0
    rw [HN.out.1] at c1
    exact ⟨hW.cell H7.out.2.1 (by simp), hW.cell H7.out.2.2 (by simp), c0, c1⟩)
   clear hdb
   have ew : IntKind.i64.wrap ((p.num : Int) + 1) = (p.num : Int) + 1 := by rw [IntKind.wrap_i64]; omega
   go_upto_region 7 with fail
   refine wp_region_mixL [(0, true), (1, true), (2, true), (3, true), (4, true), (5, true), (6, true), (7, true), (8, true), (9, true), (10, true), (11, true), (12, true), (13, true)] 14 (at0 w7 (fun W => w7.grownBy W none)) (by kernel_rfl) (by kernel_rfl) rfl (by kernel_rfl) rfl (by kernel_rfl) (shut_at0 (fun m => grown_drewN _ m none)) ⟨1, rfl⟩ ?_
   repeat (refine mix_rd1 rfl rfl (fun K hK => ?_); apply Exists.intro; refine ⟨fun W hW => ?_, ?_⟩; (obtain ⟨x0, x1, x2, x3⟩ := HK7.out W hW; go_simp; rfl); (go_simp; refine hK _ _ ?_; clear hK K))
   refine mix_nil ⟨rfl, ?_⟩
   rintro X ⟨m8, rfl⟩
   have H8 := hid_mk (H7.out.1.grow (grown_drewN _ m8 none))
   clear H7 HK7
   generalize w7.drewN m8 = w8 at *
   obtain ⟨c0, c1, c2, c3, c4, c5, c6, cz⟩ := log_cells H8.out.log
   refine ⟨(((((w8.setCell ⟨lb, 0, none⟩ (.pointer (some ⟨db, 0, none⟩))).setCell ⟨lb, 1, none⟩ (.int .i64 ((p.num : Int) + 1))).setCell ⟨lb, 2, none⟩ (.int .i64 (b.length : Nat))).setCell ⟨lb, 3, none⟩ (.bool true)).setCell ⟨lb, 4, none⟩ (.bool true)).setCell ⟨lb, 5, none⟩ (.bool false), by go_simp, ?_⟩
   have e1 : ((p.num : Int) + 1) = ((p.num + 1 : Nat) : Int) := by omega
   have HP := hid_mk (log_place (q := ⟨some ⟨db, 0, none⟩, p.num + 1, b.length, true, true, false⟩) H8.out.log ((((((w8.setCell ⟨lb, 0, none⟩ (.pointer (some ⟨db, 0, none⟩))).setCell ⟨lb, 1, none⟩ (.int .i64 ((p.num : Int) + 1))).setCell ⟨lb, 2, none⟩ (.int .i64 (b.length : Nat))).setCell ⟨lb, 3, none⟩ (.bool true)).setCell ⟨lb, 4, none⟩ (.bool true)).setCell ⟨lb, 5, none⟩ (.bool false)) (by rw [e1]))
   clear e1
   generalize (((((w8.setCell ⟨lb, 0, none⟩ _).setCell ⟨lb, 1, none⟩ _).setCell ⟨lb, 2, none⟩ _).setCell ⟨lb, 3, none⟩ _).setCell ⟨lb, 4, none⟩ _).setCell ⟨lb, 5, none⟩ _ = w9 at *
   clear c0 c1 c2 c3 c4 c5 c6 cz
   go_simp
   go_wp2_with fail
   go_ret
   refine ⟨0, m6, ⟨some ⟨db, 0, none⟩, p.num + 1, b.length, true, true, false⟩, rfl, .inr ⟨by omega, q6, HS.out, by rw [if_pos rfl, hdk]⟩, ⟨?_, HP.out.1, rfl, H8.out.kq.then (V.Keeps.one HP.out.2 (.inr rfl))⟩⟩
   refine H8.out.dsk.keeps (V.Keeps.one (Z := fun k => k = lb) HP.out.2 rfl) (fun k hk e => ?_)
   subst e
   have := H.out.1.gb _ H.out.1.log.gb
   rcases hk with hk | hk
   ·exact H.out.1.apart _ H.out.1.log.gb hk
   ·omega
  ·have hq2 : (n6 != 0) = true := by simp [hn0]
   rw [if_neg hn0] at H7
   go_wp2_with fail
   go_ret
   exact ⟨n6, m6, { q6 with out := true }, rfl, .inr ⟨by omega, q6, HS.out, by rw [if_neg hn0]⟩, H7.out.1⟩
end Go.Proofs.YtlpkphdgadgmiaaGreatDoor.W

namespace Go.Proofs.YtlpkphdgadgmiaaGreatDoor.W
open Go.RowKit Go.Maps Go.Shelf
set_option linter.unusedVariables false
set_option linter.unusedSimpArgs false
set_option maxRecDepth 100000

theorem EsG.off {W : World} {G : Nat → Prop} {v : Value} {ps : List (Ent × Value)} {lb : Nat} {c : Array Value} (h : EsG W G v ps) (hb : W.heap[lb]? = some (.cells c 76 (0, 0))) : EsG W (fun k => G k ∧ k ≠ lb) v ps :=
 ⟨h.row, fun k e => ⟨h.rowG k e, fun e2 => by
  subst e2
  rcases h.row.2 with ⟨e3, _⟩ | ⟨g, cap, cur, e3, _, hg, _⟩
  ·rw [e3] at e; cases e
  ·rw [e3] at e
   have : g = k := by simpa [Value.ownBlock] using e
   subst this
   rw [hb] at hg
   cases hg⟩, h.own, fun q hq k e => ⟨h.ownG q hq k e, fun e2 => by
  subst e2
  rcases (h.own q hq).1.2 with ⟨e3, _⟩ | ⟨g, cap, cur, e3, _, hg, _⟩
  ·rw [e3] at e; cases e
  ·rw [e3] at e
   have : g = k := by simpa [Value.ownBlock] using e
   subst this
   rw [hb] at hg
   cases hg⟩⟩
def rebErr (s : LS) (i t : Int) : Int := if i < 1 ∨ 1099511627775 < i ∨ t < 1 ∨ 1099511627776 ≤ t then 1 else if i ≤ s.i then 36 else 0
theorem rebErr_ok {s : LS} {i t : Int} (h : rebErr s i t = 0) : 1 ≤ i ∧ i ≤ 1099511627775 ∧ 1 ≤ t ∧ t < 1099511627776 ∧ s.i < i := by
 unfold rebErr at h
 by_cases h1 : i < 1 ∨ 1099511627775 < i ∨ t < 1 ∨ 1099511627776 ≤ t
 ·rw [if_pos h1] at h; cases h
 ·rw [if_neg h1] at h
  by_cases h2 : i ≤ s.i
  ·rw [if_pos h2] at h; cases h
  ·omega
theorem reb_len (s : LS) (i t : Int) : (s.rebase i t).es.length ≤ s.es.length := by
 unfold LS.rebase
 split
 ·simp
 ·simp

set_option maxHeartbeats 8000000 in
theorem rebase_ok (Z G : Nat → Prop) (N db lb : Nat) (i t : Int) (L : List (Nat × Nat)) (m : V.Mem) (p : Pl) (s : LS) (w : World) (h : DL w Z G N db m lb p s) (hN : N + 6 + L.length < 1099511627776) (hp : p.num ≤ 99999999) (hzt : ∀ W, V.Keeps (fun k => Z k ∨ G k) w W → Pw W ∧ F.Tab W) (hs : Sane (s.rebase i t)) (hl : s.es.length ≤ 1000000)
  (hm : m.names = dirS L none) (hasc : Asc L) (hL : ∀ x ∈ L, x.1 < p.num + 1) (hout : p.out = false) (h1 : 1 ≤ i) (h2 : i ≤ 1099511627775) (h3 : 1 ≤ t) (h4 : t < 1099511627776) (hi : s.i < i) :
  Calls Tryz.prog 32 #[.pointer (some ⟨lb, 0, none⟩), .int .i64 i, .int .i64 t] w fun e w' => ∃ n m' p', e = .returned (.int .i64 n) ∧ ReplaceSpec (rowR (s.rebase i t).rcs) (L.map (·.1)) m p n m' p' ∧ AP Z G (N + 6 + L.length) db lb w w' m' p' (if n = 0 then s.rebase i t else s) := by
 have H := hid_mk (And.intro h hzt)
 have HM := hid_mk (madeL_ok G lb p s w h.log (by rw [h.dk]; rfl))
 have HMM := hid_mk (And.intro hm (And.intro hasc hL))
 have HSN := hid_mk hs
 have hdk := h.dk
 clear h hzt hm hasc hL hs
 have k1 : ¬ i < 1 := by omega
 have k2 : ¬ 1099511627775 < i := by omega
 have k3 : ¬ t < 1 := by omega
 have k4 : ¬ 1099511627776 ≤ t := by omega
 have k5 : ¬ i ≤ s.i := by omega
 go_enter Tryz.func32, Tryz.ntmps32
 go_wp2_with fail
 refine HM.out.mono ?_
 rintro e w1 ⟨rfl, hg1⟩
 have G1 := hid_mk hg1
 have H1 := hid_mk (H.out.1.kept hg1)
 clear hg1 HM
 obtain ⟨c0, c1, c2, c3, c4, c5, c6, cz⟩ := log_cells H1.out.log
 rw [hout] at c5
 clear c0 c1 c2 c3 c4 cz
 go_wp2_with fail
 clear c5 c6 k1 k2 k3 k4 k5
 refine (reb_any G lb p s i t w1 H1.out.log).mono ?_
 rintro e w2 ⟨a2, q2, ps2, rfl, he2, hp2, hg2⟩
 have HA : Hid (V.Blk (w2.alloc (.cells #[.int .i64 i, .int .i64 t, .slice a2 ps2.length q2] 74)) w2.heap.size #[.int .i64 i, .int .i64 t, .slice a2 ps2.length q2] 74 ∧ w2.grownBy (w2.alloc (.cells #[.int .i64 i, .int .i64 t, .slice a2 ps2.length q2] 74)) none) := hid_mk ⟨heap_alloc_new _ _, World.grownBy_alloc _ _ _⟩
 have H2 := hid_mk (And.intro he2 (And.intro hp2 (show w.grownBy w2 none from grown_trans G1.out hg2)))
 have HSZ := hid_mk (And.intro G1.out.size hg2.size)
 have HAG := hid_mk HA.out.2.size
 clear he2 hp2 hg2
 go_upto_region 8 with fail
 generalize w2.alloc (.cells _ 74) = w3 at *
 obtain ⟨nb, hnb⟩ : ∃ nb, nb = w2.heap.size := ⟨_, rfl⟩
 rw [← hnb] at HA ⊢
 have HNB := hid_mk (show w.heap.size ≤ nb from by rw [hnb]; exact H2.out.2.2.size)
 clear hnb
 have G3 := hid_mk (show w.grownBy w3 none from grown_trans H2.out.2.2 HA.out.2)
 have H3 := hid_mk (show EsG w3 (fun j => (G j ∨ w1.heap.size ≤ j) ∧ j ≠ lb) (.slice a2 ps2.length q2) ps2 ∧ DL w3 Z G N db m lb p s from by
  have hd := H.out.1.kept G3.out
  obtain ⟨v, qs, b1, _, _⟩ := hd.log.blk
  exact ⟨(H2.out.1.kept HA.out.2).off b1, hd⟩)
 clear H1 G1
 refine wp_region_mix [(0, true), (1, true), (2, true), (3, false), (4, false), (5, true)] (at0 w3 (fun W => True)) (by kernel_rfl) (by kernel_rfl) rfl (by kernel_rfl) (shut_at0 (fun m => trivial)) ⟨1, rfl⟩ ?_
 repeat (refine mix_rd1 rfl rfl (fun K hK => ?_); apply Exists.intro; refine ⟨fun W hW => ?_, ?_⟩; (go_simp; rfl); (go_simp; refine hK _ _ ?_; clear hK K))
 refine mix_call rfl rfl 81 #[.pointer (some ⟨nb, 0, none⟩)] (fun W => by go_simp) ?_
 rintro X ⟨m4, rfl⟩
 have G4 := hid_mk (grown_drewN w3 m4 none)
 have hst : StR (w3.drewN m4) nb 0 (s.rebase i t).i (s.rebase i t).t (.slice a2 ps2.length q2) (s.rebase i t).es := by
  have hb := HA.out.1.kept G4.out (by simp)
  have he := (H3.out.1.kept G4.out).reads
  rw [H2.out.2.1] at he
  have hln := reb_len s i t
  exact ⟨by rw [hb.cell]; rfl, by rw [hb.cell]; rfl, by rw [hb.cell]; rfl, he, ⟨by show 0 ≤ i; omega, by show i < _; omega⟩, by omega⟩
 have HLEN := hid_mk (reb_len s i t)
 refine (records_any nb (s.rebase i t) (.slice a2 ps2.length q2) (w3.drewN m4) hst HSN.out (by have := HLEN.out; omega) (H.out.2 _ (V.Keeps.of_none (grown_trans G3.out G4.out))).2).mono ?_
 rintro e w5 ⟨v5, rfl, ho5, hg5⟩
 obtain ⟨bl, hbl⟩ : ∃ bl, bl = rowR (s.rebase i t).rcs := ⟨_, rfl⟩
 rw [← hbl] at ho5
 have HBL := hid_mk (show bl = rowR (s.rebase i t).rcs ∧ bl.length ≤ 1000000000000 from ⟨hbl, by
  rw [hbl, rcs_bytes, List.length_append]
  have h1 := ents_len (xs := (s.rebase i t).es) (List.all_eq_true.2 HSN.out.right)
  have h2 := HLEN.out
  have h3 := frm_len 3 (numB (s.rebase i t).i.toNat ++ numB (s.rebase i t).t.toNat)
  have h4 := numB_le (n := (s.rebase i t).i.toNat) (by have := HSN.out.i0; have := HSN.out.i1; omega)
  have h5 := numB_le (n := (s.rebase i t).t.toNat) (by have := HSN.out.t0; have := HSN.out.t1; omega)
  rw [List.length_append] at h3
  unfold baseB
  omega⟩)
 obtain ⟨a5, c5, rfl⟩ := ho5.len
 have H5 := hid_mk (show Own w5 w.heap.size (.slice a5 bl.length c5) bl ∧ w3.grownBy w5 none from ⟨row_base ho5 (Nat.le_trans G3.out.size G4.out.size), grown_trans G4.out hg5⟩)
 clear ho5 hg5 hst hbl G4
 refine ⟨_, rfl, at0 w5 (fun W => True), ⟨0, rfl⟩, shut_at0 (fun m => trivial), fun _ h => h, ?_⟩
 go_simp
 refine mix_call rfl rfl 80 #[.pointer (some ⟨lb, 0, none⟩), .slice a5 bl.length c5] (fun W => by go_simp) ?_
 rintro X ⟨m6, rfl⟩
 have G6 := hid_mk (show w3.grownBy (w5.drewN m6) none from grown_trans H5.out.2 (grown_drewN w5 m6 none))
 have GW := hid_mk (grown_trans G3.out G6.out)
 have hfr : ∀ k, w.heap.size ≤ k → ¬ (Z k ∨ G k) := fun k hk hh => by
  rcases hh with hh | hh
  ·have := H.out.1.zb k hh; omega
  ·have := H.out.1.gb k hh; omega
 have hD6 := H3.out.2.kept G6.out
 refine (replace_any Z G N db lb (.slice a5 bl.length c5) bl L m p s (w5.drewN m6) hD6 hN hp (fun W hk => (H.out.2 W ((V.Keeps.of_none GW.out).then hk)).1) (fun W hk => (show Own W w.heap.size (.slice a5 bl.length c5) bl from V.rows_keeps (H5.out.1.kept (grown_drewN w5 m6 none) (.inl rfl)) hk (fun k e => hfr k (own_at H5.out.1 e).1)).byt) HBL.out.2 HMM.out.1 HMM.out.2.1 HMM.out.2.2).mono ?_
 rintro e w7 ⟨n7, m7, p7, rfl, hS7, hP7⟩
 have HS6 := hid_mk (show w.heap.size ≤ w1.heap.size ∧ w1.heap.size ≤ (w5.drewN m6).heap.size from ⟨HSZ.out.1, Nat.le_trans HSZ.out.2 (Nat.le_trans HAG.out G6.out.size)⟩)
 have H7 := hid_mk (show ReplaceSpec bl (L.map (·.1)) m p n7 m7 p7 ∧ PF Z G (N + 6 + L.length) db lb s (w5.drewN m6) w7 m7 p7 ∧ EsG w7 (fun j => ((G j ∨ w1.heap.size ≤ j) ∧ j ≠ lb) ∧ j < (w5.drewN m6).heap.size) (.slice a2 ps2.length q2) ps2 ∧ V.Blk w7 nb #[.int .i64 i, .int .i64 t, .slice a2 ps2.length q2] 74 ∧ V.Keeps (fun k => Z k ∨ G k) w w7 from by
  refine ⟨hS7, hP7, ?_, V.Blk.keeps (HA.out.1.kept G6.out (by simp)) hP7.kq (fun hh => ?_), (V.Keeps.of_none GW.out).then hP7.kp⟩
  ·exact (H3.out.1.kept G6.out).bound.keeps hP7.kq (fun j hj hh => by
    rcases hh with hh | hh
    ·rcases hj.1.1 with hg | hg
     ·exact H.out.1.apart j hg hh
     ·have := H.out.1.zb j hh; have := HSZ.out.1; omega
    ·exact hj.1.2 hh)
  ·rcases hh with hh | hh
   ·exact hfr nb HNB.out (.inl hh)
   ·exact hfr nb HNB.out (.inr (by rw [hh]; exact H.out.1.log.gb)))
 have HD6 := hid_mk hD6
 clear hS7 hP7 hD6 hfr G6 H5 H3 HA
 generalize w5.drewN m6 = W6 at *
 refine ⟨_, rfl, at0 w7 (fun W => True), ⟨0, rfl⟩, shut_at0 (fun m => trivial), fun _ h => h, ?_⟩
 go_simp
 repeat (refine mix_rd1 rfl rfl (fun K hK => ?_); apply Exists.intro; refine ⟨fun W hW => ?_, ?_⟩; (go_simp; rfl); (go_simp; refine hK _ _ ?_; clear hK K))
 refine mix_nil ?_
 rintro X ⟨m8, rfl⟩
 have H8 := hid_mk (show PF Z G (N + 6 + L.length) db lb s W6 (w7.drewN m8) m7 p7 ∧ EsG (w7.drewN m8) (fun j => ((G j ∨ w1.heap.size ≤ j) ∧ j ≠ lb) ∧ j < W6.heap.size) (.slice a2 ps2.length q2) ps2 ∧ V.Blk (w7.drewN m8) nb #[.int .i64 i, .int .i64 t, .slice a2 ps2.length q2] 74 ∧ V.Keeps (fun k => Z k ∨ G k) w (w7.drewN m8) from ⟨H7.out.2.1.grow (grown_drewN _ m8 none), H7.out.2.2.1.kept (grown_drewN _ m8 none), H7.out.2.2.2.1.kept (grown_drewN _ m8 none) (by simp), H7.out.2.2.2.2.then (V.Keeps.of_none (grown_drewN _ m8 none))⟩)
 have HS := hid_mk H7.out.1
 clear H7
 generalize w7.drewN m8 = w8 at *
 have HD8 := hid_mk (H8.out.1.dl HD6.out.apart HD6.out.gb)
 by_cases hn0 : n7 = 0
 ·subst hn0
  obtain ⟨v8, hf8⟩ := takeE_facts HD8.out.log
  have HL8 := hid_mk ((hf8 w8 (grown_refl _ _)).2)
  obtain ⟨c0, c1, c2, c3, c4, c5', c6, c7, c8, cz⟩ := HL8.out.cells
  have x0 : w8.cell? ⟨nb, 0, none⟩ = some (.int .i64 i) := by rw [H8.out.2.2.1.cell]; rfl
  have x1 : w8.cell? ⟨nb, 1, none⟩ = some (.int .i64 t) := by rw [H8.out.2.2.1.cell]; rfl
  have x2 : w8.cell? ⟨nb, 2, none⟩ = some (.slice a2 ps2.length q2) := by rw [H8.out.2.2.1.cell]; rfl
  have cz6 := cz 6
  have cz7 := cz 7
  have cz8 := cz 8
  clear hf8 c0 c1 c2 c3 c4 c5' cz
  go_wp2_with fail
  have HP := hid_mk (log_put (G := G) (H := G) (i' := i) (t' := t) (v' := .slice a2 ps2.length q2) HL8.out rfl)
  go_ret
  generalize ((w8.setCell ⟨lb, 6, none⟩ (.int .i64 i)).setCell ⟨lb, 7, none⟩ (.int .i64 t)).setCell ⟨lb, 8, none⟩ (.slice a2 ps2.length q2) = w9 at *
  have hs6 := HS6.out
  have hlb := H.out.1.gb lb H.out.1.log.gb
  have hlog : LogAt w9 (fun j => (G j ∨ w1.heap.size ≤ j) ∧ j < W6.heap.size) lb p7 (s.rebase i t) := ⟨⟨_, ps2, HP.out.1, (H8.out.2.1.log HL8.out HP.out.2).wide (fun j hj => ⟨hj.1.1, hj.2⟩), H2.out.2.1⟩, ⟨.inl H.out.1.log.gb, by omega⟩, ⟨by show 0 ≤ i; omega, by show i < _; omega⟩, by have := HLEN.out; omega⟩
  have hone := V.Keeps.one (Z := fun k => k = lb) HP.out.2 rfl
  refine ⟨0, m7, p7, rfl, by rw [← HBL.out.1]; exact HS.out, (fun j => (Z j ∨ W6.heap.size ≤ j) ∧ j < w8.heap.size), (fun j => (G j ∨ w1.heap.size ≤ j) ∧ j < W6.heap.size), ?_, fun j hj => ?_, fun j hj => ?_, H8.out.2.2.2.then (V.Keeps.one HP.out.2 (.inr H.out.1.log.gb))⟩
  ·rw [if_pos rfl]
   refine ⟨HD8.out.dsk.keeps hone (fun j hj e => ?_), hlog, HD8.out.dk, fun j hj hz => ?_, fun j hj => Nat.lt_of_lt_of_le hj.2 HP.out.2.size, fun j hj => ?_⟩
   ·subst e
    rcases hj.1 with hj | hj
    ·exact H.out.1.apart _ H.out.1.log.gb hj
    ·omega
   ·rcases hz.1 with hz | hz
    ·rcases hj.1 with hg | hg
     ·exact H.out.1.apart j hg hz
     ·have := H.out.1.zb j hz; omega
    ·have := hj.2; omega
   ·have h1 := hj.2
    have h2 := H8.out.1.kp.size
    have h3 := HP.out.2.size
    show j < w9.heap.size
    omega
  ·exact (show (Z j ∨ W6.heap.size ≤ j) ∧ j < w8.heap.size from hj).1.elim .inl (fun h => .inr (by omega))
  ·exact (show (G j ∨ w1.heap.size ≤ j) ∧ j < W6.heap.size from hj).1.elim .inl (fun h => .inr (by omega))
 ·have hq2 : (n7 != 0) = true := by simp [hn0]
  go_wp2_with fail
  go_ret
  refine ⟨n7, m7, p7, rfl, by rw [← HBL.out.1]; exact HS.out, _, G, by rw [if_neg hn0]; exact HD8.out, fun k hk => (show (Z k ∨ W6.heap.size ≤ k) ∧ k < w8.heap.size from hk).1.elim .inl (fun h => .inr (by have := HS6.out; omega)), fun k hk => .inl hk, H8.out.2.2.2⟩
end Go.Proofs.YtlpkphdgadgmiaaGreatDoor.W

namespace Go.Proofs.YtlpkphdgadgmiaaGreatDoor.W
open Go.RowKit Go.Maps Go.Shelf
set_option linter.unusedVariables false
set_option linter.unusedSimpArgs false
set_option maxRecDepth 100000

theorem ld_rebase {w : World} {H : Nat → Prop} {N c db lb : Nat} {m : V.Mem} {p : Pl} {s : LS} {P : LS → Prop} {L : List (Nat × Nat)} (h : LD w H N c db lb m p s P L) (hN : N + 6 + c < 1099511627776) (hc : c < 99999999) (i t : Int) (ht : ∀ W, V.Keeps H w W → Tb W) (hl : s.es.length ≤ 1000000) (he : rebErr s i t = 0) :
  Calls Tryz.prog 32 #[.pointer (some ⟨lb, 0, none⟩), .int .i64 i, .int .i64 t] w fun e w' => ∃ n, e = .returned (.int .i64 n) ∧ V.Keeps H w w' ∧
   ((n = 0 ∧ ∃ m' p' f, LD w' (Gw H w) (N + 6 + c) (c + 1) db lb m' p' (s.rebase i t) (fun u => u = s.rebase i t) [(p.num + 1, f)] ∧ (m.fuse = -1 → m'.fuse = -1) ∧ used m' = (rowR (s.rebase i t).rcs).length) ∨
    (n = 9 ∧ (∃ m', DK w' (Gw H w) (N + 6 + c) (c + 1) db m' (fun u => P u ∨ u = s.rebase i t)) ∧ m.fuse ≠ -1) ∨ (n = 7 ∧ (512 ≤ L.length ∨ 1048576 < used m + (rowR (s.rebase i t).rcs).length))) := by
 obtain ⟨h1, h2, h3, h4, hi⟩ := rebErr_ok he
 obtain ⟨Z, G, hD, hS, hout, hZG⟩ := h
 have hln := lens_of hD.dsk
 have hnum := hS.num
 have hLc := hS.past.len
 have hsane := (hS.sane hln).1
 have hsn : Sane (s.rebase i t) := hsane.rebase hi h1 (by omega) (by omega) (by omega)
 refine (rebase_ok Z G N db lb i t L m p s w hD (by omega) (by omega) (fun W hk => by have := ht W (hk.mono hZG); exact ⟨this.pw, this.tab⟩) hsn hl hS.names hS.past.asc hS.below hout h1 h2 h3 h4 hi).mono ?_
 rintro e w' ⟨n, m', p', rfl, hw, Z', G', hD', hZ', hG', hk⟩
 have hZG' : ∀ k, Z' k ∨ G' k → Gw H w k := fun k hk => by
  rcases hk with hk | hk
  ·rcases hZ' k hk with h | h
   ·exact .inl (hZG k (.inl h))
   ·exact .inr h
  ·rcases hG' k hk with h | h
   ·exact .inl (hZG k (.inr h))
   ·exact .inr h
 refine ⟨n, rfl, hk.mono hZG, ?_⟩
 rcases hw with ⟨e, _⟩ | ⟨_, q, hst, rfl⟩
 ·omega
 rcases hS.replace hln hc hi (by omega) hsn hst with ⟨rfl, ⟨f, hS'⟩, hf, hu⟩ | ⟨rfl, hh, hf⟩ | ⟨rfl, hh⟩
 ·rw [if_pos rfl, if_pos rfl] at hD'
  exact .inl ⟨rfl, m', _, f, ⟨Z', G', ⟨hD'.dsk.monoN (by omega), hD'.log, hD'.dk, hD'.apart, hD'.zb, hD'.gb⟩, hS', rfl, hZG'⟩, hf, hu⟩
 ·exact .inr (.inl ⟨rfl, ⟨m', Z', hD'.dsk.monoN (by omega), hh, fun k hk => ⟨hZG' k (.inl hk), hD'.zb k hk⟩⟩, hf⟩)
 ·exact .inr (.inr ⟨rfl, hh⟩)
theorem emod_of (a n : Int) (hn : 1 ≤ n) : a % n = if a.tmod n < 0 then a.tmod n + n else a.tmod n := by
 rw [Int.tmod_eq_emod]
 have h0 := Int.emod_nonneg a (b := n) (by omega)
 have h1 := Int.emod_lt_of_pos a (b := n) (by omega)
 by_cases hc : 0 ≤ a ∨ n ∣ a
 ·rw [if_pos hc]; simp; omega
 ·rw [if_neg hc]
  have : (n.natAbs : Int) = n := by omega
  rw [this]
  split <;> omega
theorem twice_mod (c q : Int) (hq : 1 ≤ q) (hq' : q ≤ 1000000000000000000) : -q < c.tmod q ∧ c.tmod q < q ∧ (c.tmod q + q).tmod q = c % q := by
 have he := emod_of c q hq
 have h0 := Int.emod_nonneg c (b := q) (by omega)
 have h1 := Int.emod_lt_of_pos c (b := q) (by omega)
 have hb : -q < c.tmod q ∧ c.tmod q < q := by
  by_cases hc : c.tmod q < 0
  ·rw [if_pos hc] at he
   have : -q ≤ c.tmod q := by omega
   by_cases e : c.tmod q = -q
   ·exfalso
    have hm := Int.tmod_lt_of_pos (-c) (b := q) (by omega)
    rw [Int.neg_tmod] at hm
    omega
   ·omega
  ·rw [if_neg hc] at he; omega
 refine ⟨hb.1, hb.2, ?_⟩
 rw [Int.tmod_eq_emod_of_nonneg (by omega)]
 by_cases hc : c.tmod q < 0
 ·rw [if_pos hc] at he
  rw [← he]
  exact Int.emod_eq_of_lt h0 h1
 ·rw [if_neg hc] at he
  rw [Int.add_emod_right, ← he, Int.emod_emod_of_dvd _ (Int.dvd_refl _)]
end Go.Proofs.YtlpkphdgadgmiaaGreatDoor.W
