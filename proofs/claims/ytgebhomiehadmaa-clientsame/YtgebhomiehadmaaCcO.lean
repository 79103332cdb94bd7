/- client: Done. -/
import Derived.Test.YtgebhomiehadmaaCcN
import Derived.RegionTactic
import Derived.ChangeAlike
namespace Go.Proofs.Ytgebhomiehadmaa
open Go.RowKit Go.Maps
set_option linter.unusedVariables false
set_option linter.unusedSimpArgs false
set_option maxRecDepth 100000

def ordL (o : Ord) (v : Value) : Array Value := #[.int .i64 o.kd, .int .i64 o.fr, .int .i64 o.mo, v]
def ordZ : Array Value := #[.int .i64 0, .int .i64 0, .int .i64 0, .slice none 0 0]
def ansZ : Array Value := #[.int .i64 0, .int .i64 0, .int .i64 0, .int .i64 0, .slice none 0 0, .int .i64 0]
theorem done_no {w : World} {p : Value} (h : NoC w p) : Calls Try.prog 14 #[p] w fun e w' => e = .returned (.tuple #[.agg ordZ, .agg ansZ, .bool false]) ∧ w.grownBy w' none := by
  have HG := hid_mk (ga2 w (.cells #[.int .i64 0, .int .i64 0, .int .i64 0, .slice none 0 0] 42) (.cells #[.int .i64 0, .int .i64 0, .int .i64 0, .int .i64 0, .slice none 0 0, .int .i64 0] 44))
  have HB := hid_mk (blk_alloc2 w #[.int .i64 0, .int .i64 0, .int .i64 0, .slice none 0 0] #[.int .i64 0, .int .i64 0, .int .i64 0, .int .i64 0, .slice none 0 0, .int .i64 0] 42 44)
  have HM := hid_mk (h.kept HG.out)
  obtain ⟨a0, a1, a2, a3, af⟩ := blk4 HB.out.1
  obtain ⟨b0, b1, b2, b3, b4, b5, bf⟩ := blk6 HB.out.2
  clear h
  go_enter Try.func14, Try.ntmps14
  go_wp2_with (go_at_call 37; refine (made_no HM.out).mono ?_; rintro e w' ⟨rfl, hw⟩; rw [hw]; clear hw)
  exact bodyPost_ret (v := .tuple #[.agg #[.int .i64 0, .int .i64 0, .int .i64 0, .slice none 0 0], .agg #[.int .i64 0, .int .i64 0, .int .i64 0, .int .i64 0, .slice none 0 0, .int .i64 0], .bool false]) (by simp [results, Try.results14, go_sem, a0, a1, a2, a3, b0, b1, b2, b3, b4, b5]) rfl ⟨rfl, HG.out⟩
theorem done_bad {w : World} {B b : Nat} {V : CV} {g : Cli} (h : IsC w B b V g) (hs : g.st ≠ 2) : Calls Try.prog 14 #[.pointer (some ⟨b, 0, none⟩)] w fun e w' => e = .returned (.tuple #[.agg ordZ, .agg ansZ, .bool false]) ∧ w.grownBy w' none := by
  have HG := hid_mk (ga2 w (.cells #[.int .i64 0, .int .i64 0, .int .i64 0, .slice none 0 0] 42) (.cells #[.int .i64 0, .int .i64 0, .int .i64 0, .int .i64 0, .slice none 0 0, .int .i64 0] 44))
  have HB := hid_mk (blk_alloc2 w #[.int .i64 0, .int .i64 0, .int .i64 0, .slice none 0 0] #[.int .i64 0, .int .i64 0, .int .i64 0, .int .i64 0, .slice none 0 0, .int .i64 0] 42 44)
  have HM := hid_mk (made_any (h.kept HG.out))
  have c7 := (h.kept HG.out).c 7 rfl
  obtain ⟨a0, a1, a2, a3, af⟩ := blk4 HB.out.1
  obtain ⟨b0, b1, b2, b3, b4, b5, bf⟩ := blk6 HB.out.2
  have hs' : (g.st != 2) = true := by simpa using hs
  clear h hs
  go_enter Try.func14, Try.ntmps14
  go_wp2_with (go_at_call 37; refine HM.out.mono ?_; rintro e w' ⟨rfl, hw⟩; rw [hw]; clear hw)
  exact bodyPost_ret (v := .tuple #[.agg #[.int .i64 0, .int .i64 0, .int .i64 0, .slice none 0 0], .agg #[.int .i64 0, .int .i64 0, .int .i64 0, .int .i64 0, .slice none 0 0, .int .i64 0], .bool false]) (by simp [results, Try.results14, go_sem, a0, a1, a2, a3, b0, b1, b2, b3, b4, b5]) rfl ⟨rfl, HG.out⟩
set_option maxHeartbeats 4000000 in
theorem done_ok {w : World} {B b : Nat} {V : CV} {g : Cli} (h : IsC w B b V g) (hs : g.st = 2) : Calls Try.prog 14 #[.pointer (some ⟨b, 0, none⟩)] w fun e w' => e = .returned (.tuple #[.agg (ordL g.o V.vo), .agg (ansL g.an V.vr), .bool true]) ∧ CPv w w' B b V { V with vo := .slice none 0 0, vr := .slice none 0 0, R := [] } g (doneG g) ∧ Own w' B V.vo g.o.b ∧ OwnRec w' B V.vr V.R := by
  have HG := hid_mk (ga2 w (.cells #[.int .i64 0, .int .i64 0, .int .i64 0, .slice none 0 0] 42) (.cells #[.int .i64 0, .int .i64 0, .int .i64 0, .int .i64 0, .slice none 0 0, .int .i64 0] 44))
  have HB := hid_mk (blk_alloc2 w #[.int .i64 0, .int .i64 0, .int .i64 0, .slice none 0 0] #[.int .i64 0, .int .i64 0, .int .i64 0, .int .i64 0, .slice none 0 0, .int .i64 0] 42 44)
  have HN := hid_mk (And.intro h hs)
  have HM := hid_mk (made_any (h.kept HG.out))
  obtain ⟨sa, sc, oa, oc, ra, rc, ca, cc, e1, e2, e3, e4⟩ := h.seen
  have HS := hid_mk (And.intro e2 e3)
  have c7 := (h.kept HG.out).c 7 rfl
  have c8 := (h.kept HG.out).c 8 rfl
  have c9 := (h.kept HG.out).c 9 rfl
  have c10 := (h.kept HG.out).c 10 rfl
  have c11 := (h.kept HG.out).c 11 rfl
  have c13 := (h.kept HG.out).c 13 rfl
  have c14 := (h.kept HG.out).c 14 rfl
  have c15 := (h.kept HG.out).c 15 rfl
  have c16 := (h.kept HG.out).c 16 rfl
  have c17 := (h.kept HG.out).c 17 rfl
  have c18 := (h.kept HG.out).c 18 rfl
  rw [e2] at c11
  rw [e3] at c17
  have hs' : (g.st != 2) = false := by simp [hs]
  clear h hs e1 e2 e3 e4
  go_enter Try.func14, Try.ntmps14
  go_upto_region 3 with (go_at_call 37; refine HM.out.mono ?_; rintro e w' ⟨rfl, hw⟩; rw [hw]; clear hw)
  generalize ((w.alloc (.cells #[.int .i64 0, .int .i64 0, .int .i64 0, .slice none 0 0] 42)).alloc (.cells #[.int .i64 0, .int .i64 0, .int .i64 0, .int .i64 0, .slice none 0 0, .int .i64 0] 44)) = w1 at *
  clear c7
  have c8a := fun o => (World.grownBy_alloc w1 o none).cell c8 (by simp)
  have c8b := fun o o2 => (World.grownBy_alloc (w1.alloc o) o2 none).cell (c8a o) (by simp)
  have c9a := fun o => (World.grownBy_alloc w1 o none).cell c9 (by simp)
  have c9b := fun o o2 => (World.grownBy_alloc (w1.alloc o) o2 none).cell (c9a o) (by simp)
  have c10a := fun o => (World.grownBy_alloc w1 o none).cell c10 (by simp)
  have c10b := fun o o2 => (World.grownBy_alloc (w1.alloc o) o2 none).cell (c10a o) (by simp)
  have c11a := fun o => (World.grownBy_alloc w1 o none).cell c11 (by simp)
  have c11b := fun o o2 => (World.grownBy_alloc (w1.alloc o) o2 none).cell (c11a o) (by simp)
  have c13a := fun o => (World.grownBy_alloc w1 o none).cell c13 (by simp)
  have c13b := fun o o2 => (World.grownBy_alloc (w1.alloc o) o2 none).cell (c13a o) (by simp)
  have c14a := fun o => (World.grownBy_alloc w1 o none).cell c14 (by simp)
  have c14b := fun o o2 => (World.grownBy_alloc (w1.alloc o) o2 none).cell (c14a o) (by simp)
  have c15a := fun o => (World.grownBy_alloc w1 o none).cell c15 (by simp)
  have c15b := fun o o2 => (World.grownBy_alloc (w1.alloc o) o2 none).cell (c15a o) (by simp)
  have c16a := fun o => (World.grownBy_alloc w1 o none).cell c16 (by simp)
  have c16b := fun o o2 => (World.grownBy_alloc (w1.alloc o) o2 none).cell (c16a o) (by simp)
  have c17a := fun o => (World.grownBy_alloc w1 o none).cell c17 (by simp)
  have c17b := fun o o2 => (World.grownBy_alloc (w1.alloc o) o2 none).cell (c17a o) (by simp)
  have c18a := fun o => (World.grownBy_alloc w1 o none).cell c18 (by simp)
  have c18b := fun o o2 => (World.grownBy_alloc (w1.alloc o) o2 none).cell (c18a o) (by simp)
  go_region
  · generalize hw2 : ((w1.alloc (.cells #[.int .i64 g.o.kd, .int .i64 g.o.fr, .int .i64 g.o.mo, .slice oa g.o.b.length oc] 42)).alloc (.cells #[.int .i64 g.an.id, .int .i64 g.an.e, .int .i64 g.an.se, .int .i64 g.an.nu, .slice ra V.R.length rc, .int .i64 g.an.le] 44)).drew = w2 at *
    have HB2 := hid_mk (show w1.grownBy w2 none ∧ Blk w2 w1.heap.size #[.int .i64 g.o.kd, .int .i64 g.o.fr, .int .i64 g.o.mo, .slice oa g.o.b.length oc] 42 ∧ Blk w2 (w1.heap.size + 1) #[.int .i64 g.an.id, .int .i64 g.an.e, .int .i64 g.an.se, .int .i64 g.an.nu, .slice ra V.R.length rc, .int .i64 g.an.le] 44 ∧ w.heap.size + 1 < w1.heap.size ∧ w.heap.size + 1 < (w1.heap.size + 1) from by
      rw [← hw2]
      have h2 := blk_alloc2 w1 #[.int .i64 g.o.kd, .int .i64 g.o.fr, .int .i64 g.o.mo, .slice oa g.o.b.length oc] #[.int .i64 g.an.id, .int .i64 g.an.e, .int .i64 g.an.se, .int .i64 g.an.nu, .slice ra V.R.length rc, .int .i64 g.an.le] 42 44
      exact ⟨grown_trans (ga2 w1 _ _) (grown_drew _ none), h2.1.kept (grown_drew _ none) (by simp), h2.2.kept (grown_drew _ none) (by simp), by have := HB.out.2.lt; omega, by have := HB.out.2.lt; omega⟩)
    clear hw2
    generalize w1.heap.size + 1 = q4 at *
    generalize w1.heap.size = q3 at *
    have hI := (HN.out.1.kept HG.out).kept HB2.out.1
    have d7 := hI.c 7 rfl
    have d8 := hI.c 8 rfl
    have d9 := hI.c 9 rfl
    have d10 := hI.c 10 rfl
    have d11 := hI.c 11 rfl
    have d13 := hI.c 13 rfl
    have d14 := hI.c 14 rfl
    have d15 := hI.c 15 rfl
    have d16 := hI.c 16 rfl
    have d17 := hI.c 17 rfl
    have d18 := hI.c 18 rfl
    have hfz := hI.fz
    have gS := grown_trans (grown_trans (grown_trans (grown_trans (grown_trans (grown_trans (grown_trans (grown_trans (grown_trans (grown_trans (grown_setCell w2 b 7 (.int .i64 0)) (grown_setCell _ b 8 (.int .i64 0))) (grown_setCell _ b 9 (.int .i64 0))) (grown_setCell _ b 10 (.int .i64 0))) (grown_setCell _ b 11 (.slice none 0 0))) (grown_setCell _ b 13 (.int .i64 0))) (grown_setCell _ b 14 (.int .i64 0))) (grown_setCell _ b 15 (.int .i64 0))) (grown_setCell _ b 16 (.int .i64 0))) (grown_setCell _ b 17 (.slice none 0 0))) (grown_setCell _ b 18 (.int .i64 0))
    have hb := ((((((((((hI.blk.set 7 (.int .i64 0)).set 8 (.int .i64 0)).set 9 (.int .i64 0)).set 10 (.int .i64 0)).set 11 (.slice none 0 0)).set 13 (.int .i64 0)).set 14 (.int .i64 0)).set 15 (.int .i64 0)).set 16 (.int .i64 0)).set 17 (.slice none 0 0)).set 18 (.int .i64 0)
    simp only [List.setIfInBounds_toArray] at hb
    rw [show ((((((((((((cliL g V).set 7 (.int .i64 0)).set 8 (.int .i64 0)).set 9 (.int .i64 0)).set 10 (.int .i64 0)).set 11 (.slice none 0 0)).set 13 (.int .i64 0)).set 14 (.int .i64 0)).set 15 (.int .i64 0)).set 16 (.int .i64 0)).set 17 (.slice none 0 0)).set 18 (.int .i64 0)) = cliL { g with st := 0, o := noO, an := noA } { V with vo := .slice none 0 0, vr := .slice none 0 0, R := [] } from by simp [cliL, noO, noA]] at hb
    have k1 := CPv.over (V' := { V with vo := .slice none 0 0, vr := .slice none 0 0, R := [] }) (g' := { g with st := 0, o := noO, an := noA }) HN.out.1 (grown_trans HG.out HB2.out.1) gS hb rfl rfl rfl rfl rfl (World.ownsRow_nil _ _ _ _) (fun k e => (by cases e)) (OwnRec.nil _ _) rfl (fun k e => (by rcases e with e | ⟨p, hp, _⟩; cases e; cases hp))
      ⟨hI.ok.id0, hI.ok.id1, hI.ok.pa0, hI.ok.pa1, hI.ok.sv0, hI.ok.sv1, hI.ok.pl, hI.ok.ps0, hI.ok.tr, hI.ok.sq, Nat.zero_le _⟩
    have k2 := hI.over gS
    have hb3 := HB2.out.2.1.kept gS (by have h9 := hI.blk.ne HB2.out.2.1 (by decide); intro e; injection e with e; exact h9 e.symm)
    have hb4 := HB2.out.2.2.1.kept gS (by have h9 := hI.blk.ne HB2.out.2.2.1 (by decide); intro e; injection e with e; exact h9 e.symm)
    have hb0 := (HB.out.1.kept HB2.out.1 (by simp)).kept gS (by have h9 := HN.out.1.blk.lt; intro e; injection e with e; omega)
    have hb1 := (HB.out.2.kept HB2.out.1 (by simp)).kept gS (by have h9 := HN.out.1.blk.lt; intro e; injection e with e; omega)
    have H3 := hid_mk (And.intro k1 (And.intro k2.2.1 (And.intro k2.2.2.2.2 (And.intro hb3 (And.intro hb4 (And.intro hb0 hb1))))))
    clear gS hb k1 k2 hb3 hb4 hb0 hb1 hI
    go_upto_region 5 with fail
    clear d7 d8 d9 d10 d11 d13 d14 d15 d16 d17 d18 hfz
    generalize (((((((((((w2.setCell ⟨b, 7, none⟩ (.int .i64 0)).setCell ⟨b, 8, none⟩ (.int .i64 0)).setCell ⟨b, 9, none⟩ (.int .i64 0)).setCell ⟨b, 10, none⟩ (.int .i64 0)).setCell ⟨b, 11, none⟩ (.slice none 0 0)).setCell ⟨b, 13, none⟩ (.int .i64 0)).setCell ⟨b, 14, none⟩ (.int .i64 0)).setCell ⟨b, 15, none⟩ (.int .i64 0)).setCell ⟨b, 16, none⟩ (.int .i64 0)).setCell ⟨b, 17, none⟩ (.slice none 0 0)).setCell ⟨b, 18, none⟩ (.int .i64 0)) = w3 at *
    generalize hq : w.heap.size = q at *
    have HQ := hid_mk hq
    clear hq
    have HC := hid_mk (fun (W : World) (hW : Blk W q3 #[.int .i64 g.o.kd, .int .i64 g.o.fr, .int .i64 g.o.mo, .slice oa g.o.b.length oc] 42 ∧ Blk W q4 #[.int .i64 g.an.id, .int .i64 g.an.e, .int .i64 g.an.se, .int .i64 g.an.nu, .slice ra V.R.length rc, .int .i64 g.an.le] 44) => And.intro (blk4 hW.1) (blk6 hW.2))
    refine wp_region_mix [(0, true), (1, true), (2, false), (3, false), (4, true)] (at0 w3 (fun W => Blk W q3 #[.int .i64 g.o.kd, .int .i64 g.o.fr, .int .i64 g.o.mo, .slice oa g.o.b.length oc] 42 ∧ Blk W q4 #[.int .i64 g.an.id, .int .i64 g.an.e, .int .i64 g.an.se, .int .i64 g.an.nu, .slice ra V.R.length rc, .int .i64 g.an.le] 44)) (by kernel_rfl) (by kernel_rfl) rfl (by kernel_rfl) (shut_at0 (fun m => ⟨H3.out.2.2.2.1.kept (grown_drewN _ m none) (by simp), H3.out.2.2.2.2.1.kept (grown_drewN _ m none) (by simp)⟩)) ⟨1, rfl⟩ ?_
    repeat (refine mix_rd1 rfl rfl (fun K hK => ?_); apply Exists.intro; refine ⟨fun W hW => ?_, ?_⟩; (obtain ⟨⟨x0, x1, x2, x3, xf⟩, y0, y1, y2, y3, y4, y5, yf⟩ := HC.out W hW; go_simp; rfl); (go_simp; refine hK _ _ ?_; clear hK K))
    refine mix_skip rfl rfl ?_
    rintro W0 ⟨m1, rfl⟩
    have hb0 := H3.out.2.2.2.2.2.1.kept (grown_drewN w3 m1 none) (by simp)
    obtain ⟨x0, x1, x2, x3, xf⟩ := blk4 hb0
    have h4 := setAll_all hb0 [.int .i64 g.o.kd, .int .i64 g.o.fr, .int .i64 g.o.mo, .slice oa g.o.b.length oc] rfl
    refine ⟨setAll (w3.drewN m1) q 0 [.int .i64 g.o.kd, .int .i64 g.o.fr, .int .i64 g.o.mo, .slice oa g.o.b.length oc], by go_simp; rfl, ?_⟩
    have hne3 : q ≠ q3 := by have h8 := HB2.out.2.2.2.1; omega
    have hne4 : q ≠ q4 := by have h8 := HB2.out.2.2.2.2; omega
    have H4 := hid_mk (And.intro (grown_trans (grown_drewN w3 m1 (some q)) h4.2) (And.intro h4.1 (And.intro ((H3.out.2.2.2.2.2.2.kept (grown_drewN w3 m1 none) (by simp)).kept h4.2 (by simp)) (And.intro ((H3.out.2.2.2.1.kept (grown_drewN w3 m1 none) (by simp)).kept h4.2 (by simpa using hne3.symm)) ((H3.out.2.2.2.2.1.kept (grown_drewN w3 m1 none) (by simp)).kept h4.2 (by simpa using hne4.symm))))))
    clear h4 hb0 x0 x1 x2 x3 xf
    generalize setAll (w3.drewN m1) q 0 [.int .i64 g.o.kd, .int .i64 g.o.fr, .int .i64 g.o.mo, .slice oa g.o.b.length oc] = w4 at *
    refine ⟨at0 w4 (fun W => Blk W q3 #[.int .i64 g.o.kd, .int .i64 g.o.fr, .int .i64 g.o.mo, .slice oa g.o.b.length oc] 42 ∧ Blk W q4 #[.int .i64 g.an.id, .int .i64 g.an.e, .int .i64 g.an.se, .int .i64 g.an.nu, .slice ra V.R.length rc, .int .i64 g.an.le] 44), ⟨0, rfl⟩, shut_at0 (fun m => ⟨H4.out.2.2.2.1.kept (grown_drewN _ m none) (by simp), H4.out.2.2.2.2.kept (grown_drewN _ m none) (by simp)⟩), fun _ h => h, ?_⟩
    go_simp
    refine mix_skip rfl rfl ?_
    rintro W0 ⟨m2, rfl⟩
    have hb0 := H4.out.2.2.1.kept (grown_drewN w4 m2 none) (by simp)
    obtain ⟨x0, x1, x2, x3, x4, x5, xf⟩ := blk6 hb0
    have h5 := setAll_all hb0 [.int .i64 g.an.id, .int .i64 g.an.e, .int .i64 g.an.se, .int .i64 g.an.nu, .slice ra V.R.length rc, .int .i64 g.an.le] rfl
    refine ⟨setAll (w4.drewN m2) (q + 1) 0 [.int .i64 g.an.id, .int .i64 g.an.e, .int .i64 g.an.se, .int .i64 g.an.nu, .slice ra V.R.length rc, .int .i64 g.an.le], by go_simp; rfl, ?_⟩
    have hnf3 : q + 1 ≠ q3 := by have h8 := HB2.out.2.2.2.1; omega
    have hnf4 : q + 1 ≠ q4 := by have h8 := HB2.out.2.2.2.2; omega
    have H5 := hid_mk (And.intro (grown_trans (grown_drewN w4 m2 (some (q + 1))) h5.2) (And.intro h5.1 (And.intro ((H4.out.2.1.kept (grown_drewN w4 m2 none) (by simp)).kept h5.2 (by simp)) (And.intro ((H4.out.2.2.2.1.kept (grown_drewN w4 m2 none) (by simp)).kept h5.2 (by simpa using hnf3.symm)) ((H4.out.2.2.2.2.kept (grown_drewN w4 m2 none) (by simp)).kept h5.2 (by simpa using hnf4.symm))))))
    clear h5 hb0 x0 x1 x2 x3 x4 x5 xf
    generalize setAll (w4.drewN m2) (q + 1) 0 [.int .i64 g.an.id, .int .i64 g.an.e, .int .i64 g.an.se, .int .i64 g.an.nu, .slice ra V.R.length rc, .int .i64 g.an.le] = w5 at *
    refine ⟨at0 w5 (fun W => Blk W q3 #[.int .i64 g.o.kd, .int .i64 g.o.fr, .int .i64 g.o.mo, .slice oa g.o.b.length oc] 42 ∧ Blk W q4 #[.int .i64 g.an.id, .int .i64 g.an.e, .int .i64 g.an.se, .int .i64 g.an.nu, .slice ra V.R.length rc, .int .i64 g.an.le] 44), ⟨0, rfl⟩, shut_at0 (fun m => ⟨H5.out.2.2.2.1.kept (grown_drewN _ m none) (by simp), H5.out.2.2.2.2.kept (grown_drewN _ m none) (by simp)⟩), fun _ h => h, ?_⟩
    go_simp
    repeat (refine mix_rd1 rfl rfl (fun K hK => ?_); apply Exists.intro; refine ⟨fun W hW => ?_, ?_⟩; (go_simp; rfl); (go_simp; refine hK _ _ ?_; clear hK K))
    refine mix_nil ?_
    rintro W ⟨m9, rfl⟩
    obtain ⟨x0, x1, x2, x3, xf⟩ := blk4 (H5.out.2.2.1.kept (grown_drewN w5 m9 none) (by simp))
    obtain ⟨y0, y1, y2, y3, y4, y5, yf⟩ := blk6 (H5.out.2.1.kept (grown_drewN w5 m9 none) (by simp))
    go_wp2
    have hF := keeps_then (Keeps.one H4.out.1 (.inl rfl) : Keeps (fun k => k = q ∨ k = q + 1) w3 w4) ((Keeps.one H5.out.1 (.inr rfl) : Keeps (fun k => k = q ∨ k = q + 1) w4 w5).thenZ (Keeps.of_none (grown_drewN w5 m9 none))) (fun _ _ e => e)
    have hnf : ∀ k, k < w.heap.size → ¬ (k = q ∨ k = q + 1) := fun k hk e => by have h8 := HQ.out; omega
    have hnew : ∀ {e : TypeId} {size : Nat} {v : Value} {n : Nat} {xs : List Value}, w.ownsRow B e size v n xs → ∀ k, v.ownBlock = some k → ¬ (k = q ∨ k = q + 1) := fun hr k e => hnf k (owns_lt hr e).2
    obtain ⟨V1, hV1⟩ : ∃ V1, V1 = CV.mk V.vs (.slice none 0 0) (.slice none 0 0) V.vc V.L [] := ⟨_, rfl⟩
    have hft : ∀ k, FtC b { V with vo := .slice none 0 0, vr := .slice none 0 0, R := [] } k → k < w.heap.size := fun k e => by
      rcases e with (rfl | e) | e | e | (e | ⟨p, hp, _⟩) | ⟨p, hp, e⟩
      · exact HN.out.1.blk.lt
      · exact (owns_lt HN.out.1.row e).2
      · exact (owns_lt HN.out.1.sv e).2
      · cases e
      · cases e
      · cases hp
      · exact (owns_lt (HN.out.1.bts p hp) e).2
    have hdone : doneG g = { g with st := 0, o := noO, an := noA } := by unfold doneG; rw [if_pos HN.out.2]
    refine bodyPost_ret (v := .tuple #[.agg #[.int .i64 g.o.kd, .int .i64 g.o.fr, .int .i64 g.o.mo, .slice oa g.o.b.length oc], .agg #[.int .i64 g.an.id, .int .i64 g.an.e, .int .i64 g.an.se, .int .i64 g.an.nu, .slice ra V.R.length rc, .int .i64 g.an.le], .bool true]) (by simp [results, Try.results14, go_sem, x0, x1, x2, x3, y0, y1, y2, y3, y4, y5]) rfl ⟨?_, ?_, ?_, ?_⟩
    · unfold ordL ansL
      rw [HS.out.1, HS.out.2]
    · rw [hdone]
      refine ⟨H3.out.1.cli.keeps hF (fun k e => hnf k (hft k e)), keeps_then H3.out.1.keeps hF (fun i hi e => absurd e (hnf i hi)), H3.out.1.ft⟩
    · exact own_keeps H3.out.2.1 hF (hnew HN.out.1.od)
    · exact H3.out.2.2.1.keeps hF (fun k e => hnf k (HN.out.1.rcs.lt e).2)
  · generalize hw2 : ((w1.alloc (.cells #[.int .i64 g.an.id, .int .i64 g.an.e, .int .i64 g.an.se, .int .i64 g.an.nu, .slice ra V.R.length rc, .int .i64 g.an.le] 44)).alloc (.cells #[.int .i64 g.o.kd, .int .i64 g.o.fr, .int .i64 g.o.mo, .slice oa g.o.b.length oc] 42)).drew = w2 at *
    have HB2 := hid_mk (show w1.grownBy w2 none ∧ Blk w2 (w1.heap.size + 1) #[.int .i64 g.o.kd, .int .i64 g.o.fr, .int .i64 g.o.mo, .slice oa g.o.b.length oc] 42 ∧ Blk w2 w1.heap.size #[.int .i64 g.an.id, .int .i64 g.an.e, .int .i64 g.an.se, .int .i64 g.an.nu, .slice ra V.R.length rc, .int .i64 g.an.le] 44 ∧ w.heap.size + 1 < (w1.heap.size + 1) ∧ w.heap.size + 1 < w1.heap.size from by
      rw [← hw2]
      have h2 := blk_alloc2 w1 #[.int .i64 g.an.id, .int .i64 g.an.e, .int .i64 g.an.se, .int .i64 g.an.nu, .slice ra V.R.length rc, .int .i64 g.an.le] #[.int .i64 g.o.kd, .int .i64 g.o.fr, .int .i64 g.o.mo, .slice oa g.o.b.length oc] 44 42
      exact ⟨grown_trans (ga2 w1 _ _) (grown_drew _ none), h2.2.kept (grown_drew _ none) (by simp), h2.1.kept (grown_drew _ none) (by simp), by have := HB.out.2.lt; omega, by have := HB.out.2.lt; omega⟩)
    clear hw2
    generalize w1.heap.size + 1 = q3 at *
    generalize w1.heap.size = q4 at *
    have hI := (HN.out.1.kept HG.out).kept HB2.out.1
    have d7 := hI.c 7 rfl
    have d8 := hI.c 8 rfl
    have d9 := hI.c 9 rfl
    have d10 := hI.c 10 rfl
    have d11 := hI.c 11 rfl
    have d13 := hI.c 13 rfl
    have d14 := hI.c 14 rfl
    have d15 := hI.c 15 rfl
    have d16 := hI.c 16 rfl
    have d17 := hI.c 17 rfl
    have d18 := hI.c 18 rfl
    have hfz := hI.fz
    have gS := grown_trans (grown_trans (grown_trans (grown_trans (grown_trans (grown_trans (grown_trans (grown_trans (grown_trans (grown_trans (grown_setCell w2 b 7 (.int .i64 0)) (grown_setCell _ b 8 (.int .i64 0))) (grown_setCell _ b 9 (.int .i64 0))) (grown_setCell _ b 10 (.int .i64 0))) (grown_setCell _ b 11 (.slice none 0 0))) (grown_setCell _ b 13 (.int .i64 0))) (grown_setCell _ b 14 (.int .i64 0))) (grown_setCell _ b 15 (.int .i64 0))) (grown_setCell _ b 16 (.int .i64 0))) (grown_setCell _ b 17 (.slice none 0 0))) (grown_setCell _ b 18 (.int .i64 0))
    have hb := ((((((((((hI.blk.set 7 (.int .i64 0)).set 8 (.int .i64 0)).set 9 (.int .i64 0)).set 10 (.int .i64 0)).set 11 (.slice none 0 0)).set 13 (.int .i64 0)).set 14 (.int .i64 0)).set 15 (.int .i64 0)).set 16 (.int .i64 0)).set 17 (.slice none 0 0)).set 18 (.int .i64 0)
    simp only [List.setIfInBounds_toArray] at hb
    rw [show ((((((((((((cliL g V).set 7 (.int .i64 0)).set 8 (.int .i64 0)).set 9 (.int .i64 0)).set 10 (.int .i64 0)).set 11 (.slice none 0 0)).set 13 (.int .i64 0)).set 14 (.int .i64 0)).set 15 (.int .i64 0)).set 16 (.int .i64 0)).set 17 (.slice none 0 0)).set 18 (.int .i64 0)) = cliL { g with st := 0, o := noO, an := noA } { V with vo := .slice none 0 0, vr := .slice none 0 0, R := [] } from by simp [cliL, noO, noA]] at hb
    have k1 := CPv.over (V' := { V with vo := .slice none 0 0, vr := .slice none 0 0, R := [] }) (g' := { g with st := 0, o := noO, an := noA }) HN.out.1 (grown_trans HG.out HB2.out.1) gS hb rfl rfl rfl rfl rfl (World.ownsRow_nil _ _ _ _) (fun k e => (by cases e)) (OwnRec.nil _ _) rfl (fun k e => (by rcases e with e | ⟨p, hp, _⟩; cases e; cases hp))
      ⟨hI.ok.id0, hI.ok.id1, hI.ok.pa0, hI.ok.pa1, hI.ok.sv0, hI.ok.sv1, hI.ok.pl, hI.ok.ps0, hI.ok.tr, hI.ok.sq, Nat.zero_le _⟩
    have k2 := hI.over gS
    have hb3 := HB2.out.2.1.kept gS (by have h9 := hI.blk.ne HB2.out.2.1 (by decide); intro e; injection e with e; exact h9 e.symm)
    have hb4 := HB2.out.2.2.1.kept gS (by have h9 := hI.blk.ne HB2.out.2.2.1 (by decide); intro e; injection e with e; exact h9 e.symm)
    have hb0 := (HB.out.1.kept HB2.out.1 (by simp)).kept gS (by have h9 := HN.out.1.blk.lt; intro e; injection e with e; omega)
    have hb1 := (HB.out.2.kept HB2.out.1 (by simp)).kept gS (by have h9 := HN.out.1.blk.lt; intro e; injection e with e; omega)
    have H3 := hid_mk (And.intro k1 (And.intro k2.2.1 (And.intro k2.2.2.2.2 (And.intro hb3 (And.intro hb4 (And.intro hb0 hb1))))))
    clear gS hb k1 k2 hb3 hb4 hb0 hb1 hI
    go_upto_region 5 with fail
    clear d7 d8 d9 d10 d11 d13 d14 d15 d16 d17 d18 hfz
    generalize (((((((((((w2.setCell ⟨b, 7, none⟩ (.int .i64 0)).setCell ⟨b, 8, none⟩ (.int .i64 0)).setCell ⟨b, 9, none⟩ (.int .i64 0)).setCell ⟨b, 10, none⟩ (.int .i64 0)).setCell ⟨b, 11, none⟩ (.slice none 0 0)).setCell ⟨b, 13, none⟩ (.int .i64 0)).setCell ⟨b, 14, none⟩ (.int .i64 0)).setCell ⟨b, 15, none⟩ (.int .i64 0)).setCell ⟨b, 16, none⟩ (.int .i64 0)).setCell ⟨b, 17, none⟩ (.slice none 0 0)).setCell ⟨b, 18, none⟩ (.int .i64 0)) = w3 at *
    generalize hq : w.heap.size = q at *
    have HQ := hid_mk hq
    clear hq
    have HC := hid_mk (fun (W : World) (hW : Blk W q3 #[.int .i64 g.o.kd, .int .i64 g.o.fr, .int .i64 g.o.mo, .slice oa g.o.b.length oc] 42 ∧ Blk W q4 #[.int .i64 g.an.id, .int .i64 g.an.e, .int .i64 g.an.se, .int .i64 g.an.nu, .slice ra V.R.length rc, .int .i64 g.an.le] 44) => And.intro (blk4 hW.1) (blk6 hW.2))
    refine wp_region_mix [(0, true), (1, true), (2, false), (3, false), (4, true)] (at0 w3 (fun W => Blk W q3 #[.int .i64 g.o.kd, .int .i64 g.o.fr, .int .i64 g.o.mo, .slice oa g.o.b.length oc] 42 ∧ Blk W q4 #[.int .i64 g.an.id, .int .i64 g.an.e, .int .i64 g.an.se, .int .i64 g.an.nu, .slice ra V.R.length rc, .int .i64 g.an.le] 44)) (by kernel_rfl) (by kernel_rfl) rfl (by kernel_rfl) (shut_at0 (fun m => ⟨H3.out.2.2.2.1.kept (grown_drewN _ m none) (by simp), H3.out.2.2.2.2.1.kept (grown_drewN _ m none) (by simp)⟩)) ⟨1, rfl⟩ ?_
    repeat (refine mix_rd1 rfl rfl (fun K hK => ?_); apply Exists.intro; refine ⟨fun W hW => ?_, ?_⟩; (obtain ⟨⟨x0, x1, x2, x3, xf⟩, y0, y1, y2, y3, y4, y5, yf⟩ := HC.out W hW; go_simp; rfl); (go_simp; refine hK _ _ ?_; clear hK K))
    refine mix_skip rfl rfl ?_
    rintro W0 ⟨m1, rfl⟩
    have hb0 := H3.out.2.2.2.2.2.1.kept (grown_drewN w3 m1 none) (by simp)
    obtain ⟨x0, x1, x2, x3, xf⟩ := blk4 hb0
    have h4 := setAll_all hb0 [.int .i64 g.o.kd, .int .i64 g.o.fr, .int .i64 g.o.mo, .slice oa g.o.b.length oc] rfl
    refine ⟨setAll (w3.drewN m1) q 0 [.int .i64 g.o.kd, .int .i64 g.o.fr, .int .i64 g.o.mo, .slice oa g.o.b.length oc], by go_simp; rfl, ?_⟩
    have hne3 : q ≠ q3 := by have h8 := HB2.out.2.2.2.1; omega
    have hne4 : q ≠ q4 := by have h8 := HB2.out.2.2.2.2; omega
    have H4 := hid_mk (And.intro (grown_trans (grown_drewN w3 m1 (some q)) h4.2) (And.intro h4.1 (And.intro ((H3.out.2.2.2.2.2.2.kept (grown_drewN w3 m1 none) (by simp)).kept h4.2 (by simp)) (And.intro ((H3.out.2.2.2.1.kept (grown_drewN w3 m1 none) (by simp)).kept h4.2 (by simpa using hne3.symm)) ((H3.out.2.2.2.2.1.kept (grown_drewN w3 m1 none) (by simp)).kept h4.2 (by simpa using hne4.symm))))))
    clear h4 hb0 x0 x1 x2 x3 xf
    generalize setAll (w3.drewN m1) q 0 [.int .i64 g.o.kd, .int .i64 g.o.fr, .int .i64 g.o.mo, .slice oa g.o.b.length oc] = w4 at *
    refine ⟨at0 w4 (fun W => Blk W q3 #[.int .i64 g.o.kd, .int .i64 g.o.fr, .int .i64 g.o.mo, .slice oa g.o.b.length oc] 42 ∧ Blk W q4 #[.int .i64 g.an.id, .int .i64 g.an.e, .int .i64 g.an.se, .int .i64 g.an.nu, .slice ra V.R.length rc, .int .i64 g.an.le] 44), ⟨0, rfl⟩, shut_at0 (fun m => ⟨H4.out.2.2.2.1.kept (grown_drewN _ m none) (by simp), H4.out.2.2.2.2.kept (grown_drewN _ m none) (by simp)⟩), fun _ h => h, ?_⟩
    go_simp
    refine mix_skip rfl rfl ?_
    rintro W0 ⟨m2, rfl⟩
    have hb0 := H4.out.2.2.1.kept (grown_drewN w4 m2 none) (by simp)
    obtain ⟨x0, x1, x2, x3, x4, x5, xf⟩ := blk6 hb0
    have h5 := setAll_all hb0 [.int .i64 g.an.id, .int .i64 g.an.e, .int .i64 g.an.se, .int .i64 g.an.nu, .slice ra V.R.length rc, .int .i64 g.an.le] rfl
    refine ⟨setAll (w4.drewN m2) (q + 1) 0 [.int .i64 g.an.id, .int .i64 g.an.e, .int .i64 g.an.se, .int .i64 g.an.nu, .slice ra V.R.length rc, .int .i64 g.an.le], by go_simp; rfl, ?_⟩
    have hnf3 : q + 1 ≠ q3 := by have h8 := HB2.out.2.2.2.1; omega
    have hnf4 : q + 1 ≠ q4 := by have h8 := HB2.out.2.2.2.2; omega
    have H5 := hid_mk (And.intro (grown_trans (grown_drewN w4 m2 (some (q + 1))) h5.2) (And.intro h5.1 (And.intro ((H4.out.2.1.kept (grown_drewN w4 m2 none) (by simp)).kept h5.2 (by simp)) (And.intro ((H4.out.2.2.2.1.kept (grown_drewN w4 m2 none) (by simp)).kept h5.2 (by simpa using hnf3.symm)) ((H4.out.2.2.2.2.kept (grown_drewN w4 m2 none) (by simp)).kept h5.2 (by simpa using hnf4.symm))))))
    clear h5 hb0 x0 x1 x2 x3 x4 x5 xf
    generalize setAll (w4.drewN m2) (q + 1) 0 [.int .i64 g.an.id, .int .i64 g.an.e, .int .i64 g.an.se, .int .i64 g.an.nu, .slice ra V.R.length rc, .int .i64 g.an.le] = w5 at *
    refine ⟨at0 w5 (fun W => Blk W q3 #[.int .i64 g.o.kd, .int .i64 g.o.fr, .int .i64 g.o.mo, .slice oa g.o.b.length oc] 42 ∧ Blk W q4 #[.int .i64 g.an.id, .int .i64 g.an.e, .int .i64 g.an.se, .int .i64 g.an.nu, .slice ra V.R.length rc, .int .i64 g.an.le] 44), ⟨0, rfl⟩, shut_at0 (fun m => ⟨H5.out.2.2.2.1.kept (grown_drewN _ m none) (by simp), H5.out.2.2.2.2.kept (grown_drewN _ m none) (by simp)⟩), fun _ h => h, ?_⟩
    go_simp
    repeat (refine mix_rd1 rfl rfl (fun K hK => ?_); apply Exists.intro; refine ⟨fun W hW => ?_, ?_⟩; (go_simp; rfl); (go_simp; refine hK _ _ ?_; clear hK K))
    refine mix_nil ?_
    rintro W ⟨m9, rfl⟩
    obtain ⟨x0, x1, x2, x3, xf⟩ := blk4 (H5.out.2.2.1.kept (grown_drewN w5 m9 none) (by simp))
    obtain ⟨y0, y1, y2, y3, y4, y5, yf⟩ := blk6 (H5.out.2.1.kept (grown_drewN w5 m9 none) (by simp))
    go_wp2
    have hF := keeps_then (Keeps.one H4.out.1 (.inl rfl) : Keeps (fun k => k = q ∨ k = q + 1) w3 w4) ((Keeps.one H5.out.1 (.inr rfl) : Keeps (fun k => k = q ∨ k = q + 1) w4 w5).thenZ (Keeps.of_none (grown_drewN w5 m9 none))) (fun _ _ e => e)
    have hnf : ∀ k, k < w.heap.size → ¬ (k = q ∨ k = q + 1) := fun k hk e => by have h8 := HQ.out; omega
    have hnew : ∀ {e : TypeId} {size : Nat} {v : Value} {n : Nat} {xs : List Value}, w.ownsRow B e size v n xs → ∀ k, v.ownBlock = some k → ¬ (k = q ∨ k = q + 1) := fun hr k e => hnf k (owns_lt hr e).2
    obtain ⟨V1, hV1⟩ : ∃ V1, V1 = CV.mk V.vs (.slice none 0 0) (.slice none 0 0) V.vc V.L [] := ⟨_, rfl⟩
    have hft : ∀ k, FtC b { V with vo := .slice none 0 0, vr := .slice none 0 0, R := [] } k → k < w.heap.size := fun k e => by
      rcases e with (rfl | e) | e | e | (e | ⟨p, hp, _⟩) | ⟨p, hp, e⟩
      · exact HN.out.1.blk.lt
      · exact (owns_lt HN.out.1.row e).2
      · exact (owns_lt HN.out.1.sv e).2
      · cases e
      · cases e
      · cases hp
      · exact (owns_lt (HN.out.1.bts p hp) e).2
    have hdone : doneG g = { g with st := 0, o := noO, an := noA } := by unfold doneG; rw [if_pos HN.out.2]
    refine bodyPost_ret (v := .tuple #[.agg #[.int .i64 g.o.kd, .int .i64 g.o.fr, .int .i64 g.o.mo, .slice oa g.o.b.length oc], .agg #[.int .i64 g.an.id, .int .i64 g.an.e, .int .i64 g.an.se, .int .i64 g.an.nu, .slice ra V.R.length rc, .int .i64 g.an.le], .bool true]) (by simp [results, Try.results14, go_sem, x0, x1, x2, x3, y0, y1, y2, y3, y4, y5]) rfl ⟨?_, ?_, ?_, ?_⟩
    · unfold ordL ansL
      rw [HS.out.1, HS.out.2]
    · rw [hdone]
      refine ⟨H3.out.1.cli.keeps hF (fun k e => hnf k (hft k e)), keeps_then H3.out.1.keeps hF (fun i hi e => absurd e (hnf i hi)), H3.out.1.ft⟩
    · exact own_keeps H3.out.2.1 hF (hnew HN.out.1.od)
    · exact H3.out.2.2.1.keeps hF (fun k e => hnf k (HN.out.1.rcs.lt e).2)
end Go.Proofs.Ytgebhomiehadmaa
