/- watch: Match, Agree. -/
import Derived.Test.YtcijjepleedecaaWaD
namespace Go.Proofs.Ytcijjepleedecaa.W
open Go.RowKit Go.Maps
set_option linter.unusedVariables false
set_option linter.unusedSimpArgs false
set_option maxRecDepth 100000
attribute [local go_sem] Oper.semAt_some


set_option maxHeartbeats 4000000 in
theorem match_any (b1 t1 : Int) (v1 : Value) (e1 : List Ent) (b2 t2 : Int) (v2 : Value) (e2 : List Ent) (w : World) (h1 : EntsR w v1 e1) (h2 : EntsR w v2 e2) (l1 : e1.length ≤ 10000000000000) (l2 : e2.length ≤ 10000000000000) (i1 : I64 b1) (i2 : I64 b2) :
    Calls Try.prog 13 #[viewV b1 t1 v1, viewV b2 t2 v2] w fun e w' => e = .returned (.int .i64 (matchZ (whB b1 t1 e1) (whE b1 t1 e1) (whB b2 t2 e2) (whE b2 t2 e2))) ∧ w.grownBy w' none := by
  have HV : Hid (viewV b1 t1 v1 = .agg #[.int .i64 b1, .int .i64 t1, v1] ∧ viewV b2 t2 v2 = .agg #[.int .i64 b2, .int .i64 t2, v2]) := hid_mk ⟨rfl, rfl⟩
  have HCM : ∀ W, w.grownBy W none → Calls Try.prog 25 #[viewV b1 t1 v1, viewV b2 t2 v2] W fun e w' => ∃ x y xs ys, e = .returned (comV (baseC (whB b1 t1 e1) (whB b2 t2 e2)) x y) ∧ EntsR w' x xs ∧ EntsR w' y ys ∧ xs.length = ys.length ∧ xs.length ≤ 4096 ∧ xs.zip ys = pairs (whB b1 t1 e1) (whE b1 t1 e1) (whB b2 t2 e2) (whE b2 t2 e2) ∧ W.grownBy w' none := fun W hW => commonTo_any b1 t1 v1 e1 b2 t2 v2 e2 W (h1.kept hW) (h2.kept hW) l1 l2 i1 i2
  have HA := hid_mk (show VB ((w.alloc (.cells #[.int .i64 b1, .int .i64 t1, v1] 26)).alloc (.cells #[.int .i64 b2, .int .i64 t2, v2] 26)) w.heap.size b1 t1 v1 ∧ VB ((w.alloc (.cells #[.int .i64 b1, .int .i64 t1, v1] 26)).alloc (.cells #[.int .i64 b2, .int .i64 t2, v2] 26)) (w.heap.size + 1) b2 t2 v2 ∧ w.grownBy ((w.alloc (.cells #[.int .i64 b1, .int .i64 t1, v1] 26)).alloc (.cells #[.int .i64 b2, .int .i64 t2, v2] 26)) none from by
    have h1 := VB.new w b1 t1 v1
    have h2 := VB.new (w.alloc (.cells #[.int .i64 b1, .int .i64 t1, v1] 26)) b2 t2 v2
    rw [World.size_alloc] at h2
    exact ⟨h1.kept (World.grownBy_alloc _ _ none) (by simp), h2, grown_trans (World.grownBy_alloc _ _ none) (World.grownBy_alloc _ _ none)⟩)
  have hc : 0 ≤ baseC (whB b1 t1 e1) (whB b2 t2 e2) ∧ baseC (whB b1 t1 e1) (whB b2 t2 e2) ≤ 549755813888 := by have := wh_base b1 t1 e1; have := wh_base b2 t2 e2; unfold baseC; omega
  unfold matchZ
  generalize baseC (whB b1 t1 e1) (whB b2 t2 e2) = C at *
  generalize pairs (whB b1 t1 e1) (whE b1 t1 e1) (whB b2 t2 e2) (whE b2 t2 e2) = Z at *
  have HC := hid_mk hc
  clear hc h1 h2
  unfold viewV
  go_enter Try.func13, Try.ntmps13
  go_upto_region 1 with fail
  generalize (w.alloc (.cells #[.int .i64 b1, .int .i64 t1, v1] 26)).alloc (.cells #[.int .i64 b2, .int .i64 t2, v2] 26) = w1 at *
  obtain ⟨a0, a1, a2⟩ := HA.out.1.cells
  obtain ⟨c0, c1, c2⟩ := HA.out.2.1.cells
  go_wp2_with fail
  rw [← HV.out.1, ← HV.out.2]
  refine (HCM w1 HA.out.2.2).mono ?_
  rintro e w2 ⟨x, y, xs, ys, rfl, hx, hy, hl, hle, hz, hg⟩
  obtain ⟨xa, xc, rfl⟩ := hx.len
  obtain ⟨ya, yc, rfl⟩ := hy.len
  have H2 := hid_mk (show EntsR w2 (.slice xa xs.length xc) xs ∧ EntsR w2 (.slice ya ys.length yc) ys ∧ xs.length = ys.length ∧ xs.length ≤ 4096 ∧ xs.zip ys = Z ∧ w.grownBy w2 none from ⟨hx, hy, hl, hle, hz, grown_trans HA.out.2.2 hg⟩)
  have H3 := hid_mk (Two.new w2 C _ _ xs ys hx hy hl hle HC.out.1 HC.out.2)
  clear hx hy hl hle hz hg HCM a0 a1 a2 c0 c1 c2
  have HVC : Hid (comV C (.slice xa xs.length xc) (.slice ya ys.length yc) = .agg #[.int .i64 C, .slice xa xs.length xc, .slice ya ys.length yc]) := hid_mk rfl
  rw [HVC.out]
  generalize hnx : xs.length = nx at *
  generalize hny : ys.length = ny at *
  go_upto_region 2 with fail
  generalize w2.alloc (.cells #[.int .i64 C, .slice xa nx xc, .slice ya ny yc] 61) = w3 at *
  obtain ⟨q, hq⟩ : ∃ q, q = w2.heap.size := ⟨_, rfl⟩
  rw [← hq] at H3 ⊢
  clear hq
  have b0 : w3.cell? ⟨q, 0, none⟩ = some (.int .i64 C) := H3.out.1.blk.cell 0
  have b1 : w3.cell? ⟨q, 1, none⟩ = some (.slice xa nx xc) := H3.out.1.blk.cell 1
  have b2 : w3.cell? ⟨q, 2, none⟩ = some (.slice ya ny yc) := H3.out.1.blk.cell 2
  go_wp2_with fail
  clear b0 b1 b2
  rw [← HVC.out]
  refine (last_any C _ _ xs ys w3 (H2.out.1.kept H3.out.2) (H2.out.2.1.kept H3.out.2) (by rw [hnx, hny]; exact H2.out.2.2.1) (by rw [hnx]; exact H2.out.2.2.2.1) HC.out.1 HC.out.2).mono ?_
  rintro e w4 ⟨rfl, hg⟩
  rw [H2.out.2.2.2.2.1]
  have H4 := hid_mk (show w3.grownBy w4 none from hg)
  have b0 : w4.cell? ⟨q, 0, none⟩ = some (.int .i64 C) := (H3.out.1.kept hg).blk.cell 0
  have b1 : w4.cell? ⟨q, 1, none⟩ = some (.slice xa nx xc) := (H3.out.1.kept hg).blk.cell 1
  have b2 : w4.cell? ⟨q, 2, none⟩ = some (.slice ya ny yc) := (H3.out.1.kept hg).blk.cell 2
  clear hg
  rw [HVC.out]
  go_wp2_with fail
  clear b0 b1 b2
  rw [← HVC.out]
  have g4 := grown_trans H3.out.2 H4.out
  refine (first_any C _ _ _ xs ys w4 (H2.out.1.kept g4) (H2.out.2.1.kept g4) (by rw [hnx, hny]; exact H2.out.2.2.1) (by rw [hnx]; exact H2.out.2.2.2.1) HC.out.1 HC.out.2).mono ?_
  rintro e w5 ⟨rfl, hg⟩
  rw [H2.out.2.2.2.2.1]
  have H5 := hid_mk (show w.grownBy w5 none from grown_trans H2.out.2.2.2.2.2 (grown_trans g4 hg))
  clear hg
  go_wp2_with fail
  go_ret
  exact ⟨rfl, H5.out⟩

/-- A server as it was seen. -/
structure Sn where
  id : Int
  term : Int
  com : Int
  lead : Bool
  b : Int
  t : Int
  es : List Ent
def seenV (s : Sn) (lv : Value) : Value := .agg #[.int .i64 s.id, .int .i64 s.term, .int .i64 s.com, .bool s.lead, .int .i64 s.b, .int .i64 s.t, lv]
def seenC (s : Sn) (lv : Value) : Array Value := #[.int .i64 s.id, .int .i64 s.term, .int .i64 s.com, .bool s.lead, .int .i64 s.b, .int .i64 s.t, lv]
def Sn.agree (a b : Sn) : Int := agreeZ a.com (whB a.b a.t a.es) (whE a.b a.t a.es) b.com (whB b.b b.t b.es) (whE b.b b.t b.es)
def Sn.match (a b : Sn) : Int := matchZ (whB a.b a.t a.es) (whE a.b a.t a.es) (whB b.b b.t b.es) (whE b.b b.t b.es)
/-- .. in a block. -/
def SB (W : World) (q : Nat) (ty : TypeId) (s : Sn) (lv : Value) : Prop := Blk W q (seenC s lv) ty
theorem SB.kept {W W' : World} {q : Nat} {ty : TypeId} {s : Sn} {lv : Value} {row : Option Nat} (h : SB W q ty s lv) (hg : W.grownBy W' row) (hne : some q ≠ row) : SB W' q ty s lv := Blk.kept h hg hne
theorem SB.cells {W : World} {q : Nat} {ty : TypeId} {s : Sn} {lv : Value} (h : SB W q ty s lv) : W.cell? ⟨q, 0, none⟩ = some (.int .i64 s.id) ∧ W.cell? ⟨q, 1, none⟩ = some (.int .i64 s.term) ∧ W.cell? ⟨q, 2, none⟩ = some (.int .i64 s.com) ∧ W.cell? ⟨q, 3, none⟩ = some (.bool s.lead) ∧ W.cell? ⟨q, 4, none⟩ = some (.int .i64 s.b) ∧ W.cell? ⟨q, 5, none⟩ = some (.int .i64 s.t) ∧ W.cell? ⟨q, 6, none⟩ = some lv :=
  ⟨Blk.cell h 0, Blk.cell h 1, Blk.cell h 2, Blk.cell h 3, Blk.cell h 4, Blk.cell h 5, Blk.cell h 6⟩
theorem SB.new (W : World) (ty : TypeId) (s : Sn) (lv : Value) : SB (W.alloc (.cells #[.int .i64 s.id, .int .i64 s.term, .int .i64 s.com, .bool s.lead, .int .i64 s.b, .int .i64 s.t, lv] ty)) W.heap.size ty s lv := heap_alloc_new W _
theorem SB.two (w : World) (ty : TypeId) (s s' : Sn) (lv lv' : Value) :
    SB ((w.alloc (.cells #[.int .i64 s.id, .int .i64 s.term, .int .i64 s.com, .bool s.lead, .int .i64 s.b, .int .i64 s.t, lv] ty)).alloc (.cells #[.int .i64 s'.id, .int .i64 s'.term, .int .i64 s'.com, .bool s'.lead, .int .i64 s'.b, .int .i64 s'.t, lv'] ty)) w.heap.size ty s lv ∧
    SB ((w.alloc (.cells #[.int .i64 s.id, .int .i64 s.term, .int .i64 s.com, .bool s.lead, .int .i64 s.b, .int .i64 s.t, lv] ty)).alloc (.cells #[.int .i64 s'.id, .int .i64 s'.term, .int .i64 s'.com, .bool s'.lead, .int .i64 s'.b, .int .i64 s'.t, lv'] ty)) (w.heap.size + 1) ty s' lv' ∧
    w.grownBy ((w.alloc (.cells #[.int .i64 s.id, .int .i64 s.term, .int .i64 s.com, .bool s.lead, .int .i64 s.b, .int .i64 s.t, lv] ty)).alloc (.cells #[.int .i64 s'.id, .int .i64 s'.term, .int .i64 s'.com, .bool s'.lead, .int .i64 s'.b, .int .i64 s'.t, lv'] ty)) none := by
  have h1 := SB.new w ty s lv
  have h2 := SB.new (w.alloc (.cells #[.int .i64 s.id, .int .i64 s.term, .int .i64 s.com, .bool s.lead, .int .i64 s.b, .int .i64 s.t, lv] ty)) ty s' lv'
  rw [World.size_alloc] at h2
  exact ⟨h1.kept (World.grownBy_alloc _ _ none) (by simp), h2, grown_trans (World.grownBy_alloc _ _ none) (World.grownBy_alloc _ _ none)⟩

set_option maxHeartbeats 4000000 in
theorem agree_any (s s' : Sn) (v1 v2 : Value) (w : World) (h1 : EntsR w v1 s.es) (h2 : EntsR w v2 s'.es) (l1 : s.es.length ≤ 10000000000000) (l2 : s'.es.length ≤ 10000000000000) (i1 : I64 s.b) (i2 : I64 s'.b) :
    Calls Try.prog 15 #[seenV s v1, seenV s' v2] w fun e w' => e = .returned (.int .i64 (s.agree s')) ∧ w.grownBy w' none := by
  have HV : Hid (viewV s.b s.t v1 = .agg #[.int .i64 s.b, .int .i64 s.t, v1] ∧ viewV s'.b s'.t v2 = .agg #[.int .i64 s'.b, .int .i64 s'.t, v2]) := hid_mk ⟨rfl, rfl⟩
  have HCM : ∀ W, w.grownBy W none → Calls Try.prog 25 #[viewV s.b s.t v1, viewV s'.b s'.t v2] W fun e w' => ∃ x y xs ys, e = .returned (comV (baseC (whB s.b s.t s.es) (whB s'.b s'.t s'.es)) x y) ∧ EntsR w' x xs ∧ EntsR w' y ys ∧ xs.length = ys.length ∧ xs.length ≤ 4096 ∧ xs.zip ys = pairs (whB s.b s.t s.es) (whE s.b s.t s.es) (whB s'.b s'.t s'.es) (whE s'.b s'.t s'.es) ∧ W.grownBy w' none := fun W hW => commonTo_any _ _ v1 _ _ _ v2 _ W (h1.kept hW) (h2.kept hW) l1 l2 i1 i2
  have HA := hid_mk (SB.two w 28 s s' v1 v2)
  have hc : 0 ≤ baseC (whB s.b s.t s.es) (whB s'.b s'.t s'.es) ∧ baseC (whB s.b s.t s.es) (whB s'.b s'.t s'.es) ≤ 549755813888 := by have := wh_base s.b s.t s.es; have := wh_base s'.b s'.t s'.es; unfold baseC; omega
  unfold Sn.agree agreeZ
  generalize baseC (whB s.b s.t s.es) (whB s'.b s'.t s'.es) = C at *
  generalize pairs (whB s.b s.t s.es) (whE s.b s.t s.es) (whB s'.b s'.t s'.es) (whE s'.b s'.t s'.es) = Z at *
  have HC := hid_mk hc
  clear hc h1 h2 l1 l2 i1 i2
  have hmn : min s.com s'.com = if s'.com < s.com then s'.com else s.com := by split <;> omega
  have HMN := hid_mk hmn
  clear hmn
  unfold seenV
  go_enter Try.func15, Try.ntmps15
  go_upto_region 1 with fail
  generalize (w.alloc (.cells #[.int .i64 s.id, .int .i64 s.term, .int .i64 s.com, .bool s.lead, .int .i64 s.b, .int .i64 s.t, v1] 28)).alloc (.cells #[.int .i64 s'.id, .int .i64 s'.term, .int .i64 s'.com, .bool s'.lead, .int .i64 s'.b, .int .i64 s'.t, v2] 28) = w1 at *
  have HCL : ∀ W, w1.grownBy W none → (W.cell? ⟨w.heap.size, 2, none⟩ = some (.int .i64 s.com) ∧ W.cell? ⟨w.heap.size, 4, none⟩ = some (.int .i64 s.b) ∧ W.cell? ⟨w.heap.size, 5, none⟩ = some (.int .i64 s.t) ∧ W.cell? ⟨w.heap.size, 6, none⟩ = some v1) ∧ (W.cell? ⟨w.heap.size + 1, 2, none⟩ = some (.int .i64 s'.com) ∧ W.cell? ⟨w.heap.size + 1, 4, none⟩ = some (.int .i64 s'.b) ∧ W.cell? ⟨w.heap.size + 1, 5, none⟩ = some (.int .i64 s'.t) ∧ W.cell? ⟨w.heap.size + 1, 6, none⟩ = some v2) := fun W hW => by
    obtain ⟨_, _, x2, _, x4, x5, x6⟩ := (HA.out.1.kept hW (by simp)).cells
    obtain ⟨_, _, y2, _, y4, y5, y6⟩ := (HA.out.2.1.kept hW (by simp)).cells
    exact ⟨⟨x2, x4, x5, x6⟩, y2, y4, y5, y6⟩
  refine wp_region_mix [(0, true), (1, true), (2, true), (3, true), (5, true), (6, true), (7, true), (8, true), (9, true), (4, false), (10, false), (11, true)] (at0 w1 (fun W => w1.grownBy W none)) (by kernel_rfl) (by kernel_rfl) rfl (by kernel_rfl) (shut_at0 (fun m => grown_drewN _ m none)) ⟨1, rfl⟩ ?_
  iterate 9 (refine mix_rd1 rfl rfl (fun K hK => ?_); apply Exists.intro; refine ⟨fun W hW => ?_, ?_⟩; (obtain ⟨⟨c0, c1, c2, c3⟩, c4, c5, c6, c7⟩ := HCL W hW; go_simp; rfl); (go_simp; refine hK _ _ ?_; clear hK K))
  refine mix_call rfl rfl 25 #[viewV s.b s.t v1, viewV s'.b s'.t v2] (fun W => by rw [HV.out.1, HV.out.2]; go_simp) ?_
  rintro W ⟨mA, rfl⟩
  refine (HCM (w1.drewN mA) (grown_trans HA.out.2.2 (grown_drewN _ mA none))).mono ?_
  rintro e w2 ⟨x, y, xs, ys, rfl, hx, hy, hl, hle, hz, hg⟩
  have H2 := hid_mk (show EntsR w2 x xs ∧ EntsR w2 y ys ∧ xs.length = ys.length ∧ xs.length ≤ 4096 ∧ xs.zip ys = Z ∧ w1.grownBy w2 none from ⟨hx, hy, hl, hle, hz, grown_trans (grown_drewN _ mA none) hg⟩)
  clear hx hy hl hle hz hg HCM
  refine ⟨_, rfl, at0 w2 (fun W => w1.grownBy W none), ⟨0, rfl⟩, shut_at0 (all_kept H2.out.2.2.2.2.2), fun _ h => h, ?_⟩
  refine mix_call rfl rfl 28 #[comV C x y, .int .i64 (min s.com s'.com), .func (.func 29) #[] #[]] (fun W => by rw [HMN.out]; go_simp) ?_
  rintro W ⟨mB, rfl⟩
  refine (first_any C _ x y xs ys (w2.drewN mB) (H2.out.1.kept (grown_drewN _ mB none)) (H2.out.2.1.kept (grown_drewN _ mB none)) H2.out.2.2.1 H2.out.2.2.2.1 HC.out.1 HC.out.2).mono ?_
  rintro e w3 ⟨rfl, hg⟩
  have H3 := hid_mk (show w1.grownBy w3 none from grown_trans H2.out.2.2.2.2.2 (grown_trans (grown_drewN _ mB none) hg))
  clear hg
  rw [H2.out.2.2.2.2.1]
  refine ⟨_, rfl, at0 w3 (fun W => w1.grownBy W none), ⟨0, rfl⟩, shut_at0 (all_kept H3.out), fun _ h => h, ?_⟩
  repeat (refine mix_rd1 rfl rfl (fun K hK => ?_); apply Exists.intro; refine ⟨fun W hW => ?_, ?_⟩; (go_simp; rfl); (go_simp; refine hK _ _ ?_; clear hK K))
  refine mix_nil ?_
  rintro W ⟨mC, rfl⟩
  have HE := hid_mk (grown_trans HA.out.2.2 (grown_trans H3.out (grown_drewN _ mC none)))
  go_wp2_with fail
  all_goals (go_ret; exact ⟨rfl, HE.out⟩)
end Go.Proofs.Ytcijjepleedecaa.W
