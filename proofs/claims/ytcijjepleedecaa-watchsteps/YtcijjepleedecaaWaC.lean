/- watch: differ, Match's own comparison, last, first. -/
import Derived.Test.YtcijjepleedecaaWaB
namespace Go.Proofs.Ytcijjepleedecaa.W
open Go.RowKit Go.Maps
set_option linter.unusedVariables false
set_option linter.unusedSimpArgs false
set_option maxRecDepth 100000
attribute [local go_sem] Oper.semAt_some

theorem equalB_any (v v' : Value) (l l' : List UInt8) (w : World) (h : Byt w v l) (h' : Byt w v' l') : Calls Try.prog 43 #[v, v'] w fun e w' => e = .returned (.bool (l == l')) ∧ w' = w := by
  obtain ⟨av, cv, rfl⟩ := h.len
  obtain ⟨av', cv', rfl⟩ := h'.len
  have t1 := h.text
  have t2 := h'.text
  clear h h'
  go_enter Try.func43, Try.ntmps43
  go_wp2
  go_ret
  exact ⟨rfl, rfl⟩
theorem sameT_any (x y : Ent) (dv dv' : Value) (w : World) : Calls Try.prog 27 #[entV x dv, entV y dv'] w fun e w' => e = .returned (.bool (sameT (x, y))) ∧ w.grownBy w' none := by
  have G : ∀ o o', w.grownBy ((w.alloc o).alloc o') none := fun o o' => grown_trans (World.grownBy_alloc _ _ _) (World.grownBy_alloc _ _ _)
  have HG := hid_mk G
  clear G
  unfold entV sameT
  go_enter Try.func27, Try.ntmps27
  go_wp2
  go_ret
  exact ⟨rfl, HG.out _ _⟩

set_option maxHeartbeats 1000000 in
theorem differ_any (x y : Ent) (dv dv' : Value) (w : World) (h : Byt w dv x.data) (h' : Byt w dv' y.data) : Calls Try.prog 29 #[entV x dv, entV y dv'] w fun e w' => e = .returned (.bool (diffE (x, y))) ∧ w.grownBy w' none := by
  obtain ⟨av, cv, rfl⟩ := h.len
  obtain ⟨av', cv', rfl⟩ := h'.len
  have G : ∀ o o', w.grownBy ((w.alloc o).alloc o') none := fun o o' => grown_trans (World.grownBy_alloc _ _ _) (World.grownBy_alloc _ _ _)
  have HG := hid_mk G
  have HE : Hid (∀ o o', Calls Try.prog 43 #[.slice av x.data.length cv, .slice av' y.data.length cv'] ((w.alloc o).alloc o') fun e w' => e = .returned (.bool (x.data == y.data)) ∧ w' = (w.alloc o).alloc o') := hid_mk fun o o' => equalB_any _ _ _ _ _ (h.kept (G o o')) (h'.kept (G o o'))
  have HD : Hid (diffE (x, y) = ((x.term != y.term) || ((x.kind != y.kind) || !(x.data == y.data)))) := hid_mk rfl
  clear h h' G
  rw [HD.out]
  unfold entV
  rcases Bool.eq_false_or_eq_true (x.term != y.term) with ht | ht
  rotate_left
  · rcases Bool.eq_false_or_eq_true (x.kind != y.kind) with hk | hk
    rotate_left
    · go_enter Try.func29, Try.ntmps29
      go_wp2_with fail
      refine (HE.out _ _).mono ?_
      rintro e w2 ⟨rfl, rfl⟩
      go_wp2_with fail
      go_ret
      exact ⟨by rw [ht, hk]; rfl, HG.out _ _⟩
    · go_enter Try.func29, Try.ntmps29
      go_wp2_with fail
      go_ret
      exact ⟨by rw [ht, hk]; rfl, HG.out _ _⟩
  · go_enter Try.func29, Try.ntmps29
    go_wp2_with fail
    go_ret
    exact ⟨by rw [ht]; rfl, HG.out _ _⟩

/-- Two rows of entries of one length, in a block of common's. -/
structure Two (w : World) (q : Nat) (c : Int) (x y : Value) (xs ys : List Ent) : Prop where
  blk : Blk w q #[.int .i64 c, x, y] 61
  xr : EntsR w x xs
  yr : EntsR w y ys
  len : xs.length = ys.length
  le : xs.length ≤ 4096
  c0 : 0 ≤ c
  c1 : c ≤ 549755813888
theorem Two.kept {w w' : World} {q : Nat} {c : Int} {x y : Value} {xs ys : List Ent} (h : Two w q c x y xs ys) (hg : w.grownBy w' none) : Two w' q c x y xs ys :=
  ⟨h.blk.kept hg (by simp), h.xr.kept hg, h.yr.kept hg, h.len, h.le, h.c0, h.c1⟩
theorem Two.at {w : World} {q : Nat} {c : Int} {xa ya : Option Addr} {xn yn xc yc : Nat} {xs ys : List Ent} (h : Two w q c (.slice xa xn xc) (.slice ya yn yc) xs ys) {k : Nat} {p : Ent × Ent} (hp : (xs.zip ys)[k]? = some p) :
    ∃ b1 o1 b2 o2 d1 d2, xa = some ⟨b1, o1, none⟩ ∧ ya = some ⟨b2, o2, none⟩ ∧ Byt w d1 p.1.data ∧ Byt w d2 p.2.data ∧
      ∀ W, w.grownBy W none → (W.cell? ⟨q, 0, none⟩ = some (.int .i64 c) ∧ W.cell? ⟨q, 1, none⟩ = some (.slice xa xn xc) ∧ W.cell? ⟨q, 2, none⟩ = some (.slice ya yn yc)) ∧
        (W.cell? ⟨b1, o1 + k * 4, none⟩ = some (.int .i64 p.1.term) ∧ W.cell? ⟨b1, o1 + k * 4 + 1, none⟩ = some (.int .i64 p.1.index) ∧ W.cell? ⟨b1, o1 + k * 4 + 2, none⟩ = some (.int .i64 p.1.kind) ∧ W.cell? ⟨b1, o1 + k * 4 + 3, none⟩ = some d1) ∧
        (W.cell? ⟨b2, o2 + k * 4, none⟩ = some (.int .i64 p.2.term) ∧ W.cell? ⟨b2, o2 + k * 4 + 1, none⟩ = some (.int .i64 p.2.index) ∧ W.cell? ⟨b2, o2 + k * 4 + 2, none⟩ = some (.int .i64 p.2.kind) ∧ W.cell? ⟨b2, o2 + k * 4 + 3, none⟩ = some d2) := by
  obtain ⟨hx, hy⟩ := List.getElem?_zip_eq_some.1 hp
  have kx := (List.getElem?_eq_some_iff.1 hx).1
  have ky := (List.getElem?_eq_some_iff.1 hy).1
  obtain ⟨b1, o1, e1, -, hc1⟩ := h.xr.at (by omega)
  obtain ⟨d1, q0, q1, q2, q3, hb1, -⟩ := hc1 k p.1 hx
  obtain ⟨b2, o2, e2, -, hc2⟩ := h.yr.at (by omega)
  obtain ⟨d2, r0, r1, r2, r3, hb2, -⟩ := hc2 k p.2 hy
  exact ⟨b1, o1, b2, o2, d1, d2, e1, e2, hb1, hb2, fun W g => ⟨⟨(h.blk.kept g (by simp)).cell 0, (h.blk.kept g (by simp)).cell 1, (h.blk.kept g (by simp)).cell 2⟩, ⟨g.cell q0 (by simp), g.cell q1 (by simp), g.cell q2 (by simp), g.cell q3 (by simp)⟩, g.cell r0 (by simp), g.cell r1 (by simp), g.cell r2 (by simp), g.cell r3 (by simp)⟩⟩
theorem Two.new (w : World) (c : Int) (x y : Value) (xs ys : List Ent) (hx : EntsR w x xs) (hy : EntsR w y ys) (hl : xs.length = ys.length) (hle : xs.length ≤ 4096) (c0 : 0 ≤ c) (c1 : c ≤ 549755813888) :
    Two (w.alloc (.cells #[.int .i64 c, x, y] 61)) w.heap.size c x y xs ys ∧ w.grownBy (w.alloc (.cells #[.int .i64 c, x, y] 61)) none := by
  have g := World.grownBy_alloc w (.cells #[.int .i64 c, x, y] 61) none
  exact ⟨⟨heap_alloc_new _ _, hx.kept g, hy.kept g, hl, hle, c0, c1⟩, g⟩
theorem lastZ_yes {l : List (Ent × Ent)} {p : Ent × Ent} {k : Nat} {i n : Int} (hp : l[k]? = some p) (hs : sameT p = true) : lastZ (l.take (k + 1)) i n = i + k := by
  rw [List.take_add_one, hp, Option.toList_some, lastZ_snoc, if_pos hs, List.length_take]
  have := (List.getElem?_eq_some_iff.1 hp).1
  rw [Nat.min_eq_left (by omega)]
theorem lastZ_no {l : List (Ent × Ent)} {p : Ent × Ent} {k : Nat} {i n : Int} (hp : l[k]? = some p) (hs : sameT p = false) : lastZ (l.take (k + 1)) i n = lastZ (l.take k) i n := by
  rw [List.take_add_one, hp, Option.toList_some, lastZ_snoc, if_neg (by rw [hs]; decide)]
theorem entV_open (x : Ent) (dv : Value) : entV x dv = .agg #[.int .i64 x.term, .int .i64 x.index, .int .i64 x.kind, dv] := rfl

set_option maxHeartbeats 4000000 in
theorem last_any (c : Int) (x y : Value) (xs ys : List Ent) (w : World) (hx : EntsR w x xs) (hy : EntsR w y ys) (hl : xs.length = ys.length) (hle : xs.length ≤ 4096) (hc0 : 0 ≤ c) (hc1 : c ≤ 549755813888) :
    Calls Try.prog 26 #[comV c x y, .func (.func 27) #[] #[]] w fun e w' => e = .returned (.int .i64 (lastZ (xs.zip ys) (c + 1) 0)) ∧ w.grownBy w' none := by
  obtain ⟨xa, xc, rfl⟩ := hx.len
  obtain ⟨ya, yc, rfl⟩ := hy.len
  have HA := hid_mk (Two.new w c _ _ xs ys hx hy hl hle hc0 hc1)
  clear hx hy
  obtain ⟨n, hn⟩ : ∃ n, n = xs.length := ⟨_, rfl⟩
  have hny : ys.length = n := by omega
  rw [← hn] at hle HA
  rw [← hn]
  rw [hny] at HA
  rw [hny]
  have hzl : (xs.zip ys).length = n := by rw [List.length_zip]; omega
  obtain ⟨Z, hZ⟩ : ∃ Z, Z = xs.zip ys := ⟨_, rfl⟩
  rw [← hZ] at hzl
  rw [← hZ]
  have HZ := hid_mk (And.intro hZ hzl)
  clear hn hny hl hZ hzl
  unfold comV
  go_enter Try.func26, Try.ntmps26
  go_upto_region 1 with fail
  generalize w.alloc (.cells #[.int .i64 c, .slice xa n xc, .slice ya n yc] 61) = w1 at *
  obtain ⟨q, hq⟩ : ∃ q, q = w.heap.size := ⟨_, rfl⟩
  rw [← hq] at HA ⊢
  clear hq
  have b0 : w1.cell? ⟨q, 0, none⟩ = some (.int .i64 c) := HA.out.1.blk.cell 0
  have b1 : w1.cell? ⟨q, 1, none⟩ = some (.slice xa n xc) := HA.out.1.blk.cell 1
  have b2 : w1.cell? ⟨q, 2, none⟩ = some (.slice ya n yc) := HA.out.1.blk.cell 2
  go_wp2_with fail
  clear b0 b1 b2
  go_loopw [5] (fun iv wr => ∃ (k : Nat), k ≤ n ∧ iv = .int .i64 ((k : Int) - 1) ∧ Hid (w1.grownBy wr none ∧ lastZ (Z.take k) (c + 1) 0 = lastZ Z (c + 1) 0)) (fun iv _ => (intOf iv + 1).toNat)
  case atStart => exact ⟨n, Nat.le_refl _, rfl, hid_mk ⟨grown_refl _ _, by rw [List.take_of_length_le (by rw [HZ.out.2]; exact Nat.le_refl _)]⟩⟩
  case round =>
    obtain ⟨k, hk, rfl, H⟩ := hrel
    rename World => wr
    rcases k with _ | k
    · have HF := hid_mk (show lastZ Z (c + 1) 0 = 0 ∧ w1.grownBy wr none from ⟨by rw [← H.out.2]; rfl, H.out.1⟩)
      clear H
      rw [show (((0 : Nat) : Int) - 1) = -1 by rfl]
      go_wp2
      go_ret
      exact ⟨by rw [HF.out.1]; rfl, grown_trans HA.out.2 HF.out.2⟩
    · rw [show (((k + 1 : Nat) : Int) - 1) = (k : Int) by omega]
      have hk0 : (0 : Int) ≤ k := by omega
      have hkn : k < n := by omega
      have hkn' : (k : Int) < n := by omega
      have hk4 : (k : Int) < 5000 := by omega
      obtain ⟨p, hp⟩ : ∃ p, Z[k]? = some p := ⟨Z[k]'(by rw [HZ.out.2]; exact hkn), List.getElem?_eq_getElem _⟩
      obtain ⟨e1, o1, e2, o2, d1, d2, rfl, rfl, hb1, hb2, hcl⟩ := (HA.out.1.kept H.out.1).at (show (xs.zip ys)[k]? = some p by rw [← HZ.out.1]; exact hp)
      obtain ⟨da1, dc1, rfl⟩ := hb1.len
      obtain ⟨da2, dc2, rfl⟩ := hb2.len
      have HP := hid_mk hp
      have HV := hid_mk (And.intro (entV_open p.1 (.slice da1 p.1.data.length dc1)) (entV_open p.2 (.slice da2 p.2.data.length dc2)))
      have H2 := hid_mk H.out.1
      clear hb1 hb2 hp
      go_upto_region 4 with fail
      refine wp_region_mix [(0, true), (1, true), (2, true), (3, true), (4, true), (5, true), (6, true), (7, true), (8, true), (9, true), (10, true), (11, false)] (at0 wr (fun W => wr.grownBy W none)) (by kernel_rfl) (by kernel_rfl) rfl (by kernel_rfl) (shut_at0 (fun m => grown_drewN _ m none)) ⟨1, rfl⟩ ?_
      iterate 11 (refine mix_rd1 rfl rfl (fun K hK => ?_); apply Exists.intro; refine ⟨fun W hW => ?_, ?_⟩; (obtain ⟨⟨c0, c1, c2⟩, ⟨c3, c4, c5, c6⟩, c7, c8, c9, c10⟩ := hcl W hW; go_simp; rfl); (go_simp; refine hK _ _ ?_; clear hK K))
      refine mix_call rfl rfl 27 #[entV p.1 (.slice da1 p.1.data.length dc1), entV p.2 (.slice da2 p.2.data.length dc2)] (fun W => by rw [HV.out.1, HV.out.2]; go_simp) ?_
      rintro W ⟨mA, rfl⟩
      refine (sameT_any p.1 p.2 _ _ (wr.drewN mA)).mono ?_
      rintro e wA ⟨rfl, hg⟩
      have GA := hid_mk (show wr.grownBy wA none from grown_trans (grown_drewN _ mA none) hg)
      clear hg
      refine ⟨_, rfl, at0 wA (fun W => wr.grownBy W none), ⟨0, rfl⟩, shut_at0 (all_kept GA.out), fun _ h => h, ?_⟩
      refine mix_nil ?_
      rintro W ⟨mB, rfl⟩
      have hgB : w1.grownBy (wA.drewN mB) none := grown_trans H2.out (grown_trans GA.out (grown_drewN _ mB none))
      have hcl2 := hcl (wA.drewN mB) (grown_trans GA.out (grown_drewN _ mB none))
      generalize wA.drewN mB = wB at *
      have HB := hid_mk hgB
      clear hgB hcl
      obtain ⟨⟨b0, b1, b2⟩, -, -⟩ := hcl2
      rcases Bool.eq_false_or_eq_true (sameT (p.1, p.2)) with hs | hs
      · have HF := hid_mk (show lastZ Z (c + 1) 0 = c + 1 + k from by rw [← H.out.2, lastZ_yes HP.out hs])
        clear H
        rw [hs]
        go_wp2_with fail
        go_ret
        exact ⟨by rw [HF.out]; rfl, grown_trans HA.out.2 HB.out⟩
      · have HF := hid_mk (show lastZ (Z.take k) (c + 1) 0 = lastZ Z (c + 1) 0 from by rw [← H.out.2, lastZ_no HP.out hs])
        clear H
        rw [hs]
        clear b0 b1 b2
        go_wp2_with fail
        go_roundw
        case rel => exact ⟨k, by omega, by first | rfl | (congr 1; done) | (congr 1; omega), hid_mk ⟨HB.out, HF.out⟩⟩
        case measure => simp [intOf]; try omega
end Go.Proofs.Ytcijjepleedecaa.W
