/- SnapsLasts: the walk. -/
import Derived.Test.YtmlppjmpoanlkaaGreatDoorKf
import Derived.Test.YtmlppjmpoanlkaaGreatDoorSnG
import Derived.Deep.DeepCutAuto
import Derived.Deep.LoopGhost
namespace Go.Proofs.YtmlppjmpoanlkaaGreatDoor.W
open Go.RowKit Go.Maps Go.Shelf
set_option linter.unusedVariables false
set_option linter.unusedSimpArgs false
set_option maxRecDepth 100000

/-- The document's snapshot in a box, beside a disk in Z. -/
structure LX (w W : World) (Z : Nat → Prop) (q : Nat) (x : Snap) (sv dv : Value) : Prop where
  box : V.Blk W q #[.int .i64 x.i, .int .i64 x.t, sv, dv] 25
  s : OwnI W w.heap.size sv x.s
  d : Byt w dv x.d
  zq : ¬ Z q
  zs : ∀ k, sv.ownBlock = some k → ¬ Z k
  g : w.grownBy W none
theorem LX.kept {w W W' : World} {Z : Nat → Prop} {q : Nat} {x : Snap} {sv dv : Value} (h : LX w W Z q x sv dv) (hg : W.grownBy W' none) : LX w W' Z q x sv dv :=
  ⟨V.Blk.kept h.box hg (by simp), owns_kept h.s hg (fun _ _ _ => by simp), h.d, h.zq, h.zs, grown_trans h.g hg⟩
theorem grown_keeps {w W W' : World} {Z : Nat → Prop} (hg : w.grownBy W none) (K : V.Keeps Z W W') (hZ : ∀ k, Z k → w.heap.size ≤ k) : w.grownBy W' none :=
  ((V.Keeps.of_none (F := fun k => w.heap.size ≤ k) hg).then (K.mono hZ)).grown
theorem LX.same {w W W' : World} {Z : Nat → Prop} {q : Nat} {x : Snap} {sv dv : Value} (h : LX w W Z q x sv dv) (K : V.Keeps Z W W') (hZ : ∀ k, Z k → w.heap.size ≤ k) : LX w W' Z q x sv dv :=
  ⟨V.Blk.keeps h.box K h.zq, V.rows_keeps h.s K h.zs, h.d, h.zq, h.zs, grown_keeps h.g K hZ⟩
theorem LX.step {w W W' : World} {Z : Nat → Prop} {q : Nat} {x : Snap} {sv dv : Value} (h : LX w W Z q x sv dv) (K : V.Keeps Z W W') (hZ : ∀ k, Z k → w.heap.size ≤ k) : LX w W' (fun k => Z k ∨ W.heap.size ≤ k) q x sv dv := by
  have k := h.same K hZ
  refine ⟨k.box, k.s, k.d, fun hh => ?_, fun r e hh => ?_, k.g⟩
  · rcases hh with hh | hh
    · exact h.zq hh
    · have := V.Blk.lt h.box; omega
  · rcases hh with hh | hh
    · exact h.zs r e hh
    · have := (own_at h.s e).2; omega
theorem LX.less {w W : World} {Z Z' : Nat → Prop} {q : Nat} {x : Snap} {sv dv : Value} (h : LX w W Z q x sv dv) (hz : ∀ j, Z' j → Z j) : LX w W Z' q x sv dv := ⟨h.box, h.s, h.d, fun e => h.zq (hz _ e), fun k e e' => h.zs k e (hz _ e'), h.g⟩
theorem LX.snap {w W : World} {Z : Nat → Prop} {q : Nat} {x : Snap} {sv dv : Value} (h : LX w W Z q x sv dv) : SnapAt W sv dv x := ⟨h.s.ints, h.d.kept h.g⟩
theorem LX.cells {w W : World} {Z : Nat → Prop} {q : Nat} {x : Snap} {sv dv : Value} (h : LX w W Z q x sv dv) : W.cell? ⟨q, 0, none⟩ = some (.int .i64 x.i) ∧ W.cell? ⟨q, 1, none⟩ = some (.int .i64 x.t) ∧ W.cell? ⟨q, 2, none⟩ = some sv ∧ W.cell? ⟨q, 3, none⟩ = some dv ∧ ∀ j, W.frozen? ⟨q, j, none⟩ = false :=
  ⟨by rw [h.box.cell]; rfl, by rw [h.box.cell]; rfl, by rw [h.box.cell]; rfl, by rw [h.box.cell]; rfl, fun j => h.box.frozen j⟩
theorem blk_laid {W : World} {q : Nat} {v0 v1 v2 v3 : Value} (h : V.Blk W q #[v0, v1, v2, v3] 25) (u0 u1 u2 u3 : Value) : V.Blk ((((W.setCell ⟨q, 0, none⟩ u0).setCell ⟨q, 1, none⟩ u1).setCell ⟨q, 2, none⟩ u2).setCell ⟨q, 3, none⟩ u3) q #[u0, u1, u2, u3] 25 :=
  V.Blk.set (V.Blk.set (V.Blk.set (V.Blk.set h 0 u0) 1 u1) 2 u2) 3 u3
theorem grown_laid (W : World) (q : Nat) (u0 u1 u2 u3 : Value) : W.grownBy ((((W.setCell ⟨q, 0, none⟩ u0).setCell ⟨q, 1, none⟩ u1).setCell ⟨q, 2, none⟩ u2).setCell ⟨q, 3, none⟩ u3) (some q) :=
  grown_trans (grown_setCell _ _ _ _) (grown_trans (grown_setCell _ _ _ _) (grown_trans (grown_setCell _ _ _ _) (grown_setCell _ _ _ _)))
theorem LX.put {w W : World} {Z : Nat → Prop} {q0 q : Nat} {nw x : Snap} {sv dv sx dx : Value} (h : LX w W Z q0 nw sv dv) (hx : LX w W Z q x sx dx) (hlo : w.heap.size ≤ q0) : LX w ((((W.setCell ⟨q0, 0, none⟩ (.int .i64 x.i)).setCell ⟨q0, 1, none⟩ (.int .i64 x.t)).setCell ⟨q0, 2, none⟩ sx).setCell ⟨q0, 3, none⟩ dx) Z q0 x sx dx :=
  ⟨blk_laid h.box _ _ _ _, owns_kept hx.s (grown_laid _ _ _ _ _ _) (fun _ _ hh => ne_tag hh h.box (by decide)), hx.d, h.zq, hx.zs, grown_new h.g (grown_laid _ _ _ _ _ _) hlo⟩
/-- The step in its box. -/
structure LS (W : World) (Z : Nat → Prop) (q : Nat) (s : StepG) (dv cv : Value) : Prop where
  box : V.Blk W q #[.int .i64 s.up, .int .i64 s.te, .int .i64 s.fu, dv, cv] 61
  zq : ¬ Z q
theorem LS.kept {W W' : World} {Z : Nat → Prop} {q : Nat} {s : StepG} {dv cv : Value} (h : LS W Z q s dv cv) (hg : W.grownBy W' none) : LS W' Z q s dv cv := ⟨V.Blk.kept h.box hg (by simp), h.zq⟩
theorem LS.same {W W' : World} {Z : Nat → Prop} {q : Nat} {s : StepG} {dv cv : Value} (h : LS W Z q s dv cv) (K : V.Keeps Z W W') : LS W' Z q s dv cv := ⟨V.Blk.keeps h.box K h.zq, h.zq⟩
theorem LS.step {W W' : World} {Z : Nat → Prop} {q : Nat} {s : StepG} {dv cv : Value} (h : LS W Z q s dv cv) (K : V.Keeps Z W W') : LS W' (fun k => Z k ∨ W.heap.size ≤ k) q s dv cv :=
  ⟨V.Blk.keeps h.box K h.zq, fun hh => by rcases hh with hh | hh; exact h.zq hh; have := V.Blk.lt h.box; omega⟩
theorem LS.cells {W : World} {Z : Nat → Prop} {q : Nat} {s : StepG} {dv cv : Value} (h : LS W Z q s dv cv) : W.cell? ⟨q, 0, none⟩ = some (.int .i64 s.up) ∧ W.cell? ⟨q, 1, none⟩ = some (.int .i64 s.te) ∧ W.cell? ⟨q, 2, none⟩ = some (.int .i64 s.fu) ∧ W.cell? ⟨q, 3, none⟩ = some dv ∧ W.cell? ⟨q, 4, none⟩ = some cv ∧ ∀ j, W.frozen? ⟨q, j, none⟩ = false :=
  ⟨by rw [h.box.cell]; rfl, by rw [h.box.cell]; rfl, by rw [h.box.cell]; rfl, by rw [h.box.cell]; rfl, by rw [h.box.cell]; rfl, fun j => h.box.frozen j⟩
/-- The law's state between rounds. -/
def LI (w W : World) (b q0 k : Nat) : Prop := ∃ (Z : Nat → Prop) (m : V.Mem) (o : Option Snap) (L : List (Nat × Nat)) (b0 : Option Nat) (nw : Snap) (sv dv : Value), V.IsDisk W Z (4000 * k) b m ∧ (∀ j, Z j → w.heap.size ≤ j) ∧ Sk m 5400 k none (fun q => q = o) o L b0 ∧ m.fuse = -1 ∧ LX w W Z q0 nw sv dv ∧ ((nw.i = 0 ∧ o = none) ∨ o = some nw) ∧ nw.i ≤ 5 * k ∧ w.heap.size ≤ q0
theorem Sk.fuse {m : V.Mem} {z c : Nat} {t : Option Nat} {P : Option Snap → Prop} {o : Option Snap} {L : List (Nat × Nat)} {b : Option Nat} (h : Sk m z c t P o L b) (f : Int) : Sk { m with fuse := f } z c t P o L b := ⟨h.quota, h.gone, h.reach, h.all, h.names, h.lok, h.tok, h.nt, h.po⟩
theorem idx_mod (n : Int) (p : Int) (hp : 0 < p) : (-p < n.tmod p ∧ n.tmod p < p) ∧ 0 ≤ (n.tmod p + p).tmod p ∧ (n.tmod p + p).tmod p < p := by
  have h1 : -p < n.tmod p := by
    have := Int.lt_tmod_of_pos n hp
    omega
  have h3 := Int.tmod_lt_of_pos n hp
  have h2 : 0 ≤ n.tmod p + p := by omega
  rw [Int.tmod_eq_emod_of_nonneg h2]
  exact ⟨⟨h1, h3⟩, Int.emod_nonneg _ (by omega), Int.emod_lt_of_pos _ hp⟩

/-- What Load told: the new one, the one ahead of it, or none. -/
def LTold (okb : Bool) (y nw x : Snap) (n : Int) (o : Option Snap) : Prop :=
  (okb = true ∧ x = y ∧ o = some x) ∨ (okb = true ∧ n = 9 ∧ nw = y ∧ o = some nw ∧ nw.s.length ≤ 7) ∨ (okb = false ∧ n = 9 ∧ o = none ∧ nw.i = 0)
theorem lt_none {o : Option Snap} {nw x y : Snap} {n : Int} (h : (nw.i = 0 ∧ o = none) ∨ o = some nw) (h2 : none = some x ∨ (n = 9 ∧ none = o)) : LTold false y nw x n none := by
  rcases h2 with h2 | ⟨h9, h2⟩
  · cases h2
  · subst h2
    rcases h with ⟨h, _⟩ | h
    · exact .inr (.inr ⟨rfl, h9, rfl, h⟩)
    · cases h
theorem lt_some {o : Option Snap} {nw x z : Snap} {n : Int} (h : (nw.i = 0 ∧ o = none) ∨ o = some nw) (h2 : some z = some x ∨ (n = 9 ∧ some z = o)) (hz : z.s.length ≤ 7) : LTold true z nw x n (some z) := by
  rcases h2 with h2 | ⟨h9, h2⟩
  · cases h2; exact .inl ⟨rfl, rfl, rfl⟩
  · subst h2
    rcases h with ⟨_, h⟩ | h
    · cases h
    · cases h; exact .inr (.inl ⟨rfl, h9, rfl, rfl, hz⟩)

set_option maxHeartbeats 16000000 in
theorem snapsLasts_walk (lv : Value) (n : Nat) (w : World) (ht : F.Tab w) (hp : Pw w) (hl : StepsIn w lv n) (hn : n ≤ 9223372036854775807) : Calls Tryz.prog 5 #[lv] w fun e w' => e = .returned (.bool true) ∧ w.grownBy w' none := by
  obtain ⟨⟨la, lc, rfl⟩, hl⟩ := hl
  have HT := hid_mk (And.intro ht hp)
  have HL := hid_mk hl
  clear ht hp hl
  go_enter Tryz.func5, Tryz.ntmps5
  go_wp2_with fail
  refine (disk_any w).mono ?_
  rintro e w1 ⟨b, bn, bs, rfl, hd1, hg1⟩
  have H1 := hid_mk (And.intro hd1 hg1)
  have HK := hid_mk (knows_any w1 (HT.out.1.kept hg1) (HT.out.2.kept hg1))
  clear hd1 hg1
  go_wp2_with fail
  refine HK.out.mono ?_
  rintro e w2 ⟨rfl, hg2⟩
  have H2 := hid_mk (And.intro H1.out.1.bound (And.intro hg2 (grown_trans H1.out.2 hg2)))
  clear hg2 HK H1
  have HI0 := hid_mk (show LI w (w2.alloc (.cells #[.int .i64 0, .int .i64 0, .slice none 0 0, .slice none 0 0] 25)) b w2.heap.size 0 by
    have ga := World.grownBy_alloc w2 (.cells #[.int .i64 0, .int .i64 0, .slice none 0 0, .slice none 0 0] 25) none
    exact ⟨_, _, none, _, _, ⟨0, 0, [], []⟩, .slice none 0 0, .slice none 0 0, (H2.out.1.kept_none H2.out.2.1).kept_none ga, fun j h => h.1, Sk.new bn bs 5400, rfl, ⟨heap_alloc_new _ _, OwnI.nil _ _, Byt.nil _, fun h => by have := H2.out.2.1.size; have h' : w2.heap.size < w1.heap.size := h.2; omega, fun j e => (by cases e), grown_trans H2.out.2.2 ga⟩, .inl ⟨rfl, rfl⟩, by decide, H2.out.2.2.size⟩)
  go_wp2_with fail
  generalize (w2.alloc (.cells #[.int .i64 0, .int .i64 0, .slice none 0 0, .slice none 0 0] 25)) = w3 at *
  generalize w2.heap.size = q0 at *
  clear H2
  go_loopg [5] 40 (fun g iv W => ∃ k : Nat, k ≤ 40 ∧ g = 40 - k ∧ iv = .int .i64 k ∧ Hid (LI w W b q0 k))
  case atStart => exact ⟨0, by omega, rfl, rfl, HI0⟩
  case round =>
    obtain ⟨k, hk, hgk, rfl, HI⟩ := hrel
    rename World => w4
    clear HI0
    obtain ⟨Z, m, o, L, b0, nw, sv, dv, D4, hZ, S4, F4, N4, O4, I4, Q4⟩ := HI.out
    have HQ0 := hid_mk Q4
    clear Q4
    have HG4 := hid_mk N4.g
    by_cases hgo : k < n ∧ k < 40
    · obtain ⟨hk1, hk2⟩ := hgo
      obtain ⟨g, off, hix, s, da, dc, ca, cn, cc, e0, e1, e2, e3, e4, hbd, hsc, hsb⟩ := HL.out k hk1
      have f0 : w4.cell? ⟨g, off, none⟩ = some (.int .i64 s.up) := N4.g.cell e0 (by simp)
      have f1 : w4.cell? ⟨g, off + 1, none⟩ = some (.int .i64 s.te) := N4.g.cell e1 (by simp)
      have f2 : w4.cell? ⟨g, off + 2, none⟩ = some (.int .i64 s.fu) := N4.g.cell e2 (by simp)
      have f3 : w4.cell? ⟨g, off + 3, none⟩ = some (.slice da s.d.length dc) := N4.g.cell e3 (by simp)
      have f4 : w4.cell? ⟨g, off + 4, none⟩ = some (.slice ca cn cc) := N4.g.cell e4 (by simp)
      have HS := hid_mk (And.intro hbd (And.intro hsc hsb))
      have hnw : 0 ≤ nw.i := by
        rcases O4 with ⟨h, _⟩ | h
        · omega
        · rw [h] at S4
          obtain ⟨_, _, _, _, _, hm⟩ := S4.lok.last
          have := (inB_iff.1 (mayS_iff.1 hm).2).1
          omega
      have hnw2 : nw.i ≤ 5 * (k : Int) := I4
      have ga5 := World.grownBy_alloc w4 (.cells #[.int .i64 s.up, .int .i64 s.te, .int .i64 s.fu, .slice da s.d.length dc, .slice ca cn cc] 61) none
      have HB5 := hid_mk (show LS (w4.alloc (.cells #[.int .i64 s.up, .int .i64 s.te, .int .i64 s.fu, .slice da s.d.length dc, .slice ca cn cc] 61)) (fun j => Z j ∧ j < w4.heap.size) w4.heap.size s (.slice da s.d.length dc) (.slice ca cn cc) ∧ w4.grownBy (w4.alloc (.cells #[.int .i64 s.up, .int .i64 s.te, .int .i64 s.fu, .slice da s.d.length dc, .slice ca cn cc] 61)) none from ⟨⟨heap_alloc_new _ _, fun h => by omega⟩, ga5⟩)
      have HD := hid_mk (show V.IsDisk w4 (fun j => Z j ∧ j < w4.heap.size) (4000 * k) b m ∧ (∀ j, (Z j ∧ j < w4.heap.size) → w.heap.size ≤ j) ∧ Sk m 5400 k none (fun q => q = o) o L b0 ∧ m.fuse = -1 ∧ LX w w4 (fun j => Z j ∧ j < w4.heap.size) q0 nw sv dv ∧ ((nw.i = 0 ∧ o = none) ∨ o = some nw) from ⟨D4.bound, fun j h => hZ j h.1, S4, F4, N4.less (fun j h => h.1), O4⟩)
      clear ga5
      clear e0 e1 e2 e3 e4 hbd hsc hsb D4 hZ S4 F4 N4 O4 I4 HI
      go_upto_if 37 with fail
      generalize (w4.alloc (.cells #[.int .i64 s.up, .int .i64 s.te, .int .i64 s.fu, .slice da s.d.length dc, .slice ca cn cc] 61)) = w5 at *
      generalize hZ1 : (fun j => Z j ∧ j < w4.heap.size) = Z1 at *
      have HZ1 := hid_mk hZ1
      obtain ⟨q6, hq6⟩ : ∃ q6, q6 = w4.heap.size := ⟨_, rfl⟩
      rw [← hq6] at HB5 ⊢
      have HQ := hid_mk hq6
      clear hq6 f0 f1 f2 f3 f4 hZ1
      go_cut [6] (fun s6 wx => s6 = .pointer (some ⟨q6, 0, none⟩) ∧ ∃ a c, ∃ d' : List UInt8, d'.length ≤ 1000 ∧ Hid (Byt w (.slice a d'.length c) d') ∧ Hid (LS wx Z1 q6 s (.slice a d'.length c) (.slice ca cn cc)) ∧ Hid (w4.grownBy wx none))
      case first =>
        obtain ⟨c0, c1, c2, c3, c4, cf⟩ := HB5.out.1.cells
        by_cases hlong : 1000 < s.d.length
        · obtain ⟨hcap, hb'⟩ := byt_front HS.out.1 1000 hlong
          have hbl : (s.d.take 1000).length = 1000 := by simp; omega
          go_wp2_with fail
          go_meet
          case rel =>
            refine ⟨rfl, da, dc, s.d.take 1000, by omega, hid_mk (by rw [hbl]; exact hb'), hid_mk ⟨?_, HB5.out.1.zq⟩, hid_mk (grown_new HB5.out.2 (grown_setCell _ _ _ _) (by have := HQ.out; omega))⟩
            rw [hbl]; exact V.Blk.set HB5.out.1.box 3 _
        · go_wp2_with fail
          go_meet
          case rel => exact ⟨rfl, da, dc, s.d, by omega, hid_mk HS.out.1, hid_mk HB5.out.1, hid_mk HB5.out.2⟩
      case rest =>
        obtain ⟨rfl, a6, c6, d6, hd6, HB6, HS6, G6⟩ := hcut
        rename World => w6
        clear HB5
        obtain ⟨c0, c1, c2, c3, c4, cf⟩ := HS6.out.cells
        obtain ⟨n0, n1, n2, n3, nf⟩ := (HD.out.2.2.2.2.1.kept G6.out).cells
        obtain ⟨⟨r1, r2⟩, r3, r4⟩ := idx_mod s.up 5 (by decide)
        obtain ⟨⟨t1, t2⟩, t3, t4⟩ := idx_mod s.te 9 (by decide)
        obtain ⟨⟨v1, v2⟩, v3, v4⟩ := idx_mod s.fu 12 (by decide)
        have ga6 := World.grownBy_alloc w6 (.cells #[.int .i64 1, .int .i64 2] 3) none
        have c3' := ga6.cell c3 (by simp)
        go_upto_region 12 with fail
        obtain ⟨X, hX⟩ : ∃ X : Int, X = nw.i + 1 + s.up.tmod 5 % 5 := ⟨_, rfl⟩
        obtain ⟨T, hT⟩ : ∃ T : Int, T = 1 + s.te.tmod 9 % 9 := ⟨_, rfl⟩
        have hX1 : nw.i < X := by omega
        have hX2 : X ≤ 5 * ((k : Int) + 1) := by omega
        have hT1 : 1 ≤ T := by omega
        have hT2 : T ≤ 9 := by omega
        rw [← hX, ← hT]
        have HM : Hid (mayS ⟨X, T, [1, 2], d6⟩ = true) := hid_mk (mayS_iff.2 ⟨show rightS [1, 2] = true by decide, inB_iff.2 ⟨show 1 ≤ X by omega, show X ≤ 1099511627775 by omega, hT1, show T < 1099511627776 by omega, show d6.length ≤ 60000 by omega⟩⟩)
        have H7 := hid_mk (show LX w ((w6.alloc (.cells #[.int .i64 1, .int .i64 2] 3)).alloc (.cells #[.int .i64 X, .int .i64 T, .slice (some ⟨w6.heap.size, 0, none⟩) 2 2, .slice a6 d6.length c6] 25)) Z1 (w6.heap.size + 1) ⟨X, T, [1, 2], d6⟩ (.slice (some ⟨w6.heap.size, 0, none⟩) 2 2) (.slice a6 d6.length c6) ∧ w6.grownBy ((w6.alloc (.cells #[.int .i64 1, .int .i64 2] 3)).alloc (.cells #[.int .i64 X, .int .i64 T, .slice (some ⟨w6.heap.size, 0, none⟩) 2 2, .slice a6 d6.length c6] 25)) none by
          have gb := World.grownBy_alloc (w6.alloc (.cells #[.int .i64 1, .int .i64 2] 3)) (.cells #[.int .i64 X, .int .i64 T, .slice (some ⟨w6.heap.size, 0, none⟩) 2 2, .slice a6 d6.length c6] 25) none
          have bx := heap_alloc_new (w6.alloc (.cells #[.int .i64 1, .int .i64 2] 3)) (.cells #[.int .i64 X, .int .i64 T, .slice (some ⟨w6.heap.size, 0, none⟩) 2 2, .slice a6 d6.length c6] 25)
          simp only [World.size_alloc] at bx
          have hz : ∀ j, Z1 j → j < w6.heap.size := fun j h => by
            rw [← HZ1.out] at h
            have := G6.out.size
            omega
          have hlo : w.heap.size ≤ w6.heap.size := (grown_trans HG4.out G6.out).size
          have oI : OwnI (w6.alloc (.cells #[.int .i64 1, .int .i64 2] 3)) w.heap.size (.slice (some ⟨w6.heap.size, 0, none⟩) 2 2) [1, 2] := ⟨rfl, .inr ⟨_, 2, #[.int .i64 1, .int .i64 2], rfl, hlo, heap_alloc_new _ _, Nat.le_refl _, by unfold maxLen; omega, rfl, rfl⟩⟩
          refine ⟨⟨bx, owns_kept oI gb (fun _ _ _ => by simp), HB6.out, fun h => by have := hz _ h; omega, fun j e h => ?_, grown_trans (grown_trans HG4.out G6.out) (grown_trans ga6 gb)⟩, grown_trans ga6 gb⟩
          have := (show w6.heap.size = j by simpa [Value.ownBlock] using e)
          have := hz _ h
          omega)
        generalize ((w6.alloc (.cells #[.int .i64 1, .int .i64 2] 3)).alloc (.cells #[.int .i64 X, .int .i64 T, .slice (some ⟨w6.heap.size, 0, none⟩) 2 2, .slice a6 d6.length c6] 25)) = w7 at *
        generalize w6.heap.size + 1 = q7 at *
        generalize hsx : (Value.slice (some ⟨w6.heap.size, 0, none⟩) 2 2) = sx at *
        have HSX : Hid (∃ a c, sx = .slice a 2 c) := hid_mk ⟨_, _, hsx.symm⟩
        obtain ⟨ax, cx, rfl⟩ := HSX.out
        clear hsx HSX c0 c1 c2 c3 c4 cf n0 n1 n2 n3 nf r1 r2 r3 r4 t1 t2 t3 t4 ga6 c3' hX hT
        have HS7 := hid_mk (HS6.out.kept H7.out.2)
        have HD7 := hid_mk (And.intro (HD.out.1.kept_none (grown_trans G6.out H7.out.2)) (HD.out.2.2.2.2.1.kept (grown_trans G6.out H7.out.2)))
        clear HS6 HB6
        have c2 := HS7.out.cells.2.2.1
        go_wp2_with fail
        obtain ⟨fz, hfz⟩ : ∃ fz : Int, fz = s.fu.tmod 12 % 12 - 1 := ⟨_, rfl⟩
        have hfz1 : fz ≤ 11 := by omega
        rw [← hfz]
        clear hfz v1 v2 v3 v4
        have HZL : Hid (∀ j, Z1 j → w.heap.size ≤ j) := hid_mk (fun j h => by rw [← HZ1.out] at h; exact HD.out.2.1 j h)
        refine (V.cut_ok (4000 * k) b _ m fz w7 HD7.out.1 (by omega)).mono ?_
        rintro e w8 ⟨rfl, D8, K8⟩
        have H8 := hid_mk (show V.IsDisk w8 Z1 (4000 * k) b { m with fuse := max fz (-1) } ∧ LX w w8 Z1 q0 nw sv dv ∧ LX w w8 Z1 q7 ⟨X, T, [1, 2], d6⟩ (.slice ax 2 cx) (.slice a6 d6.length c6) ∧ LS w8 Z1 q6 s (.slice a6 d6.length c6) (.slice ca cn cc) from ⟨D8, HD7.out.2.same K8 HZL.out, H7.out.1.same K8 HZL.out, HS7.out.same K8⟩)
        clear D8 K8 HD7 H7 HS7 c2
        obtain ⟨c0, c1, c2, c3, cf⟩ := H8.out.2.2.1.cells
        go_wp2_with fail
        refine (show Calls Tryz.prog 8 #[snapV ⟨X, T, [1, 2], d6⟩ (.slice ax 2 cx) (.slice a6 d6.length c6)] w8 _ from own_any _ _ _ w8 H8.out.2.2.1.snap (by simp) (by show d6.length ≤ _; omega)).mono ?_
        clear c0 c1 c2 c3 cf
        rintro e w9 ⟨sv9, dv9, rfl, hs9, hg9⟩
        obtain ⟨a9, c9, rfl⟩ := hs9.s.len
        obtain ⟨a9', c9', rfl⟩ := hs9.d.len
        have H9 := hid_mk (show V.IsDisk w9 Z1 (4000 * k) b { m with fuse := max fz (-1) } ∧ LX w w9 Z1 q0 nw sv dv ∧ LX w w9 Z1 q7 ⟨X, T, [1, 2], d6⟩ (.slice ax 2 cx) (.slice a6 d6.length c6) ∧ LS w9 Z1 q6 s (.slice a6 d6.length c6) (.slice ca cn cc) ∧ SnapAt w9 (.slice a9 2 c9) (.slice a9' d6.length c9') ⟨X, T, [1, 2], d6⟩ from ⟨H8.out.1.kept_none hg9, H8.out.2.1.kept hg9, H8.out.2.2.1.kept hg9, H8.out.2.2.2.kept hg9, hs9⟩)
        clear hs9 hg9 H8
        unfold snapV
        go_wp2_with fail
        have hw2 : Hid (2 ≤ w.heap.size) := hid_mk HT.out.2.two
        have HO : Hid (idxO o < X) := hid_mk (by
          rcases HD.out.2.2.2.2.2 with ⟨_, h⟩ | h
          · rw [h]; show (0 : Int) < X; omega
          · rw [h]; exact hX1)
        refine (save_state (4000 * k) b Z1 { m with fuse := max fz (-1) } ⟨X, T, [1, 2], d6⟩ _ _ (fun q => q = o) o L b0 5400 k w9 H9.out.1 (by omega) H9.out.2.2.2.2 (HD.out.2.2.1.fuse _) (by omega) (fun h => Nat.le_trans (snapB_le h) (by show d6.length + 4300 ≤ 5400; omega)) (by omega) (HT.out.1.kept H9.out.2.1.g) (HT.out.2.kept H9.out.2.1.g) (fun h => by have := HZL.out 1 h; have := hw2.out; omega)).mono ?_
        rintro e w10 ⟨n10, m10, rfl, R10, D10, K10⟩
        have H10 := hid_mk (show V.IsDisk w10 (fun j => Z1 j ∨ w9.heap.size ≤ j) (4000 * k + 2000) b m10 ∧ LX w w10 (fun j => Z1 j ∨ w9.heap.size ≤ j) q0 nw sv dv ∧ LX w w10 (fun j => Z1 j ∨ w9.heap.size ≤ j) q7 ⟨X, T, [1, 2], d6⟩ (.slice ax 2 cx) (.slice a6 d6.length c6) ∧ LS w10 (fun j => Z1 j ∨ w9.heap.size ≤ j) q6 s (.slice a6 d6.length c6) (.slice ca cn cc) ∧ (∀ j, (Z1 j ∨ w9.heap.size ≤ j) → w.heap.size ≤ j) from
          ⟨D10, H9.out.2.1.step K10 HZL.out, H9.out.2.2.1.step K10 HZL.out, H9.out.2.2.2.1.step K10, fun j h => by
            rcases h with h | h
            · exact HZL.out j h
            · have := H9.out.2.1.g.size; omega⟩)
        have HR : Hid ((n10 = 0 ∧ ∃ f, Sk m10 5400 (k + 1) none (fun q => q = some ⟨X, T, [1, 2], d6⟩) (some ⟨X, T, [1, 2], d6⟩) [(X.toNat, f)] none) ∨ (n10 = 9 ∧ Hf m10 5400 (k + 1) (fun q => q = o ∨ q = some ⟨X, T, [1, 2], d6⟩))) := hid_mk (by
          rcases R10 with ⟨h1, _⟩ | ⟨_, h1, _⟩ | ⟨_, _, (⟨h1, h2, _⟩ | ⟨h1, h2, _⟩)⟩
          · rw [HM.out] at h1; cases h1
          · have := HO.out
            have h1' : X ≤ idxO o := h1
            omega
          · exact .inl ⟨h1, h2⟩
          · exact .inr ⟨h1, h2⟩)
        clear R10 D10 K10 H9
        go_upto_region 14 with (go_at_call 13; refine (num_any _ _).mono ?_; rintro e w' ⟨rfl, hw⟩; rw [hw]; clear hw)
        go_cut [8, 79] (fun s8 s79 wx => s8 = .int .i64 n10 ∧ s79 = .bool false ∧ wx = w10)
        case first =>
          rcases HR.out with ⟨hn0, _⟩ | ⟨hn0, _⟩
          · subst hn0
            go_wp2_with fail
            go_meet
            case rel => exact ⟨rfl, rfl, rfl⟩
          · subst hn0
            go_wp2_with fail
            go_meet
            case rel => exact ⟨rfl, rfl, rfl⟩
        case rest =>
          obtain ⟨rfl, rfl, rfl⟩ := hcut
          rename World => w10
          have c2 := H10.out.2.2.2.1.cells.2.2.1
          go_upto_region 16 with fail
          go_cut [8, 87] (fun s8 s87 wx => s8 = .int .i64 n10 ∧ ∃ c : Bool, s87 = .bool c ∧ (c = false → n10 = 0) ∧ wx = w10)
          case first =>
            rcases HR.out with ⟨hn0, _⟩ | ⟨hn0, _⟩
            · subst hn0
              go_wp2_with fail
              go_meet
              case rel => exact ⟨rfl, _, rfl, fun _ => (by first | rfl | trivial), rfl⟩
            · subst hn0
              go_wp2_with fail
              go_meet
              case rel => exact ⟨rfl, true, rfl, fun h => (by cases h), rfl⟩
          case rest =>
            obtain ⟨rfl, c87, rfl, hc87, rfl⟩ := hcut
            rename World => w10
            have HC87 := hid_mk hc87
            clear hc87
            go_upto_if 87 with fail
            go_cut [8] (fun s8 wx => s8 = .int .i64 n10 ∧ Hid (∃ Z2 m2 o2 L2 b2, V.IsDisk wx Z2 (4000 * k + 2000) b m2 ∧ (∀ j, Z2 j → w.heap.size ≤ j) ∧ LX w wx Z2 q0 nw sv dv ∧ LX w wx Z2 q7 ⟨X, T, [1, 2], d6⟩ (.slice ax 2 cx) (.slice a6 d6.length c6) ∧ LS wx Z2 q6 s (.slice a6 d6.length c6) (.slice ca cn cc) ∧ Sk m2 5400 (k + 1) none (fun q => q = o2) o2 L2 b2 ∧ (o2 = some ⟨X, T, [1, 2], d6⟩ ∨ (n10 = 9 ∧ o2 = o))))
            case first =>
              cases c87 with
              | false =>
                go_wp2_with fail
                go_meet
                case rel =>
                  refine ⟨rfl, hid_mk ?_⟩
                  have h0 := HC87.out (by first | rfl | trivial)
                  rcases HR.out with ⟨_, f, S⟩ | ⟨h9, _⟩
                  · exact ⟨_, _, _, _, _, H10.out.1, H10.out.2.2.2.2, H10.out.2.1, H10.out.2.2.1, H10.out.2.2.2.1, S, .inl rfl⟩
                  · omega
              | true =>
                have c4 := H10.out.2.2.2.1.cells.2.2.2.2.1
                go_wp2_with fail
                refine (V.crash_ok (4000 * k + 2000) b _ m10 _ s.cs w10 H10.out.1 (by omega) (HS.out.2.1.kept H10.out.2.1.g (fun _ _ _ _ _ => by simp)) (fun g' off' cap' h0 he => ?_)).mono ?_
                · have h1 := HS.out.2.2 g' off' cap' h0 he
                  have h2 := H10.out.2.1.g.size
                  exact ⟨fun h => by have := H10.out.2.2.2.2 g' h; omega, by omega⟩
                · rintro e w11 ⟨rfl, ⟨bm, bs', D11⟩, K11⟩
                  have H11 := hid_mk (And.intro D11 K11)
                  clear D11 K11
                  go_wp2_with fail
                  go_meet
                  case rel =>
                    refine ⟨rfl, hid_mk ?_⟩
                    have hsync : ∀ f x, m10.files f = some x → x.synced ≤ x.data.length := fun f x hx => (H10.out.1.rest.file f x hx).2.2.2.2.1
                    have hz' : ∀ j, ((Z1 j ∨ w9.heap.size ≤ j) ∨ w10.heap.size ≤ j) → w.heap.size ≤ j := fun j h => by
                      rcases h with h | h
                      · exact H10.out.2.2.2.2 j h
                      · have := H10.out.2.1.g.size; omega
                    rcases HR.out with ⟨_, f, S⟩ | ⟨h9, F⟩
                    · obtain ⟨L', b', S'⟩ := S.crash s.cs bm bs' hsync
                      exact ⟨_, _, _, _, _, H11.out.1, hz', H10.out.2.1.step H11.out.2 H10.out.2.2.2.2, H10.out.2.2.1.step H11.out.2 H10.out.2.2.2.2, H10.out.2.2.2.1.step H11.out.2, S', .inl rfl⟩
                    · obtain ⟨o', L', b', ho', S'⟩ := F.crash s.cs bm bs' hsync
                      refine ⟨_, _, _, _, _, H11.out.1, hz', H10.out.2.1.step H11.out.2 H10.out.2.2.2.2, H10.out.2.2.1.step H11.out.2 H10.out.2.2.2.2, H10.out.2.2.2.1.step H11.out.2, S', ?_⟩
                      rcases ho' with h | h
                      · exact .inr ⟨h9, h⟩
                      · exact .inl h
            case rest =>
              obtain ⟨rfl, HP⟩ := hcut
              rename World => w12
              obtain ⟨Z2, m2, o2, L2, b2, D12, hZ2, N12, X12, S12, K12, O12⟩ := HP.out
              have H12 := hid_mk (And.intro D12 (And.intro hZ2 (And.intro N12 (And.intro X12 (And.intro S12 (And.intro K12 O12))))))
              clear D12 hZ2 N12 X12 S12 K12 O12 HP H10 HC87 c2
              go_wp2_with fail
              refine (V.cut_ok (4000 * k + 2000) b _ m2 (-1) w12 H12.out.1 (by omega)).mono ?_
              rintro e w13 ⟨rfl, D13, K13⟩
              have H13 := hid_mk (show V.IsDisk w13 Z2 (4000 * k + 2000) b { m2 with fuse := max (-1) (-1) } ∧ (∀ j, Z2 j → w.heap.size ≤ j) ∧ LX w w13 Z2 q0 nw sv dv ∧ LX w w13 Z2 q7 ⟨X, T, [1, 2], d6⟩ (.slice ax 2 cx) (.slice a6 d6.length c6) ∧ LS w13 Z2 q6 s (.slice a6 d6.length c6) (.slice ca cn cc) ∧ Sk { m2 with fuse := max (-1) (-1) } 5400 (k + 1) none (fun q => q = o2) o2 L2 b2 ∧ (o2 = some ⟨X, T, [1, 2], d6⟩ ∨ (n10 = 9 ∧ o2 = o)) from ⟨D13, H12.out.2.1, H12.out.2.2.1.same K13 H12.out.2.1, H12.out.2.2.2.1.same K13 H12.out.2.1, H12.out.2.2.2.2.1.same K13, H12.out.2.2.2.2.2.1.fuse _, H12.out.2.2.2.2.2.2⟩)
              clear D13 K13 H12
              go_upto_region 19 with fail
              have HW2 := hid_mk (show 2 ≤ w.heap.size from hw2.out)
              go_cut [9, 10, 11] (fun s9 s10 s11 wx => ∃ (q9 : Nat) (okb : Bool) (y : Snap) (a1 : Option Addr) (c1 : Nat) (a2 : Option Addr) (c2 : Nat), s9 = .pointer (some ⟨q9, 0, none⟩) ∧ s10 = .bool okb ∧ s11 = .int .i64 0 ∧ Hid (V.Blk wx q9 #[.int .i64 y.i, .int .i64 y.t, .slice a1 y.s.length c1, .slice a2 y.d.length c2] 27 ∧ SnapAt wx (.slice a1 y.s.length c1) (.slice a2 y.d.length c2) y ∧ w13.grownBy wx none) ∧ Hid (LTold okb y nw ⟨X, T, [1, 2], d6⟩ n10 o2))
              case first =>
                have HLD := hid_mk (load_ok (4000 * k + 2000) b _ _ _ w13 H13.out.1 (by omega) H13.out.2.2.2.2.2.1.pres.1 H13.out.2.2.2.2.2.1.pres.2.1 (HT.out.1.kept H13.out.2.2.1.g) (HT.out.2.kept H13.out.2.2.1.g))
                cases o2 with
                | none =>
                  go_wp2_with fail
                  refine HLD.out.mono ?_
                  rintro e w14 ⟨hg14, rfl⟩
                  have G14 := hid_mk hg14
                  clear hg14 HLD
                  unfold zeroS
                  go_wp2_with fail
                  go_meet
                  case rel =>
                    have ga14 := World.grownBy_alloc w14 (.cells #[.int .i64 0, .int .i64 0, .slice none 0 0, .slice none 0 0] 27) none
                    exact ⟨_, false, ⟨0, 0, [], []⟩, none, 0, none, 0, rfl, rfl, rfl, hid_mk ⟨heap_alloc_new _ _, ⟨(OwnI.nil _ 0).ints, Byt.nil _⟩, grown_trans G14.out ga14⟩, hid_mk (lt_none HD.out.2.2.2.2.2 H13.out.2.2.2.2.2.2)⟩
                | some z =>
                  have hz7 : Hid (z.s.length ≤ 7) := hid_mk (by
                    obtain ⟨_, _, _, _, _, hm⟩ := H13.out.2.2.2.2.2.1.lok.last
                    have h7 := (mayS_iff.1 hm).1
                    unfold rightS at h7
                    have := (of_decide_eq_true h7).2.1
                    omega)
                  go_wp2_with fail
                  refine HLD.out.mono ?_
                  rintro e w14 ⟨hg14, sv14, dv14, rfl, hs14⟩
                  obtain ⟨a14, c14, rfl⟩ := hs14.s.len
                  obtain ⟨b14, e14, rfl⟩ := hs14.d.len
                  have G14 := hid_mk (And.intro hg14 hs14)
                  clear hg14 hs14 HLD
                  unfold snapV
                  go_wp2_with fail
                  go_meet
                  case rel =>
                    have ga14 := World.grownBy_alloc w14 (.cells #[.int .i64 z.i, .int .i64 z.t, .slice a14 z.s.length c14, .slice b14 z.d.length e14] 27) none
                    exact ⟨_, true, z, a14, c14, b14, e14, rfl, rfl, rfl, hid_mk ⟨heap_alloc_new _ _, G14.out.2.kept ga14, grown_trans G14.out.1 ga14⟩, hid_mk (lt_some HD.out.2.2.2.2.2 H13.out.2.2.2.2.2.2 hz7.out)⟩
              case rest =>
                obtain ⟨q9, okb, y, a14, c14, b14, e14, rfl, rfl, rfl, HY, HTL⟩ := hcut
                rename World => w15
                have HA := hid_mk (show LX w w15 Z2 q7 ⟨X, T, [1, 2], d6⟩ (.slice ax 2 cx) (.slice a6 d6.length c6) ∧ LX w w15 Z2 q0 nw sv dv ∧ LS w15 Z2 q6 s (.slice a6 d6.length c6) (.slice ca cn cc) ∧ V.IsDisk w15 Z2 (4000 * k + 2000) b { m2 with fuse := max (-1) (-1) } from ⟨H13.out.2.2.2.1.kept HY.out.2.2, H13.out.2.2.1.kept HY.out.2.2, H13.out.2.2.2.2.1.kept HY.out.2.2, H13.out.1.kept_none HY.out.2.2⟩)
                obtain ⟨sva, svn, svc, hsv⟩ : ∃ a n c, sv = .slice a n c := by obtain ⟨a, c, h⟩ := HA.out.2.1.s.ints.len; exact ⟨a, _, c, h⟩
                obtain ⟨dva, dvn, dvc, hdv⟩ : ∃ a n c, dv = .slice a n c := by obtain ⟨a, c, h⟩ := HA.out.2.1.d.len; exact ⟨a, _, c, h⟩
                subst hsv hdv
                go_upto_region 20 with fail
                go_cut [134] (fun s wx => s = .bool false ∧ Hid (w15.grownBy wx none))
                case first =>
                  have p0 : w15.cell? ⟨q9, 0, none⟩ = some (.int .i64 y.i) := by rw [HY.out.1.cell]; rfl
                  have p1 : w15.cell? ⟨q9, 1, none⟩ = some (.int .i64 y.t) := by rw [HY.out.1.cell]; rfl
                  have p2 : w15.cell? ⟨q9, 2, none⟩ = some (.slice a14 y.s.length c14) := by rw [HY.out.1.cell]; rfl
                  have p3 : w15.cell? ⟨q9, 3, none⟩ = some (.slice b14 y.d.length e14) := by rw [HY.out.1.cell]; rfl
                  obtain ⟨x0, x1, x2, x3, xf⟩ := HA.out.1.cells
                  obtain ⟨n0, n1, n2, n3, nf⟩ := HA.out.2.1.cells
                  rcases HTL.out with ⟨rfl, rfl, _⟩ | ⟨rfl, rfl, rfl, _, hl7⟩ | ⟨rfl, rfl, _, hn0⟩
                  · clear n0 n1 n2 n3 nf
                    go_wp2_with (go_at_call 13; refine (num_any _ _).mono ?_; rintro e w' ⟨rfl, hw⟩; rw [hw]; clear hw)
                    refine (show Calls Tryz.prog 14 #[snapV ⟨X, T, [1, 2], d6⟩ (.slice a14 2 c14) (.slice b14 d6.length e14), snapV ⟨X, T, [1, 2], d6⟩ (.slice ax 2 cx) (.slice a6 d6.length c6)] w15 _ from same_yes _ _ _ _ _ _ HY.out.2.1 HA.out.1.snap (by simp)).mono ?_
                    rintro e w16 ⟨rfl, hg16⟩
                    have G16 := hid_mk hg16
                    clear hg16 p0 p1 p2 p3 x0 x1 x2 x3 xf
                    go_wp2_with fail
                    go_meet
                    case rel => exact ⟨rfl, G16⟩
                  · have hl8 := hid_mk hl7
                    clear hl7
                    go_wp2_with (go_at_call 13; refine (num_any _ _).mono ?_; rintro e w' ⟨rfl, hw⟩; rw [hw]; clear hw)
                    refine (same_no nw ⟨X, T, [1, 2], d6⟩ _ _ _ _ _ _ _ _ _ _ _ _ w15 (by show nw.i ≠ X; omega)).mono ?_
                    rintro e w16 ⟨rfl, hg16⟩
                    have H16 := hid_mk (show V.Blk w16 q9 #[.int .i64 nw.i, .int .i64 nw.t, .slice a14 nw.s.length c14, .slice b14 nw.d.length e14] 27 ∧ SnapAt w16 (.slice a14 nw.s.length c14) (.slice b14 nw.d.length e14) nw ∧ LX w w16 Z2 q0 nw (.slice sva svn svc) (.slice dva dvn dvc) ∧ w15.grownBy w16 none from ⟨V.Blk.kept HY.out.1 hg16 (by simp), HY.out.2.1.kept hg16, HA.out.2.1.kept hg16, hg16⟩)
                    clear p0 p1 p2 p3 x0 x1 x2 x3 xf hg16 n0 n1 n2 n3 nf
                    have p0 : w16.cell? ⟨q9, 0, none⟩ = some (.int .i64 nw.i) := by rw [H16.out.1.cell]; rfl
                    have p1 : w16.cell? ⟨q9, 1, none⟩ = some (.int .i64 nw.t) := by rw [H16.out.1.cell]; rfl
                    have p2 : w16.cell? ⟨q9, 2, none⟩ = some (.slice a14 nw.s.length c14) := by rw [H16.out.1.cell]; rfl
                    have p3 : w16.cell? ⟨q9, 3, none⟩ = some (.slice b14 nw.d.length e14) := by rw [H16.out.1.cell]; rfl
                    obtain ⟨n0, n1, n2, n3, nf⟩ := H16.out.2.2.1.cells
                    go_wp2_with fail
                    refine (show Calls Tryz.prog 14 #[snapV nw (.slice a14 nw.s.length c14) (.slice b14 nw.d.length e14), snapV nw (.slice sva svn svc) (.slice dva dvn dvc)] w16 _ from same_yes _ _ _ _ _ _ H16.out.2.1 H16.out.2.2.1.snap (by have := hl8.out; omega)).mono ?_
                    rintro e w17 ⟨rfl, hg17⟩
                    have G17 := hid_mk (grown_trans H16.out.2.2.2 hg17)
                    clear hg17 p0 p1 p2 p3 n0 n1 n2 n3 nf
                    go_wp2_with fail
                    go_meet
                    case rel => exact ⟨rfl, G17⟩
                  · rw [hn0] at n0
                    clear p0 p1 p2 p3 x0 x1 x2 x3 xf
                    go_wp2_with (go_at_call 13; refine (num_any _ _).mono ?_; rintro e w' ⟨rfl, hw⟩; rw [hw]; clear hw)
                    go_meet
                    case rel => exact ⟨rfl, hid_mk (grown_refl _ _)⟩
                case rest =>
                  obtain ⟨rfl, G16⟩ := hcut
                  rename World => w16
                  have HB := hid_mk (show V.Blk w16 q9 #[.int .i64 y.i, .int .i64 y.t, .slice a14 y.s.length c14, .slice b14 y.d.length e14] 27 ∧ SnapAt w16 (.slice a14 y.s.length c14) (.slice b14 y.d.length e14) y ∧ LX w w16 Z2 q7 ⟨X, T, [1, 2], d6⟩ (.slice ax 2 cx) (.slice a6 d6.length c6) ∧ LX w w16 Z2 q0 nw (.slice sva svn svc) (.slice dva dvn dvc) ∧ LS w16 Z2 q6 s (.slice a6 d6.length c6) (.slice ca cn cc) ∧ V.IsDisk w16 Z2 (4000 * k + 2000) b { m2 with fuse := max (-1) (-1) } from ⟨V.Blk.kept HY.out.1 G16.out (by simp), HY.out.2.1.kept G16.out, HA.out.1.kept G16.out, HA.out.2.1.kept G16.out, HA.out.2.2.1.kept G16.out, HA.out.2.2.2.kept_none G16.out⟩)
                  clear HY HA G16
                  go_upto_region 22 with fail
                  go_cut [140] (fun s wx => ∃ t : Bool, s = .bool t ∧ Hid ((t = true ∧ o2 = some ⟨X, T, [1, 2], d6⟩) ∨ (t = false ∧ ((nw.i = 0 ∧ o2 = none) ∨ o2 = some nw))) ∧ Hid (w16.grownBy wx none))
                  case first =>
                    have p0 : w16.cell? ⟨q9, 0, none⟩ = some (.int .i64 y.i) := by rw [HB.out.1.cell]; rfl
                    have p1 : w16.cell? ⟨q9, 1, none⟩ = some (.int .i64 y.t) := by rw [HB.out.1.cell]; rfl
                    have p2 : w16.cell? ⟨q9, 2, none⟩ = some (.slice a14 y.s.length c14) := by rw [HB.out.1.cell]; rfl
                    have p3 : w16.cell? ⟨q9, 3, none⟩ = some (.slice b14 y.d.length e14) := by rw [HB.out.1.cell]; rfl
                    obtain ⟨x0, x1, x2, x3, xf⟩ := HB.out.2.2.1.cells
                    rcases HTL.out with ⟨rfl, rfl, ho⟩ | ⟨rfl, rfl, rfl, ho, _⟩ | ⟨rfl, rfl, ho, hn0⟩
                    · have HO3 := hid_mk ho
                      clear ho
                      go_wp2_with fail
                      refine (show Calls Tryz.prog 14 #[snapV ⟨X, T, [1, 2], d6⟩ (.slice a14 2 c14) (.slice b14 d6.length e14), snapV ⟨X, T, [1, 2], d6⟩ (.slice ax 2 cx) (.slice a6 d6.length c6)] w16 _ from same_yes _ _ _ _ _ _ HB.out.2.1 HB.out.2.2.1.snap (by simp)).mono ?_
                      rintro e w17 ⟨rfl, hg17⟩
                      have G17 := hid_mk hg17
                      clear hg17 p0 p1 p2 p3 x0 x1 x2 x3 xf
                      go_wp2_with fail
                      go_meet
                      case rel => exact ⟨true, rfl, hid_mk (.inl ⟨rfl, HO3.out⟩), G17⟩
                    · have HO3 := hid_mk ho
                      clear ho
                      go_wp2_with fail
                      refine (same_no nw ⟨X, T, [1, 2], d6⟩ _ _ _ _ _ _ _ _ _ _ _ _ w16 (by show nw.i ≠ X; omega)).mono ?_
                      rintro e w17 ⟨rfl, hg17⟩
                      have G17 := hid_mk hg17
                      clear hg17 p0 p1 p2 p3 x0 x1 x2 x3 xf
                      go_wp2_with fail
                      go_meet
                      case rel => exact ⟨false, rfl, hid_mk (.inr ⟨rfl, .inr HO3.out⟩), G17⟩
                    · have HO3 := hid_mk (And.intro hn0 ho)
                      clear ho hn0 p0 p1 p2 p3 x0 x1 x2 x3 xf
                      go_wp2_with fail
                      go_meet
                      case rel => exact ⟨false, rfl, hid_mk (.inr ⟨rfl, .inl HO3.out⟩), hid_mk (grown_refl _ _)⟩
                  case rest =>
                    obtain ⟨t, rfl, HC, G17⟩ := hcut
                    rename World => w17
                    have H17 := hid_mk (show LX w w17 Z2 q7 ⟨X, T, [1, 2], d6⟩ (.slice ax 2 cx) (.slice a6 d6.length c6) ∧ LX w w17 Z2 q0 nw (.slice sva svn svc) (.slice dva dvn dvc) ∧ LS w17 Z2 q6 s (.slice a6 d6.length c6) (.slice ca cn cc) ∧ V.IsDisk w17 Z2 (4000 * k + 2000) b { m2 with fuse := max (-1) (-1) } from ⟨HB.out.2.2.1.kept G17.out, HB.out.2.2.2.1.kept G17.out, HB.out.2.2.2.2.1.kept G17.out, HB.out.2.2.2.2.2.kept_none G17.out⟩)
                    clear HB G17 HTL
                    go_upto_if 140 with fail
                    go_cut [8] (fun s8 wx => s8 = .int .i64 n10 ∧ Hid (∃ (nw' : Snap) (sv' dv' : Value), V.IsDisk wx Z2 (4000 * k + 2000) b { m2 with fuse := max (-1) (-1) } ∧ LX w wx Z2 q0 nw' sv' dv' ∧ LS wx Z2 q6 s (.slice a6 d6.length c6) (.slice ca cn cc) ∧ ((nw'.i = 0 ∧ o2 = none) ∨ o2 = some nw') ∧ nw'.i ≤ 5 * ((k : Int) + 1)))
                    case first =>
                      cases t with
                      | false =>
                        go_wp2_with fail
                        go_meet
                        case rel =>
                          refine ⟨rfl, hid_mk ⟨nw, _, _, H17.out.2.2.2, H17.out.2.1, H17.out.2.2.1, ?_, by omega⟩⟩
                          rcases HC.out with ⟨h, _⟩ | ⟨_, h⟩
                          · cases h
                          · exact h
                      | true =>
                        obtain ⟨x0, x1, x2, x3, xf⟩ := H17.out.1.cells
                        obtain ⟨n0, n1, n2, n3, nf⟩ := H17.out.2.1.cells
                        have H18 : Hid (LX w ((((w17.setCell ⟨q0, 0, none⟩ (.int .i64 X)).setCell ⟨q0, 1, none⟩ (.int .i64 T)).setCell ⟨q0, 2, none⟩ (.slice ax 2 cx)).setCell ⟨q0, 3, none⟩ (.slice a6 d6.length c6)) Z2 q0 ⟨X, T, [1, 2], d6⟩ (.slice ax 2 cx) (.slice a6 d6.length c6) ∧ LS ((((w17.setCell ⟨q0, 0, none⟩ (.int .i64 X)).setCell ⟨q0, 1, none⟩ (.int .i64 T)).setCell ⟨q0, 2, none⟩ (.slice ax 2 cx)).setCell ⟨q0, 3, none⟩ (.slice a6 d6.length c6)) Z2 q6 s (.slice a6 d6.length c6) (.slice ca cn cc) ∧ V.IsDisk ((((w17.setCell ⟨q0, 0, none⟩ (.int .i64 X)).setCell ⟨q0, 1, none⟩ (.int .i64 T)).setCell ⟨q0, 2, none⟩ (.slice ax 2 cx)).setCell ⟨q0, 3, none⟩ (.slice a6 d6.length c6)) Z2 (4000 * k + 2000) b { m2 with fuse := max (-1) (-1) }) := hid_mk (by
                          have hp := H17.out.2.1.put H17.out.1 HQ0.out
                          refine ⟨hp, ⟨V.Blk.kept H17.out.2.2.1.box (grown_laid _ _ _ _ _ _) (ne_tag H17.out.2.2.1.box H17.out.2.1.box (by decide)), H17.out.2.2.1.zq⟩, ?_⟩
                          exact H17.out.2.2.2.keeps (V.Keeps.one (Z := fun j => j = q0) (grown_laid _ _ _ _ _ _) rfl) (fun j h e => by subst e; exact H17.out.2.1.zq h))
                        have hO2 : Hid (o2 = some (⟨X, T, [1, 2], d6⟩ : Snap)) := hid_mk (by
                          rcases HC.out with ⟨_, h⟩ | ⟨h, _⟩
                          · exact h
                          · cases h)
                        clear H17 HC
                        go_wp2_with fail
                        generalize ((((w17.setCell ⟨q0, 0, none⟩ (.int .i64 X)).setCell ⟨q0, 1, none⟩ (.int .i64 T)).setCell ⟨q0, 2, none⟩ (.slice ax 2 cx)).setCell ⟨q0, 3, none⟩ (.slice a6 d6.length c6)) = w18 at *
                        go_meet
                        case rel => exact ⟨rfl, hid_mk ⟨⟨X, T, [1, 2], d6⟩, _, _, H18.out.2.2, H18.out.1, H18.out.2.1, .inr hO2.out, hX2⟩⟩
                    case rest =>
                      obtain ⟨rfl, HP⟩ := hcut
                      rename World => w18
                      obtain ⟨nw', sv', dv', e1, e2, e3, e4, e5⟩ := HP.out
                      have HE := hid_mk (And.intro e1 (And.intro e2 (And.intro e3 (And.intro e4 e5))))
                      clear e1 e2 e3 e4 e5 HP H17 HC
                      have c2 := HE.out.2.2.1.cells.2.2.1
                      by_cases hev : s.fu.tmod 2 = 0
                      · go_wp2_with fail
                        refine (clean_state (4000 * k + 2000) b Z2 _ _ _ _ _ 5400 (k + 1) w18 HE.out.1 (by omega) H13.out.2.2.2.2.2.1 rfl (by omega) (HT.out.1.kept HE.out.2.1.g) (HT.out.2.kept HE.out.2.1.g) (fun h => by have := H13.out.2.1 1 h; have := hw2.out; omega) (fun h => by have := H13.out.2.1 0 h; have := hw2.out; omega)).mono ?_
                        rintro e wF ⟨mF, rfl, ⟨LF, SF⟩, FF, DF, KF⟩
                        have hzF : ∀ j, (Z2 j ∨ w18.heap.size ≤ j) → w.heap.size ≤ j := fun j h => by
                          rcases h with h | h
                          · exact H13.out.2.1 j h
                          · have := HE.out.2.1.g.size; omega
                        have HF := hid_mk (show LI w wF b q0 (k + 1) from ⟨_, _, _, _, _, _, _, _, DF.monoN (by omega), hzF, SF, FF, HE.out.2.1.step KF H13.out.2.1, HE.out.2.2.2.1, by have := HE.out.2.2.2.2; push_cast; omega, HQ0.out⟩)
                        clear SF FF DF KF hzF
                        go_wp2_with (go_at_call 13; refine (num_any _ _).mono ?_; rintro e w' ⟨rfl, hw⟩; rw [hw]; clear hw)
                        go_roundg (40 - (k + 1))
                        case measure => omega
                        case rel => exact ⟨k + 1, by omega, rfl, by go_num, HF⟩
                      · have HF := hid_mk (show LI w w18 b q0 (k + 1) from ⟨_, _, _, _, _, _, _, _, HE.out.1.monoN (by omega), H13.out.2.1, H13.out.2.2.2.2.2.1, rfl, HE.out.2.1, HE.out.2.2.2.1, by have := HE.out.2.2.2.2; push_cast; omega, HQ0.out⟩)
                        go_wp2_with fail
                        go_roundg (40 - (k + 1))
                        case measure => omega
                        case rel => exact ⟨k + 1, by omega, rfl, by go_num, HF⟩
    · clear D4 hZ S4 F4 N4 O4 I4 HI
      go_wp2_with fail
      all_goals (go_ret; exact ⟨rfl, HG4.out⟩)

end Go.Proofs.YtmlppjmpoanlkaaGreatDoor.W
