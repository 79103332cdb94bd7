/- history: apart. -/
import Derived.Test.YthbfjpaimnhpgabHF
namespace Go.Proofs.Ythbfjpaimnhpgab
open Go.RowKit Go.Maps
set_option linter.unusedVariables false
set_option linter.unusedSimpArgs false
set_option maxRecDepth 100000

theorem chain_drop {l : List Ca} {m : Nat} (h : m + 1 < l.length) : chainG (l.drop m) = (nextOk l[m] l[m + 1] && chainG (l.drop (m + 1))) := by
  rw [List.drop_eq_getElem_cons (by omega : m < l.length), List.drop_eq_getElem_cons h]; rfl
theorem chain_end {l : List Ca} {m : Nat} (h : l.length ≤ m + 1) : chainG (l.drop m) = true := by
  have : (l.drop m).length ≤ 1 := by rw [List.length_drop]; omega
  match hl : l.drop m with
  | [] => rfl
  | [x] => rfl
  | x :: y :: r => rw [hl] at this; simp at this
theorem nextOk_no {x y : Ca} (h : x.c ≠ y.c) : nextOk x y = true := nextOk_iff.2 (fun e => absurd e h)
theorem gs_get {L : List CE} {i : Nat} (h : i < L.length) : ∃ h', (gs L)[i]'h' = L[i].g := ⟨by simpa [gs] using h, by simp [gs]⟩
/-- A bool that says whether. -/
def RetB (e : Ending) (p : Prop) : Prop := ∃ b : Bool, e = .returned (.bool b) ∧ (b = true ↔ p)
set_option maxHeartbeats 8000000 in
theorem apart_any {w : World} {v : Value} {L : List CE} (h : CsR w v L) (hl : L.length ≤ 2000) (ha : ∀ x ∈ L, aloneG x.g = true) : Calls Try.prog 18 #[v] w fun e w' => RetB e ((gs L).Pairwise clearG) ∧ w.grownBy w' none := by
  have HL := hid_mk (And.intro h ha)
  have HC := hid_mk (cloneC_any h (by omega))
  clear h ha
  go_enter Try.func18, Try.ntmps18
  go_wp2_with (go_at_call 25; refine HC.out.mono ?_; rintro e w1 ⟨v1, rfl, h1, hg1⟩; have H1 := hid_mk (And.intro h1 hg1); clear h1 hg1)
  clear HC
  refine (sortC_any H1.out.1 HL.out.1.ins H1.out.2 hl).mono ?_
  rintro e w2 ⟨rfl, L', hp, hs, hr, hg⟩
  have hlen : L'.length = L.length := hp.length_eq
  have HR := hid_mk (show CsR w2 v1 L' ∧ w.grownBy w2 none ∧ (chainG (gs L') = true ↔ (gs L).Pairwise clearG) from ⟨hr, hg, by
    have hpg : (gs L').Perm (gs L) := hp.map _
    rw [chain_right (gs L') (by unfold gs; rw [List.pairwise_map]; exact hs) (fun z hz => by
      obtain ⟨x, hx, rfl⟩ := List.mem_map.1 hz
      exact HL.out.2 x (hp.mem_iff.1 hx)), clear_perm hpg]⟩)
  rw [← hlen] at hl
  clear H1 hp hs hr hg HL hlen
  obtain ⟨va, vc, rfl⟩ := HR.out.1.len
  go_wp2_with fail
  go_loopg [4] L'.length (fun gg iv W => ∃ m : Nat, m ≤ L'.length ∧ gg = L'.length - m ∧ iv = .int .i64 ((m : Int) + 1) ∧ Hid (w2.grownBy W none ∧ chainG (gs L') = chainG ((gs L').drop m)))
  case atStart => exact ⟨0, Nat.zero_le _, rfl, rfl, hid_mk ⟨grown_refl _ _, by simp⟩⟩
  case round =>
    obtain ⟨m, hm, hgm, rfl, H⟩ := hrel
    rename World => W
    by_cases hlt : m + 1 < L'.length
    · have hlt' : (m : Int) + 1 < L'.length := by omega
      obtain ⟨lb, off, cap, he, hc⟩ := HR.out.1.cells (show m < L'.length by omega)
      obtain ⟨lb2, off2, cap2, he2, hc2⟩ := HR.out.1.cells hlt
      injection he with e1 e2 e3
      subst e1
      injection he2 with e4 e5 e6
      injection e4 with e4
      injection e4 with e4 e7 _
      subst e4 e7
      clear e2 e3 e5 e6
      obtain ⟨d0, d1, d2, d3, d4, d5, d6, d7, d8, d9, d10, d11⟩ := hc W H.out.1
      obtain ⟨f0, f1, f2, f3, f4, f5, f6, f7, f8, f9, f10, f11⟩ := hc2 W H.out.1
      obtain ⟨⟨xa, xn, xc, hxd⟩, ⟨ra, rn, rc, hxr⟩⟩ := HR.out.1.sl _ (List.getElem_mem (show m < L'.length by omega))
      obtain ⟨⟨ya, yn, yc, hyd⟩, ⟨sa, sn, sc, hyr⟩⟩ := HR.out.1.sl _ (List.getElem_mem hlt)
      rw [hxd] at d10
      rw [hxr] at d11
      rw [hyd] at f10
      rw [hyr] at f11
      have HX := hid_mk (show chainG (gs L') = (nextOk L'[m].g L'[m + 1].g && chainG ((gs L').drop (m + 1))) from by
        rw [H.out.2, chain_drop (by simpa [gs] using hlt)]; simp [gs])
      clear hc hc2 hxd hxr hyd hyr
      generalize L'[m] = x at *
      generalize L'[m + 1] = y at *
      have k0 := fun o => (World.grownBy_alloc W o none).cell d0 (by simp)
      have k1 := fun o => (World.grownBy_alloc W o none).cell d1 (by simp)
      have k2 := fun o => (World.grownBy_alloc W o none).cell d2 (by simp)
      have k3 := fun o => (World.grownBy_alloc W o none).cell d3 (by simp)
      have k4 := fun o => (World.grownBy_alloc W o none).cell d4 (by simp)
      have k5 := fun o => (World.grownBy_alloc W o none).cell d5 (by simp)
      have k6 := fun o => (World.grownBy_alloc W o none).cell d6 (by simp)
      have k7 := fun o => (World.grownBy_alloc W o none).cell d7 (by simp)
      have k8 := fun o => (World.grownBy_alloc W o none).cell d8 (by simp)
      have k9 := fun o => (World.grownBy_alloc W o none).cell d9 (by simp)
      have k10 := fun o => (World.grownBy_alloc W o none).cell d10 (by simp)
      have k11 := fun o => (World.grownBy_alloc W o none).cell d11 (by simp)
      have j0 := fun o => (World.grownBy_alloc W o none).cell f0 (by simp)
      have j1 := fun o => (World.grownBy_alloc W o none).cell f1 (by simp)
      have j2 := fun o => (World.grownBy_alloc W o none).cell f2 (by simp)
      have j3 := fun o => (World.grownBy_alloc W o none).cell f3 (by simp)
      have j4 := fun o => (World.grownBy_alloc W o none).cell f4 (by simp)
      have j5 := fun o => (World.grownBy_alloc W o none).cell f5 (by simp)
      have j6 := fun o => (World.grownBy_alloc W o none).cell f6 (by simp)
      have j7 := fun o => (World.grownBy_alloc W o none).cell f7 (by simp)
      have j8 := fun o => (World.grownBy_alloc W o none).cell f8 (by simp)
      have j9 := fun o => (World.grownBy_alloc W o none).cell f9 (by simp)
      have j10 := fun o => (World.grownBy_alloc W o none).cell f10 (by simp)
      have j11 := fun o => (World.grownBy_alloc W o none).cell f11 (by simp)
      have k0b := fun o o2 => (World.grownBy_alloc (W.alloc o) o2 none).cell (k0 o) (by simp)
      have k1b := fun o o2 => (World.grownBy_alloc (W.alloc o) o2 none).cell (k1 o) (by simp)
      have k2b := fun o o2 => (World.grownBy_alloc (W.alloc o) o2 none).cell (k2 o) (by simp)
      have k3b := fun o o2 => (World.grownBy_alloc (W.alloc o) o2 none).cell (k3 o) (by simp)
      have k4b := fun o o2 => (World.grownBy_alloc (W.alloc o) o2 none).cell (k4 o) (by simp)
      have k5b := fun o o2 => (World.grownBy_alloc (W.alloc o) o2 none).cell (k5 o) (by simp)
      have k6b := fun o o2 => (World.grownBy_alloc (W.alloc o) o2 none).cell (k6 o) (by simp)
      have k7b := fun o o2 => (World.grownBy_alloc (W.alloc o) o2 none).cell (k7 o) (by simp)
      have k8b := fun o o2 => (World.grownBy_alloc (W.alloc o) o2 none).cell (k8 o) (by simp)
      have k9b := fun o o2 => (World.grownBy_alloc (W.alloc o) o2 none).cell (k9 o) (by simp)
      have k10b := fun o o2 => (World.grownBy_alloc (W.alloc o) o2 none).cell (k10 o) (by simp)
      have k11b := fun o o2 => (World.grownBy_alloc (W.alloc o) o2 none).cell (k11 o) (by simp)
      have j0b := fun o o2 => (World.grownBy_alloc (W.alloc o) o2 none).cell (j0 o) (by simp)
      have j1b := fun o o2 => (World.grownBy_alloc (W.alloc o) o2 none).cell (j1 o) (by simp)
      have j2b := fun o o2 => (World.grownBy_alloc (W.alloc o) o2 none).cell (j2 o) (by simp)
      have j3b := fun o o2 => (World.grownBy_alloc (W.alloc o) o2 none).cell (j3 o) (by simp)
      have j4b := fun o o2 => (World.grownBy_alloc (W.alloc o) o2 none).cell (j4 o) (by simp)
      have j5b := fun o o2 => (World.grownBy_alloc (W.alloc o) o2 none).cell (j5 o) (by simp)
      have j6b := fun o o2 => (World.grownBy_alloc (W.alloc o) o2 none).cell (j6 o) (by simp)
      have j7b := fun o o2 => (World.grownBy_alloc (W.alloc o) o2 none).cell (j7 o) (by simp)
      have j8b := fun o o2 => (World.grownBy_alloc (W.alloc o) o2 none).cell (j8 o) (by simp)
      have j9b := fun o o2 => (World.grownBy_alloc (W.alloc o) o2 none).cell (j9 o) (by simp)
      have j10b := fun o o2 => (World.grownBy_alloc (W.alloc o) o2 none).cell (j10 o) (by simp)
      have j11b := fun o o2 => (World.grownBy_alloc (W.alloc o) o2 none).cell (j11 o) (by simp)
      go_upto_region 6 with fail
      go_region
      · have h2 := blk_alloc2 W #[.int .i64 x.g.c, .int .i64 x.g.b, .int .i64 x.g.e, .int .i64 x.g.k, .int .i64 x.g.at', .bool x.g.an, .int .i64 x.g.fr, .int .i64 x.g.mo, .int .i64 x.g.nu, .int .i64 x.g.st, .slice xa xn xc, .slice ra rn rc] #[.int .i64 y.g.c, .int .i64 y.g.b, .int .i64 y.g.e, .int .i64 y.g.k, .int .i64 y.g.at', .bool y.g.an, .int .i64 y.g.fr, .int .i64 y.g.mo, .int .i64 y.g.nu, .int .i64 y.g.st, .slice ya yn yc, .slice sa sn sc] 42 42
        have HB := hid_mk (show W.grownBy ((W.alloc (.cells #[.int .i64 x.g.c, .int .i64 x.g.b, .int .i64 x.g.e, .int .i64 x.g.k, .int .i64 x.g.at', .bool x.g.an, .int .i64 x.g.fr, .int .i64 x.g.mo, .int .i64 x.g.nu, .int .i64 x.g.st, .slice xa xn xc, .slice ra rn rc] 42)).alloc (.cells #[.int .i64 y.g.c, .int .i64 y.g.b, .int .i64 y.g.e, .int .i64 y.g.k, .int .i64 y.g.at', .bool y.g.an, .int .i64 y.g.fr, .int .i64 y.g.mo, .int .i64 y.g.nu, .int .i64 y.g.st, .slice ya yn yc, .slice sa sn sc] 42)).drew none ∧ Blk ((W.alloc (.cells #[.int .i64 x.g.c, .int .i64 x.g.b, .int .i64 x.g.e, .int .i64 x.g.k, .int .i64 x.g.at', .bool x.g.an, .int .i64 x.g.fr, .int .i64 x.g.mo, .int .i64 x.g.nu, .int .i64 x.g.st, .slice xa xn xc, .slice ra rn rc] 42)).alloc (.cells #[.int .i64 y.g.c, .int .i64 y.g.b, .int .i64 y.g.e, .int .i64 y.g.k, .int .i64 y.g.at', .bool y.g.an, .int .i64 y.g.fr, .int .i64 y.g.mo, .int .i64 y.g.nu, .int .i64 y.g.st, .slice ya yn yc, .slice sa sn sc] 42)).drew W.heap.size #[.int .i64 x.g.c, .int .i64 x.g.b, .int .i64 x.g.e, .int .i64 x.g.k, .int .i64 x.g.at', .bool x.g.an, .int .i64 x.g.fr, .int .i64 x.g.mo, .int .i64 x.g.nu, .int .i64 x.g.st, .slice xa xn xc, .slice ra rn rc] 42 ∧ Blk ((W.alloc (.cells #[.int .i64 x.g.c, .int .i64 x.g.b, .int .i64 x.g.e, .int .i64 x.g.k, .int .i64 x.g.at', .bool x.g.an, .int .i64 x.g.fr, .int .i64 x.g.mo, .int .i64 x.g.nu, .int .i64 x.g.st, .slice xa xn xc, .slice ra rn rc] 42)).alloc (.cells #[.int .i64 y.g.c, .int .i64 y.g.b, .int .i64 y.g.e, .int .i64 y.g.k, .int .i64 y.g.at', .bool y.g.an, .int .i64 y.g.fr, .int .i64 y.g.mo, .int .i64 y.g.nu, .int .i64 y.g.st, .slice ya yn yc, .slice sa sn sc] 42)).drew (W.heap.size + 1) #[.int .i64 y.g.c, .int .i64 y.g.b, .int .i64 y.g.e, .int .i64 y.g.k, .int .i64 y.g.at', .bool y.g.an, .int .i64 y.g.fr, .int .i64 y.g.mo, .int .i64 y.g.nu, .int .i64 y.g.st, .slice ya yn yc, .slice sa sn sc] 42 from ⟨grown_trans (grown_trans (World.grownBy_alloc _ _ none) (World.grownBy_alloc _ _ none)) (grown_drew _ none), h2.1.kept (grown_drew _ none) (by simp), h2.2.kept (grown_drew _ none) (by simp)⟩)
        clear h2 d0 f0 k0 j0 k0b j0b d1 f1 k1 j1 k1b j1b d2 f2 k2 j2 k2b j2b d3 f3 k3 j3 k3b j3b d4 f4 k4 j4 k4b j4b d5 f5 k5 j5 k5b j5b d6 f6 k6 j6 k6b j6b d7 f7 k7 j7 k7b j7b d8 f8 k8 j8 k8b j8b d9 f9 k9 j9 k9b j9b d10 f10 k10 j10 k10b j10b d11 f11 k11 j11 k11b j11b
        generalize ((W.alloc (.cells #[.int .i64 x.g.c, .int .i64 x.g.b, .int .i64 x.g.e, .int .i64 x.g.k, .int .i64 x.g.at', .bool x.g.an, .int .i64 x.g.fr, .int .i64 x.g.mo, .int .i64 x.g.nu, .int .i64 x.g.st, .slice xa xn xc, .slice ra rn rc] 42)).alloc (.cells #[.int .i64 y.g.c, .int .i64 y.g.b, .int .i64 y.g.e, .int .i64 y.g.k, .int .i64 y.g.at', .bool y.g.an, .int .i64 y.g.fr, .int .i64 y.g.mo, .int .i64 y.g.nu, .int .i64 y.g.st, .slice ya yn yc, .slice sa sn sc] 42)).drew = W2 at *
        have HG2 := hid_mk (grown_trans H.out.1 HB.out.1)
        generalize W.heap.size + 1 = q2 at *
        generalize W.heap.size = q1 at *
        obtain ⟨p0, p1, p2, p3, p4, p5, p6, p7, p8, p9, p10, p11, pf⟩ := blk12 HB.out.2.1
        obtain ⟨r0, r1, r2, r3, r4, r5, r6, r7, r8, r9, r10, r11, rf⟩ := blk12 HB.out.2.2
        clear p3 p4 p6 p7 p8 p9 p10 p11 pf r2 r3 r4 r5 r6 r7 r8 r9 r10 r11 rf HB
        obtain ⟨cx, hcx⟩ : ∃ cx, cx = x.g.c := ⟨_, rfl⟩
        by_cases hcc : x.g.c = y.g.c
        · cases han : x.g.an
          · have HN := hid_mk (show false = true ↔ (gs L).Pairwise clearG from by
              have hno : nextOk x.g y.g = false := by rw [← Bool.not_eq_true, nextOk_iff]; intro h; have := (h hcc).1; rw [han] at this; cases this
              rw [← HR.out.2.2, HX.out, hno, Bool.false_and])
            rw [han] at p5
            clear han
            go_wp2_with fail
            go_ret
            exact ⟨⟨false, rfl, by simpa using HN.out⟩, grown_trans HR.out.2.1 HG2.out⟩
          · rw [han] at p5
            by_cases heb : x.g.e ≤ y.g.b
            · have HN := hid_mk (show chainG (gs L') = chainG ((gs L').drop (m + 1)) from by
                rw [HX.out, nextOk_iff.2 (fun _ => ⟨han, heb⟩), Bool.true_and])
              clear han
              go_wp2_with fail
              go_roundg (L'.length - (m + 1))
              case measure => omega
              case rel => exact ⟨m + 1, by omega, rfl, by go_num, hid_mk ⟨HG2.out, HN.out⟩⟩
            · have HN := hid_mk (show false = true ↔ (gs L).Pairwise clearG from by
                have hno : nextOk x.g y.g = false := by rw [← Bool.not_eq_true, nextOk_iff]; intro h; exact heb (h hcc).2
                rw [← HR.out.2.2, HX.out, hno, Bool.false_and])
              clear han
              go_wp2_with fail
              go_ret
              exact ⟨⟨false, rfl, by simpa using HN.out⟩, grown_trans HR.out.2.1 HG2.out⟩
        · have HN := hid_mk (show chainG (gs L') = chainG ((gs L').drop (m + 1)) from by
            rw [HX.out, nextOk_no hcc, Bool.true_and])
          have hcb : (x.g.c == y.g.c) = false := beq_eq_false_iff_ne.2 hcc
          go_wp2_with fail
          go_roundg (L'.length - (m + 1))
          case measure => omega
          case rel => exact ⟨m + 1, by omega, rfl, by go_num, hid_mk ⟨HG2.out, HN.out⟩⟩
      · have h2 := blk_alloc2 W #[.int .i64 y.g.c, .int .i64 y.g.b, .int .i64 y.g.e, .int .i64 y.g.k, .int .i64 y.g.at', .bool y.g.an, .int .i64 y.g.fr, .int .i64 y.g.mo, .int .i64 y.g.nu, .int .i64 y.g.st, .slice ya yn yc, .slice sa sn sc] #[.int .i64 x.g.c, .int .i64 x.g.b, .int .i64 x.g.e, .int .i64 x.g.k, .int .i64 x.g.at', .bool x.g.an, .int .i64 x.g.fr, .int .i64 x.g.mo, .int .i64 x.g.nu, .int .i64 x.g.st, .slice xa xn xc, .slice ra rn rc] 42 42
        have HB := hid_mk (show W.grownBy ((W.alloc (.cells #[.int .i64 y.g.c, .int .i64 y.g.b, .int .i64 y.g.e, .int .i64 y.g.k, .int .i64 y.g.at', .bool y.g.an, .int .i64 y.g.fr, .int .i64 y.g.mo, .int .i64 y.g.nu, .int .i64 y.g.st, .slice ya yn yc, .slice sa sn sc] 42)).alloc (.cells #[.int .i64 x.g.c, .int .i64 x.g.b, .int .i64 x.g.e, .int .i64 x.g.k, .int .i64 x.g.at', .bool x.g.an, .int .i64 x.g.fr, .int .i64 x.g.mo, .int .i64 x.g.nu, .int .i64 x.g.st, .slice xa xn xc, .slice ra rn rc] 42)).drew none ∧ Blk ((W.alloc (.cells #[.int .i64 y.g.c, .int .i64 y.g.b, .int .i64 y.g.e, .int .i64 y.g.k, .int .i64 y.g.at', .bool y.g.an, .int .i64 y.g.fr, .int .i64 y.g.mo, .int .i64 y.g.nu, .int .i64 y.g.st, .slice ya yn yc, .slice sa sn sc] 42)).alloc (.cells #[.int .i64 x.g.c, .int .i64 x.g.b, .int .i64 x.g.e, .int .i64 x.g.k, .int .i64 x.g.at', .bool x.g.an, .int .i64 x.g.fr, .int .i64 x.g.mo, .int .i64 x.g.nu, .int .i64 x.g.st, .slice xa xn xc, .slice ra rn rc] 42)).drew (W.heap.size + 1) #[.int .i64 x.g.c, .int .i64 x.g.b, .int .i64 x.g.e, .int .i64 x.g.k, .int .i64 x.g.at', .bool x.g.an, .int .i64 x.g.fr, .int .i64 x.g.mo, .int .i64 x.g.nu, .int .i64 x.g.st, .slice xa xn xc, .slice ra rn rc] 42 ∧ Blk ((W.alloc (.cells #[.int .i64 y.g.c, .int .i64 y.g.b, .int .i64 y.g.e, .int .i64 y.g.k, .int .i64 y.g.at', .bool y.g.an, .int .i64 y.g.fr, .int .i64 y.g.mo, .int .i64 y.g.nu, .int .i64 y.g.st, .slice ya yn yc, .slice sa sn sc] 42)).alloc (.cells #[.int .i64 x.g.c, .int .i64 x.g.b, .int .i64 x.g.e, .int .i64 x.g.k, .int .i64 x.g.at', .bool x.g.an, .int .i64 x.g.fr, .int .i64 x.g.mo, .int .i64 x.g.nu, .int .i64 x.g.st, .slice xa xn xc, .slice ra rn rc] 42)).drew W.heap.size #[.int .i64 y.g.c, .int .i64 y.g.b, .int .i64 y.g.e, .int .i64 y.g.k, .int .i64 y.g.at', .bool y.g.an, .int .i64 y.g.fr, .int .i64 y.g.mo, .int .i64 y.g.nu, .int .i64 y.g.st, .slice ya yn yc, .slice sa sn sc] 42 from ⟨grown_trans (grown_trans (World.grownBy_alloc _ _ none) (World.grownBy_alloc _ _ none)) (grown_drew _ none), h2.2.kept (grown_drew _ none) (by simp), h2.1.kept (grown_drew _ none) (by simp)⟩)
        clear h2 d0 f0 k0 j0 k0b j0b d1 f1 k1 j1 k1b j1b d2 f2 k2 j2 k2b j2b d3 f3 k3 j3 k3b j3b d4 f4 k4 j4 k4b j4b d5 f5 k5 j5 k5b j5b d6 f6 k6 j6 k6b j6b d7 f7 k7 j7 k7b j7b d8 f8 k8 j8 k8b j8b d9 f9 k9 j9 k9b j9b d10 f10 k10 j10 k10b j10b d11 f11 k11 j11 k11b j11b
        generalize ((W.alloc (.cells #[.int .i64 y.g.c, .int .i64 y.g.b, .int .i64 y.g.e, .int .i64 y.g.k, .int .i64 y.g.at', .bool y.g.an, .int .i64 y.g.fr, .int .i64 y.g.mo, .int .i64 y.g.nu, .int .i64 y.g.st, .slice ya yn yc, .slice sa sn sc] 42)).alloc (.cells #[.int .i64 x.g.c, .int .i64 x.g.b, .int .i64 x.g.e, .int .i64 x.g.k, .int .i64 x.g.at', .bool x.g.an, .int .i64 x.g.fr, .int .i64 x.g.mo, .int .i64 x.g.nu, .int .i64 x.g.st, .slice xa xn xc, .slice ra rn rc] 42)).drew = W2 at *
        have HG2 := hid_mk (grown_trans H.out.1 HB.out.1)
        generalize W.heap.size + 1 = q2 at *
        generalize W.heap.size = q1 at *
        obtain ⟨p0, p1, p2, p3, p4, p5, p6, p7, p8, p9, p10, p11, pf⟩ := blk12 HB.out.2.1
        obtain ⟨r0, r1, r2, r3, r4, r5, r6, r7, r8, r9, r10, r11, rf⟩ := blk12 HB.out.2.2
        clear p3 p4 p6 p7 p8 p9 p10 p11 pf r2 r3 r4 r5 r6 r7 r8 r9 r10 r11 rf HB
        obtain ⟨cx, hcx⟩ : ∃ cx, cx = x.g.c := ⟨_, rfl⟩
        by_cases hcc : x.g.c = y.g.c
        · cases han : x.g.an
          · have HN := hid_mk (show false = true ↔ (gs L).Pairwise clearG from by
              have hno : nextOk x.g y.g = false := by rw [← Bool.not_eq_true, nextOk_iff]; intro h; have := (h hcc).1; rw [han] at this; cases this
              rw [← HR.out.2.2, HX.out, hno, Bool.false_and])
            rw [han] at p5
            clear han
            go_wp2_with fail
            go_ret
            exact ⟨⟨false, rfl, by simpa using HN.out⟩, grown_trans HR.out.2.1 HG2.out⟩
          · rw [han] at p5
            by_cases heb : x.g.e ≤ y.g.b
            · have HN := hid_mk (show chainG (gs L') = chainG ((gs L').drop (m + 1)) from by
                rw [HX.out, nextOk_iff.2 (fun _ => ⟨han, heb⟩), Bool.true_and])
              clear han
              go_wp2_with fail
              go_roundg (L'.length - (m + 1))
              case measure => omega
              case rel => exact ⟨m + 1, by omega, rfl, by go_num, hid_mk ⟨HG2.out, HN.out⟩⟩
            · have HN := hid_mk (show false = true ↔ (gs L).Pairwise clearG from by
                have hno : nextOk x.g y.g = false := by rw [← Bool.not_eq_true, nextOk_iff]; intro h; exact heb (h hcc).2
                rw [← HR.out.2.2, HX.out, hno, Bool.false_and])
              clear han
              go_wp2_with fail
              go_ret
              exact ⟨⟨false, rfl, by simpa using HN.out⟩, grown_trans HR.out.2.1 HG2.out⟩
        · have HN := hid_mk (show chainG (gs L') = chainG ((gs L').drop (m + 1)) from by
            rw [HX.out, nextOk_no hcc, Bool.true_and])
          have hcb : (x.g.c == y.g.c) = false := beq_eq_false_iff_ne.2 hcc
          go_wp2_with fail
          go_roundg (L'.length - (m + 1))
          case measure => omega
          case rel => exact ⟨m + 1, by omega, rfl, by go_num, hid_mk ⟨HG2.out, HN.out⟩⟩
    · have hlt' : ¬ (m : Int) + 1 < L'.length := by omega
      have HE := hid_mk (show (true = true ↔ (gs L).Pairwise clearG) from by
        rw [← HR.out.2.2, H.out.2, chain_end (by simp [gs]; omega)])
      go_wp2_with fail
      go_ret
      exact ⟨⟨true, rfl, by simpa using HE.out⟩, grown_trans HR.out.2.1 H.out.1⟩
end Go.Proofs.Ythbfjpaimnhpgab
