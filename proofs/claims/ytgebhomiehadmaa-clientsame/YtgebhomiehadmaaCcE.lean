/- client: mayBe; a copy of an order; the place. -/
import Derived.Test.YtgebhomiehadmaaCcD
namespace Go.Proofs.Ytgebhomiehadmaa
open Go.RowKit Go.Maps
set_option linter.unusedVariables false
set_option linter.unusedSimpArgs false
set_option maxRecDepth 100000

theorem blk_alloc (w : World) (cs : Array Value) (t : TypeId) : Blk (w.alloc (.cells cs t)) w.heap.size cs t := heap_alloc_new _ _
theorem blk_alloc2 (w : World) (cs ds : Array Value) (t u : TypeId) : Blk ((w.alloc (.cells cs t)).alloc (.cells ds u)) w.heap.size cs t ∧ Blk ((w.alloc (.cells cs t)).alloc (.cells ds u)) (w.heap.size + 1) ds u :=
  ⟨(blk_alloc w cs t).kept (World.grownBy_alloc _ _ none) (by simp), by have := blk_alloc (w.alloc (.cells cs t)) ds u; simpa using this⟩
theorem blk4 {w : World} {b : Nat} {x y z u : Value} {t : TypeId} (h : Blk w b #[x, y, z, u] t) : w.cell? ⟨b, 0, none⟩ = some x ∧ w.cell? ⟨b, 1, none⟩ = some y ∧ w.cell? ⟨b, 2, none⟩ = some z ∧ w.cell? ⟨b, 3, none⟩ = some u ∧ ∀ i, w.frozen? ⟨b, i, none⟩ = false := ⟨by rw [h.cell]; rfl, by rw [h.cell]; rfl, by rw [h.cell]; rfl, by rw [h.cell]; rfl, h.frozen⟩
theorem set_new {w W : World} (hg : w.grownBy W none) {b : Nat} (hb : w.heap.size ≤ b) (i : Nat) (x : Value) : w.grownBy (W.setCell ⟨b, i, none⟩ x) none := grown_new hg (grown_setCell _ _ _ _) hb
theorem own_set {W : World} {B : Nat} {v : Value} {l : List UInt8} (h : Own W B v l) {b : Nat} {cs : Array Value} {t : TypeId} (hb : Blk W b cs t) (ht : t ≠ 5) (i : Nat) (x : Value) : Own (W.setCell ⟨b, i, none⟩ x) B v l := h.kept (grown_setCell _ _ _ _) (.inr (fun e => own_ne h hb ht e.symm))
theorem Blk.set' {w : World} {b c : Nat} {cs : Array Value} {t : TypeId} (h : Blk w b cs t) (hne : b ≠ c) (i : Nat) (v : Value) : Blk (w.setCell ⟨c, i, none⟩ v) b cs t := h.kept (grown_setCell _ _ _ _) (by simpa using hne)
def ordA (o : Ord) (v : Value) : Value := .agg #[.int .i64 o.kd, .int .i64 o.fr, .int .i64 o.mo, v]
theorem mayBe_any (o : Ord) (a : Option Addr) (c : Nat) (w : World) : Calls Try.prog 38 #[.agg #[.int .i64 o.kd, .int .i64 o.fr, .int .i64 o.mo, .slice a o.b.length c]] w fun e w' => e = .returned (.bool (mayB o)) ∧ w.grownBy w' none := by
  have HG := hid_mk (World.grownBy_alloc w (.cells #[.int .i64 o.kd, .int .i64 o.fr, .int .i64 o.mo, .slice a o.b.length c] 42) none)
  obtain ⟨kd, fr, mo, bs⟩ := o
  unfold mayB
  simp only at *
  generalize bs.length = n at *
  by_cases h1 : kd = 1
  · subst h1
    go_enter Try.func38, Try.ntmps38
    go_wp2
    go_ret
    exact ⟨rfl, HG.out⟩
  by_cases h2 : kd = 2
  · subst h2
    go_enter Try.func38, Try.ntmps38
    go_wp2
    go_ret
    exact ⟨ret_bool (by first | rfl | (simp; done) | (simp; omega)), HG.out⟩
  by_cases h3 : kd = 3
  · subst h3
    by_cases hm : mo < 0
    · go_enter Try.func38, Try.ntmps38
      go_wp2
      go_ret
      exact ⟨ret_bool (by first | (simp; done) | (simp; omega)), HG.out⟩
    · go_enter Try.func38, Try.ntmps38
      go_wp2
      go_ret
      exact ⟨ret_bool (by first | (simp; done) | (simp; omega)), HG.out⟩
  by_cases h4 : kd = 4
  · subst h4
    go_enter Try.func38, Try.ntmps38
    go_wp2
    go_ret
    exact ⟨ret_bool (by simp), HG.out⟩
  by_cases h5 : kd = 5
  · subst h5
    go_enter Try.func38, Try.ntmps38
    go_wp2_with (go_at_call 25; refine (within_any _ _ _ _).mono ?_; rintro e w' ⟨rfl, hw⟩; rw [hw]; clear hw)
    go_ret
    exact ⟨ret_bool (by rw [Bool.eq_iff_iff]; simp; omega), HG.out⟩
  by_cases h6 : kd = 6
  · subst h6
    go_enter Try.func38, Try.ntmps38
    go_wp2_with (go_at_call 25; refine (within_any _ _ _ _).mono ?_; rintro e w' ⟨rfl, hw⟩; rw [hw]; clear hw)
    go_ret
    exact ⟨ret_bool (by rw [Bool.eq_iff_iff]; simp; omega), HG.out⟩
  rw [if_neg h1, if_neg h2, if_neg h3, if_neg h4, if_neg (by omega)]
  have k1 : (kd == 1) = false := by simpa using h1
  have k2 : (kd == 2) = false := by simpa using h2
  have k3 : (kd == 3) = false := by simpa using h3
  have k4 : (kd == 4) = false := by simpa using h4
  have k5 : (kd == 5) = false := by simpa using h5
  have k6 : (kd == 6) = false := by simpa using h6
  clear h1 h2 h3 h4 h5 h6
  go_enter Try.func38, Try.ntmps38
  go_wp2
  go_ret
  exact ⟨rfl, HG.out⟩
set_option maxHeartbeats 1000000 in
/-- A copy of an order. -/
theorem copyO_any {w : World} {v : Value} {l : List UInt8} (h : Byt w v l) (hl : l.length ≤ 140737488355328) (kd fr mo : Int) : Calls Try.prog 50 #[.agg #[.int .i64 kd, .int .i64 fr, .int .i64 mo, v]] w fun e w' => ∃ v', e = .returned (.agg #[.int .i64 kd, .int .i64 fr, .int .i64 mo, v']) ∧ Own w' w.heap.size v' l ∧ w.grownBy w' none := by
  have HG := hid_mk (ga2 w (.cells #[.int .i64 kd, .int .i64 fr, .int .i64 mo, v] 42) (.cells #[.int .i64 0, .int .i64 0, .int .i64 0, .slice none 0 0] 42))
  have HB := hid_mk (blk_alloc2 w #[.int .i64 kd, .int .i64 fr, .int .i64 mo, v] #[.int .i64 0, .int .i64 0, .int .i64 0, .slice none 0 0] 42 42)
  have HY := hid_mk (h.kept HG.out)
  clear h
  go_enter Try.func50, Try.ntmps50
  go_wp2_with fail
  refine (clone_any _ l _ HY.out hl).mono ?_
  rintro e w1 ⟨v', rfl, ho, hg⟩
  obtain ⟨a', c', rfl⟩ := ho.len
  have H1 := hid_mk (And.intro (Own.base ho (by simp; omega : w.heap.size ≤ _)) (grown_trans HG.out hg))
  obtain ⟨a0, a1, a2, a3, af⟩ := blk4 (HB.out.1.kept hg (by simp))
  obtain ⟨b0, b1, b2, b3, bf⟩ := blk4 (HB.out.2.kept hg (by simp))
  have HA := hid_mk (And.intro (HB.out.1.kept hg (by simp)) (HB.out.2.kept hg (by simp)))
  clear ho hg HB HG HY
  have hne : (w.heap.size == w.heap.size + 1) = false := by simp
  generalize hn : w.heap.size = n at *
  have hn' : Hid (w.heap.size ≤ n) := hid_mk (by omega)
  clear hn
  go_wp2
  have K1 := own_set H1.out.1 HA.out.1 (by decide) 3 (.slice a' l.length c')
  have B1 := HA.out.2.set' (c := n) (by omega) 3 (.slice a' l.length c')
  have K2 := own_set (own_set (own_set (own_set K1 B1 (by decide) 0 (.int .i64 kd)) (B1.set _ _) (by decide) 1 (.int .i64 fr)) ((B1.set _ _).set _ _) (by decide) 2 (.int .i64 mo)) (((B1.set _ _).set _ _).set _ _) (by decide) 3 (.slice a' l.length c')
  have hn2 : w.heap.size ≤ n + 1 := by have := hn'.out; omega
  have G2 := set_new (set_new (set_new (set_new (set_new H1.out.2 hn'.out 3 (.slice a' l.length c')) hn2 0 (.int .i64 kd)) hn2 1 (.int .i64 fr)) hn2 2 (.int .i64 mo)) hn2 3 (.slice a' l.length c')
  exact bodyPost_ret (v := .agg #[.int .i64 kd, .int .i64 fr, .int .i64 mo, .slice a' l.length c']) (by simp [results, Try.results50, go_sem, b0, b1, b2, b3]) rfl ⟨_, rfl, K2.base hn'.out, G2⟩
/-! ### The place -/
theorem server_cells {w : World} {b : Nat} {v : Value} {l : List Int} {k : Nat} (c2 : w.cell? ⟨b, 2, none⟩ = some v) (c3 : w.cell? ⟨b, 3, none⟩ = some (.int .i64 k)) (hk : k < l.length) (hl : IntsR w v l) (h7 : l.length ≤ 7) :
    Calls Try.prog 54 #[.pointer (some ⟨b, 2, none⟩)] w fun e w' => e = .returned (.int .i64 (l.getD k 0)) ∧ ∃ nq, w' = w.drewN nq := by
  obtain ⟨bb, off, cap, rfl, hc⟩ := hl.get k hk
  rw [show l.getD k 0 = l[k] by simp [hk]]
  have hk' : (k : Int) < l.length := by omega
  generalize l[k] = x at *
  generalize l.length = n at *
  clear hl
  go_enter Try.func54, Try.ntmps54
  go_wp2
  go_quiet (fail)
  go_wp2
  go_ret
  exact ⟨rfl, _, rfl⟩
theorem stay_any {w : World} {b : Nat} : Calls Try.prog 51 #[.pointer (some ⟨b, 2, none⟩)] w fun e w' => e = .returned (.tuple #[]) ∧ w' = w := by
  go_enter Try.func51, Try.ntmps51
  go_wp2
  go_end0
  exact ⟨rfl, rfl⟩
def idxI (l : List Int) (y : Int) : Int := match idx l y with | some k => (k : Int) | none => -1
theorem idxI_some {l : List Int} {y : Int} {k : Nat} (h : idx l y = some k) : idxI l y = k := by unfold idxI; rw [h]
theorem idxI_none {l : List Int} {y : Int} (h : idx l y = none) : idxI l y = -1 := by unfold idxI; rw [h]
theorem index_any {w : World} {v : Value} {l : List Int} (hl : IntsR w v l) (h7 : l.length ≤ 17592186044416) (y : Int) :
    Calls Try.prog 59 #[v, .int .i64 y] w fun e w' => e = .returned (.int .i64 (idxI l y)) ∧ w' = w := by
  obtain ⟨va, vc, hv⟩ := hl.len
  have HL := hid_mk hl
  have HV := hid_mk hv
  rw [hv]
  clear hl hv
  go_enter Try.func59, Try.ntmps59
  go_wp2_with fail
  go_loopg [8] l.length (fun g iv W => ∃ k : Nat, k ≤ l.length ∧ g = l.length - k ∧ iv = .int .i64 k ∧ Hid (W = w ∧ idx l y = (idx (l.drop k) y).map (· + k)))
  case atStart => exact ⟨0, Nat.zero_le _, rfl, rfl, hid_mk ⟨rfl, by simp⟩⟩
  case round =>
    obtain ⟨k, hk, hgk, rfl, H⟩ := hrel
    rename World => W
    by_cases hlt : k < l.length
    · have hlt' : (k : Int) < l.length := by omega
      obtain ⟨bb, off, cap, e, hc⟩ := HL.out.get k hlt
      rw [HV.out] at e
      injection e with e1 e2 e3
      subst e1
      rw [← H.out.1] at hc
      have HD := hid_mk (List.drop_eq_getElem_cons hlt)
      by_cases hy : l[k] = y
      · have HX := hid_mk (show idx l y = some k by rw [H.out.2, HD.out]; unfold idx; rw [if_pos hy]; simp)
        rw [hy] at hc
        clear e2 e3 HD hy
        go_wp2_with fail
        go_ret
        exact ⟨ret_int (idxI_some HX.out).symm, H.out.1⟩
      · have HX := hid_mk (show idx l y = (idx (l.drop (k + 1)) y).map (· + (k + 1)) by
          rw [H.out.2, HD.out]
          conv => lhs; unfold idx
          rw [if_neg hy]
          cases idx (l.drop (k + 1)) y <;> simp; omega)
        have hy' : (y == l[k]) = false := by simp; exact fun e => hy e.symm
        clear e2 e3 HD hy
        generalize l[k] = x at *
        go_wp2_with fail
        go_roundg (l.length - (k + 1))
        case measure => omega
        case rel => exact ⟨k + 1, by omega, rfl, by go_num, hid_mk ⟨H.out.1, HX.out⟩⟩
    · have hlt' : ¬ (k : Int) < l.length := by omega
      have HX := hid_mk (show idx l y = none by rw [H.out.2, List.drop_eq_nil_of_le (by omega)]; rfl)
      go_wp2_with fail
      go_ret
      exact ⟨ret_int (idxI_none HX.out).symm, H.out.1⟩
end Go.Proofs.Ytgebhomiehadmaa
