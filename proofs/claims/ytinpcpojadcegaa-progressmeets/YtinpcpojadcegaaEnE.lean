/- A view's end; whether its entries go on. -/
import Derived.Test.YtinpcpojadcegaaEnD
import Derived.BigQuiet
namespace Go.Proofs.Ytinpcpojadcegaa.W
open Go.RowKit Go.Maps
set_option linter.unusedVariables false
set_option linter.unusedSimpArgs false
set_option maxRecDepth 100000
attribute [local go_sem] Oper.semAt_some

theorem endI_none {b : Int} {es : List Ent} (h : es.getLast? = none) : endI b es = b := by unfold endI; rw [h]
theorem endT_none {t : Int} {es : List Ent} (h : es.getLast? = none) : endT t es = t := by unfold endT; rw [h]
theorem endI_some {b : Int} {es : List Ent} {x : Ent} (h : es.getLast? = some x) : endI b es = x.index := by unfold endI; rw [h]
theorem endT_some {t : Int} {es : List Ent} {x : Ent} (h : es.getLast? = some x) : endT t es = x.term := by unfold endT; rw [h]
set_option maxHeartbeats 2000000 in
theorem end_any (b t : Int) (lv : Value) (es : List Ent) (w : World) (h : EntsR w lv es) (hn : es.length ≤ 10000000000000) : Calls Try.prog 41 #[viewV b t lv] w fun e w' => e = .returned (.tuple #[.int .i64 (endI b es), .int .i64 (endT t es)]) ∧ w.grownBy w' none := by
  obtain ⟨a, c, rfl⟩ := h.len
  have HE := hid_mk h
  clear h
  unfold viewV
  have HA := hid_mk (And.intro (VB.new w b t (.slice a es.length c)) (World.grownBy_alloc w (.cells #[.int .i64 b, .int .i64 t, .slice a es.length c] 25) none))
  cases hl : es.getLast? with
  | none =>
    have HL := hid_mk (And.intro (endI_none (b := b) hl) (endT_none (t := t) hl))
    have h0 : es.length = 0 := by rw [List.getLast?_eq_none_iff.1 hl]; rfl
    rw [h0] at HA HE ⊢
    clear h0 hl hn
    go_enter Try.func41, Try.ntmps41
    go_upto_region 2 with fail
    generalize w.alloc (.cells #[.int .i64 b, .int .i64 t, .slice a 0 c] 25) = w1 at *
    obtain ⟨v0, v1, v2⟩ := HA.out.1.cells
    go_region
    all_goals (go_wp2; go_ret2; exact ⟨by rw [HL.out.1, HL.out.2]; rfl, all_kept HA.out.2 1⟩)
  | some x =>
    have HL := hid_mk (And.intro (endI_some (b := b) hl) (endT_some (t := t) hl))
    rw [List.getLast?_eq_getElem?] at hl
    have hlt := (List.getElem?_eq_some_iff.1 hl).1
    obtain ⟨eb, off, hae, hcap, hcs⟩ := HE.out.at (by omega)
    obtain ⟨dv, q0, q1, q2, q3, hxb, hxl⟩ := hcs (es.length - 1) x hl
    obtain ⟨da, dn, dc, hdv⟩ : ∃ a n c, dv = .slice a n c := by
      obtain ⟨a, c, e⟩ := hxb.len
      exact ⟨a, _, c, e⟩
    subst hae
    subst hdv
    clear hcs hxb hxl hl
    obtain ⟨m, hm⟩ : ∃ m, m + 1 = es.length := ⟨es.length - 1, by omega⟩
    rw [show es.length - 1 = m by omega] at q0 q1 q2 q3
    rw [← hm] at HA HE hn hlt hcap ⊢
    clear hm
    have g0 := HA.out.2
    have r0 := g0.cell q0 (by simp)
    have r1 := g0.cell q1 (by simp)
    have r2 := g0.cell q2 (by simp)
    have r3 := g0.cell q3 (by simp)
    clear q0 q1 q2 q3 g0
    have hsub : ((m + 1 : Nat) : Int) - 1 = m := by omega
    go_enter Try.func41, Try.ntmps41
    go_upto_region 1 with fail
    generalize w.alloc (.cells #[.int .i64 b, .int .i64 t, .slice (some ⟨eb, off, none⟩) (m + 1) c] 25) = w1 at *
    obtain ⟨v0, v1, v2⟩ := HA.out.1.cells
    have hne : ((m : Int) + 1 == 0) = false := by rw [beq_eq_false_iff_ne]; omega
    have HB : Hid (EB (w1.alloc (.cells #[.int .i64 x.term, .int .i64 x.index, .int .i64 x.kind, .slice da dn dc] 54)) w1.heap.size x (.slice da dn dc) ∧ w1.grownBy (w1.alloc (.cells #[.int .i64 x.term, .int .i64 x.index, .int .i64 x.kind, .slice da dn dc] 54)) none) := hid_mk ⟨heap_alloc_new _ _, World.grownBy_alloc _ _ _⟩
    go_upto_region 4 with fail
    generalize w1.alloc (.cells #[.int .i64 x.term, .int .i64 x.index, .int .i64 x.kind, .slice da dn dc] 54) = w2 at *
    obtain ⟨f0, f1, f2, f3, _⟩ := HB.out.1.cells
    go_region
    all_goals (go_wp2; go_ret2; exact ⟨by rw [HL.out.1, HL.out.2]; rfl, all_kept (grown_trans HA.out.2 HB.out.2) 1⟩)
end Go.Proofs.Ytinpcpojadcegaa.W
