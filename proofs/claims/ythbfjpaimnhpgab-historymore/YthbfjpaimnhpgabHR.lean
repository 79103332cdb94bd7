/- history: Right. -/
import Derived.Test.YthbfjpaimnhpgabHG
namespace Go.Proofs.Ythbfjpaimnhpgab
open Go.RowKit Go.Maps
set_option linter.unusedVariables false
set_option linter.unusedSimpArgs false
set_option maxRecDepth 100000

theorem mayBe_ce (g : Ca) (da : Option Addr) (dn dc : Nat) (ra : Option Addr) (rn rc : Nat) (w : World) : Calls Try.prog 17 #[.agg #[.int .i64 g.c, .int .i64 g.b, .int .i64 g.e, .int .i64 g.k, .int .i64 g.at', .bool g.an, .int .i64 g.fr, .int .i64 g.mo, .int .i64 g.nu, .int .i64 g.st, .slice da dn dc, .slice ra rn rc]] w fun e' w' => e' = .returned (.bool (aloneG g)) ∧ w.grownBy w' none :=
  mayBe_lit _ _ _ _ _ _ _ _ _ _ _ _ _ _ _ _ _
set_option maxHeartbeats 4000000 in
theorem right_any {w : World} {v : Value} {L : List CE} (h : CsR w v L) (hl : L.length ≤ 1099511627776) : Calls Try.prog 9 #[v] w fun e w' => RetB e (RightP (gs L)) ∧ w.grownBy w' none := by
  have hgl : (gs L).length = L.length := by simp [gs]
  obtain ⟨va, vc, hv⟩ := h.len
  have HL := hid_mk h
  have HV := hid_mk hv
  rw [hv]
  clear h hv
  by_cases h2 : 2000 < L.length
  · have HN := hid_mk (show (false = true) ↔ RightP (gs L) from ⟨(fun h => by cases h), fun h => by have := h.1; omega⟩)
    have h2' : (2000 : Int) < L.length := by omega
    go_enter Try.func9, Try.ntmps9
    go_wp2_with fail
    go_ret
    exact ⟨⟨false, rfl, by simpa using HN.out⟩, grown_refl _ _⟩
  · have h2' : ¬ (2000 : Int) < L.length := by omega
    have H2 := hid_mk (show L.length ≤ 2000 by omega)
    clear hgl
    go_enter Try.func9, Try.ntmps9
    go_wp2_with fail
    go_loopg [10] L.length (fun gg iv W => ∃ k : Nat, k ≤ L.length ∧ gg = L.length - k ∧ iv = .int .i64 k ∧ Hid (w.grownBy W none ∧ ∀ x ∈ L.take k, aloneG x.g = true))
    case atStart => exact ⟨0, Nat.zero_le _, rfl, rfl, hid_mk ⟨grown_refl _ _, by simp⟩⟩
    case round =>
      obtain ⟨k, hk, hgk, rfl, H⟩ := hrel
      rename World => W
      by_cases hlt : k < L.length
      · have hlt' : (k : Int) < L.length := by omega
        obtain ⟨lb, off, cap, he, hc⟩ := HL.out.cells hlt
        rw [HV.out] at he
        injection he with e1 e2 e3
        clear e2 e3
        subst e1
        obtain ⟨d0, d1, d2, d3, d4, d5, d6, d7, d8, d9, d10, d11⟩ := hc W H.out.1
        obtain ⟨⟨xa, xn, xc, hxd⟩, ⟨ra, rn, rc, hxr⟩⟩ := HL.out.sl _ (List.getElem_mem hlt)
        rw [hxd] at d10
        rw [hxr] at d11
        have HX := hid_mk (And.intro (List.getElem_mem hlt) (show L.take (k + 1) = L.take k ++ [L[k]] from by rw [List.take_add_one, List.getElem?_eq_getElem hlt]; rfl))
        clear hc hxd hxr
        generalize L[k] = x at *
        go_upto_region 6 with fail
        clear d0 d1 d2 d3 d4 d5 d6 d7 d8 d9 d10 d11
        have HB := hid_mk (And.intro (grown_trans H.out.1 (World.grownBy_alloc W (.cells #[.int .i64 x.g.c, .int .i64 x.g.b, .int .i64 x.g.e, .int .i64 x.g.k, .int .i64 x.g.at', .bool x.g.an, .int .i64 x.g.fr, .int .i64 x.g.mo, .int .i64 x.g.nu, .int .i64 x.g.st, .slice xa xn xc, .slice ra rn rc] 42) none)) (blk_alloc W #[.int .i64 x.g.c, .int .i64 x.g.b, .int .i64 x.g.e, .int .i64 x.g.k, .int .i64 x.g.at', .bool x.g.an, .int .i64 x.g.fr, .int .i64 x.g.mo, .int .i64 x.g.nu, .int .i64 x.g.st, .slice xa xn xc, .slice ra rn rc] 42))
        generalize (W.alloc (.cells #[.int .i64 x.g.c, .int .i64 x.g.b, .int .i64 x.g.e, .int .i64 x.g.k, .int .i64 x.g.at', .bool x.g.an, .int .i64 x.g.fr, .int .i64 x.g.mo, .int .i64 x.g.nu, .int .i64 x.g.st, .slice xa xn xc, .slice ra rn rc] 42)) = W1 at *
        generalize W.heap.size = q at *
        obtain ⟨p0, p1, p2, p3, p4, p5, p6, p7, p8, p9, p10, p11, pf⟩ := blk12 HB.out.2
        have HM := hid_mk (mayBe_ce x.g xa xn xc ra rn rc W1)
        cases hal : aloneG x.g
        · rw [hal] at HM
          have HN := hid_mk (show (false = true) ↔ RightP (gs L) from ⟨(fun h => by cases h), fun h => by
            have := h.2.1 x.g (List.mem_map.2 ⟨x, HX.out.1, rfl⟩)
            rw [hal] at this; cases this⟩)
          clear hal
          go_wp2_with (go_at_call 17; refine HM.out.mono ?_; rintro e' w' ⟨rfl, hz⟩; replace hz := hid_mk hz)
          go_ret
          exact ⟨⟨false, rfl, by simpa using HN.out⟩, grown_trans HB.out.1 hz.out⟩
        · rw [hal] at HM
          have HN := hid_mk (show ∀ y ∈ L.take (k + 1), aloneG y.g = true from fun y hy => by
            rw [HX.out.2, List.mem_append, List.mem_singleton] at hy
            rcases hy with hy | rfl
            · exact H.out.2 y hy
            · exact hal)
          clear hal
          go_wp2_with (go_at_call 17; refine HM.out.mono ?_; rintro e' w' ⟨rfl, hz⟩; replace hz := hid_mk hz)
          go_roundg (L.length - (k + 1))
          case measure => omega
          case rel => exact ⟨k + 1, by omega, rfl, by go_num, hid_mk ⟨grown_trans HB.out.1 hz.out, HN.out⟩⟩
      · have hlt' : ¬ (k : Int) < L.length := by omega
        have HA := hid_mk (show ∀ x ∈ L, aloneG x.g = true from by have := H.out.2; rwa [List.take_of_length_le (by omega)] at this)
        have hr := (apart_any (HL.out.kept H.out.1) H2.out HA.out)
        rw [HV.out] at hr
        have HR := hid_mk hr
        clear hr
        go_wp2_with (go_at_call 18; refine HR.out.mono ?_; rintro e' w' ⟨⟨b, rfl, hb⟩, hz⟩; replace hz := hid_mk (And.intro hb hz); clear hb)
        go_ret
        refine ⟨⟨b, rfl, hz.out.1.trans ⟨fun h => ⟨by simp [gs]; exact H2.out, fun y hy => ?_, h⟩, fun h => h.2.2⟩⟩, grown_trans H.out.1 hz.out.2⟩
        obtain ⟨x, hx, rfl⟩ := List.mem_map.1 hy
        exact HA.out x hx
end Go.Proofs.Ythbfjpaimnhpgab
