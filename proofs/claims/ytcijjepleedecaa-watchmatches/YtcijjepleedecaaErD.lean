/- The law's Entries, Same, num. -/
import Derived.Test.YtcijjepleedecaaErC
namespace Go.Proofs.Ytcijjepleedecaa.W
open Go.RowKit Go.Maps
set_option linter.unusedVariables false
set_option linter.unusedSimpArgs false
set_option maxRecDepth 100000
attribute [local go_sem] Oper.semAt_some

set_option maxHeartbeats 4000000 in
theorem entriesEq_any (v v' : Value) (l : List Ent) (w : World) (h : EntsR w v l) (h' : EntsR w v' l) (hlen : l.length ≤ 10000000000000) : Calls Try.prog 33 #[v, v'] w fun e w' => e = .returned (.bool true) ∧ w.grownBy w' none := by
  obtain ⟨a, c, rfl⟩ := h.len
  obtain ⟨a', c', rfl⟩ := h'.len
  have HE := hid_mk (And.intro h h')
  clear h h'
  go_enter Try.func33, Try.ntmps33
  go_wp2_with fail
  go_loopw [5] (fun kv wr => ∃ (k : Nat), k ≤ l.length ∧ kv = .int .i64 k ∧ Hid (w.grownBy wr none)) (fun kv _ => l.length - (intOf kv).toNat)
  case atStart => exact ⟨0, Nat.zero_le _, rfl, hid_mk (grown_refl _ _)⟩
  case round =>
    obtain ⟨k, hk, rfl, H⟩ := hrel
    rename World => wr
    by_cases hlt : k < l.length
    · have hlt' : (k : Int) < l.length := by omega
      obtain ⟨x, hx⟩ : ∃ x, l[k]? = some x := ⟨l[k], List.getElem?_eq_getElem hlt⟩
      obtain ⟨eb, off, hae, hcap, hcs⟩ := HE.out.1.at (by omega)
      obtain ⟨dv, q0, q1, q2, q3, hxb, hxl⟩ := hcs k x hx
      obtain ⟨eb2, off2, hae2, hcap2, hcs2⟩ := HE.out.2.at (by omega)
      obtain ⟨dv2, r0, r1, r2, r3, hxb2, hxl2⟩ := hcs2 k x hx
      obtain ⟨da, dc, hdv⟩ := hxb.len
      obtain ⟨da2, dc2, hdv2⟩ := hxb2.len
      subst hae
      subst hae2
      subst hdv
      subst hdv2
      have HX := hid_mk (And.intro hxb hxb2)
      have HCL : ∀ W, wr.grownBy W none → W.cell? ⟨eb, off + k * 4, none⟩ = some (.int .i64 x.term) ∧ W.cell? ⟨eb, off + k * 4 + 1, none⟩ = some (.int .i64 x.index) ∧ W.cell? ⟨eb, off + k * 4 + 2, none⟩ = some (.int .i64 x.kind) ∧ W.cell? ⟨eb, off + k * 4 + 3, none⟩ = some (.slice da x.data.length dc) ∧ W.cell? ⟨eb2, off2 + k * 4, none⟩ = some (.int .i64 x.term) ∧ W.cell? ⟨eb2, off2 + k * 4 + 1, none⟩ = some (.int .i64 x.index) ∧ W.cell? ⟨eb2, off2 + k * 4 + 2, none⟩ = some (.int .i64 x.kind) ∧ W.cell? ⟨eb2, off2 + k * 4 + 3, none⟩ = some (.slice da2 x.data.length dc2) := fun W hW => by
        have g := grown_trans H.out hW
        exact ⟨g.cell q0 (by simp), g.cell q1 (by simp), g.cell q2 (by simp), g.cell q3 (by simp), g.cell r0 (by simp), g.cell r1 (by simp), g.cell r2 (by simp), g.cell r3 (by simp)⟩
      have hV : entV x (.slice da x.data.length dc) = .agg #[.int .i64 x.term, .int .i64 x.index, .int .i64 x.kind, .slice da x.data.length dc] := rfl
      have HV := hid_mk hV
      have hV2 : entV x (.slice da2 x.data.length dc2) = .agg #[.int .i64 x.term, .int .i64 x.index, .int .i64 x.kind, .slice da2 x.data.length dc2] := rfl
      have HV2 := hid_mk hV2
      clear hV hV2 hx hxb hxl hcs hxb2 hxl2 hcs2 q0 q1 q2 q3 r0 r1 r2 r3
      go_upto_region 6 with fail
      refine wp_region_mix [(0, true), (1, true), (2, true), (3, true), (4, true), (5, true), (6, true), (7, true), (8, false), (9, true)] (at0 wr (fun W => wr.grownBy W none)) (by kernel_rfl) (by kernel_rfl) rfl (by kernel_rfl) (shut_at0 (fun m => grown_drewN _ m none)) ⟨1, rfl⟩ ?_
      repeat (refine mix_rd1 rfl rfl (fun K hK => ?_); apply Exists.intro; refine ⟨fun W hW => ?_, ?_⟩; (obtain ⟨d0, d1, d2, d3, d4, d5, d6, d7⟩ := HCL W hW; go_simp; rfl); (go_simp; refine hK _ _ ?_; clear hK K))
      refine mix_call rfl rfl 46 #[entV x (.slice da x.data.length dc), entV x (.slice da2 x.data.length dc2)] (fun W => by rw [HV.out, HV2.out]; go_simp) ?_
      rintro W ⟨mA, rfl⟩
      refine (same_any x _ _ (wr.drewN mA) (HX.out.1.kept (grown_trans H.out (grown_drewN _ mA none))) (HX.out.2.kept (grown_trans H.out (grown_drewN _ mA none)))).mono ?_
      rintro e w3 ⟨rfl, hg⟩
      have G3 := hid_mk (show wr.grownBy w3 none from grown_trans (grown_drewN _ mA none) hg)
      clear hg
      refine ⟨_, rfl, at0 w3 (fun W => wr.grownBy W none), ⟨0, rfl⟩, shut_at0 (all_kept G3.out), fun _ h => h, ?_⟩
      repeat (refine mix_rd1 rfl rfl (fun K hK => ?_); apply Exists.intro; refine ⟨fun W hW => ?_, ?_⟩; (go_simp; rfl); (go_simp; refine hK _ _ ?_; clear hK K))
      refine mix_nil ?_
      rintro W ⟨mB, rfl⟩
      have HG := hid_mk (show w.grownBy (w3.drewN mB) none from grown_trans H.out (grown_trans G3.out (grown_drewN _ mB none)))
      generalize w3.drewN mB = w4 at *
      go_wp2_with fail
      go_roundw
      case rel => exact ⟨k + 1, by omega, by first | rfl | (congr 1; done) | (congr 1; omega), hid_mk HG.out⟩
      case measure => simp [intOf]; omega
    · have hlt' : ¬ (k : Int) < l.length := by omega
      have HF := hid_mk H.out
      clear H
      go_wp2
      go_ret
      exact ⟨rfl, HF.out⟩
set_option maxHeartbeats 4000000 in
theorem sameV_any (b t : Int) (v v' : Value) (l : List Ent) (w : World) (h : EntsR w v l) (h' : EntsR w v' l) (hlen : l.length ≤ 10000000000000) : Calls Try.prog 17 #[viewV b t v, viewV b t v'] w fun e w' => e = .returned (.bool true) ∧ w.grownBy w' none := by
  obtain ⟨a, c, rfl⟩ := h.len
  obtain ⟨a', c', rfl⟩ := h'.len
  have HE := hid_mk (And.intro h h')
  clear h h'
  unfold viewV
  have HA := hid_mk (show VB ((w.alloc (.cells #[.int .i64 b, .int .i64 t, .slice a l.length c] 26)).alloc (.cells #[.int .i64 b, .int .i64 t, .slice a' l.length c'] 30)) w.heap.size b t (.slice a l.length c) ∧ RB ((w.alloc (.cells #[.int .i64 b, .int .i64 t, .slice a l.length c] 26)).alloc (.cells #[.int .i64 b, .int .i64 t, .slice a' l.length c'] 30)) (w.heap.size + 1) b t (.slice a' l.length c') ∧ w.grownBy ((w.alloc (.cells #[.int .i64 b, .int .i64 t, .slice a l.length c] 26)).alloc (.cells #[.int .i64 b, .int .i64 t, .slice a' l.length c'] 30)) none from by
    have h1 := VB.new w b t (.slice a l.length c)
    have h2 := RB.new (w.alloc (.cells #[.int .i64 b, .int .i64 t, .slice a l.length c] 26)) b t (.slice a' l.length c')
    rw [World.size_alloc] at h2
    exact ⟨h1.kept (World.grownBy_alloc _ _ none) (by simp), h2, grown_trans (World.grownBy_alloc _ _ none) (World.grownBy_alloc _ _ none)⟩)
  go_enter Try.func17, Try.ntmps17
  go_upto_region 1 with fail
  generalize (w.alloc (.cells #[.int .i64 b, .int .i64 t, .slice a l.length c] 26)).alloc (.cells #[.int .i64 b, .int .i64 t, .slice a' l.length c'] 30) = w1 at *
  obtain ⟨v0, v1, v2⟩ := HA.out.1.cells
  obtain ⟨u0, u1, u2⟩ := HA.out.2.1.cells
  have hb : (b == b) = true := beq_self_eq_true b
  have ht : (t == t) = true := beq_self_eq_true t
  go_wp2_with fail
  refine (entriesEq_any _ _ l w1 (HE.out.1.kept HA.out.2.2) (HE.out.2.kept HA.out.2.2) hlen).mono ?_
  rintro e w2 ⟨rfl, hg⟩
  have HG := hid_mk (grown_trans HA.out.2.2 hg)
  clear hg
  go_wp2
  go_ret
  exact ⟨rfl, HG.out⟩
end Go.Proofs.Ytcijjepleedecaa.W
