/- watch: the document's differ. -/
import Derived.Test.YtcijjepleedecaaWaM
import Derived.Test.YtcijjepleedecaaWaD
namespace Go.Proofs.Ytcijjepleedecaa.W
open Go.RowKit Go.Maps
set_option linter.unusedVariables false
set_option linter.unusedSimpArgs false
set_option maxRecDepth 100000
attribute [local go_sem] Oper.semAt_some


theorem pairs_at {b1 : Int} {e1 : List Ent} {b2 : Int} {e2 : List Ent} {k : Nat} {p : Ent × Ent} (hp : (pairs b1 e1 b2 e2)[k]? = some p) (i : Int) (hi : i = baseC b1 b2 + 1 + k) :
    atB b1 e1 i = true ∧ e1[(i - b1 - 1).toNat]? = some p.1 ∧ atB b2 e2 i = true ∧ e2[(i - b2 - 1).toNat]? = some p.2 := by
  unfold pairs at hp
  obtain ⟨h1, h2⟩ := List.getElem?_zip_eq_some.1 hp
  rw [List.getElem?_drop] at h1 h2
  have hc1 : b1 ≤ baseC b1 b2 := by unfold baseC; omega
  have hc2 : b2 ≤ baseC b1 b2 := by unfold baseC; omega
  have l1 := (List.getElem?_eq_some_iff.1 h1).1
  have l2 := (List.getElem?_eq_some_iff.1 h2).1
  refine ⟨?_, ?_, ?_, ?_⟩
  · unfold atB; rw [decide_eq_true (show b1 < i by omega), decide_eq_true (show i ≤ b1 + e1.length by omega)]; rfl
  · rw [show (i - b1 - 1).toNat = (baseC b1 b2 - b1).toNat + k by omega]; exact h1
  · unfold atB; rw [decide_eq_true (show b2 < i by omega), decide_eq_true (show i ≤ b2 + e2.length by omega)]; rfl
  · rw [show (i - b2 - 1).toNat = (baseC b1 b2 - b2).toNat + k by omega]; exact h2

set_option maxHeartbeats 8000000 in
theorem rdiffer_any (b1 t1 : Int) (v1 : Value) (e1 : List Ent) (b2 t2 : Int) (v2 : Value) (e2 : List Ent) (tz : Int) (w : World) (h1 : EntsR w v1 e1) (h2 : EntsR w v2 e2) (l1 : e1.length ≤ 4096) (l2 : e2.length ≤ 4096) (i1 : 0 ≤ b1 ∧ b1 ≤ 549755813888) (i2 : 0 ≤ b2 ∧ b2 ≤ 549755813888) (hto : tz ≤ baseC b1 b2 + (pairs b1 e1 b2 e2).length) :
    Calls Try.prog 32 #[viewV b1 t1 v1, viewV b2 t2 v2, .int .i64 tz] w fun e w' => e = .returned (.int .i64 (firstZ tz (pairs b1 e1 b2 e2) (baseC b1 b2 + 1))) ∧ w.grownBy w' none := by
  have HV : Hid (viewV b1 t1 v1 = .agg #[.int .i64 b1, .int .i64 t1, v1] ∧ viewV b2 t2 v2 = .agg #[.int .i64 b2, .int .i64 t2, v2]) := hid_mk ⟨rfl, rfl⟩
  have HA := hid_mk (show RB ((w.alloc (.cells #[.int .i64 b1, .int .i64 t1, v1] 30)).alloc (.cells #[.int .i64 b2, .int .i64 t2, v2] 30)) w.heap.size b1 t1 v1 ∧ RB ((w.alloc (.cells #[.int .i64 b1, .int .i64 t1, v1] 30)).alloc (.cells #[.int .i64 b2, .int .i64 t2, v2] 30)) (w.heap.size + 1) b2 t2 v2 ∧ w.grownBy ((w.alloc (.cells #[.int .i64 b1, .int .i64 t1, v1] 30)).alloc (.cells #[.int .i64 b2, .int .i64 t2, v2] 30)) none from by
    have h1 := RB.new w b1 t1 v1
    have h2 := RB.new (w.alloc (.cells #[.int .i64 b1, .int .i64 t1, v1] 30)) b2 t2 v2
    rw [World.size_alloc] at h2
    exact ⟨h1.kept (World.grownBy_alloc _ _ none) (by simp), h2, grown_trans (World.grownBy_alloc _ _ none) (World.grownBy_alloc _ _ none)⟩)
  obtain ⟨c, hc⟩ : ∃ c, c = baseC b1 b2 := ⟨_, rfl⟩
  obtain ⟨Z, hZ⟩ : ∃ Z, Z = pairs b1 e1 b2 e2 := ⟨_, rfl⟩
  have hmx : (if b1 < b2 then b2 else b1) = c := by rw [hc]; unfold baseC; split <;> omega
  have hcb : 0 ≤ c ∧ c ≤ 549755813888 := by rw [hc]; unfold baseC; omega
  have hzl : Z.length ≤ 4096 := by rw [hZ]; unfold pairs; rw [List.length_zip, List.length_drop, List.length_drop]; omega
  rw [← hc, ← hZ] at hto
  rw [← hc, ← hZ]
  have HE := hid_mk (And.intro h1 (And.intro h2 (And.intro l1 (And.intro l2 (And.intro i1 i2)))))
  have HZ := hid_mk (And.intro hc (And.intro hZ (And.intro hcb (And.intro hzl hto))))
  have HMX := hid_mk hmx
  clear h1 h2 l1 l2 i1 i2 hc hZ hzl hto hmx
  obtain ⟨hc0, hc1⟩ := hcb
  unfold viewV
  go_enter Try.func32, Try.ntmps32
  go_upto_region 1 with fail
  generalize (w.alloc (.cells #[.int .i64 b1, .int .i64 t1, v1] 30)).alloc (.cells #[.int .i64 b2, .int .i64 t2, v2] 30) = w1 at *
  obtain ⟨p3, hp3⟩ : ∃ p, p = w.heap.size := ⟨_, rfl⟩
  obtain ⟨p4, hp4⟩ : ∃ p, p = w.heap.size + 1 := ⟨_, rfl⟩
  rw [← hp4, ← hp3] at HA ⊢
  clear hp3 hp4
  obtain ⟨a0, a1, a2⟩ := HA.out.1.cells
  obtain ⟨d0, d1, d2⟩ := HA.out.2.1.cells
  have hbb := HE.out.2.2.2.2
  have hmx2 := HMX.out
  go_wp2_with fail
  clear hmx2
  clear a0 a1 a2 d0 d1 d2
  go_loopw [7] (fun iv wr => ∃ (k : Nat), k ≤ Z.length ∧ iv = .int .i64 (c + 1 + k) ∧ Hid (w1.grownBy wr none ∧ firstZ tz (Z.drop k) (c + 1 + k) = firstZ tz Z (c + 1))) (fun iv _ => (tz + 1 - intOf iv).toNat)
  case atStart => exact ⟨0, Nat.zero_le _, by simp, hid_mk ⟨grown_refl _ _, by simp⟩⟩
  case round =>
    obtain ⟨k, hk, rfl, H⟩ := hrel
    rename World => wr
    have hzl := HZ.out.2.2.2.1
    have hk4 : (k : Int) < 5000 := by omega
    by_cases hle : c + 1 + (k : Int) ≤ tz
    · have hkz : k < Z.length := by have := HZ.out.2.2.2.2; omega
      obtain ⟨p, hp⟩ : ∃ p, Z[k]? = some p := ⟨Z[k], List.getElem?_eq_getElem hkz⟩
      obtain ⟨x1, x2, x3, x4⟩ := pairs_at (b1 := b1) (e1 := e1) (b2 := b2) (e2 := e2) (k := k) (p := p) (by rw [← HZ.out.2.1]; exact hp) (c + 1 + k) (by rw [← HZ.out.1])
      have HX := hid_mk (And.intro x1 (And.intro x2 (And.intro x3 x4)))
      have HF0 := hid_mk (show firstZ tz Z (c + 1) = if diffE p then c + 1 + k else firstZ tz (Z.drop (k + 1)) (c + 1 + (k + 1 : Nat)) from by rw [← H.out.2, firstZ_at hp, if_neg (by omega)])
      have H0 := hid_mk H.out.1
      clear x1 x2 x3 x4 hp H hkz
      obtain ⟨a0, a1, a2⟩ := (HA.out.1.kept H0.out (by simp)).cells
      go_wp2_with fail
      clear a0 a1 a2
      rw [← HV.out.1]
      refine (at_any b1 t1 _ _ e1 wr (HE.out.1.kept (grown_trans HA.out.2.2 H0.out)) HE.out.2.2.1 HE.out.2.2.2.2.1 ⟨by omega, by omega⟩).mono ?_
      rintro e w2 ⟨y, dv, rfl, hby, hbl, hy, hg⟩
      obtain rfl : p.1 = y := by have h := hy HX.out.1; rw [HX.out.2.1] at h; injection h
      rw [HX.out.1]
      obtain ⟨da, dc, rfl⟩ := hby.len
      have ga := World.grownBy_alloc w2 (.cells #[.int .i64 p.1.term, .int .i64 p.1.index, .int .i64 p.1.kind, .slice da p.1.data.length dc] 55) none
      have H2 := hid_mk (show EB (w2.alloc (.cells #[.int .i64 p.1.term, .int .i64 p.1.index, .int .i64 p.1.kind, .slice da p.1.data.length dc] 55)) w2.heap.size p.1 (.slice da p.1.data.length dc) ∧ Byt (w2.alloc (.cells #[.int .i64 p.1.term, .int .i64 p.1.index, .int .i64 p.1.kind, .slice da p.1.data.length dc] 55)) (.slice da p.1.data.length dc) p.1.data ∧ w1.grownBy (w2.alloc (.cells #[.int .i64 p.1.term, .int .i64 p.1.index, .int .i64 p.1.kind, .slice da p.1.data.length dc] 55)) none from ⟨heap_alloc_new _ _, hby.kept (grown_trans hg ga), grown_trans H0.out (grown_trans hg ga)⟩)
      clear hby hbl hy hg ga
      unfold entV
      rw [HV.out.1]
      go_upto_region 5 with fail
      generalize w2.alloc (.cells #[.int .i64 p.1.term, .int .i64 p.1.index, .int .i64 p.1.kind, .slice da p.1.data.length dc] 55) = w3 at *
      obtain ⟨q8, hq8⟩ : ∃ q, q = w2.heap.size := ⟨_, rfl⟩
      rw [← hq8] at H2 ⊢
      clear hq8
      obtain ⟨d0, d1, d2⟩ := (HA.out.2.1.kept H2.out.2.2 (by simp)).cells
      go_wp2_with fail
      clear d0 d1 d2
      rw [← HV.out.2]
      refine (at_any b2 t2 _ _ e2 w3 (HE.out.2.1.kept (grown_trans HA.out.2.2 H2.out.2.2)) HE.out.2.2.2.1 HE.out.2.2.2.2.2 ⟨by omega, by omega⟩).mono ?_
      rintro e w4 ⟨y, dv, rfl, hby, hbl, hy, hg⟩
      obtain rfl : p.2 = y := by have h := hy HX.out.2.2.1; rw [HX.out.2.2.2] at h; injection h
      rw [HX.out.2.2.1]
      obtain ⟨da2, dc2, rfl⟩ := hby.len
      have ga := World.grownBy_alloc w4 (.cells #[.int .i64 p.2.term, .int .i64 p.2.index, .int .i64 p.2.kind, .slice da2 p.2.data.length dc2] 55) none
      have H4 := hid_mk (show EB (w4.alloc (.cells #[.int .i64 p.2.term, .int .i64 p.2.index, .int .i64 p.2.kind, .slice da2 p.2.data.length dc2] 55)) q8 p.1 (.slice da p.1.data.length dc) ∧ Byt (w4.alloc (.cells #[.int .i64 p.2.term, .int .i64 p.2.index, .int .i64 p.2.kind, .slice da2 p.2.data.length dc2] 55)) (.slice da p.1.data.length dc) p.1.data ∧ EB (w4.alloc (.cells #[.int .i64 p.2.term, .int .i64 p.2.index, .int .i64 p.2.kind, .slice da2 p.2.data.length dc2] 55)) w4.heap.size p.2 (.slice da2 p.2.data.length dc2) ∧ Byt (w4.alloc (.cells #[.int .i64 p.2.term, .int .i64 p.2.index, .int .i64 p.2.kind, .slice da2 p.2.data.length dc2] 55)) (.slice da2 p.2.data.length dc2) p.2.data ∧ w1.grownBy (w4.alloc (.cells #[.int .i64 p.2.term, .int .i64 p.2.index, .int .i64 p.2.kind, .slice da2 p.2.data.length dc2] 55)) none from ⟨H2.out.1.kept (grown_trans hg ga), H2.out.2.1.kept (grown_trans hg ga), heap_alloc_new _ _, hby.kept (grown_trans hg ga), grown_trans H2.out.2.2 (grown_trans hg ga)⟩)
      clear hby hbl hy hg ga H2
      unfold entV
      rw [HV.out.2]
      go_upto_region 6 with fail
      generalize w4.alloc (.cells #[.int .i64 p.2.term, .int .i64 p.2.index, .int .i64 p.2.kind, .slice da2 p.2.data.length dc2] 55) = w5 at *
      obtain ⟨q10, hq10⟩ : ∃ q, q = w4.heap.size := ⟨_, rfl⟩
      rw [← hq10] at H4 ⊢
      clear hq10 HX
      have HG := hid_mk H4.out.2.2.2.2
      have tx1 := H4.out.2.1.text
      have tx2 := H4.out.2.2.2.1.text
      obtain ⟨a0, a1, a2, a3, _⟩ := H4.out.1.cells
      obtain ⟨d0, d1, d2, d3, _⟩ := H4.out.2.2.1.cells
      clear H4
      have HD : Hid (diffE p = ((p.1.term != p.2.term) || ((p.1.kind != p.2.kind) || !(p.1.data == p.2.data)))) := hid_mk rfl
      rcases Bool.eq_false_or_eq_true (p.1.term != p.2.term) with g0 | g0
      · have HS := hid_mk (show firstZ tz Z (c + 1) = c + 1 + k from by rw [HF0.out, if_pos (by rw [HD.out, g0]; rfl)])
        go_wp2_with fail
        go_ret
        exact ⟨by rw [HS.out]; rfl, grown_trans HA.out.2.2 HG.out⟩
      · rcases Bool.eq_false_or_eq_true (p.1.kind != p.2.kind) with g1 | g1
        · have HS := hid_mk (show firstZ tz Z (c + 1) = c + 1 + k from by rw [HF0.out, if_pos (by rw [HD.out, g0, g1]; rfl)])
          go_wp2_with fail
          go_ret
          exact ⟨by rw [HS.out]; rfl, grown_trans HA.out.2.2 HG.out⟩
        · rcases Bool.eq_false_or_eq_true (!(p.1.data == p.2.data)) with g2 | g2
          · have HS := hid_mk (show firstZ tz Z (c + 1) = c + 1 + k from by rw [HF0.out, if_pos (by rw [HD.out, g0, g1, g2]; rfl)])
            go_wp2_with fail
            go_ret
            exact ⟨by rw [HS.out]; rfl, grown_trans HA.out.2.2 HG.out⟩
          · have HS := hid_mk (show firstZ tz (Z.drop (k + 1)) (c + 1 + (k + 1 : Nat)) = firstZ tz Z (c + 1) from by rw [HF0.out, if_neg (by rw [HD.out, g0, g1, g2]; decide)])
            go_wp2_with fail
            go_roundw
            case rel => exact ⟨k + 1, by have := HZ.out.2.2.2.2; omega, by first | rfl | (congr 1; push_cast; omega), hid_mk ⟨HG.out, HS.out⟩⟩
            case measure => simp [intOf]; try omega
    · have HF := hid_mk (show firstZ tz Z (c + 1) = 0 ∧ w1.grownBy wr none from ⟨by rw [← H.out.2]; exact firstZ_low (by omega), H.out.1⟩)
      clear H
      go_wp2
      go_ret
      exact ⟨by rw [HF.out.1]; rfl, grown_trans HA.out.2.2 HF.out.2⟩
end Go.Proofs.Ytcijjepleedecaa.W
