/- vote: the document's Count and Won; knows. -/
import Derived.Test.YtgplhgogjcgmeaaVtF
namespace Go.Proofs.Ytgplhgogjcgmeaa
open Go.RowKit Go.Maps
set_option linter.unusedVariables false
set_option linter.unusedSimpArgs false
set_option maxRecDepth 100000

set_option maxHeartbeats 1000000 in
theorem rcount_any (v u : Value) (l y : List Int) (w : World) (h : Nums w v l) (k : Nums w u y) : Calls Try.prog 17 #[v, u] w fun e w' => e = .returned (.int .i64 (cnt l y)) ∧ w.grownBy w' none := by
  obtain ⟨a1, c1, rfl⟩ := h.1.len
  obtain ⟨a2, c2, rfl⟩ := k.1.len
  have HH := hid_mk (And.intro h k)
  have hl := h.2.2
  have hyl := k.2.2
  clear h k
  go_enter Try.func17, Try.ntmps17
  go_wp2_with fail
  refine (ronce_any _ l w HH.out.1).mono ?_
  rintro e w1 ⟨v1, rfl, hv, hg⟩
  obtain ⟨va, vc, rfl⟩ := hv.len
  have H1 := hid_mk (And.intro hv.ints hg)
  have hdl : (dd l).length ≤ 17592186044416 := Nat.le_trans (dd_len l) hl
  clear hv hg
  go_wp2
  have HL := hid_mk (show cnt l y = ((dd l).filter (fun x => decide (x ∈ y))).length from rfl)
  generalize dd l = L at *
  go_loopg [5, 7] L.length (fun g nv iv W => ∃ (k n m : Nat), k ≤ L.length ∧ n ≤ k ∧ g = L.length - k ∧ iv = .int .i64 k ∧ nv = .int .i64 n ∧ W = w1.drewN m ∧ Hid (n = ((L.take k).filter (fun x => decide (x ∈ y))).length))
  case atStart => exact ⟨0, 0, 0, Nat.zero_le _, Nat.le_refl _, rfl, rfl, rfl, rfl, hid_mk (by simp)⟩
  case round =>
    obtain ⟨k, n, m, hk, hnk, hgk, rfl, rfl, rfl, HN⟩ := hrel
    by_cases hlt : k < L.length
    · have hlt' : (k : Int) < L.length := by omega
      obtain ⟨b, off, cap, e, hc⟩ := H1.out.1.get k hlt
      injection e with e1 e2 e3
      subst e1
      clear e2 e3
      have HT := hid_mk (show L.take (k + 1) = L.take k ++ [L[k]] by rw [List.take_add_one, List.getElem?_eq_getElem hlt]; rfl)
      generalize hx : L[k] = x at *
      clear hx
      have HM := hid_mk (fun (j : Nat) (hj : j < y.length) => show y.take (j + 1) = y.take j ++ [y[j]] by rw [List.take_add_one, List.getElem?_eq_getElem hj]; rfl)
      go_wp2
      go_loopg [8, 9] y.length (fun g mv jv W2 => ∃ (j m : Nat) (b : Bool), j ≤ y.length ∧ g = y.length - j ∧ jv = .int .i64 j ∧ mv = .bool b ∧ W2 = w1.drewN m ∧ Hid (b = decide (x ∈ y.take j)))
      case atStart => exact ⟨0, m, false, Nat.zero_le _, rfl, rfl, rfl, rfl, hid_mk (by simp)⟩
      case round =>
        obtain ⟨j, m2, bb, hj, hgj, rfl, rfl, rfl, HB⟩ := hrel
        by_cases hjk : j < y.length
        · have hjk' : (j : Int) < y.length := by omega
          obtain ⟨b2, off2, cap2, e, hc2⟩ := (HH.out.2.1.kept H1.out.2).get j hjk
          injection e with e1 e2 e3
          subst e1
          clear e2 e3
          have HJ := hid_mk (HM.out j hjk)
          generalize hy : y[j] = z at *
          clear hy
          cases bb
          · by_cases hxy : z = x
            · subst hxy
              go_wp2
              go_quiet (fail)
              go_wp2
              go_roundg (y.length - (j + 1))
              case measure => omega
              case rel => exact ⟨j + 1, _, true, by omega, rfl, by go_num, rfl, by first | rfl | (rw [World.drewN_drewN]), hid_mk (by rw [HJ.out]; simp)⟩
            · have hxy' : (z == x) = false := by simp [hxy]
              go_wp2
              go_quiet (fail)
              go_wp2
              go_roundg (y.length - (j + 1))
              case measure => omega
              case rel => exact ⟨j + 1, _, false, by omega, rfl, by go_num, rfl, by first | rfl | (rw [World.drewN_drewN]), hid_mk (by rw [HJ.out]; have := HB.out; simp at this; simp [this]; exact fun e => hxy e.symm)⟩
          · go_wp2
            go_quiet (fail)
            go_wp2
            go_roundg (y.length - (j + 1))
            case measure => omega
            case rel => exact ⟨j + 1, _, true, by omega, rfl, by go_num, rfl, by first | rfl | (rw [World.drewN_drewN]), hid_mk (by rw [HJ.out]; have := HB.out; simp at this; simp [this])⟩
        · have hjk' : ¬ (j : Int) < y.length := by omega
          have HB2 : Hid (bb = decide (x ∈ y)) := hid_mk (by rw [HB.out, List.take_of_length_le (by omega)])
          clear HB
          cases bb
          · go_wp2
            go_roundg (L.length - (k + 1))
            case measure => omega
            case rel => exact ⟨k + 1, n, m2, by omega, by omega, rfl, by go_num, rfl, rfl, hid_mk (by rw [HT.out, List.filter_append, List.length_append, ← HN.out]; have := HB2.out; simp at this; simp [this])⟩
          · go_wp2
            go_roundg (L.length - (k + 1))
            case measure => omega
            case rel => exact ⟨k + 1, n + 1, m2, by omega, by omega, rfl, by go_num, by go_num, rfl, hid_mk (by rw [HT.out, List.filter_append, List.length_append, ← HN.out]; have := HB2.out; simp at this; simp [this])⟩
    · have hlt' : ¬ (k : Int) < L.length := by omega
      go_wp2
      go_ret
      refine ⟨ret_int ?_, grown_trans H1.out.2 (grown_drewN _ _ none)⟩
      have := HN.out
      rw [List.take_of_length_le (by omega), ← HL.out] at this
      rw [this]
theorem rwon_any (v u : Value) (l y : List Int) (w : World) (h : Nums w v l) (k : Nums w u y) : Calls Try.prog 19 #[v, u] w fun e w' => e = .returned (.bool (wonB l y)) ∧ w.grownBy w' none := by
  obtain ⟨a1, c1, rfl⟩ := h.1.len
  obtain ⟨a2, c2, rfl⟩ := k.1.len
  have HH := hid_mk (And.intro h k)
  have hl := h.2.2
  clear h k
  go_enter Try.func19, Try.ntmps19
  go_wp2_with fail
  refine (rcount_any _ _ l y w HH.out.1 HH.out.2).mono ?_
  rintro e w1 ⟨rfl, hg⟩
  have H1 := hid_mk hg
  clear hg
  have hcl : cnt l y ≤ (dd l).length := cnt_le l y
  have hdl : (dd l).length ≤ 17592186044416 := Nat.le_trans (dd_len l) hl
  have HF := hid_mk (show wonB l y = decide (((dd l).length : Int) < 2 * (cnt l y : Int)) by unfold wonB; rw [decide_eq_decide]; omega)
  have HR := hid_mk (ronce_any (.slice a1 l.length c1) l w1 (HH.out.1.kept H1.out))
  generalize hcn : cnt l y = cn at *
  go_wp2_with fail
  refine HR.out.mono ?_
  rintro e w2 ⟨v1, rfl, hv, hg⟩
  obtain ⟨va, vc, rfl⟩ := hv.len
  have H2 := hid_mk (grown_trans H1.out hg)
  clear hv hg HR
  generalize (dd l).length = dn at *
  go_wp2
  go_ret
  exact ⟨ret_bool HF.out.symm, H2.out⟩
theorem ans1 (w : World) : Calls Try.prog 9 #[.agg #[.int .i64 1, .int .i64 0, .int .i64 0, .int .i64 0, .bool true], .agg #[.int .i64 2, .int .i64 0, .int .i64 0, .int .i64 0]] w fun e w' => e = .returned (.tuple #[.agg #[.int .i64 1, .int .i64 0, .int .i64 0, .int .i64 0, .bool true], .bool false, .bool true]) ∧ w.grownBy w' none := by
  have h := answer_any ⟨1, 0, 0, 0, true⟩ ⟨2, 0, 0, 0⟩ w
  rw [ans_silent (by simp)] at h
  exact h
theorem ans2 (w : World) : Calls Try.prog 9 #[.agg #[.int .i64 1, .int .i64 (-1), .int .i64 0, .int .i64 0, .bool false], .agg #[.int .i64 1, .int .i64 3, .int .i64 0, .int .i64 0]] w fun e w' => e = .returned (.tuple #[.agg #[.int .i64 1, .int .i64 3, .int .i64 0, .int .i64 0, .bool false], .bool true, .bool false]) ∧ w.grownBy w' none := by
  have h := answer_any ⟨1, -1, 0, 0, false⟩ ⟨1, 3, 0, 0⟩ w
  rw [ans_yes (by simp) (by simp) (by decide)] at h
  exact h
theorem nums_new {w : World} (l : List Int) (cs : Array Value) (t : TypeId) (hcs : cs = (l.map (fun x => Value.int .i64 x)).toArray) (hw : ∀ x ∈ l, Wf x) (hl : l.length ≤ 17592186044416) : Nums (w.alloc (.cells cs t)) (.slice (some ⟨w.heap.size, 0, none⟩) l.length l.length) l := ⟨ints_new w l t cs hcs, hw, hl⟩
theorem won1 (W : World) : Calls Try.prog 18 #[.slice (some ⟨W.heap.size, 0, none⟩) 3 3, .slice (some ⟨W.heap.size + 1, 0, none⟩) 2 2] ((W.alloc (.cells #[.int .i64 1, .int .i64 2, .int .i64 3] 3)).alloc (.cells #[.int .i64 1, .int .i64 3] 3)) fun e w' => e = .returned (.bool true) ∧ W.grownBy w' none := by
  have n1 := (nums_new (w := W) [1, 2, 3] #[.int .i64 1, .int .i64 2, .int .i64 3] 3 rfl (by simp [Wf, Lit.wf, IntKind.min, IntKind.max, IntKind.signed, IntKind.bits]) (by simp)).kept (World.grownBy_alloc _ (.cells #[.int .i64 1, .int .i64 3] 3) none)
  have n2 := nums_new (w := W.alloc (.cells #[.int .i64 1, .int .i64 2, .int .i64 3] 3)) [1, 3] #[.int .i64 1, .int .i64 3] 3 rfl (by simp [Wf, Lit.wf, IntKind.min, IntKind.max, IntKind.signed, IntKind.bits]) (by simp)
  rw [show (W.alloc (.cells #[.int .i64 1, .int .i64 2, .int .i64 3] 3)).heap.size = W.heap.size + 1 by simp] at n2
  refine (won_any _ _ _ _ _ n1 n2).mono ?_
  rintro e w' ⟨rfl, hg⟩
  exact ⟨ret_bool (by decide), grown_trans (ga2 _ _ _) hg⟩
theorem won2 (W : World) : Calls Try.prog 18 #[.slice (some ⟨W.heap.size, 0, none⟩) 2 2, .slice (some ⟨W.heap.size + 1, 0, none⟩) 1 1] ((W.alloc (.cells #[.int .i64 1, .int .i64 2] 3)).alloc (.cells #[.int .i64 1] 3)) fun e w' => e = .returned (.bool false) ∧ W.grownBy w' none := by
  have n1 := (nums_new (w := W) [1, 2] #[.int .i64 1, .int .i64 2] 3 rfl (by simp [Wf, Lit.wf, IntKind.min, IntKind.max, IntKind.signed, IntKind.bits]) (by simp)).kept (World.grownBy_alloc _ (.cells #[.int .i64 1] 3) none)
  have n2 := nums_new (w := W.alloc (.cells #[.int .i64 1, .int .i64 2] 3)) [1] #[.int .i64 1] 3 rfl (by simp [Wf, Lit.wf, IntKind.min, IntKind.max, IntKind.signed, IntKind.bits]) (by simp)
  rw [show (W.alloc (.cells #[.int .i64 1, .int .i64 2] 3)).heap.size = W.heap.size + 1 by simp] at n2
  refine (won_any _ _ _ _ _ n1 n2).mono ?_
  rintro e w' ⟨rfl, hg⟩
  exact ⟨ret_bool (by decide), grown_trans (ga2 _ _ _) hg⟩
set_option maxHeartbeats 1000000 in
theorem knows_any (w : World) : Calls Try.prog 15 #[] w fun e w' => e = .returned (.bool true) ∧ w.grownBy w' none := by
  go_enter Try.func15, Try.ntmps15
  go_wp2_with fail
  refine (ans1 w).mono ?_
  rintro e w1 ⟨rfl, hg⟩
  have H1 := hid_mk hg
  clear hg
  go_wp2_with fail
  refine (ans2 _).mono ?_
  rintro e w2 ⟨rfl, hg⟩
  have H2 := hid_mk hg
  clear hg
  go_wp2_with fail
  have HQ := hid_mk (won1 (w2.alloc (.cells #[.int .i64 1, .int .i64 3, .int .i64 0, .int .i64 0, .bool false] 26)))
  rw [show (w2.alloc (.cells #[.int .i64 1, .int .i64 3, .int .i64 0, .int .i64 0, .bool false] 26)).heap.size = w2.heap.size + 1 by simp] at HQ
  refine HQ.out.mono ?_
  clear HQ
  rintro e w3 ⟨rfl, hg⟩
  have H3 := hid_mk (show w.grownBy w3 none from grown_trans (ga (grown_trans (ga H1.out _) H2.out) _) hg)
  clear hg H1 H2
  go_wp2_with fail
  refine (won2 w3).mono ?_
  rintro e w4 ⟨rfl, hg⟩
  have H4 := hid_mk (grown_trans H3.out hg)
  clear hg H3
  go_wp2
  go_ret
  exact ⟨rfl, H4.out⟩
end Go.Proofs.Ytgplhgogjcgmeaa
