/- The document's Commit. -/
import Derived.Test.YtinpcpojadcegaaPrS
namespace Go.Proofs.Ytinpcpojadcegaa.W
open Go.RowKit Go.Maps
set_option linter.unusedVariables false
set_option linter.unusedSimpArgs false
set_option maxRecDepth 100000
attribute [local go_sem] Oper.semAt_some

/-- The document's: the best of the first i ones. -/
def bestG (b : Int) (es : List Ent) (reach commit term : Int) : Nat → Int
  | 0 => commit
  | k + 1 => match es[k]? with
    | some x => if bestG b es reach commit term k < b + k + 1 ∧ b + k + 1 ≤ reach ∧ x.term = term then b + k + 1 else bestG b es reach commit term k
    | none => bestG b es reach commit term k
theorem bestG_in {b : Int} {es : List Ent} {reach commit term : Int} : ∀ k : Nat, commit ≤ bestG b es reach commit term k ∧ (bestG b es reach commit term k = commit ∨ bestG b es reach commit term k ≤ b + k)
  | 0 => ⟨Int.le_refl _, .inl rfl⟩
  | k + 1 => by
    obtain ⟨h1, h2⟩ := bestG_in (b := b) (es := es) (reach := reach) (commit := commit) (term := term) k
    unfold bestG
    split
    · split
      · exact ⟨by omega, .inr (by omega)⟩
      · exact ⟨h1, by omega⟩
    · exact ⟨h1, by omega⟩
theorem bestG_com {b : Int} {es : List Ent} {reach commit term : Int} : ∀ k : Nat, k ≤ es.length → b + k ≤ reach → bestG b es reach commit term k = comG b es commit term k
  | 0, _, _ => rfl
  | k + 1, hk, hr => by
    have ih := bestG_com (b := b) (es := es) (reach := reach) (commit := commit) (term := term) k (by omega) (by omega)
    obtain ⟨h1, h2⟩ := bestG_in (b := b) (es := es) (reach := reach) (commit := commit) (term := term) k
    unfold bestG comG
    rw [List.getElem?_eq_getElem (show k < es.length by omega)]
    simp only
    rw [← ih]
    by_cases hc : b + k + 1 ≤ commit
    · rw [if_neg (by omega), if_pos hc]
      omega
    · rw [if_neg hc]
      by_cases ht : es[k].term = term
      · rw [if_pos ⟨by omega, by omega, ht⟩, if_pos ht]
      · rw [if_neg (by simp [ht]), if_neg ht]
theorem bestG_stay {b : Int} {es : List Ent} {reach commit term : Int} {j : Nat} : ∀ d : Nat, reach < b + j + 1 → bestG b es reach commit term (j + d) = bestG b es reach commit term j
  | 0, _ => rfl
  | d + 1, h => by
    have ih := bestG_stay (b := b) (es := es) (reach := reach) (commit := commit) (term := term) (j := j) d h
    rw [show j + (d + 1) = (j + d) + 1 from rfl]
    rw [← ih]
    conv => lhs; unfold bestG
    split
    · rw [if_neg (by omega)]
    · rfl
theorem bestG_all {b t : Int} {es : List Ent} {reach commit term : Int} (hr : rightV b t es = true) : bestG b es reach commit term es.length = commitZ b t es reach commit term := by
  by_cases hc : reach ≤ commit
  · rw [commitZ_low hc]
    have key : ∀ k : Nat, bestG b es reach commit term k = commit := fun k => by
      induction k with
      | zero => rfl
      | succ k ih =>
        unfold bestG
        rw [ih]
        split
        · rw [if_neg (by omega)]
        · rfl
    exact key _
  · rw [commitZ_go hc hr]
    by_cases h1 : b + es.length ≤ reach
    · rw [show (min reach (b + es.length) - b).toNat = es.length by omega]
      exact bestG_com _ (Nat.le_refl _) h1
    · by_cases h2 : b ≤ reach
      · have e : es.length = (reach - b).toNat + (es.length - (reach - b).toNat) := by omega
        rw [show (min reach (b + es.length) - b).toNat = (reach - b).toNat by omega]
        rw [← bestG_com (reach := reach) _ (by omega) (by omega)]
        conv => lhs; rw [e]
        exact bestG_stay _ (by omega)
      · rw [show (min reach (b + es.length) - b).toNat = 0 by omega]
        have := bestG_stay (b := b) (es := es) (reach := reach) (commit := commit) (term := term) (j := 0) es.length (by omega)
        rw [Nat.zero_add] at this
        exact this
theorem bestG_at {b : Int} {es : List Ent} {reach commit term : Int} {k : Nat} {x : Ent} (hx : es[k]? = some x) : bestG b es reach commit term (k + 1) = if bestG b es reach commit term k < b + k + 1 ∧ b + k + 1 ≤ reach ∧ x.term = term then b + k + 1 else bestG b es reach commit term k := by
  conv => lhs; unfold bestG
  rw [hx]
set_option maxHeartbeats 8000000 in
theorem rcommit_any (b t : Int) (lv : Value) (es : List Ent) (sv mv : Value) (l y : List Int) (commit term : Int) (w : World) (h : EntsR w lv es) (hlen : es.length ≤ 10000000000000) (hs : C.Nums w sv l) (hm : C.Nums w mv y) :
    Calls Try.prog 15 #[viewV b t lv, sv, mv, .int .i64 commit, .int .i64 term] w fun e w' => e = .returned (.int .i64 (commitZ b t es (C.nthP l.length y) commit term)) ∧ w.grownBy w' none := by
  obtain ⟨a, c, rfl⟩ := h.len
  have HE := hid_mk (And.intro h (And.intro hs hm))
  clear h hs hm
  have hV : viewV b t (.slice a es.length c) = .agg #[.int .i64 b, .int .i64 t, .slice a es.length c] := rfl
  have HV := hid_mk hV
  rw [hV]
  clear hV
  have HA := hid_mk (And.intro (RB.new w b t (.slice a es.length c)) (World.grownBy_alloc w (.cells #[.int .i64 b, .int .i64 t, .slice a es.length c] 24) none))
  go_enter Try.func15, Try.ntmps15
  go_upto_region 1 with fail
  generalize w.alloc (.cells #[.int .i64 b, .int .i64 t, .slice a es.length c] 24) = w1 at *
  obtain ⟨v0, v1, v2⟩ := HA.out.1.cells
  go_wp2_with fail
  rw [← HV.out]
  refine (rLast_any b t _ es w1 (HE.out.1.kept HA.out.2) hlen).mono ?_
  rintro e w2 ⟨rfl, hg⟩
  rw [HV.out]
  have H2 := hid_mk (show RB w2 w.heap.size b t (.slice a es.length c) ∧ w.grownBy w2 none from ⟨HA.out.1.kept hg (by simp), grown_trans HA.out.2 hg⟩)
  clear hg v0 v1 v2 HA
  cases hr : rightV b t es with
  | false =>
    have HZ := hid_mk (commitZ_bad (b := b) (t := t) (es := es) (reach := C.nthP l.length y) (commit := commit) (term := term) hr)
    rw [if_neg (by simp), if_neg (by simp)]
    obtain ⟨v0, v1, v2⟩ := H2.out.1.cells
    go_wp2_with fail
    rw [← HV.out]
    refine (rrightV_any b t _ es w2 (HE.out.1.kept H2.out.2) hlen).mono ?_
    rintro e w3 ⟨rfl, hg⟩
    rw [hr]
    have H3 := hid_mk (grown_trans H2.out.2 hg)
    clear hg v0 v1 v2
    go_wp2
    go_ret
    exact ⟨int_eq (by rw [HZ.out]), H3.out⟩
  | true =>
    have HZ := hid_mk (fun reach => bestG_all (reach := reach) (commit := commit) (term := term) hr)
    obtain ⟨hb0, hb1, _, _, hn4, hgo⟩ := rightV_spec hr
    have HEI := hid_mk (endI_of hgo)
    rw [if_pos rfl, if_pos rfl, HEI.out]
    obtain ⟨v0, v1, v2⟩ := H2.out.1.cells
    go_wp2_with fail
    rw [← HV.out]
    refine (rrightV_any b t _ es w2 (HE.out.1.kept H2.out.2) hlen).mono ?_
    rintro e w3 ⟨rfl, hg⟩
    rw [hr, HV.out]
    have H3 := hid_mk (show RB w3 w.heap.size b t (.slice a es.length c) ∧ w.grownBy w3 none from ⟨H2.out.1.kept hg (by simp), grown_trans H2.out.2 hg⟩)
    clear hg v0 v1 v2 H2
    go_wp2_with fail
    refine (C.rnth_any sv mv l y w3 (HE.out.2.1.kept H3.out.2) (HE.out.2.2.kept H3.out.2)).mono ?_
    rintro e w4 ⟨rfl, hw⟩
    rw [hw]
    clear hw w4
    have HGO := hid_mk hgo
    obtain ⟨R, hR⟩ : ∃ R, R = C.nthP l.length y := ⟨_, rfl⟩
    rw [← hR]
    have HZ' := hid_mk (HZ.out R)
    have HR := hid_mk hR
    clear hR HZ hgo hr
    obtain ⟨v0, v1, v2⟩ := H3.out.1.cells
    go_wp2_with fail
    go_loopw [13, 15] (fun bv iv W => ∃ (i : Nat) (best : Int), bv = .int .i64 best ∧ iv = .int .i64 i ∧ W = w3 ∧ i ≤ es.length ∧ Hid (best = bestG b es R commit term i)) (fun _ iv _ => es.length - (intOf iv).toNat)
    case atStart => exact ⟨0, commit, rfl, rfl, rfl, Nat.zero_le _, hid_mk rfl⟩
    case round =>
      obtain ⟨i, best, rfl, rfl, hW, hi, HB⟩ := hrel
      rw [hW]
      clear hW
      by_cases hlt : i < es.length
      · have hlt' : (i : Int) < es.length := by omega
        obtain ⟨x, hx⟩ : ∃ x, es[i]? = some x := ⟨es[i], List.getElem?_eq_getElem hlt⟩
        have HS := hid_mk (bestG_at (b := b) (reach := R) (commit := commit) (term := term) hx)
        rw [← HB.out] at HS
        have hxi := (goB_at es HGO.out i x hx).1
        obtain ⟨eb, off, hae, hcap, hcs⟩ := (HE.out.1.kept H3.out.2).at (by omega)
        obtain ⟨dv, q0, q1, q2, q3, hxb, hxl⟩ := hcs _ x hx
        rw [hxi, show b + 1 + (i : Int) = b + i + 1 by omega] at q1
        subst hae
        clear hcs hxb hxl hx q2 q3 hxi
        obtain ⟨n, hn⟩ : ∃ n : Int, n = b + i + 1 := ⟨_, rfl⟩
        rw [← hn] at q1 HS
        have hnl : n ≤ b + es.length := by omega
        clear hn
        by_cases h1 : best < n
        · by_cases h2 : n ≤ R
          · by_cases h3 : x.term = term
            · rw [if_pos ⟨h1, h2, h3⟩] at HS
              have h3' : (x.term == term) = true := by simpa using h3
              go_wp2_with fail
              go_roundw
              case rel => exact ⟨i + 1, n, rfl, by first | rfl | (congr 1; done) | (congr 1; omega), by trivial, by omega, hid_mk HS.out.symm⟩
              case measure => simp [intOf]; omega
            · rw [if_neg (by simp [h3])] at HS
              have h3' : (x.term == term) = false := by simpa using h3
              go_wp2_with fail
              go_roundw
              case rel => exact ⟨i + 1, best, rfl, by first | rfl | (congr 1; done) | (congr 1; omega), by trivial, by omega, hid_mk HS.out.symm⟩
              case measure => simp [intOf]; omega
          · rw [if_neg (by simp [h2])] at HS
            go_wp2_with fail
            go_roundw
            case rel => exact ⟨i + 1, best, rfl, by first | rfl | (congr 1; done) | (congr 1; omega), by trivial, by omega, hid_mk HS.out.symm⟩
            case measure => simp [intOf]; omega
        · rw [if_neg (by simp [h1])] at HS
          go_wp2_with fail
          go_roundw
          case rel => exact ⟨i + 1, best, rfl, by first | rfl | (congr 1; done) | (congr 1; omega), by trivial, by omega, hid_mk HS.out.symm⟩
          case measure => simp [intOf]; omega
      · have hlt' : ¬ (i : Int) < es.length := by omega
        obtain rfl : i = es.length := by omega
        go_wp2_with fail
        go_ret
        exact ⟨int_eq (by rw [HB.out, HZ'.out, HR.out]), H3.out.2⟩
end Go.Proofs.Ytinpcpojadcegaa.W
