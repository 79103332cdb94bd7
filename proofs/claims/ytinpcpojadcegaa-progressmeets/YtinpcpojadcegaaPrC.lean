/- Commit: what is committed. -/
import Derived.Test.YtinpcpojadcegaaErB
import Derived.Test.YtinpcpojadcegaaPrB
import Derived.Test.YtinpcpojadcegaaKc
namespace Go.Proofs.Ytinpcpojadcegaa.W
open Go.RowKit Go.Maps
set_option linter.unusedVariables false
set_option linter.unusedSimpArgs false
set_option maxRecDepth 100000
attribute [local go_sem] Oper.semAt_some

/-- The greatest index of the first k ones that is above commit, and of the term; commit: none. -/
def comG (b : Int) (es : List Ent) (commit term : Int) : Nat → Int
  | 0 => commit
  | k + 1 => if b + k + 1 ≤ commit then commit else match es[k]? with | some x => if x.term = term then b + k + 1 else comG b es commit term k | none => commit
def commitZ (b t : Int) (es : List Ent) (reach commit term : Int) : Int := if reach ≤ commit ∨ rightV b t es = false then commit else comG b es commit term (min reach (b + es.length) - b).toNat
theorem commitZ_low {b t : Int} {es : List Ent} {reach commit term : Int} (h : reach ≤ commit) : commitZ b t es reach commit term = commit := if_pos (.inl h)
theorem commitZ_bad {b t : Int} {es : List Ent} {reach commit term : Int} (h : rightV b t es = false) : commitZ b t es reach commit term = commit := if_pos (.inr h)
theorem commitZ_go {b t : Int} {es : List Ent} {reach commit term : Int} (h : ¬ reach ≤ commit) (hr : rightV b t es = true) : commitZ b t es reach commit term = comG b es commit term (min reach (b + es.length) - b).toNat := if_neg (by rw [hr]; simp; omega)
theorem comG_end {b : Int} {es : List Ent} {commit term n : Int} (h : n ≤ max commit b) : comG b es commit term (n - b).toNat = commit := by
  match hk : (n - b).toNat with
  | 0 => rfl
  | k + 1 =>
    unfold comG
    rw [if_pos (by omega)]
theorem comG_at {b : Int} {es : List Ent} {commit term n : Int} {k : Nat} {x : Ent} (h1 : commit < n) (h2 : n = b + k + 1) (hx : es[k]? = some x) : comG b es commit term (n - b).toNat = if x.term = term then n else comG b es commit term (n - 1 - b).toNat := by
  rw [show (n - b).toNat = k + 1 by omega, show (n - 1 - b).toNat = k by omega]
  conv => lhs; unfold comG
  rw [if_neg (by omega), hx]
  simp only
  rw [h2]
/-- It never falls; what is new is above, an entry of the term. -/
theorem comG_spec {b : Int} {es : List Ent} {commit term : Int} : ∀ k : Nat, comG b es commit term k = commit ∨ (commit < comG b es commit term k ∧ comG b es commit term k ≤ b + k ∧ b < comG b es commit term k ∧ ∃ x, es[(comG b es commit term k - b - 1).toNat]? = some x ∧ x.term = term)
  | 0 => .inl rfl
  | k + 1 => by
    unfold comG
    split
    · exact .inl rfl
    · cases hx : es[k]? with
      | none => exact .inl rfl
      | some x =>
        simp only
        split
        · refine .inr ⟨by omega, by omega, by omega, x, ?_, by assumption⟩
          rw [show (b + k + 1 - b - 1).toNat = k by omega]
          exact hx
        · rcases comG_spec k with h | ⟨h1, h2, h3, h4⟩
          · exact .inl h
          · exact .inr ⟨h1, by omega, h3, h4⟩

theorem c_ints {w : World} {v : Value} {l : List Int} (h : IntsR w v l) : C.IntsR w v l := h

set_option maxHeartbeats 4000000 in
theorem commit_any (b t : Int) (lv : Value) (es : List Ent) (sv mv : Value) (l y : List Int) (commit term : Int) (w : World) (h : EntsR w lv es) (hlen : es.length ≤ 10000000000000) (hb : I64 b) (hs : C.IntsR w sv l) (hm : C.IntsR w mv y) (hl : l.length ≤ 17592186044416) (hc : I64 commit) :
    Calls Try.prog 14 #[viewV b t lv, sv, mv, .int .i64 commit, .int .i64 term] w fun e w' => e = .returned (.int .i64 (commitZ b t es (C.nthP l.length y) commit term)) ∧ w.grownBy w' none := by
  obtain ⟨a, c, rfl⟩ := h.len
  have HE := hid_mk (And.intro h (And.intro hb (And.intro hs hm)))
  clear h hb hs hm
  unfold I64 at hc
  have hV : viewV b t (.slice a es.length c) = .agg #[.int .i64 b, .int .i64 t, .slice a es.length c] := rfl
  have HV := hid_mk hV
  rw [hV]
  clear hV
  have HA := hid_mk (And.intro (VB.new w b t (.slice a es.length c)) (World.grownBy_alloc w (.cells #[.int .i64 b, .int .i64 t, .slice a es.length c] 25) none))
  go_enter Try.func14, Try.ntmps14
  go_upto_region 1 with fail
  generalize w.alloc (.cells #[.int .i64 b, .int .i64 t, .slice a es.length c] 25) = w1 at *
  go_wp2_with fail
  refine (C.nth_any sv mv l y w1 hl (HE.out.2.2.1.kept HA.out.2) (HE.out.2.2.2.kept HA.out.2)).mono ?_
  rintro e w2 ⟨rfl, hg⟩
  obtain ⟨R, hR⟩ : ∃ R, R = C.nthP l.length y := ⟨_, rfl⟩
  rw [← hR]
  have HR := hid_mk hR
  have H2 := hid_mk (show VB w2 w.heap.size b t (.slice a es.length c) ∧ w.grownBy w2 none from ⟨HA.out.1.kept hg (by simp), grown_trans HA.out.2 hg⟩)
  clear hg hR HA
  obtain ⟨v0, v1, v2⟩ := H2.out.1.cells
  by_cases hrc : R ≤ commit
  · have HZ := hid_mk (commitZ_low (b := b) (t := t) (es := es) (term := term) hrc)
    go_wp2
    go_ret
    exact ⟨int_eq (by rw [← HR.out, HZ.out]), H2.out.2⟩
  · go_wp2_with fail
    rw [← HV.out]
    refine (rightV_any b t _ es w2 (HE.out.1.kept H2.out.2) hlen HE.out.2.1).mono ?_
    rintro e w3 ⟨rfl, hg⟩
    rw [HV.out]
    have H3 := hid_mk (show VB w3 w.heap.size b t (.slice a es.length c) ∧ w.grownBy w3 none from ⟨H2.out.1.kept hg (by simp), grown_trans H2.out.2 hg⟩)
    clear hg v0 v1 v2 H2
    obtain ⟨v0, v1, v2⟩ := H3.out.1.cells
    cases hr : rightV b t es with
    | false =>
      have HZ := hid_mk (commitZ_bad (b := b) (t := t) (es := es) (reach := R) (commit := commit) (term := term) hr)
      go_wp2
      go_ret
      exact ⟨int_eq (by rw [← HR.out, HZ.out]), H3.out.2⟩
    | true =>
      have HZ := hid_mk (commitZ_go (term := term) (show ¬ R ≤ commit by omega) hr)
      obtain ⟨hb0, hb1, _, _, hn4, hgo⟩ := rightV_spec hr
      clear hgo hr
      have hn4' : (es.length : Int) ≤ 4096 := by omega
      obtain ⟨n0, hn0⟩ : ∃ n0, n0 = min R (b + es.length) := ⟨_, rfl⟩
      have hif0 : (if b + (es.length : Int) < R then b + (es.length : Int) else R) = n0 := by rw [hn0]; split <;> omega
      rw [← hn0] at HZ
      have hn0' : n0 ≤ b + es.length := by omega
      have hcn : commit ≤ n0 ∨ n0 ≤ b + 4096 := by omega
      have HN := hid_mk hn0
      clear hn0
      have hn0R : -9223372036854775808 ≤ n0 := by have := HN.out; omega
      clear hif0
      go_wp2_with fail
      go_loopw [12] (fun nv W => ∃ n : Int, nv = .int .i64 n ∧ W = w3 ∧ n ≤ b + es.length ∧ -9223372036854775808 ≤ n ∧ Hid (comG b es commit term (n - b).toNat = comG b es commit term (n0 - b).toNat)) (fun nv _ => (intOf nv - b).toNat)
      case atStart => exact ⟨n0, by rw [← HN.out], rfl, hn0', hn0R, hid_mk rfl⟩
      case round =>
        obtain ⟨n, rfl, rfl, hnl, hnr, HC⟩ := hrel
        by_cases hlt : max commit b < n
        · obtain ⟨k, hk⟩ : ∃ k : Nat, k = (n - b - 1).toNat := ⟨_, rfl⟩
          have hki : n - b - 1 = (k : Int) := by omega
          have hkl : (k : Int) < es.length := by omega
          have hcn' : commit < n := by omega
          have hbn : b < n := by omega
          obtain ⟨x, hx⟩ : ∃ x, es[k]? = some x := ⟨es[k]'(by omega), List.getElem?_eq_getElem _⟩
          have HS := hid_mk (comG_at (term := term) hcn' (show n = b + k + 1 by omega) hx)
          obtain ⟨eb, off, hae, hcap, hcs⟩ := (HE.out.1.kept H3.out.2).at (by omega)
          obtain ⟨dv, q0, q1, q2, q3, hxb, hxl⟩ := hcs _ x hx
          subst hae
          have HX := hid_mk hx
          clear hcs hxb hxl hx q1 q2 q3 hk
          by_cases hxt : x.term = term
          · rw [if_pos hxt] at HS
            have hxt' : (x.term == term) = true := by simpa using hxt
            go_wp2_with fail
            go_ret
            exact ⟨int_eq (by rw [← HR.out, HZ.out, ← HC.out, HS.out]), H3.out.2⟩
          · rw [if_neg hxt] at HS
            have hxt' : (x.term == term) = false := by simpa using hxt
            go_wp2_with fail
            go_roundw
            case rel => exact ⟨n - 1, by first | rfl | (congr 1; omega), by trivial, by omega, by omega, hid_mk (by rw [← HC.out, HS.out])⟩
            case measure => simp [intOf]; omega
        · have HS := hid_mk (comG_end (es := es) (term := term) (show n ≤ max commit b by omega))
          go_wp2_with fail
          go_ret
          exact ⟨int_eq (by rw [← HR.out, HZ.out, ← HC.out, HS.out]), H3.out.2⟩
end Go.Proofs.Ytinpcpojadcegaa.W
