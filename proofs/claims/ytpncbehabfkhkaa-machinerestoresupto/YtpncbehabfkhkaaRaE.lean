/- The document's machine: Read. -/
import Derived.Test.YtpncbehabfkhkaaRaD
namespace Go.Proofs.Ytpncbehabfkhkaa.W
open Go.RowKit Go.Maps Go.WideMaps Go.WideElems
set_option linter.unusedVariables false
set_option linter.unusedSimpArgs false
set_option maxRecDepth 100000

/-- What is read. -/
def readA (a : Ab) (f k : Int) : List (List UInt8) × Nat :=
  if f < a.st then ([], 36) else if ((a.st + a.rs.length : Nat) : Int) < f then ([], 11) else ((a.rs.drop (f - a.st).toNat).take k.toNat, 0)
def RdR (w : World) (x : List (List UInt8) × Nat) (e : Ending) (w' : World) : Prop := ∃ a c ps, e = .returned (.tuple #[.slice a ps.length c, .int .i64 x.2]) ∧ ps.map Prod.snd = x.1 ∧ Parts w' (.slice a ps.length c) ps ∧ w.grownBy w' none
theorem row_parts {W : World} {B : Nat} {pv : Value} {ps : List (Value × List UInt8)} (hr : W.ownsRow B 22 1 pv ps.length (ps.map Prod.fst)) (el : ∀ p ∈ ps, Byt W p.1 p.2) : Parts W pv ps := by
  by_cases h0 : 0 < ps.length
  · obtain ⟨g, cap, hv, hc, _, hx⟩ := row_get hr h0
    refine .inr ⟨g, 0, cap, hv, hc, fun j p hj => ⟨?_, el p (List.mem_of_getElem? hj)⟩⟩
    have := hx j p.1 (by simp [hj])
    simpa using this
  · obtain rfl : ps = [] := by cases ps with | nil => rfl | cons => simp at h0
    rcases hr.2 with ⟨hv, _⟩ | ⟨g, cap, cur, hv, _⟩
    · exact .inl ⟨rfl, none, 0, by simpa using hv, fun _ => rfl⟩
    · exact .inl ⟨rfl, some ⟨g, 0, none⟩, cap, by simpa using hv, fun h => by cases h⟩
theorem IsR.rat {w : World} {Z : Nat → Prop} {b : Nat} {m : Rf} (h : IsR w Z b m) (t : Nat) (ht : t < m.rs.length) : ∃ g pa pc, m.rs[t].1 = .slice pa m.rs[t].2.length pc ∧ (∀ w', (Instr.indexAt 55 m.rv (.int .i64 t)).run Try.prog w' = .ok (.pointer (some ⟨g, t, none⟩)) w') ∧ w.cell? ⟨g, t, none⟩ = some (.slice pa m.rs[t].2.length pc) := by
  obtain ⟨g, cap, hv, h1, _, hx⟩ := row_get h.row (by omega)
  obtain ⟨pa, pc, e⟩ := (h.el m.rs[t] (List.getElem_mem ht)).1.len
  refine ⟨g, pa, pc, e, fun w' => ?_, ?_⟩
  · rw [hv, run_indexAt_slice w' 55 _ m.rs.length cap .i64 t under55, if_pos ⟨by omega, by omega⟩, elem55, Try.sizeOf22 w']
    simp [Result.andThen, Addr.add]
    exact fun h => h.symm
  · rw [← e]
    exact hx t m.rs[t].1 (by simp [ht])
theorem Parts.nil0 (w : World) : Parts w (.slice none 0 0) [] := .inl ⟨rfl, none, 0, rfl, fun _ => rfl⟩
set_option maxHeartbeats 4000000 in
theorem rread_any {w : World} {Z : Nat → Prop} {b : Nat} {m : Rf} (h : IsR w Z b m) (f k : Int) (hl : m.rs.length ≤ 1000000000000) (hst : m.st ≤ 1099511627776) :
    Calls Try.prog 41 #[.pointer (some ⟨b, 0, none⟩), .int .i64 f, .int .i64 k] w (RdR w (readA m.ab f k)) := by
  have b2 := h.cells.2.2.1
  have HNX := hid_mk (rnext_any h (show m.rs.length ≤ _ by omega) hst)
  have HI := hid_mk h
  clear h
  by_cases h1 : f < m.st
  · have e : readA m.ab f k = ([], 36) := by unfold readA; rw [if_pos (show f < m.ab.st from h1)]
    rw [e]
    go_enter Try.func41, Try.ntmps41
    go_wp2_with fail
    go_ret2
    exact ⟨none, 0, [], rfl, rfl, Parts.nil0 _, grown_refl _ _⟩
  · by_cases h2 : ((m.st + m.rs.length : Nat) : Int) < f
    · have e : readA m.ab f k = ([], 11) := by unfold readA; rw [if_neg (show ¬ f < m.ab.st from h1), if_pos (by simpa [Rf.ab] using h2)]
      rw [e]
      have h2' : (m.st : Int) + (m.rs.length : Int) < f := by omega
      go_enter Try.func41, Try.ntmps41
      go_wp2_with (go_at_call 43; refine HNX.out.mono ?_; rintro e w' ⟨rfl, nx, hw⟩; rw [hw]; clear hw)
      go_ret2
      exact ⟨none, 0, [], rfl, rfl, Parts.nil0 _, grown_drewN _ _ _⟩
    · obtain ⟨i, hi⟩ : ∃ i : Nat, f = (m.st : Int) + i := ⟨(f - m.st).toNat, by omega⟩
      subst hi
      have e : readA m.ab ((m.st : Int) + i) k = (((m.rs.drop i).map Prod.snd).take k.toNat, 0) := by
        unfold readA
        rw [if_neg (show ¬ (m.st : Int) + i < m.ab.st from h1), if_neg (by simpa [Rf.ab] using h2)]
        have : ((m.st : Int) + i - (m.ab.st : Int)).toNat = i := by show ((m.st : Int) + i - (m.st : Int)).toNat = i; omega
        rw [this]
        simp [Rf.ab, List.map_drop]
      obtain ⟨X, hX⟩ : ∃ X, X = readA m.ab ((m.st : Int) + i) k := ⟨_, rfl⟩
      rw [← hX] at e ⊢
      have HE := hid_mk e
      clear hX
      have h2' : ¬ ((m.st + m.rs.length : Nat) : Int) < (m.st : Int) + i := h2
      go_enter Try.func41, Try.ntmps41
      go_wp2_with (go_at_call 43; refine HNX.out.mono ?_; rintro e w' ⟨rfl, nx, hw⟩; rw [hw]; clear hw)
      rw [show (m.st : Int) + (i : Int) - (m.st : Int) = (i : Int) by omega]
      generalize decide (m.rs.length < i) = t19
      have hi : i ≤ m.rs.length := by omega
      obtain ⟨n, hn⟩ : ∃ n, n = min k.toNat (m.rs.length - i) := ⟨_, rfl⟩
      have HW := hid_mk (show IsR (w.drewN nx) Z b m ∧ w.grownBy (w.drewN nx) none from ⟨HI.out.kept (grown_drewN _ _ _), grown_drewN _ _ _⟩)
      generalize w.drewN nx = w1 at *
      obtain ⟨ra, rc, hrv⟩ := row_shape HW.out.1.row
      have HRV := hid_mk hrv
      have HNN := hid_mk (And.intro hn hi)
      clear hrv hn hi h1 h2 h2' b2 HNX HI e
      go_loopg [8, 9] n (fun g ov iv W => ∃ j : Nat, j ≤ n ∧ g = n - j ∧ iv = .int .i64 ((i + j : Nat) : Int) ∧ ∃ a c, ov = .slice a j c ∧ Hid (Pp w1 W (.slice a j c) ((m.rs.drop i).take j)))
      case atStart =>
        exact ⟨0, Nat.zero_le _, rfl, by simp, none, 0, rfl, hid_mk (Pp.nil w1)⟩
      case round =>
        obtain ⟨j, hj, hgj, rfl, oa, oc, rfl, HP⟩ := hrel
        have HIW := hid_mk (HW.out.1.kept HP.out.gr)
        have c3 := HIW.out.cells.2.2.2.1
        rw [HRV.out] at c3
        by_cases hlt : j < n
        · have hlt1 : ((i + j : Nat) : Int) < (m.rs.length : Int) := by have := HNN.out; omega
          have hlt2 : (j : Int) < k := by have := HNN.out; omega
          obtain ⟨g, pa, pc, hpv, hix, hcell⟩ := HIW.out.rat (i + j) (by omega)
          rw [HRV.out] at hix
          have HEL := hid_mk (HIW.out.el m.rs[i + j] (List.getElem_mem (by omega)))
          have HTK := hid_mk (show (m.rs.drop i).take (j + 1) = (m.rs.drop i).take j ++ [m.rs[i + j]] by
            rw [List.take_add_one, List.getElem?_drop, List.getElem?_eq_getElem (by omega)]; rfl)
          have HPV := hid_mk hpv
          have HLN := hid_mk (show j = ((m.rs.drop i).take j).length by have := HNN.out; simp; omega)
          have HXE : Hid (m.rs[i + j] = (.slice pa m.rs[i + j].2.length pc, m.rs[i + j].2)) := hid_mk (by rw [← hpv])
          clear hpv
          generalize m.rs[i + j] = pr at *
          obtain ⟨xn, hxn⟩ : ∃ xn, xn = pr.2.length := ⟨_, rfl⟩
          rw [← hxn] at hcell HPV HXE
          rw [HPV.out] at HEL
          clear hxn
          obtain ⟨ij, hij⟩ : ∃ ij, ij = i + j := ⟨_, rfl⟩
          have HIJ := hid_mk hij
          rw [← hij] at hlt1 hix hcell ⊢
          clear hij
          go_wp2_with (at_builtin; refine wp_part HP.out pa pc xn pr.2 HEL.out.1 (fun k e => (HEL.out.2 k e).2) j HLN.out (by have := HNN.out; omega) rfl (.tmp 41) (.tmp 49) rfl rfl rfl ?_; intro a' c' W' H')
          go_roundg (n - (j + 1))
          case measure => omega
          case rel =>
            refine ⟨j + 1, by omega, rfl, by rw [HIJ.out]; go_num, a', c', rfl, hid_mk ?_⟩
            rw [HTK.out, HXE.out]
            exact H'.out
        · obtain rfl : j = n := by omega
          have HLL := hid_mk (show ((m.rs.drop i).take j).length = j by have := HNN.out; simp; omega)
          have fin : Hid (RdR w X (.returned (.tuple #[.slice oa j oc, .int .i64 0])) wr) := hid_mk (by
            rw [HE.out]
            refine ⟨oa, oc, (m.rs.drop i).take j, by rw [HLL.out]; rfl, ?_, ?_, grown_trans HW.out.2 HP.out.gr⟩
            · rw [List.map_take]
              have h1 := HNN.out.1
              rw [h1, List.take_eq_take_iff]
              simp
            · rw [HLL.out]
              exact row_parts HP.out.row (fun p hp => (HP.out.el p hp).1))
          by_cases hlt1 : ((i + j : Nat) : Int) < (m.rs.length : Int)
          · have hlt2 : ¬ (j : Int) < k := by have := HNN.out; omega
            go_wp2_with fail
            go_ret2
            exact fin.out
          · go_wp2_with fail
            go_ret2
            exact fin.out
end Go.Proofs.Ytpncbehabfkhkaa.W
