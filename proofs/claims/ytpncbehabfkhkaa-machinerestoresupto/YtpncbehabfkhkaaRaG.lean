/- machine: Read, of any numbers. -/
import Derived.Test.YtpncbehabfkhkaaRaF
namespace Go.Proofs.Ytpncbehabfkhkaa.W
open Go.RowKit Go.Maps Go.WideMaps Go.WideElems
set_option linter.unusedVariables false
set_option linter.unusedSimpArgs false
set_option maxRecDepth 100000

theorem Parts.part {w : World} {a : Option Addr} {l : List (Value × List UInt8)} {cap : Nat} (h : Parts w (.slice a l.length cap) l) (i j : Nat) (hij : i ≤ j) (hj : j ≤ l.length) : Parts w (sliced a i j cap 1) ((l.take j).drop i) := by
  rcases h with ⟨rfl, a', cap', e, hn⟩ | ⟨b, off, cap', e, hl, hc⟩
  · cases e
    have hj0 : j = 0 := by simpa using hj
    subst hj0
    have hi0 : i = 0 := by omega
    subst hi0
    refine .inl ⟨by simp, ?_⟩
    unfold sliced
    refine ⟨_, _, rfl, ?_⟩
    split
    · simpa using hn
    · intro hm; cases a <;> simp_all
  · cases e
    unfold sliced
    by_cases hm : cap = i
    · have : l.length = i := by omega
      subst hm
      have hji : j = cap := by omega
      subst hji
      refine .inl ⟨?_, ?_⟩
      · simp
      · exact ⟨some ⟨b, off, none⟩, 0, by simp, by simp⟩
    · rw [if_neg hm]
      refine .inr ⟨b, off + i, cap - i, ?_, ?_, fun k u hk => ?_⟩
      · simp [Addr.add]; omega
      · simp; omega
      · rw [List.getElem?_drop, List.getElem?_take] at hk
        split at hk
        · have := hc (i + k) u hk
          rw [Nat.add_assoc]; exact this
        · cases hk
theorem Parts.l {w : World} {v : Value} {l : List (Value × List UInt8)} (h : Parts w v l) (i : Nat) (hi : i ≤ l.length) :
    ∃ a' cap', (∀ w', (Instr.slice 55 v (some (.int .i64 i)) none none).run Try.prog w' = .ok (.slice a' (l.length - i) cap') w') ∧ Parts w (.slice a' (l.length - i) cap') (l.drop i) := by
  obtain ⟨a, cap, rfl⟩ := h.len
  obtain ⟨a', cap', e⟩ := sliced_slice a i l.length cap
  have hp := h.part i l.length hi (Nat.le_refl _)
  rw [e, List.take_length] at hp
  refine ⟨a', cap', fun w' => ?_, hp⟩
  rw [run_slice_l w' 55 a l.length cap under55 .i64 i (by omega) (by omega), elem55, Try.sizeOf22 w']
  simp only [Result.andThen, Int.toNat_natCast]
  rw [e]
theorem Parts.h {w : World} {v : Value} {l : List (Value × List UInt8)} (h : Parts w v l) (j : Nat) (hj : j ≤ l.length) :
    ∃ a' cap', (∀ w', (Instr.slice 55 v none (some (.int .i64 j)) none).run Try.prog w' = .ok (.slice a' j cap') w') ∧ Parts w (.slice a' j cap') (l.take j) := by
  have hcap : ∀ a cap, v = .slice a l.length cap → l.length ≤ cap := fun a cap e => by
    rcases h with ⟨rfl, a', cap', e', hn⟩ | ⟨b, off, cap', e', hl, hc⟩
    · simp
    · rw [e] at e'; cases e'; exact hl
  obtain ⟨a, cap, rfl⟩ := h.len
  have hlc := hcap a cap rfl
  obtain ⟨a', cap', e⟩ := sliced_slice a 0 j cap
  have hp := h.part 0 j (Nat.zero_le _) hj
  rw [e] at hp
  refine ⟨a', cap', fun w' => ?_, by simpa using hp⟩
  rw [run_slice_h w' 55 a l.length cap under55 .i64 j (by omega) (by omega), elem55, Try.sizeOf22 w']
  simp only [Result.andThen, Int.toNat_natCast]
  rw [e]; simp

theorem Parts.get {w : World} {a : Option Addr} {n c : Nat} {l : List (Value × List UInt8)} (h : Parts w (.slice a n c) l) (j : Nat) (hj : j < l.length) : ∃ b off pa pc, a = some ⟨b, off, none⟩ ∧ n = l.length ∧ n ≤ c ∧ l[j].1 = .slice pa l[j].2.length pc ∧ w.cell? ⟨b, off + j, none⟩ = some (.slice pa l[j].2.length pc) ∧ Byt w (.slice pa l[j].2.length pc) l[j].2 := by
  rcases h with ⟨rfl, _⟩ | ⟨b, off, cap, e, hl, hc⟩
  · simp at hj
  · cases e
    obtain ⟨h1, h2⟩ := hc j l[j] (by simp [hj])
    obtain ⟨pa, pc, e⟩ := h2.len
    rw [e] at h1 h2
    exact ⟨b, off, pa, pc, rfl, rfl, hl, e, h1, h2⟩

theorem rowO_parts {W : World} {pv : Value} {ps : List (Value × List UInt8)} (hr : RowO W 22 pv ps.length (ps.map Prod.fst)) (el : ∀ p ∈ ps, Byt W p.1 p.2) : Parts W pv ps := by
  rcases hr.2 with ⟨hv, h0⟩ | ⟨g, off, cap, cur, hv, hg, hc, _, hx⟩
  · obtain rfl : ps = [] := List.length_eq_zero_iff.1 h0
    exact .inl ⟨rfl, none, 0, by simpa using hv, fun _ => rfl⟩
  · refine .inr ⟨g, off, cap, hv, hc, fun j p hj => ⟨?_, el p (List.mem_of_getElem? hj)⟩⟩
    rw [cell_of_row _ _ _ _ _ _ hg]
    exact hx j p.1 (by simp [hj])
theorem IsM.parts {w : World} {Z : Nat → Prop} {b : Nat} {m : Mach} (h : IsM w Z b m) : Parts w m.rv m.rs := rowO_parts h.row (fun p hp => (h.el p hp).1)
/-- What Read answers: clones. -/
def RdP (w : World) (x : List (List UInt8) × Nat) (e : Ending) (w' : World) : Prop := ∃ a c ps, e = .returned (.tuple #[.slice a ps.length c, .int .i64 x.2]) ∧ ps.map Prod.snd = x.1 ∧ Pp w w' (.slice a ps.length c) ps ∧ ∀ p ∈ ps, ∀ k, p.1.ownBlock = some k → w.heap.size ≤ k
theorem Pp.base {w w1 W : World} {pv : Value} {ps : List (Value × List UInt8)} (h : Pp w1 W pv ps) (hg : w.grownBy w1 none) : Pp w W pv ps := ⟨by
  refine ⟨h.row.1, ?_⟩
  rcases h.row.2 with h | ⟨g, cap, cur, e1, hb, r⟩
  · exact .inl h
  · exact .inr ⟨g, cap, cur, e1, Nat.le_trans hg.size hb, r⟩, h.el, grown_trans hg h.gr⟩
set_option maxHeartbeats 4000000 in
theorem read_any {w : World} {Z : Nat → Prop} {b : Nat} {m : Mach} (h : IsM w Z b m) (f k : Int) (hl : m.rs.length ≤ 900000000000) :
    Calls Try.prog 27 #[.pointer (some ⟨b, 0, none⟩), .int .i64 f, .int .i64 k] w (RdP w (readA m.ab f k)) := by
  have HM := hid_mk (made_ok h)
  have HN := hid_mk (next_any h (show m.rs.length ≤ _ by omega))
  have ht := h.top.2
  have HI := hid_mk h
  have c2 := h.cells.2.2.1
  clear h
  by_cases h1 : f < m.st
  · have e : readA m.ab f k = ([], 36) := by unfold readA; rw [if_pos (show f < m.ab.st from h1)]
    rw [e]
    go_enter Try.func27, Try.ntmps27
    go_wp2_with (go_at_call 55; refine HM.out.mono ?_; rintro e w' ⟨rfl, hw⟩; rw [hw]; clear hw)
    go_ret2
    exact ⟨none, 0, [], rfl, rfl, Pp.nil w, fun p hp => by cases hp⟩
  · by_cases h2 : ((m.st + m.rs.length : Nat) : Int) < f
    · have e : readA m.ab f k = ([], 11) := by unfold readA; rw [if_neg (show ¬ f < m.ab.st from h1), if_pos (by simpa [Mach.ab] using h2)]
      rw [e]
      have h2' : (m.st : Int) + (m.rs.length : Int) < f := by omega
      go_enter Try.func27, Try.ntmps27
      go_wp2_with (first
        | (go_at_call 55; refine HM.out.mono ?_; rintro e w' ⟨rfl, hw⟩; rw [hw]; clear hw)
        | (go_at_call 30; refine HN.out.mono ?_; rintro e w' ⟨rfl, nx, hw⟩; rw [hw]; clear hw))
      go_ret2
      exact ⟨none, 0, [], rfl, rfl, (Pp.nil _).base (grown_drewN _ _ _), fun p hp => by cases hp⟩
    · obtain ⟨i, hi⟩ : ∃ i : Nat, f = (m.st : Int) + i := ⟨(f - m.st).toNat, by omega⟩
      subst hi
      have e : readA m.ab ((m.st : Int) + i) k = (((m.rs.drop i).map Prod.snd).take k.toNat, 0) := by
        unfold readA
        rw [if_neg (show ¬ (m.st : Int) + i < m.ab.st from h1), if_neg (by simpa [Mach.ab] using h2)]
        have : ((m.st : Int) + i - (m.ab.st : Int)).toNat = i := by show ((m.st : Int) + i - (m.st : Int)).toNat = i; omega
        rw [this]
        simp [Mach.ab, List.map_drop]
      obtain ⟨X, hX⟩ : ∃ X, X = readA m.ab ((m.st : Int) + i) k := ⟨_, rfl⟩
      rw [← hX] at e ⊢
      have HE := hid_mk e
      clear hX e
      have hi : i ≤ m.rs.length := by omega
      obtain ⟨ra, rc, hrv⟩ := HI.out.parts.len
      obtain ⟨a1, q1, hs1, hp1⟩ := HI.out.parts.l i hi
      have hl1 : (m.rs.drop i).length = m.rs.length - i := by simp
      have c3 := HI.out.cells.2.2.2.1
      rw [hrv] at c3 hs1
      rw [← hl1] at hp1 hs1
      obtain ⟨kk, hkk⟩ : ∃ kk : Nat, max k 0 = (kk : Int) := ⟨k.toNat, by omega⟩
      obtain ⟨k', hk'⟩ : ∃ k' : Nat, k' = min kk (m.rs.drop i).length := ⟨_, rfl⟩
      obtain ⟨a2, q2, hs2, hp2⟩ := hp1.h k' (by omega)
      have hl2 : ((m.rs.drop i).take k').length = k' := by simp at hk' ⊢; omega
      have HP := hid_mk (show Parts w (.slice a2 k' q2) ((m.rs.drop i).take k') ∧ (∀ p ∈ (m.rs.drop i).take k', p.2.length ≤ 1024) ∧ ((m.rs.drop i).take k').length = k' ∧ X = (((m.rs.drop i).take k').map Prod.snd, 0) from ⟨hp2, fun p hp => (HI.out.el p (List.mem_of_mem_drop (List.mem_of_mem_take hp))).2.1, hl2, by
        rw [HE.out, List.map_take]
        congr 1
        have : k.toNat = kk := by omega
        rw [this, hk', List.take_eq_take_iff]
        simp⟩)
      have hn1 : (m.rs.drop i).length ≤ 900000000000 := by omega
      have hmin : min (kk : Int) ((m.rs.drop i).length : Int) = (k' : Int) := by omega
      have hk1 : k' ≤ 900000000000 := by omega
      clear hl2 hk' HE
      generalize (m.rs.drop i).take k' = L at *
      generalize (m.rs.drop i).length = n1 at *
      have n1' : ¬ ((m.st : Int) + (i : Int) < (m.st : Int)) := by omega
      have n2' : ¬ (((m.st + m.rs.length : Nat) : Int) < (m.st : Int) + (i : Int)) := by omega
      have hs1' : ∀ w', (Instr.slice 55 (.slice ra m.rs.length rc) (some (.int .i64 ((m.st : Int) + (i : Int) - (m.st : Int)))) none none).run Try.prog w' = .ok (.slice a1 n1 q1) w' := by
        rw [show (m.st : Int) + (i : Int) - (m.st : Int) = (i : Int) by omega]; exact hs1
      clear hrv hp1 hp2 hl1 hi hs1 h1 h2
      go_enter Try.func27, Try.ntmps27
      go_wp2_with (first
        | (go_at_call 55; refine HM.out.mono ?_; rintro e w' ⟨rfl, hw⟩; rw [hw]; clear hw)
        | (go_at_call 30; refine HN.out.mono ?_; rintro e w' ⟨rfl, nx, hw⟩; rw [hw]; clear hw))
      have HW := hid_mk (show w.grownBy (w.drewN nx) none from grown_drewN _ _ _)
      have c2' : (w.drewN nx).cell? ⟨b, 2, none⟩ = some (.int .i64 m.st) := (grown_drewN w nx none).cell c2 (by simp)
      have c3' : (w.drewN nx).cell? ⟨b, 3, none⟩ = some (.slice ra m.rs.length rc) := (grown_drewN w nx none).cell c3 (by simp)
      generalize w.drewN nx = w1 at *
      clear c2 c3 HI
      go_quiet (fail)
      have HV := hid_mk (show w.grownBy (w1.drewN nq) none from grown_trans HW.out (grown_drewN _ _ _))
      generalize w1.drewN nq = w2 at *
      clear HW c2' c3'
      have hs2' : ∀ w', (Instr.slice 55 (.slice a1 n1 q1) none (some (.int .i64 (k' : Int))) none).run Try.prog w' = .ok (.slice a2 k' q2) w' := hs2
      clear hs2
      go_wp2_with fail
      clear hs1' hs2' n1' n2' HM HN hmin hkk
      generalize decide (m.rs.length < i) = t24
      generalize decide ((m.st : Int) + (i : Int) < (m.st : Int)) = t20
      go_loopg [9, 44] k' (fun g pv iv W => ∃ j : Nat, j ≤ k' ∧ g = k' - j ∧ iv = .int .i64 j ∧ ∃ a c, pv = .slice a j c ∧ Hid (∃ ps : List (Value × List UInt8), j = ps.length ∧ ps.map Prod.snd = (L.take j).map Prod.snd ∧ Pp w2 W (.slice a j c) ps ∧ ∀ p ∈ ps, ∀ k, p.1.ownBlock = some k → w2.heap.size ≤ k))
      case atStart => exact ⟨0, Nat.zero_le _, rfl, rfl, none, 0, rfl, hid_mk ⟨[], rfl, rfl, Pp.nil w2, fun p hp => by cases hp⟩⟩
      case round =>
        obtain ⟨j, hj, hgj, rfl, a, c, rfl, H⟩ := hrel
        obtain ⟨ps, hps, hpm, hP, hfr⟩ := H.out
        have HQ := hid_mk (And.intro hps (And.intro hpm (And.intro hP hfr)))
        clear H hps hpm hP hfr
        by_cases hlt : j < k'
        · have hltL : j < L.length := by have := HP.out.2.2.1; omega
          obtain ⟨g, off, pa, pc, hpa, -, hcap, hp1, hp2, hp3⟩ := HP.out.1.get j hltL
          have hpl : L[j].2.length ≤ 1024 := HP.out.2.1 _ (List.getElem_mem hltL)
          have HX := hid_mk (show (L.take (j + 1)).map Prod.snd = (L.take j).map Prod.snd ++ [L[j].2] by rw [List.take_succ_eq_append_getElem hltL, List.map_append]; rfl)
          clear hp1
          generalize L[j].2 = x at *
          subst hpa
          have HY := hid_mk (hp3.kept (grown_trans HV.out HQ.out.2.2.1.gr))
          have hcell : wr.cell? ⟨g, off + j, none⟩ = some (.slice pa x.length pc) := (grown_trans HV.out HQ.out.2.2.1.gr).cell hp2 (by simp)
          clear hp2 hp3
          have hlt' : (j : Int) < (k' : Int) := by omega
          go_wp2_with fail
          refine (clone_any _ x wr HY.out (by omega)).mono ?_
          rintro e W1 ⟨v', rfl, ho, hg⟩
          obtain ⟨xa, xc, rfl⟩ := ho.len
          obtain ⟨xn, hxn⟩ : ∃ n, n = x.length := ⟨_, rfl⟩
          rw [← hxn] at ho ⊢
          have H1 := hid_mk (show Own W1 wr.heap.size (.slice xa xn xc) x ∧ wr.grownBy W1 none from ⟨ho, hg⟩)
          clear ho hg hxn hcell HY
          go_wp2_with (at_builtin; refine wp_part (HQ.out.2.2.1.kept H1.out.2) xa xc xn x H1.out.1.byt (own_blk5 H1.out.1) j HQ.out.1 (by omega) rfl (.tmp 48) (.tmp 51) rfl rfl rfl ?_; intro a' c' W' H')
          go_roundg (k' - (j + 1))
          case measure => omega
          case rel =>
            refine ⟨j + 1, by omega, rfl, by go_num, a', c', rfl, hid_mk ⟨_, by rw [List.length_append, ← HQ.out.1]; rfl, by rw [List.map_append, HQ.out.2.1, HX.out]; rfl, H'.out, fun p hp k e => ?_⟩⟩
            rcases List.mem_append.1 hp with hp | hp
            · exact HQ.out.2.2.2 p hp k e
            · obtain rfl := List.mem_singleton.1 hp
              exact Nat.le_trans HQ.out.2.2.1.gr.size (row_tag H1.out.1 k e).1
        · obtain rfl : j = k' := by omega
          have hnlt : ¬ ((j : Int) < (j : Int)) := by omega
          have fin : Hid (RdP w X (.returned (.tuple #[.slice a j c, .int .i64 0])) wr) := hid_mk (by
            have h1 := HQ.out.2.1
            rw [← HP.out.2.2.1, List.take_length] at h1
            have hP := HQ.out.2.2.1
            have hjl := HQ.out.1
            rw [hjl] at hP
            refine ⟨a, c, ps, by rw [HP.out.2.2.2, ← hjl]; rfl, by rw [HP.out.2.2.2]; exact h1, hP.base HV.out, fun p hp k e => Nat.le_trans HV.out.size (HQ.out.2.2.2 p hp k e)⟩)
          go_wp2_with fail
          go_ret2
          exact fin.out
end Go.Proofs.Ytpncbehabfkhkaa.W
