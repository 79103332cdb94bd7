/- machine: Read. -/
import Derived.Test.YtpncbehabfkhkabMaL
namespace Go.Proofs.Ytpncbehabfkhkab.W
open Go.RowKit Go.Maps Go.WideMaps Go.WideElems
set_option linter.unusedVariables false
set_option linter.unusedSimpArgs false
set_option maxRecDepth 100000

theorem elem40 : Try.prog.elem 40 = 32 := by kernel_rfl
theorem under40 : Try.prog.underlying 40 = some (.slice (Try.prog.elem 40)) := by rw [elem40]; exact Try.underlying40
theorem Parts.part {w : World} {a : Option Addr} {l : List (Value × List UInt8)} {cap : Nat} (h : Parts w (.slice a l.length cap) l) (i j : Nat) (hij : i ≤ j) (hj : j ≤ l.length) : Parts w (sliced a i j cap 1) ((l.take j).drop i) := by
  rcases h with ⟨rfl, a', cap', e, hn⟩ | ⟨b, off, cap', e, hl, hc⟩
  · cases e
    have hj0 : j = 0 := by simpa using hj
    subst hj0
    have hi0 : i = 0 := by omega
    subst hi0
    refine .inl ⟨by simp, ?_⟩
    unfold sliced
    refine ⟨_, _, rfl, ?_⟩
    split
    · simpa using hn
    · intro hm; cases a <;> simp_all
  · cases e
    unfold sliced
    by_cases hm : cap = i
    · have : l.length = i := by omega
      subst hm
      have hji : j = cap := by omega
      subst hji
      refine .inl ⟨?_, ?_⟩
      · simp
      · exact ⟨some ⟨b, off, none⟩, 0, by simp, by simp⟩
    · rw [if_neg hm]
      refine .inr ⟨b, off + i, cap - i, ?_, ?_, fun k u hk => ?_⟩
      · simp [Addr.add]; omega
      · simp; omega
      · rw [List.getElem?_drop, List.getElem?_take] at hk
        split at hk
        · have := hc (i + k) u hk
          rw [Nat.add_assoc]; exact this
        · cases hk
theorem Parts.l {w : World} {v : Value} {l : List (Value × List UInt8)} (h : Parts w v l) (i : Nat) (hi : i ≤ l.length) :
    ∃ a' cap', (∀ w', (Instr.slice 40 v (some (.int .i64 i)) none none).run Try.prog w' = .ok (.slice a' (l.length - i) cap') w') ∧ Parts w (.slice a' (l.length - i) cap') (l.drop i) := by
  obtain ⟨a, cap, rfl⟩ := h.len
  obtain ⟨a', cap', e⟩ := sliced_slice a i l.length cap
  have hp := h.part i l.length hi (Nat.le_refl _)
  rw [e, List.take_length] at hp
  refine ⟨a', cap', fun w' => ?_, hp⟩
  rw [run_slice_l w' 40 a l.length cap under40 .i64 i (by omega) (by omega), elem40, Try.sizeOf32 w']
  simp only [Result.andThen, Int.toNat_natCast]
  rw [e]
theorem Parts.h {w : World} {v : Value} {l : List (Value × List UInt8)} (h : Parts w v l) (j : Nat) (hj : j ≤ l.length) :
    ∃ a' cap', (∀ w', (Instr.slice 40 v none (some (.int .i64 j)) none).run Try.prog w' = .ok (.slice a' j cap') w') ∧ Parts w (.slice a' j cap') (l.take j) := by
  have hcap : ∀ a cap, v = .slice a l.length cap → l.length ≤ cap := fun a cap e => by
    rcases h with ⟨rfl, a', cap', e', hn⟩ | ⟨b, off, cap', e', hl, hc⟩
    · simp
    · rw [e] at e'; cases e'; exact hl
  obtain ⟨a, cap, rfl⟩ := h.len
  have hlc := hcap a cap rfl
  obtain ⟨a', cap', e⟩ := sliced_slice a 0 j cap
  have hp := h.part 0 j (Nat.zero_le _) hj
  rw [e] at hp
  refine ⟨a', cap', fun w' => ?_, by simpa using hp⟩
  rw [run_slice_h w' 40 a l.length cap under40 .i64 j (by omega) (by omega), elem40, Try.sizeOf32 w']
  simp only [Result.andThen, Int.toNat_natCast]
  rw [e]; simp

/-- A machine that can be read. -/
structure MR (w : World) (b : Nat) (m : Mach) : Prop where
  blk : Blk w b #[.int .i64 m.sp, .int .i64 m.ap, .int .i64 m.st, m.rv, .map (some m.bm)] 51
  row : Parts w m.rv m.rs
  el : ∀ p ∈ m.rs, p.2.length ≤ 1024
  span : 1 ≤ m.sp
  top : m.st ≤ 1099511627775
  few : m.rs.length ≤ 1000000000
theorem MR.kept {w w' : World} {b : Nat} {m : Mach} (h : MR w b m) (hg : w.grownBy w' none) : MR w' b m := ⟨h.blk.kept hg (by simp), h.row.kept hg, h.el, h.span, h.top, h.few⟩
theorem row_parts {W : World} {B : Nat} {pv : Value} {ps : List (Value × List UInt8)} (hr : W.ownsRow B 32 1 pv ps.length (ps.map Prod.fst)) (el : ∀ p ∈ ps, Byt W p.1 p.2) : Parts W pv ps := by
  by_cases h0 : 0 < ps.length
  · obtain ⟨g, cap, hv, hc, _, hx⟩ := row_get hr h0
    refine .inr ⟨g, 0, cap, hv, hc, fun j p hj => ⟨?_, el p (List.mem_of_getElem? hj)⟩⟩
    have := hx j p.1 (by simp [hj])
    simpa using this
  · obtain rfl : ps = [] := by cases ps with | nil => rfl | cons => simp at h0
    rcases hr.2 with ⟨hv, _⟩ | ⟨g, cap, cur, hv, _⟩
    · exact .inl ⟨rfl, none, 0, by simpa using hv, fun _ => rfl⟩
    · exact .inl ⟨rfl, some ⟨g, 0, none⟩, cap, by simpa using hv, fun h => by cases h⟩
theorem IsM.mr {w : World} {Z : Nat → Prop} {b : Nat} {m : Mach} (h : IsM w Z b m) (hl : m.rs.length ≤ 1000000000) : MR w b m := ⟨h.blk, row_parts h.row (fun p hp => (h.el p hp).1), fun p hp => (h.el p hp).2.1, h.span.1, h.top.2, hl⟩
theorem MR.cells {w : World} {b : Nat} {m : Mach} (h : MR w b m) : w.cell? ⟨b, 0, none⟩ = some (.int .i64 m.sp) ∧ w.cell? ⟨b, 1, none⟩ = some (.int .i64 m.ap) ∧ w.cell? ⟨b, 2, none⟩ = some (.int .i64 m.st) ∧ w.cell? ⟨b, 3, none⟩ = some m.rv ∧ w.cell? ⟨b, 4, none⟩ = some (.map (some m.bm)) :=
  ⟨by rw [h.blk.cell]; rfl, by rw [h.blk.cell]; rfl, by rw [h.blk.cell]; rfl, by rw [h.blk.cell]; rfl, by rw [h.blk.cell]; rfl⟩
theorem made_mr {w : World} {b : Nat} {m : Mach} (h : MR w b m) : Calls Try.prog 19 #[.pointer (some ⟨b, 0, none⟩)] w fun e w' => e = .returned (.bool true) ∧ w' = w := by
  have := made_at b m.sp w h.cells.1
  rwa [show decide (0 < m.sp) = true from decide_eq_true h.span] at this
theorem next_mr {w : World} {b : Nat} {m : Mach} (h : MR w b m) : Calls Try.prog 11 #[.pointer (some ⟨b, 0, none⟩)] w fun e w' => e = .returned (.int .i64 (m.st + m.rs.length : Nat)) ∧ ∃ nq, w' = w.drewN nq := by
  have HM := hid_mk (made_mr h)
  obtain ⟨c0, c1, c2, c3, c4⟩ := h.cells
  obtain ⟨ra, rc, hrv⟩ := h.row.len
  rw [hrv] at c3
  have ht := h.top
  have hf := h.few
  clear h
  go_enter Try.func11, Try.ntmps11
  go_wp2_with (go_at_call 19; refine HM.out.mono ?_; rintro e w' ⟨rfl, hw⟩; rw [hw]; clear hw)
  go_quiet (fail)
  go_wp2
  go_ret
  exact ⟨ret_int (by omega), _, rfl⟩
theorem start_mr {w : World} {b : Nat} {m : Mach} (h : MR w b m) : Calls Try.prog 18 #[.pointer (some ⟨b, 0, none⟩)] w fun e w' => e = .returned (.int .i64 m.st) ∧ w' = w := by
  have HM := hid_mk (made_mr h)
  obtain ⟨c0, c1, c2, c3, c4⟩ := h.cells
  clear h
  go_enter Try.func18, Try.ntmps18
  go_wp2_with (go_at_call 19; refine HM.out.mono ?_; rintro e w' ⟨rfl, hw⟩; rw [hw]; clear hw)
  go_ret
  exact ⟨rfl, rfl⟩

theorem Parts.get {w : World} {a : Option Addr} {n c : Nat} {l : List (Value × List UInt8)} (h : Parts w (.slice a n c) l) (j : Nat) (hj : j < l.length) : ∃ b off pa pc, a = some ⟨b, off, none⟩ ∧ n = l.length ∧ n ≤ c ∧ l[j].1 = .slice pa l[j].2.length pc ∧ w.cell? ⟨b, off + j, none⟩ = some (.slice pa l[j].2.length pc) ∧ Byt w (.slice pa l[j].2.length pc) l[j].2 := by
  rcases h with ⟨rfl, _⟩ | ⟨b, off, cap, e, hl, hc⟩
  · simp at hj
  · cases e
    obtain ⟨h1, h2⟩ := hc j l[j] (by simp [hj])
    obtain ⟨pa, pc, e⟩ := h2.len
    rw [e] at h1 h2
    exact ⟨b, off, pa, pc, rfl, rfl, hl, e, h1, h2⟩

set_option maxHeartbeats 4000000 in
theorem read_walk {w : World} {b : Nat} {m : Mach} (h : MR w b m) (i k k' : Nat) (hi : i ≤ m.rs.length) (hk : k ≤ 1000000000) (hkk : (k = 0 ∧ k' = 0) ∨ (0 < k ∧ k ≤ m.rs.length - i ∧ k = k') ∨ (m.rs.length - i < k ∧ k' = m.rs.length - i)) : Calls Try.prog 15 #[.pointer (some ⟨b, 0, none⟩), .int .i64 ((m.st : Int) + (i : Int)), .int .i64 k] w fun e w' => ∃ a c ps, e = .returned (.tuple #[.slice a k' c, .int .i64 0]) ∧ ps.length = k' ∧ ps.map Prod.snd = (((m.rs.drop i).take k').map Prod.snd) ∧ Parts w' (.slice a k' c) ps ∧ w.grownBy w' none := by
  have HM := hid_mk (made_mr h)
  have HN := hid_mk (next_mr h)
  obtain ⟨c0, c1, c2, c3, c4⟩ := h.cells
  obtain ⟨ra, rc, hrv⟩ := h.row.len
  have ht := h.top
  have hf := h.few
  obtain ⟨a1, q1, hs1, hp1⟩ := h.row.l i hi
  have hl1 : (m.rs.drop i).length = m.rs.length - i := by simp
  rw [hrv] at c3 hs1
  rw [← hl1] at hp1 hs1 hkk
  obtain ⟨a2, q2, hs2, hp2⟩ := hp1.h k' (by omega)
  have hl2 : ((m.rs.drop i).take k').length = k' := by simp at hkk ⊢; omega
  have HP := hid_mk (show Parts w (.slice a2 k' q2) ((m.rs.drop i).take k') ∧ (∀ p ∈ (m.rs.drop i).take k', p.2.length ≤ 1024) ∧ ((m.rs.drop i).take k').length = k' from ⟨hp2, fun p hp => h.el p (List.mem_of_mem_drop (List.mem_of_mem_take hp)), hl2⟩)
  have hn1 : (m.rs.drop i).length ≤ 1000000000 := by omega
  clear hl2
  generalize (m.rs.drop i).take k' = L at *
  generalize (m.rs.drop i).length = n1 at *
  have n1' : ¬ ((m.st : Int) + (i : Int) < (m.st : Int)) := by omega
  have n2' : ¬ (((m.st + m.rs.length : Nat) : Int) < (m.st : Int) + (i : Int)) := by omega
  have hk1 : k' ≤ 1000000000 := by omega
  have hs1' : ∀ w', (Instr.slice 40 (.slice ra m.rs.length rc) (some (.int .i64 ((m.st : Int) + (i : Int) - (m.st : Int)))) none none).run Try.prog w' = .ok (.slice a1 n1 q1) w' := by
    rw [show (m.st : Int) + (i : Int) - (m.st : Int) = (i : Int) by omega]; exact hs1
  clear h hrv hp1 hp2 hl1 hi hs1
  rcases hkk with ⟨rfl, h0⟩ | ⟨hx1, hx2, h0⟩ | ⟨hx1, h0⟩
  all_goals
    have hS : ∀ kv : Int, kv = (k' : Int) → ∀ w', (Instr.slice 40 (.slice a1 n1 q1) none (some (.int .i64 kv)) none).run Try.prog w' = .ok (.slice a2 k' q2) w' := fun kv e => by rw [e]; exact hs2
    first
      | have hs2' := hS 0 (by omega)
      | have hs2' := hS k (by omega)
      | have hs2' := hS n1 (by omega)
    clear hS
    clear h0 hs2
    go_enter Try.func15, Try.ntmps15
    go_wp2_with (first
      | (go_at_call 19; refine HM.out.mono ?_; rintro e w' ⟨rfl, hw⟩; rw [hw]; clear hw)
      | (go_at_call 11; refine HN.out.mono ?_; rintro e w' ⟨rfl, nx, hw⟩; rw [hw]; clear hw))
    have HW := hid_mk (show w.grownBy (w.drewN nx) none from grown_drewN _ _ _)
    have c2' : (w.drewN nx).cell? ⟨b, 2, none⟩ = some (.int .i64 m.st) := (grown_drewN w nx none).cell c2 (by simp)
    have c3' : (w.drewN nx).cell? ⟨b, 3, none⟩ = some (.slice ra m.rs.length rc) := (grown_drewN w nx none).cell c3 (by simp)
    generalize w.drewN nx = w1 at *
    clear c0 c1 c2 c3 c4
    go_quiet (fail)
    have HV := hid_mk (show w.grownBy (w1.drewN nq) none from grown_trans HW.out (grown_drewN _ _ _))
    generalize w1.drewN nq = w2 at *
    clear HW c2' c3'
    go_wp2_with fail
    clear hs1' hs2' n1' n2' HM HN
    generalize decide (m.rs.length < i) = t24
    generalize decide ((m.st : Int) + (i : Int) < (m.st : Int)) = t20
    go_loopw [9, 44] (fun pv iv W => ∃ (j : Nat) (a : Option Addr) (c : Nat), j ≤ k' ∧ iv = .int .i64 j ∧ pv = .slice a j c ∧ Hid (∃ ps : List (Value × List UInt8), ps.length = j ∧ ps.map Prod.snd = (L.take j).map Prod.snd ∧ Pp w2 W pv ps)) (fun _ iv _ => k' - (intOf iv).toNat)
    case atStart => exact ⟨0, none, 0, Nat.zero_le _, rfl, rfl, hid_mk ⟨[], rfl, rfl, Pp.nil w2⟩⟩
    case round =>
      obtain ⟨j, a, c, hj, rfl, rfl, H⟩ := hrel
      rename World => W
      obtain ⟨ps, hps, hpm, hP⟩ := H.out
      have HQ := hid_mk (And.intro hps (And.intro hpm hP))
      clear H hps hpm hP
      by_cases hlt : j < k'
      · have hltL : j < L.length := by have := HP.out.2.2; omega
        obtain ⟨g, off, pa, pc, hpa, -, hcap, hp1, hp2, hp3⟩ := HP.out.1.get j hltL
        have hpl : L[j].2.length ≤ 1024 := HP.out.2.1 _ (List.getElem_mem hltL)
        have HX := hid_mk (show (L.take (j + 1)).map Prod.snd = (L.take j).map Prod.snd ++ [L[j].2] by rw [List.take_succ_eq_append_getElem hltL, List.map_append]; rfl)
        clear hp1
        generalize L[j].2 = x at *
        subst hpa
        have HY := hid_mk (hp3.kept (grown_trans HV.out HQ.out.2.2.gr))
        have hcell : W.cell? ⟨g, off + j, none⟩ = some (.slice pa x.length pc) := (grown_trans HV.out HQ.out.2.2.gr).cell hp2 (by simp)
        clear hp2 hp3
        have hlt' : (j : Int) < (k' : Int) := by omega
        go_wp2_with fail
        refine (clone_any _ x W HY.out (by omega)).mono ?_
        rintro e W1 ⟨v', rfl, ho, hg⟩
        obtain ⟨xa, xc, rfl⟩ := ho.len
        obtain ⟨xn, hxn⟩ : ∃ n, n = x.length := ⟨_, rfl⟩
        rw [← hxn] at ho ⊢
        have H1 := hid_mk (And.intro ho hg)
        clear ho hg hxn hcell HY
        go_wp2_with (at_builtin; refine wp_part (HQ.out.2.2.kept H1.out.2) xa xc xn x (by have := H1.out.1.byt; exact this) (own_blk5 H1.out.1) j HQ.out.1.symm (by omega) rfl (.tmp 48) (.tmp 51) rfl rfl rfl ?_; intro a' c' W' H')
        go_roundw
        case rel => exact ⟨j + 1, a', c', by omega, by go_num, rfl, hid_mk ⟨_, by rw [List.length_append, HQ.out.1]; rfl, by rw [List.map_append, HQ.out.2.1, HX.out]; rfl, H'.out⟩⟩
        case measure => simp [intOf]; omega
      · have hjk : j = k' := by omega
        subst hjk
        have hnlt : ¬ ((j : Int) < (j : Int)) := by omega
        go_wp2_with fail
        go_ret2
        have h1 := HQ.out.2.1
        rw [← HP.out.2.2, List.take_length] at h1
        exact ⟨a, c, rfl, ps, HQ.out.1, h1, by have := HQ.out.2.2.parts; exact this, grown_trans HV.out HQ.out.2.2.gr⟩

end Go.Proofs.Ytpncbehabfkhkab.W
