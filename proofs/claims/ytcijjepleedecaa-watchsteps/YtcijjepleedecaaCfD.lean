/- conf: joined, with, without, Change. -/
import Derived.Test.YtcijjepleedecaaCfC
namespace Go.Proofs.Ytcijjepleedecaa.C
open Go.RowKit Go.Maps
set_option linter.unusedVariables false
set_option linter.unusedSimpArgs false
set_option maxRecDepth 100000

/-- append(l, m...). -/
theorem wp_joini {w W : World} {v u : Value} {l m : List Int} (hgr : w.grownBy W none) (h : OwnI W w.heap.size v l) (hm : IntsR W u m) (n : Nat) (hn : n = (l ++ m).length) (hl : n ≤ 17592186044416) {ops : Array Oper} {rest : List Oper} {o : Oper} {a : Act} {Q : Exit → Act → World → Prop} (hgd : o.guard = none) (s y : Operand)
    (ho : o.op = .call { callee := .builtin .append, args := #[s, y], argTypes := #[43, 43] }) (hs : a.eval s = v) (hy : a.eval y = u)
    (hc : ∀ a' c' W', Hid (OwnI W' w.heap.size (.slice a' n c') (l ++ m) ∧ w.grownBy W' none) → wpList Try.prog ops Q rest (a.put o.dst (.slice a' n c')) W') :
    wpList Try.prog ops Q (o :: rest) a W := by
  subst hn
  obtain ⟨i0, hi, hz0, hz1, hz2⟩ := info_parts info3
  have hone : ∀ u ∈ i64s m, u.oneCell' = true := fun u hu => by
    obtain ⟨x, _, rfl⟩ := List.mem_map.1 hu; rfl
  have hll : l.length + m.length ≤ 17592186044416 := by simpa using hl
  have fin : ∀ v' w', w'.ownsRow w.heap.size 3 1 v' (l.length + m.length) (i64s l ++ i64s m) → W.grownBy w' v.ownBlock → wpList Try.prog ops Q rest (a.put o.dst v') w' := by
    intro v' w' hown hgr2
    obtain ⟨a', c', rfl⟩ := row_shape hown
    have e : (l ++ m).length = l.length + m.length := by simp
    have := hc a' c' w' (hid_mk ⟨by unfold OwnI; rw [e, show i64s (l ++ m) = i64s l ++ i64s m by simp [i64s]]; exact hown, grown_row hgr h hgr2⟩)
    rwa [e] at this
  by_cases h0 : 0 < m.length
  · obtain ⟨b, off, cap, e, _, hcl⟩ := hm.at h0
    subst e
    refine wpList_append_own_at _ hgd s y 43 ho w.heap.size 3 i0 (.int .i64 0) 1 8 Try.underlying43 hi hz0 hz1 hz2 rfl (by decide) v l.length (i64s l) hs h ⟨b, off, none⟩ m.length cap (i64s m) hy (by simp [i64s]) (fun j u hj => ?_) hone (by unfold maxLen; omega) (by omega) hgr.size ?_
    · simp only [i64s, List.getElem?_map, Option.map_eq_some_iff] at hj
      obtain ⟨x, hx, rfl⟩ := hj
      rw [← hcl j x hx]; congr 1; unfold Addr.add; split <;> simp_all
    · intro v' w' hown hgr2 _ _
      exact fin v' w' hown hgr2
  · obtain rfl : m = [] := List.length_eq_zero_iff.1 (by omega)
    obtain ⟨av, cv, rfl⟩ := hm.len
    cases av with
    | none =>
      have hcv : cv = 0 := by
        rcases hm with ⟨_, a', cap', e, hn⟩ | ⟨b, off, cap', e, _⟩
        · injection e with e1 _ e3; subst e3; exact hn e1.symm
        · injection e with e1; cases e1
      subst hcv
      refine wpList_plain hgd fun K hK' => ?_
      have hrun := run_append_owned_none (P := Try.prog) W w.heap.size 43 o.type 3 i0 1 Try.underlying43 hi _ l.length (i64s l) h
      unfold Oper.wp
      simp [execOp, ho, resolve, invoke, builtin, hs, hy, hrun, Result.andThen]
      exact hK' _ _ (fin v W (by simpa [i64s, OwnI] using h) (grown_any (grown_refl W none) _))
    | some ad =>
      refine wpList_append_own_at _ hgd s y 43 ho w.heap.size 3 i0 (.int .i64 0) 1 8 Try.underlying43 hi hz0 hz1 hz2 rfl (by decide) v l.length (i64s l) hs h ad 0 cv [] hy (by simp) (fun j u hj => by simp at hj) (by simp) (by unfold maxLen; omega) (by omega) hgr.size ?_
      intro v' w' hown hgr2 _ _
      exact fin v' w' (by simpa [i64s] using hown) hgr2

theorem OwnI.lower {w : World} {B B' : Nat} {v : Value} {l : List Int} (hB : B' ≤ B) (h : OwnI w B v l) : OwnI w B' v l := by
  refine ⟨h.1, ?_⟩
  rcases h.2 with hn | ⟨g, cap, cur, hv, hb, rest⟩
  · exact .inl hn
  · exact .inr ⟨g, cap, cur, hv, Nat.le_trans hB hb, rest⟩
/-- Parts in a row. -/
def PartsR (w : World) (g : Nat) (ps : List (Value × List Int)) : Prop := ∀ (j : Nat) (p : Value × List Int), ps[j]? = some p → w.cell? ⟨g, j, none⟩ = some p.1 ∧ IntsR w p.1 p.2
theorem PartsR.kept {w w' : World} {g : Nat} {ps : List (Value × List Int)} (h : PartsR w g ps) (hg : w.grownBy w' none) : PartsR w' g ps := fun j p hj => ⟨hg.cell (h j p hj).1 (by simp), (h j p hj).2.kept hg⟩
def flatP (ps : List (Value × List Int)) : List Int := (ps.map (·.2)).flatten
theorem flatP_take (ps : List (Value × List Int)) (k : Nat) (hk : k < ps.length) : flatP (ps.take (k + 1)) = flatP (ps.take k) ++ ps[k].2 := by
  unfold flatP
  rw [List.take_add_one, List.getElem?_eq_getElem hk, Option.toList_some, List.map_append, List.flatten_append]
  simp
theorem flatP_le (ps : List (Value × List Int)) (k : Nat) : (flatP (ps.take k)).length ≤ (flatP ps).length := by
  conv => rhs; rw [← List.take_append_drop k ps]
  unfold flatP
  rw [List.map_append, List.flatten_append, List.length_append]
  omega
set_option maxHeartbeats 1000000 in
theorem joined_any (g n c : Nat) (ps : List (Value × List Int)) (w : World) (hn : n = ps.length) (hn2 : n ≤ 10) (h : PartsR w g ps) (hl : (flatP ps).length ≤ 1000) :
    Calls Try.prog 85 #[.slice (some ⟨g, 0, none⟩) n c] w fun e w' => ∃ a c', e = .returned (.slice a (flatP ps).length c') ∧ OwnI w' w.heap.size (.slice a (flatP ps).length c') (flatP ps) ∧ w.grownBy w' none := by
  have HH := hid_mk (And.intro hn h)
  have HL := hid_mk hl
  clear hn h hl
  obtain ⟨ti, hi, hz, hsize, hby⟩ := info_parts info3
  obtain ⟨w1, hmk, hown, hgr⟩ := run_make_own (P := Try.prog) w w.heap.size 43 3 ti (.int .i64 0) 1 Try.underlying43 hi hz hsize .i64 .i64 7 (by rw [hby]; omega) (by unfold maxLen; omega) (Nat.le_refl _)
  have HO : Hid (OwnI w1 w.heap.size (.slice (some ⟨w.heap.size, 0, none⟩) 0 7) [] ∧ w.grownBy w1 none) := hid_mk (And.intro hown hgr)
  clear hown hgr hi hz hsize hby
  have hmk : (Instr.makeSlice 43 (.int .i64 0) (.int .i64 7)).run Try.prog w = .ok (.slice (some ⟨w.heap.size, 0, none⟩) 0 7) w1 := hmk
  go_enter Try.func85, Try.ntmps85
  go_wp2
  clear hmk
  go_loopg [3, 8] n (fun gg lv iv W => ∃ (k m : Nat) (a : Option Addr) (c' : Nat), k ≤ n ∧ gg = n - k ∧ iv = .int .i64 k ∧ lv = .slice a m c' ∧ Hid (m = (flatP (ps.take k)).length ∧ OwnI W w.heap.size (.slice a m c') (flatP (ps.take k)) ∧ w.grownBy W none))
  case atStart => exact ⟨0, 0, _, _, Nat.zero_le _, rfl, rfl, rfl, hid_mk ⟨rfl, HO.out⟩⟩
  case round =>
    obtain ⟨k, m, a, c', hk, hgk, rfl, rfl, H⟩ := hrel
    rename World => W
    clear HO
    by_cases hlt : k < n
    · have hlt' : (k : Int) < n := by omega
      have hkp : k < ps.length := by have := HH.out.1; omega
      obtain ⟨hcell, hints⟩ := (HH.out.2.kept H.out.2.2) k ps[k] (by simp [hkp])
      have HE := hid_mk (flatP_take ps k hkp)
      have HL2 := hid_mk (flatP_le ps (k + 1))
      have HI := hid_mk hints
      clear hints
      generalize ps[k] = p at *
      obtain ⟨pv, pl⟩ := p
      obtain ⟨pa, pc, hpv⟩ := HI.out.len
      simp only at hpv hcell
      subst hpv
      have HM := hid_mk (show (flatP (ps.take (k + 1))).length ≤ 17592186044416 by have := HL.out; have := HL2.out; omega)
      rw [HE.out] at HM
      go_wp2_with (at_builtin; refine wp_joini H.out.2.2 H.out.2.1 HI.out (flatP (ps.take k) ++ pl).length rfl HM.out rfl _ _ rfl rfl rfl ?_; intro a2 c2 W2 H2)
      go_roundg (n - (k + 1))
      case measure => omega
      case rel => exact ⟨k + 1, _, a2, c2, by omega, rfl, by go_num, rfl, hid_mk ⟨by rw [HE.out, List.length_append], by rw [HE.out, ← List.length_append]; exact H2.out.1, H2.out.2⟩⟩
    · have hlt' : ¬ (k : Int) < n := by omega
      have hkn : k = n := by omega
      go_wp2_with fail
      go_ret
      have e : ps.take k = ps := List.take_of_length_le (by have := HH.out.1; omega)
      have h2 := H.out
      rw [e] at h2
      obtain ⟨rfl, h3, h4⟩ := h2
      exact ⟨a, c', rfl, h3, h4⟩

/-! ### Parts of a row -/
theorem under22 : Try.prog.underlying 43 = some (.slice (Try.prog.elem 43)) := by kernel_rfl
theorem elem22 : Try.prog.elem 43 = 3 := by kernel_rfl
/-- A part of what can be read can be read. -/
theorem IntsR.part {w : World} {a : Option Addr} {l : List Int} {cap : Nat} (h : IntsR w (.slice a l.length cap) l) (i j : Nat) (hij : i ≤ j) (hj : j ≤ l.length) : IntsR w (sliced a i j cap 1) ((l.take j).drop i) := by
  rcases h with ⟨rfl, a', cap', e, hn⟩ | ⟨b, off, cap', e, hl, hc⟩
  · cases e
    have hj0 : j = 0 := by simpa using hj
    subst hj0
    have hi0 : i = 0 := by omega
    subst hi0
    refine .inl ⟨by simp, ?_⟩
    unfold sliced
    refine ⟨_, _, rfl, ?_⟩
    split
    · simpa using hn
    · intro hm; cases a <;> simp_all
  · cases e
    unfold sliced
    by_cases hm : cap = i
    · have : l.length = i := by omega
      subst hm
      have hji : j = cap := by omega
      subst hji
      refine .inl ⟨?_, ?_⟩
      · simp
      · exact ⟨some ⟨b, off, none⟩, 0, by simp, by simp⟩
    · rw [if_neg hm]
      refine .inr ⟨b, off + i, cap - i, ?_, ?_, fun k u hk => ?_⟩
      · simp [Addr.add]; omega
      · simp; omega
      · rw [List.getElem?_drop, List.getElem?_take] at hk
        split at hk
        · have := hc (i + k) u hk
          rw [Nat.add_assoc]; exact this
        · cases hk

theorem sliced_slice (a : Option Addr) (i j cap : Nat) : ∃ a' cap', sliced a i j cap 1 = .slice a' (j - i) cap' := ⟨_, _, rfl⟩

theorem IntsR.lh {w : World} {v : Value} {l : List Int} (h : IntsR w v l) (i j : Nat) (hij : i ≤ j) (hj : j ≤ l.length) :
    ∃ a' cap', (∀ w', (Instr.slice 43 v (some (.int .i64 i)) (some (.int .i64 j)) none).run Try.prog w' = .ok (.slice a' (j - i) cap') w') ∧ IntsR w (.slice a' (j - i) cap') ((l.take j).drop i) := by
  have hcap : ∀ a cap, v = .slice a l.length cap → l.length ≤ cap := fun a cap e => by
    rcases h with ⟨rfl, a', cap', e', hn⟩ | ⟨b, off, cap', e', hl, hc⟩
    · simp
    · rw [e] at e'; cases e'; exact hl
  obtain ⟨a, cap, rfl⟩ := h.len
  have hlc := hcap a cap rfl
  obtain ⟨a', cap', e⟩ := sliced_slice a i j cap
  have hp := h.part i j hij hj
  rw [e] at hp
  refine ⟨a', cap', fun w' => ?_, hp⟩
  rw [run_slice_lh w' 43 a l.length cap under22 .i64 .i64 i j (by omega) (by omega) (by omega), elem22, Try.sizeOf3 w']
  simp only [Result.andThen, Int.toNat_natCast]
  rw [e]
theorem IntsR.l {w : World} {v : Value} {l : List Int} (h : IntsR w v l) (i : Nat) (hi : i ≤ l.length) :
    ∃ a' cap', (∀ w', (Instr.slice 43 v (some (.int .i64 i)) none none).run Try.prog w' = .ok (.slice a' (l.length - i) cap') w') ∧ IntsR w (.slice a' (l.length - i) cap') (l.drop i) := by
  obtain ⟨a, cap, rfl⟩ := h.len
  obtain ⟨a', cap', e⟩ := sliced_slice a i l.length cap
  have hp := h.part i l.length hi (Nat.le_refl _)
  rw [e, List.take_length] at hp
  refine ⟨a', cap', fun w' => ?_, hp⟩
  rw [run_slice_l w' 43 a l.length cap under22 .i64 i (by omega) (by omega), elem22, Try.sizeOf3 w']
  simp only [Result.andThen, Int.toNat_natCast]
  rw [e]
theorem IntsR.h {w : World} {v : Value} {l : List Int} (h : IntsR w v l) (j : Nat) (hj : j ≤ l.length) :
    ∃ a' cap', (∀ w', (Instr.slice 43 v none (some (.int .i64 j)) none).run Try.prog w' = .ok (.slice a' j cap') w') ∧ IntsR w (.slice a' j cap') (l.take j) := by
  have hcap : ∀ a cap, v = .slice a l.length cap → l.length ≤ cap := fun a cap e => by
    rcases h with ⟨rfl, a', cap', e', hn⟩ | ⟨b, off, cap', e', hl, hc⟩
    · simp
    · rw [e] at e'; cases e'; exact hl
  obtain ⟨a, cap, rfl⟩ := h.len
  have hlc := hcap a cap rfl
  obtain ⟨a', cap', e⟩ := sliced_slice a 0 j cap
  have hp := h.part 0 j (Nat.zero_le _) hj
  rw [e] at hp
  refine ⟨a', cap', fun w' => ?_, by simpa using hp⟩
  rw [run_slice_h w' 43 a l.length cap under22 .i64 j (by omega) (by omega), elem22, Try.sizeOf3 w']
  simp only [Result.andThen, Int.toNat_natCast]
  rw [e]; simp

def ChPost (w : World) (l : List Int) (add : Bool) (id : Int) (e : Ending) (w' : World) : Prop := ∃ a c, e = .returned (.tuple #[.slice a (chL l add id).length c, .int .i64 (chE l add id)]) ∧ OwnI w' w.heap.size (.slice a (chL l add id).length c) (chL l add id) ∧ w.grownBy w' none
theorem parts_new3 (w : World) (p1 p2 p3 : Value × List Int) (t : TypeId) (h1 : IntsR w p1.1 p1.2) (h2 : IntsR w p2.1 p2.2) (h3 : IntsR w p3.1 p3.2) : PartsR (w.alloc (.cells #[p1.1, p2.1, p3.1] t)) w.heap.size [p1, p2, p3] := by
  have hg := World.grownBy_alloc w (.cells #[p1.1, p2.1, p3.1] t) none
  intro j p hj
  match j, hj with
  | 0, hj => simp at hj; subst hj; exact ⟨by rw [cell_of_row _ _ _ _ _ _ (heap_alloc_new w _)]; rfl, h1.kept hg⟩
  | 1, hj => simp at hj; subst hj; exact ⟨by rw [cell_of_row _ _ _ _ _ _ (heap_alloc_new w _)]; rfl, h2.kept hg⟩
  | 2, hj => simp at hj; subst hj; exact ⟨by rw [cell_of_row _ _ _ _ _ _ (heap_alloc_new w _)]; rfl, h3.kept hg⟩
theorem parts_new2 (w : World) (p1 p2 : Value × List Int) (t : TypeId) (h1 : IntsR w p1.1 p1.2) (h2 : IntsR w p2.1 p2.2) : PartsR (w.alloc (.cells #[p1.1, p2.1] t)) w.heap.size [p1, p2] := by
  have hg := World.grownBy_alloc w (.cells #[p1.1, p2.1] t) none
  intro j p hj
  match j, hj with
  | 0, hj => simp at hj; subst hj; exact ⟨by rw [cell_of_row _ _ _ _ _ _ (heap_alloc_new w _)]; rfl, h1.kept hg⟩
  | 1, hj => simp at hj; subst hj; exact ⟨by rw [cell_of_row _ _ _ _ _ _ (heap_alloc_new w _)]; rfl, h2.kept hg⟩
set_option maxHeartbeats 1000000 in
theorem with_any (v : Value) (l : List Int) (id : Int) (w : World) (hr : Rt l) (hid : 0 ≤ id ∧ id < 16) (h : IntsR w v l) : Calls Try.prog 79 #[v, .int .i64 id] w (ChPost w l true id) := by
  have hl : l.length ≤ 17592186044416 := by have := hr.2.1; omega
  have hA : (rtB l && inR id) = true := by rw [rtB_iff.2 hr, inR_iff.2 hid]; rfl
  have HC := hid_mk (has_any v l id w hl h)
  have HH := hid_mk (And.intro h (And.intro hr hid))
  have HA := hid_mk hA
  obtain ⟨a1, c1, rfl⟩ := h.len
  have h7 := hr.2.1
  have h71 := hr.1
  clear h hA hid hr
  by_cases hm : id ∈ l
  · rw [show decide (id ∈ l) = true by simp [hm]] at HC
    obtain ⟨e1, e2⟩ := chE_bad (add := true) HA.out (by unfold chB; simp [hm])
    unfold ChPost
    rw [e1, e2]
    have HM := hid_mk hm
    clear hm e1 e2
    go_enter Try.func79, Try.ntmps79
    go_wp2_with (go_at_call 74; refine HC.out.mono ?_; rintro e w' ⟨rfl, hg⟩; have HG := hid_mk hg; clear hg)
    refine bodyPost_ret (v := .tuple #[.slice none 0 0, .int .i64 33]) (by simp [results, Try.results79, go_sem]) rfl ?_
    exact ⟨none, 0, rfl, OwnI.nil _ _, HG.out⟩
  · rw [show decide (id ∈ l) = false by simp [hm]] at HC
    by_cases h77 : l.length = 7
    · obtain ⟨e1, e2⟩ := chE_bad (add := true) HA.out (by unfold chB; simp [h77])
      unfold ChPost
      rw [e1, e2]
      have h78 : (7 : Int) ≤ l.length := by omega
      clear hm e1 e2 h77
      generalize l.length = L at *
      go_enter Try.func79, Try.ntmps79
      go_wp2_with (go_at_call 74; refine HC.out.mono ?_; rintro e w' ⟨rfl, hg⟩; have HG := hid_mk hg; clear hg)
      refine bodyPost_ret (v := .tuple #[.slice none 0 0, .int .i64 33]) (by simp [results, Try.results79, go_sem]) rfl ?_
      exact ⟨none, 0, rfl, OwnI.nil _ _, HG.out⟩
    · obtain ⟨e1, e2⟩ := chE_ok (add := true) HA.out (by unfold chB; simp [hm]; omega)
      unfold ChPost
      rw [e1, e2]
      have HM := hid_mk hm
      have h78 : ¬ (7 : Int) ≤ l.length := by omega
      clear hm e1 e2 h77
      go_enter Try.func79, Try.ntmps79
      go_wp2_with (go_at_call 74; refine HC.out.mono ?_; rintro e w1 ⟨rfl, hg⟩; have HG := hid_mk hg; clear hg)
      refine (placeOf_any _ l id w1 hl (HH.out.1.kept HG.out)).mono ?_
      rintro e w2 ⟨k, hk, rfl, hg2⟩
      have HG2 := hid_mk (grown_trans HG.out hg2)
      have HK := hid_mk hk
      have hkl := hk.1
      clear hk hg2 HG HC
      go_wp2_with fail
      obtain ⟨pa, pc, hs1, hi1⟩ := (HH.out.1.kept HG2.out).h k hkl
      obtain ⟨qa, qc, hs2, hi2⟩ := (HH.out.1.kept HG2.out).l k hkl
      have HI := hid_mk (And.intro hi1 hi2)
      clear hi1 hi2
      refine wp_region_mix [(0, true), (1, true), (2, true), (3, true), (5, true), (6, true), (7, true), (4, false), (8, false), (9, false), (10, true), (11, true)] (at0 w2 (fun W0 => w2.grownBy W0 none)) (by kernel_rfl) (by kernel_rfl) rfl (by kernel_rfl) (shut_at0 (fun m => grown_drewN _ m none)) ⟨1, rfl⟩ ?_
      repeat (first
        | (refine mix_rd1 rfl rfl (fun K hK => ?_); apply Exists.intro; refine ⟨fun W0 hW => ?_, ?_⟩; (go_simp; rfl); (go_simp; refine hK _ _ ?_; clear hK K)))
      clear hs1 hs2
      refine mix_do rfl rfl ?_
      rintro W0 ⟨m3, rfl⟩
      refine ⟨.slice (some ⟨w2.heap.size, 0, none⟩) 1 1, (w2.drewN m3).alloc (.cells #[.int .i64 id] 3), by go_simp, ?_⟩
      obtain ⟨w3, hw3⟩ : ∃ w3, w3 = (w2.drewN m3).alloc (.cells #[.int .i64 id] 3) := ⟨_, rfl⟩
      have hi3 : IntsR w3 (.slice (some ⟨w2.heap.size, 0, none⟩) 1 1) [id] := by rw [hw3]; exact ints_new (w2.drewN m3) [id] 3 _ rfl
      have G3 : Hid (w2.grownBy w3 none) := hid_mk (by rw [hw3]; exact ga (grown_drewN _ _ none) _)
      have HI3 := hid_mk (And.intro (HI.out.1.kept G3.out) (And.intro hi3 (HI.out.2.kept G3.out)))
      rw [← hw3]
      clear hw3 hi3
      refine ⟨at0 w3 (fun W0 => w3.grownBy W0 none), ⟨0, rfl⟩, shut_at0 (fun m => grown_drewN _ m none), fun _ h => grown_trans G3.out h, ?_⟩
      go_simp
      refine mix_do rfl rfl ?_
      rintro W0 ⟨m4, rfl⟩
      refine ⟨.slice (some ⟨w3.heap.size, 0, none⟩) 3 3, (w3.drewN m4).alloc (.cells #[.slice pa k pc, .slice (some ⟨w2.heap.size, 0, none⟩) 1 1, .slice qa (l.length - k) qc] 43), by go_simp, ?_⟩
      have HP := hid_mk (parts_new3 (w3.drewN m4) (.slice pa k pc, l.take k) (.slice (some ⟨w2.heap.size, 0, none⟩) 1 1, [id]) (.slice qa (l.length - k) qc, l.drop k) 43 (HI3.out.1.kept (grown_drewN _ _ none)) (HI3.out.2.1.kept (grown_drewN _ _ none)) (HI3.out.2.2.kept (grown_drewN _ _ none)))
      obtain ⟨w4, hw4⟩ : ∃ w4, w4 = (w3.drewN m4).alloc (.cells #[.slice pa k pc, .slice (some ⟨w2.heap.size, 0, none⟩) 1 1, .slice qa (l.length - k) qc] 43) := ⟨_, rfl⟩
      simp only at HP
      rw [← hw4] at HP ⊢
      have G4 : Hid (w3.grownBy w4 none) := hid_mk (by rw [hw4]; exact ga (grown_drewN _ _ none) _)
      have HZ : (w3.drewN m4).heap.size = w3.heap.size := rfl
      rw [HZ] at HP
      clear hw4 HZ HI3 HI
      refine ⟨at0 w4 (fun W0 => w4.grownBy W0 none), ⟨0, rfl⟩, shut_at0 (fun m => grown_drewN _ m none), fun _ h => grown_trans G4.out h, ?_⟩
      go_simp
      have HF := hid_mk (show flatP [((.slice pa k pc : Value), l.take k), (.slice (some ⟨w2.heap.size, 0, none⟩) 1 1, [id]), (.slice qa (l.length - k) qc, l.drop k)] = mk l true id from by rw [← add_is HH.out.2.1 HH.out.2.2 HM.out HK.out]; simp [flatP])
      have HN := hid_mk (mk_len_add HH.out.2.1 HH.out.2.2 HM.out)
      refine mix_call rfl rfl 85 #[.slice (some ⟨w3.heap.size, 0, none⟩) 3 3] (fun W0 => by go_simp) ?_
      rintro W0 ⟨m5, rfl⟩
      refine (joined_any w3.heap.size 3 3 _ (w4.drewN m5) rfl (by omega) (HP.out.kept (grown_drewN _ _ none)) (by rw [HF.out, HN.out]; omega)).mono ?_
      rintro e w5 ⟨a5, c5, rfl, ho5, hg5⟩
      rw [HF.out] at ho5 ⊢
      have G5 := hid_mk (grown_trans (grown_drewN w4 m5 none) hg5)
      have H5 := hid_mk (show OwnI w5 w4.heap.size (.slice a5 (mk l true id).length c5) (mk l true id) from ho5)
      clear ho5 hg5 HF
      generalize hMe : mk l true id = M at H5 HN ⊢
      have HMe := hid_mk hMe
      clear hMe
      refine ⟨_, rfl, at0 w5 (fun W0 => w5.grownBy W0 none), ⟨0, rfl⟩, shut_at0 (fun m => grown_drewN _ m none), fun _ h => grown_trans G5.out h, ?_⟩
      repeat (first
        | (refine mix_rd1 rfl rfl (fun K hK => ?_); apply Exists.intro; refine ⟨fun W0 hW => ?_, ?_⟩; (go_simp; rfl); (go_simp; refine hK _ _ ?_; clear hK K)))
      refine mix_nil ?_
      rintro W1 ⟨m6, rfl⟩
      go_wp2
      refine bodyPost_ret (v := .tuple #[.slice a5 M.length c5, .int .i64 0]) (by simp [results, Try.results79, go_sem]) rfl ?_
      have GG := grown_trans HG2.out (grown_trans G3.out G4.out)
      obtain rfl := HMe.out
      refine ⟨a5, c5, rfl, OwnI.lower GG.size (H5.out.kept (grown_drewN _ _ none)), grown_trans GG (grown_trans G5.out (grown_drewN _ _ none))⟩
set_option maxHeartbeats 1000000 in
theorem without_any (v : Value) (l : List Int) (id : Int) (w : World) (hr : Rt l) (hid : 0 ≤ id ∧ id < 16) (h : IntsR w v l) : Calls Try.prog 80 #[v, .int .i64 id] w (ChPost w l false id) := by
  have hl : l.length ≤ 17592186044416 := by have := hr.2.1; omega
  have hA : (rtB l && inR id) = true := by rw [rtB_iff.2 hr, inR_iff.2 hid]; rfl
  have HC := hid_mk (has_any v l id w hl h)
  have HH := hid_mk (And.intro h (And.intro hr hid))
  have HA := hid_mk hA
  obtain ⟨a1, c1, rfl⟩ := h.len
  have h7 := hr.2.1
  have h71 := hr.1
  clear h hA hid hr
  by_cases hm : ¬ id ∈ l
  · rw [show decide (id ∈ l) = false by simp [hm]] at HC
    obtain ⟨e1, e2⟩ := chE_bad (add := false) HA.out (by unfold chB; simp [hm])
    unfold ChPost
    rw [e1, e2]
    have HM := hid_mk hm
    clear hm e1 e2
    go_enter Try.func80, Try.ntmps80
    go_wp2_with (go_at_call 74; refine HC.out.mono ?_; rintro e w' ⟨rfl, hg⟩; have HG := hid_mk hg; clear hg)
    refine bodyPost_ret (v := .tuple #[.slice none 0 0, .int .i64 33]) (by simp [results, Try.results80, go_sem]) rfl ?_
    exact ⟨none, 0, rfl, OwnI.nil _ _, HG.out⟩
  · replace hm : id ∈ l := Classical.byContradiction hm
    rw [show decide (id ∈ l) = true by simp [hm]] at HC
    by_cases h77 : l.length = 1
    · obtain ⟨e1, e2⟩ := chE_bad (add := false) HA.out (by unfold chB; simp [h77])
      unfold ChPost
      rw [e1, e2]
      have h78 : ((l.length : Int) == 1) = true := by simp [h77]
      clear hm e1 e2 h77
      generalize l.length = L at *
      go_enter Try.func80, Try.ntmps80
      go_wp2_with (go_at_call 74; refine HC.out.mono ?_; rintro e w' ⟨rfl, hg⟩; have HG := hid_mk hg; clear hg)
      refine bodyPost_ret (v := .tuple #[.slice none 0 0, .int .i64 33]) (by simp [results, Try.results80, go_sem]) rfl ?_
      exact ⟨none, 0, rfl, OwnI.nil _ _, HG.out⟩
    · obtain ⟨e1, e2⟩ := chE_ok (add := false) HA.out (by unfold chB; simp [hm, h77])
      unfold ChPost
      rw [e1, e2]
      have HM := hid_mk hm
      have h78 : ((l.length : Int) == 1) = false := by simp; omega
      clear hm e1 e2 h77
      go_enter Try.func80, Try.ntmps80
      go_wp2_with (go_at_call 74; refine HC.out.mono ?_; rintro e w1 ⟨rfl, hg⟩; have HG := hid_mk hg; clear hg)
      refine (placeOf_any _ l id w1 hl (HH.out.1.kept HG.out)).mono ?_
      rintro e w3 ⟨k, hk, rfl, hg2⟩
      have G3 := hid_mk (grown_trans HG.out hg2)
      have HK := hid_mk hk
      obtain ⟨hk1, _⟩ := del_at HH.out.2.1.2.2.2 HM.out hk
      have hkl := hk.1
      clear hk hg2 HG HC
      go_wp2_with fail
      obtain ⟨pa, pc, hs1, hi1⟩ := (HH.out.1.kept G3.out).h k hkl
      obtain ⟨qa, qc, hs2, hi2⟩ := (HH.out.1.kept G3.out).l (k + 1) (by omega)
      replace hs2 : ∀ w', (Instr.slice 43 (.slice a1 l.length c1) (some (.int .i64 ((k : Int) + 1))) none none).run Try.prog w' = .ok (.slice qa (l.length - (k + 1)) qc) w' := fun w' => by have := hs2 w'; rwa [show ((k + 1 : Nat) : Int) = (k : Int) + 1 by omega] at this
      have hwr : IntKind.i64.wrap ((k : Int) + 1) = (k : Int) + 1 := by rw [IntKind.wrap_i64]; omega
      have HI3 := hid_mk (And.intro hi1 hi2)
      clear hi1 hi2
      refine wp_region_mix [(0, true), (1, true), (2, true), (3, true), (4, true), (5, true), (6, true), (7, false), (8, false), (9, true), (10, true)] (at0 w3 (fun W0 => w3.grownBy W0 none)) (by kernel_rfl) (by kernel_rfl) rfl (by kernel_rfl) (shut_at0 (fun m => grown_drewN _ m none)) ⟨1, rfl⟩ ?_
      repeat (first
        | (refine mix_rd1 rfl rfl (fun K hK => ?_); apply Exists.intro; refine ⟨fun W0 hW => ?_, ?_⟩; (go_simp; rfl); (go_simp; refine hK _ _ ?_; clear hK K)))
      clear hs1 hs2 hwr
      refine mix_do rfl rfl ?_
      rintro W0 ⟨m4, rfl⟩
      refine ⟨.slice (some ⟨w3.heap.size, 0, none⟩) 2 2, (w3.drewN m4).alloc (.cells #[.slice pa k pc, .slice qa (l.length - (k + 1)) qc] 43), by go_simp, ?_⟩
      have HP := hid_mk (parts_new2 (w3.drewN m4) (.slice pa k pc, l.take k) (.slice qa (l.length - (k + 1)) qc, l.drop (k + 1)) 43 (HI3.out.1.kept (grown_drewN _ _ none)) (HI3.out.2.kept (grown_drewN _ _ none)))
      obtain ⟨w4, hw4⟩ : ∃ w4, w4 = (w3.drewN m4).alloc (.cells #[.slice pa k pc, .slice qa (l.length - (k + 1)) qc] 43) := ⟨_, rfl⟩
      simp only at HP
      rw [← hw4] at HP ⊢
      have G4 : Hid (w3.grownBy w4 none) := hid_mk (by rw [hw4]; exact ga (grown_drewN _ _ none) _)
      have HZ : (w3.drewN m4).heap.size = w3.heap.size := rfl
      rw [HZ] at HP
      clear hw4 HZ HI3
      refine ⟨at0 w4 (fun W0 => w4.grownBy W0 none), ⟨0, rfl⟩, shut_at0 (fun m => grown_drewN _ m none), fun _ h => grown_trans G4.out h, ?_⟩
      go_simp
      have HF := hid_mk (show flatP [((.slice pa k pc : Value), l.take k), (.slice qa (l.length - (k + 1)) qc, l.drop (k + 1))] = mk l false id from by rw [← del_is HH.out.2.1 HH.out.2.2 HM.out HK.out]; simp [flatP])
      have HN := hid_mk (mk_len_del HH.out.2.1 HH.out.2.2 HM.out)
      refine mix_call rfl rfl 85 #[.slice (some ⟨w3.heap.size, 0, none⟩) 2 2] (fun W0 => by go_simp) ?_
      rintro W0 ⟨m5, rfl⟩
      refine (joined_any w3.heap.size 2 2 _ (w4.drewN m5) rfl (by omega) (HP.out.kept (grown_drewN _ _ none)) (by rw [HF.out]; have := HN.out; omega)).mono ?_
      rintro e w5 ⟨a5, c5, rfl, ho5, hg5⟩
      rw [HF.out] at ho5 ⊢
      have G5 := hid_mk (grown_trans (grown_drewN w4 m5 none) hg5)
      have H5 := hid_mk (show OwnI w5 w4.heap.size (.slice a5 (mk l false id).length c5) (mk l false id) from ho5)
      clear ho5 hg5 HF
      generalize hMe : mk l false id = M at H5 HN ⊢
      have HMe := hid_mk hMe
      clear hMe
      refine ⟨_, rfl, at0 w5 (fun W0 => w5.grownBy W0 none), ⟨0, rfl⟩, shut_at0 (fun m => grown_drewN _ m none), fun _ h => grown_trans G5.out h, ?_⟩
      repeat (first
        | (refine mix_rd1 rfl rfl (fun K hK => ?_); apply Exists.intro; refine ⟨fun W0 hW => ?_, ?_⟩; (go_simp; rfl); (go_simp; refine hK _ _ ?_; clear hK K)))
      refine mix_nil ?_
      rintro W1 ⟨m6, rfl⟩
      go_wp2
      refine bodyPost_ret (v := .tuple #[.slice a5 M.length c5, .int .i64 0]) (by simp [results, Try.results80, go_sem]) rfl ?_
      have GG := grown_trans G3.out G4.out
      obtain rfl := HMe.out
      refine ⟨a5, c5, rfl, OwnI.lower GG.size (H5.out.kept (grown_drewN _ _ none)), grown_trans GG (grown_trans G5.out (grown_drewN _ _ none))⟩
set_option maxHeartbeats 1000000 in
theorem change_any (v : Value) (l : List Int) (add : Bool) (id : Int) (w : World) (hl : l.length ≤ 17592186044416) (h : IntsR w v l) : Calls Try.prog 73 #[v, .bool add, .int .i64 id] w (ChPost w l add id) := by
  have HC := hid_mk (right_any v l w hl h)
  have HM := hid_mk (mayBe_any id)
  have HH := hid_mk h
  obtain ⟨a1, c1, rfl⟩ := h.len
  clear h
  cases hr : rtB l
  · rw [hr] at HC
    obtain ⟨e1, e2⟩ := chE_arg (l := l) (add := add) (id := id) (by rw [hr]; rfl)
    unfold ChPost
    rw [e1, e2]
    clear hr e1 e2 HM
    go_enter Try.func73, Try.ntmps73
    go_wp2_with (go_at_call 37; refine HC.out.mono ?_; rintro e w1 ⟨rfl, hg⟩; have HG := hid_mk hg; clear hg)
    refine bodyPost_ret (v := .tuple #[.slice none 0 0, .int .i64 1]) (by simp [results, Try.results73, go_sem]) rfl ?_
    exact ⟨none, 0, rfl, OwnI.nil _ _, HG.out⟩
  · rw [hr] at HC
    cases hi : inR id
    · rw [hi] at HM
      obtain ⟨e1, e2⟩ := chE_arg (l := l) (add := add) (id := id) (by rw [hr, hi]; rfl)
      unfold ChPost
      rw [e1, e2]
      clear hr e1 e2 hi
      go_enter Try.func73, Try.ntmps73
      go_wp2_with (first
        | (go_at_call 37; refine HC.out.mono ?_; rintro e w1 ⟨rfl, hg⟩; have HG := hid_mk hg; clear hg)
        | (go_at_call 55; refine (HM.out _).mono ?_; rintro e w2 ⟨rfl, hw⟩; rw [hw]; clear hw))
      refine bodyPost_ret (v := .tuple #[.slice none 0 0, .int .i64 1]) (by simp [results, Try.results73, go_sem]) rfl ?_
      exact ⟨none, 0, rfl, OwnI.nil _ _, HG.out⟩
    · rw [hi] at HM
      have hid := inR_iff.1 hi
      have hrt := rtB_iff.1 hr
      have HX := hid_mk (And.intro hrt hid)
      clear hr hi hid hrt
      cases add
      · go_enter Try.func73, Try.ntmps73
        go_wp2_with (first
          | (go_at_call 37; refine HC.out.mono ?_; rintro e w1 ⟨rfl, hg⟩; have HG := hid_mk hg; clear hg)
          | (go_at_call 55; refine (HM.out _).mono ?_; rintro e w2 ⟨rfl, hw⟩; rw [hw]; clear hw))
        refine (without_any _ l id w1 HX.out.1 HX.out.2 (HH.out.kept HG.out)).mono ?_
        rintro e w3 ⟨a3, c3, rfl, ho3, hg3⟩
        have H3 := hid_mk (And.intro ho3 hg3)
        clear ho3 hg3 HC HM
        generalize hL : chL l false id = M at *
        generalize hE : chE l false id = E at *
        have HE := hid_mk (And.intro hL hE)
        clear hL hE
        go_wp2
        refine bodyPost_ret (v := .tuple #[.slice a3 M.length c3, .int .i64 E]) (by simp [results, Try.results73, go_sem]) rfl ?_
        obtain ⟨rfl, rfl⟩ := HE.out
        exact ⟨a3, c3, rfl, OwnI.lower HG.out.size H3.out.1, grown_trans HG.out H3.out.2⟩
      · go_enter Try.func73, Try.ntmps73
        go_wp2_with (first
          | (go_at_call 37; refine HC.out.mono ?_; rintro e w1 ⟨rfl, hg⟩; have HG := hid_mk hg; clear hg)
          | (go_at_call 55; refine (HM.out _).mono ?_; rintro e w2 ⟨rfl, hw⟩; rw [hw]; clear hw))
        refine (with_any _ l id w1 HX.out.1 HX.out.2 (HH.out.kept HG.out)).mono ?_
        rintro e w3 ⟨a3, c3, rfl, ho3, hg3⟩
        have H3 := hid_mk (And.intro ho3 hg3)
        clear ho3 hg3 HC HM
        generalize hL : chL l true id = M at *
        generalize hE : chE l true id = E at *
        have HE := hid_mk (And.intro hL hE)
        clear hL hE
        go_wp2
        refine bodyPost_ret (v := .tuple #[.slice a3 M.length c3, .int .i64 E]) (by simp [results, Try.results73, go_sem]) rfl ?_
        obtain ⟨rfl, rfl⟩ := HE.out
        exact ⟨a3, c3, rfl, OwnI.lower HG.out.size H3.out.1, grown_trans HG.out H3.out.2⟩
end Go.Proofs.Ytcijjepleedecaa.C
