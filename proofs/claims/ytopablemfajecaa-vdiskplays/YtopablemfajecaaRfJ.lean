/- The document's disk: Read, List. -/
import Derived.Test.YtopablemfajecaaRfI
namespace Go.Proofs.Ytopablemfajecaa
open Go.RowKit Go.Maps Go.WideMaps Go.WideElems Go.Sort Go.Shelf
set_option linter.unusedVariables false
set_option linter.unusedSimpArgs false
set_option maxRecDepth 100000

def RReadSpec (s : ByteArray) (r : RMem) (v : Value) (n : Int) : Prop :=
  (rightB s = false ∧ n = 1 ∧ v = .slice none 0 0) ∨ (rightB s = true ∧ (∀ p ∈ r.dir, p.1 ≠ s) ∧ n = 3 ∧ v = .slice none 0 0) ∨
  (rightB s = true ∧ ∃ (k : Nat) (p : ByteArray × Nat) (f : RFile), r.dir[k]? = some p ∧ p.1 = s ∧ r.files[p.2]? = some f ∧ n = 0 ∧ v = f.bv)

set_option maxHeartbeats 2000000 in
theorem rread_any (N b : Nat) (F : Nat → Prop) (r : RMem) (s : ByteArray) (w : World) (h : IsRef w F N b r) (hN : N ≤ 2000000000000) (hs : s.size ≤ maxLen) (hin : RIn r) : Calls Try.prog 41 #[.pointer (some ⟨b, 0, none⟩), .string s] w fun e w' => ∃ v n, e = .returned (.tuple #[v, .int .i64 n]) ∧ RReadSpec s r v n ∧ w.grownBy w' none := by
  have hnd : r.dir.length ≤ 2000000000000 := by have := h.nD; omega
  have HI := hid_mk (h)
  have HC := hid_mk (named_any s w hs)
  have HIN := hid_mk hin
  clear h hs hin
  go_enter Try.func41, Try.ntmps41
  go_wp2_with fail
  refine HC.out.mono ?_
  rintro e w1 ⟨rfl, rfl⟩
  clear HC
  cases hr : rightB s with
  | false =>
    go_wp2_with fail
    go_ret2
    exact ⟨_, _, rfl, .inl ⟨hr, rfl, rfl⟩, grown_refl _ _⟩
  | true =>
    obtain ⟨fa, fc, da, dc, e1, e2⟩ := HI.out.shape
    obtain ⟨_, _, c2, _⟩ := HI.out.cells e1 e2
    have HE := hid_mk (And.intro e1 e2)
    clear e1 e2
    go_wp2_with fail
    refine (find_any' _ r.dir s _ (HI.out.nmr HE.out.2) (by omega)).mono ?_
    rintro e w2 ⟨k, rfl, hf, hg⟩
    have HI2 := hid_mk (HI.out.kept_none hg)
    have HG2 := hid_mk hg
    clear hg c2
    rcases hf with ⟨k, p, rfl, hp, he⟩ | ⟨rfl, hno⟩
    · have hk0 : ¬ (k : Int) < 0 := by omega
      have hkl : k < r.dir.length := (List.getElem?_eq_some_iff.1 hp).1
      have hkI : (k : Int) < (r.dir.length : Int) := by omega
      obtain ⟨_, c1, c2, _⟩ := HI2.out.cells HE.out.1 HE.out.2
      obtain ⟨g, off, cap, ed, hcap, hcell⟩ := (HI2.out.nmr HE.out.2).at (by omega)
      injection ed with ed1 ed2 ed3
      subst ed1
      subst ed3
      have q0 := (hcell k p hp).1
      have q1 := (hcell k p hp).2
      have hfl := HIN.out _ (List.mem_of_getElem? hp)
      obtain ⟨ps, pf⟩ := p
      simp only at q0 q1 hfl
      have hf : r.files[pf]? = some r.files[pf] := List.getElem?_eq_getElem hfl
      obtain ⟨g2, cap2, ef, hcap2, _, _, x0, _, _, _⟩ := HI2.out.fileAt hf
      have hfe := HE.out.1
      rw [ef] at hfe
      injection hfe with hf1 hf2 hf3
      subst hf1
      subst hf3
      obtain ⟨ba, bc, eb⟩ := rows_shape (HI2.out.byts _ (List.mem_of_getElem? hf)).1
      have HP := hid_mk (show RReadSpec s r r.files[pf].bv 0 from .inr (.inr ⟨hr, k, (ps, pf), _, hp, he, hf, rfl, rfl⟩))
      rw [eb] at x0 HP
      generalize r.files[pf].data.length = L at *
      have hflI : (pf : Int) < (r.files.length : Int) := by omega
      clear hp hf eb ef hf2 ed2 hcell he
      go_wp2_with fail
      go_quiet (fail)
      go_wp2_with fail
      go_ret2
      exact ⟨_, _, rfl, HP.out, grown_trans HG2.out (grown_drewN _ _ _)⟩
    · have HN := hid_mk hno
      clear hno
      go_wp2_with fail
      go_ret2
      exact ⟨_, _, rfl, .inr (.inl ⟨hr, HN.out, rfl, rfl⟩), HG2.out⟩

theorem info9r : (Try.prog.info? 9).map (fun i => (i.zero, i.size, i.bytes)) = some (some (.string ByteArray.empty), 1, 16) := by kernel_rfl
set_option maxHeartbeats 2000000 in
theorem rlist_any (N b : Nat) (F : Nat → Prop) (r : RMem) (w : World) (h : IsRef w F N b r) (hN : N ≤ 2000000000000) : Calls Try.prog 40 #[.pointer (some ⟨b, 0, none⟩)] w fun e w' => ∃ v, e = .returned v ∧ w'.ownsRow w.heap.size 9 1 v r.dir.length (r.dir.map fun p => Value.string p.1) ∧ w.grownBy w' none := by
  have hnd : r.dir.length ≤ 2000000000000 := by have := h.nD; omega
  have HI := hid_mk h
  obtain ⟨i0, hi, hz0, hz1, hz2⟩ := info_parts info9r
  obtain ⟨fa, fc, da, dc, e1, e2⟩ := HI.out.shape
  have HE := hid_mk (And.intro e1 e2)
  clear e1 e2 h
  go_enter Try.func40, Try.ntmps40
  go_wp2_with fail
  go_loopw [3, 4] (fun ov iv W1 => ∃ (k : Nat) (oa : Option Addr) (oc : Nat), k ≤ r.dir.length ∧ iv = .int .i64 k ∧ ov = .slice oa k oc ∧ Hid (W1.ownsRow w.heap.size 9 1 (.slice oa k oc) k ((r.dir.take k).map fun p => Value.string p.1) ∧ w.grownBy W1 none)) (fun _ iv _ => r.dir.length - (intOf iv).toNat)
  case atStart => exact ⟨0, none, 0, Nat.zero_le _, rfl, rfl, hid_mk ⟨by simp; exact World.ownsRow_nil _ _ _ _, grown_refl _ _⟩⟩
  case round =>
    obtain ⟨k, oa, oc, hk, rfl, rfl, H⟩ := hrel
    have HIr := hid_mk (HI.out.kept_none H.out.2)
    obtain ⟨_, c1, c2, _⟩ := HIr.out.cells HE.out.1 HE.out.2
    by_cases hlt : k < r.dir.length
    · have hlI : (k : Int) < (r.dir.length : Int) := by omega
      obtain ⟨g, off, cap, ed, hcap, hcell⟩ := (HIr.out.nmr HE.out.2).at (by omega)
      injection ed with ed1 ed2 ed3
      subst ed1
      subst ed3
      have hp : r.dir[k]? = some r.dir[k] := List.getElem?_eq_getElem hlt
      have q0 := (hcell k _ hp).1
      have HTK := hid_mk (show r.dir.take (k + 1) = r.dir.take k ++ [r.dir[k]] from List.take_succ_eq_append_getElem hlt)
      generalize r.dir[k] = p at *
      obtain ⟨ps, pf⟩ := p
      simp only at q0
      have HOW := hid_mk (H.out.1.alloc (.cells #[.string ps] 9))
      have HS := hid_mk (show w.heap.size ≤ (wr.alloc (.cells #[.string ps] 9)).heap.size from (grown_trans H.out.2 (World.grownBy_alloc _ _ none)).size)
      clear hp ed2 hcell
      go_wp2_with (at_builtin; refine wpList_append_own _ rfl _ _ 41 rfl w.heap.size 9 i0 (.string ByteArray.empty) 1 16 Try.underlying41 hi hz0 hz1 hz2 rfl (by decide) (.slice oa k oc) k _ rfl HOW.out ⟨wr.heap.size, 0, none⟩ 1 1 [.string ps] rfl rfl (cell_one_new _ _ _) (by simp [Value.oneCell']) (by unfold maxLen; omega) (by omega) HS.out ?_; intro v' w3 hown3 hgrow3 _; obtain ⟨g', cap', rfl⟩ := rows_shape hown3; have H3 := hid_mk (And.intro hown3 hgrow3); clear hown3 hgrow3)
      refine ⟨⟨k + 1, g', cap', by omega, by simp, rfl, hid_mk ⟨?_, grown_row (grown_trans H.out.2 (World.grownBy_alloc _ _ none)) HOW.out H3.out.2⟩⟩, by simp [intOf]; omega⟩
      rw [HTK.out, List.map_append]
      exact H3.out.1
    · have hlI : ¬ (k : Int) < (r.dir.length : Int) := by omega
      have hke : k = r.dir.length := by omega
      have HO := H.out.1
      rw [List.take_of_length_le (by omega)] at HO
      have HO' := hid_mk HO
      clear HO
      go_wp2_with fail
      go_ret
      rw [← hke]
      exact ⟨_, rfl, HO'.out, H.out.2⟩

end Go.Proofs.Ytopablemfajecaa
