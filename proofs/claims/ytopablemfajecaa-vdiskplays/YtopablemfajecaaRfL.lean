/- The document's disk: Append. -/
import Derived.Test.YtopablemfajecaaRfK
namespace Go.Proofs.Ytopablemfajecaa
open Go.RowKit Go.Maps Go.WideMaps Go.WideElems
set_option linter.unusedVariables false
set_option linter.unusedSimpArgs false
set_option maxRecDepth 100000

theorem flen_used (files : List RFile) : ∀ (l : List (ByteArray × Nat)) (p : ByteArray × Nat), p ∈ l → flen files p.2 ≤ (l.map (fun p => flen files p.2)).sum
  | [], p, h => by simp at h
  | q :: l, p, h => by
    simp only [List.map_cons, List.sum_cons]
    rcases List.mem_cons.1 h with rfl | h
    · omega
    · have := flen_used files l p h
      omega
theorem SrcB.kept_ref {w w' : World} {v : Value} {l : List UInt8} {F : Nat → Prop} {N b : Nat} {r : RMem} (h : SrcB w v l) (hI : IsRef w F N b r) (hg : w.grownBy w' (some b)) : SrcB w' v l := by
  rcases h with h | ⟨a, cap, hv, hc⟩
  · exact .inl h
  · refine .inr ⟨a, cap, hv, fun j u hj => ?_⟩
    have hcell := hc j u hj
    refine hg.cell hcell ?_
    intro e
    have hu : ∃ c : UInt8, u = .int .u8 c.toNat := by
      have := List.mem_of_getElem? hj
      obtain ⟨c, _, rfl⟩ := List.mem_map.1 this
      exact ⟨c, rfl⟩
    obtain ⟨c, rfl⟩ := hu
    have e' : (a.add j).block = b := by simpa using e
    have hd := hI.dsk
    obtain ⟨_, _, e1⟩ := rows_shape hI.files
    obtain ⟨_, _, e2⟩ := hI.dir.len
    obtain ⟨_, _, e3⟩ := hI.sure.len
    obtain ⟨_, _, e4⟩ := rows_shape hI.chs
    unfold World.cell? at hcell
    unfold RDsk Blk at hd
    rw [e1, e2, e3, e4] at hd
    rw [e', hd] at hcell
    simp only at hcell
    split at hcell
    · cases hcell
    · have := Array.mem_of_getElem? hcell
      simp at this
def RAppendSpec (s : ByteArray) (l : List UInt8) (r : RMem) (n : Int) (r' : RMem) : Prop :=
  (rightB s = false ∧ n = 1 ∧ r' = r) ∨ (rightB s = true ∧ (∀ p ∈ r.dir, p.1 ≠ s) ∧ n = 3 ∧ r' = r) ∨
  (rightB s = true ∧ ∃ (k : Nat) (p : ByteArray × Nat) (f : RFile), r.dir[k]? = some p ∧ p.1 = s ∧ r.files[p.2]? = some f ∧ ((r.quota < (rused r : Int) + l.length ∧ n = 7 ∧ r' = r) ∨ ((rused r : Int) + l.length ≤ r.quota ∧ RNoPower r ∧ n = 9 ∧ r' = { r with off := true }) ∨
    ((rused r : Int) + l.length ≤ r.quota ∧ r.off = false ∧ r.fuse ≠ 0 ∧ n = 0 ∧ ∃ v', r' = { r with fuse := spent r.fuse, files := r.files.set p.2 ⟨v', f.data ++ l, f.synced⟩ })))

set_option maxHeartbeats 4000000 in
theorem rappend_any (N b : Nat) (F : Nat → Prop) (r : RMem) (s : ByteArray) (l : List UInt8) (v : Value) (w : World) (h : IsRef w F N b r) (hN : N ≤ 2000000000000) (hs : s.size ≤ maxLen) (hin : RIn r) (hl : l.length ≤ 140737488355328) (hsrc : SrcB w v l) : Calls Try.prog 31 #[.pointer (some ⟨b, 0, none⟩), .string s, v] w (RPost F N b w (RAppendSpec s l r)) := by
  have hnd : r.dir.length ≤ 2000000000000 := by have := h.nD; omega
  obtain ⟨va, vc, rfl⟩ := hsrc.len
  have HI := hid_mk (h)
  have HC := hid_mk (named_any s w hs)
  have HIN := hid_mk hin
  have HSRC := hid_mk hsrc
  have hq1 := h.quotaLo
  have hq2 := h.quotaHi
  clear h hs hin hsrc
  go_enter Try.func31, Try.ntmps31
  go_wp2_with fail
  refine HC.out.mono ?_
  rintro e w1 ⟨rfl, rfl⟩
  clear HC
  cases hr : rightB s with
  | false =>
    go_wp2_with fail
    go_ret
    exact RPost.still HI.out (grown_refl _ _) (.inl ⟨hr, rfl, rfl⟩)
  | true =>
    obtain ⟨fa, fc, da, dc, e1, e2⟩ := HI.out.shape
    obtain ⟨_, _, c2, _⟩ := HI.out.cells e1 e2
    have HE := hid_mk (And.intro e1 e2)
    clear e1 e2
    go_wp2_with fail
    refine (find_any' _ r.dir s _ (HI.out.nmr HE.out.2) (by omega)).mono ?_
    rintro e w2 ⟨k, rfl, hf, hg⟩
    have HI2 := hid_mk (HI.out.kept_none hg)
    have HG2 := hid_mk hg
    clear hg c2
    rcases hf with ⟨k, p, rfl, hp, he⟩ | ⟨rfl, hno⟩
    · have hk0 : ¬ (k : Int) < 0 := by omega
      have hkl : k < r.dir.length := (List.getElem?_eq_some_iff.1 hp).1
      have hkI : (k : Int) < (r.dir.length : Int) := by omega
      have hfl := HIN.out _ (List.mem_of_getElem? hp)
      have hf : r.files[p.2]? = some r.files[p.2] := List.getElem?_eq_getElem hfl
      have HU := hid_mk (sum_flen_le HI.out r.dir)
      have hub : (rused r : Int) ≤ 2097152000000000000 := by have := HU.out; unfold rused; omega
      obtain ⟨c0, _, _, _⟩ := HI2.out.cells HE.out.1 HE.out.2
      have HFU := hid_mk (show r.files[p.2].data.length ≤ rused r from by
        have := flen_used r.files r.dir p (List.mem_of_getElem? hp)
        unfold flen at this
        rw [hf] at this
        exact this)
      have HP := hid_mk (And.intro hp (And.intro he hf))
      generalize r.files[p.2] = f at *
      obtain ⟨ps, pf⟩ := p
      simp only at hfl
      clear hp he hf
      go_wp2_with fail
      have HC : ∀ W0, w2.grownBy W0 none → W0.cell? ⟨b, 0, none⟩ = some (.int .i64 r.quota) := fun W0 hW => hW.cell c0 (by simp)
      have hu0 : (0 : Int) ≤ (rused r : Int) := by omega
      refine wp_region_mix [(0, true), (1, true), (2, true), (3, true), (4, true), (5, true), (6, true), (7, false), (8, true), (9, true), (10, true)] (at0 w2 (fun W0 => w2.grownBy W0 none)) (by kernel_rfl) (by kernel_rfl) rfl (by kernel_rfl) (shut_at0 (fun m => grown_drewN _ m none)) ⟨1, rfl⟩ ?_
      clear c0
      repeat (first
        | (refine mix_rd1 rfl rfl (fun K hK => ?_); apply Exists.intro; refine ⟨fun W0 hW => ?_, ?_⟩; (have f0 := HC W0 hW; go_simp; rfl); (go_simp; refine hK _ _ ?_; clear hK K)))
      refine mix_call rfl rfl 39 #[.pointer (some ⟨b, 0, none⟩)] (fun W0 => by go_simp) ?_
      rintro W0 ⟨m1, rfl⟩
      refine (rused_any N b F r (w2.drewN m1) (HI2.out.kept_none (grown_drewN _ _ none)) hN HIN.out).mono ?_
      rintro e w3 ⟨rfl, hg3⟩
      have G3 := hid_mk (grown_trans (grown_drewN w2 m1 none) hg3)
      clear hg3 HC
      refine ⟨_, rfl, at0 w3 (fun W0 => w3.grownBy W0 none), ⟨0, rfl⟩, shut_at0 (fun m => grown_drewN _ m none), fun _ h => grown_trans G3.out h, ?_⟩
      have hw64 : wrap64 (r.quota - (rused r : Int)) = r.quota - (rused r : Int) := by unfold wrap64; omega
      repeat (first
        | (refine mix_rd1 rfl rfl (fun K hK => ?_); apply Exists.intro; refine ⟨fun W0 hW => ?_, ?_⟩; (go_simp; rfl); (go_simp; refine hK _ _ ?_; clear hK K)))
      refine mix_nil ?_
      rintro W0 ⟨m4, rfl⟩
      have G4 := hid_mk (grown_trans G3.out (grown_drewN w3 m4 none))
      generalize w3.drewN m4 = w4 at *
      have hwr := wrap_id (r.quota - (rused r : Int)) (by omega) (by omega)
      rw [hwr]
      have HI4 := hid_mk (HI2.out.kept_none G4.out)
      have HG4 := hid_mk (grown_trans HG2.out G4.out)
      have HS4 := hid_mk (HSRC.out.kept_none HG4.out)
      clear hwr hw64 G3 HI2 G4 HG2 HSRC
      by_cases hq : r.quota - (rused r : Int) < (l.length : Int)
      · have HR := hid_mk (show RAppendSpec s l r 7 r from .inr (.inr ⟨hr, k, _, _, HP.out.1, HP.out.2.1, HP.out.2.2, .inl ⟨by omega, rfl, rfl⟩⟩))
        go_wp2_with fail
        go_ret
        exact RPost.still HI.out HG4.out HR.out
      · rcases rpower_cases r with hpw | ⟨hp1, hp2⟩
        · have HR := hid_mk (show RAppendSpec s l r 9 { r with off := true } from .inr (.inr ⟨hr, k, _, _, HP.out.1, HP.out.2.1, HP.out.2.2, .inr (.inl ⟨by omega, hpw, rfl, rfl⟩)⟩))
          go_wp2_with fail
          refine (rpower_no N b F r w4 HI4.out hpw).mono ?_
          rintro e w5 ⟨rfl, hI, hg⟩
          have HF := hid_mk (RPost.ahead (S := RAppendSpec s l r) ⟨9, _, rfl, HR.out, (hI.monoF (fun k hk => .inl hk)).monoN (Nat.le_succ _), Keeps.one hg hI.fB⟩ HG4.out)
          clear hI hg
          go_wp2_with fail
          go_ret
          exact HF.out
        · have HPW := hid_mk (rpower_ok N b F r w4 HI4.out hp1 hp2)
          have HR := hid_mk (show ∀ v', RAppendSpec s l r 0 { r with fuse := spent r.fuse, files := r.files.set pf ⟨v', f.data ++ l, f.synced⟩ } from fun v' => .inr (.inr ⟨hr, k, _, _, HP.out.1, HP.out.2.1, HP.out.2.2, .inr (.inr ⟨by omega, hp1, hp2, rfl, v', rfl⟩)⟩))
          have HFB := hid_mk HI4.out.fB
          clear hp1 hp2
          go_wp2_with fail
          refine HPW.out.mono ?_
          rintro e w5 ⟨rfl, hI, hg⟩
          have HI5 := hid_mk (And.intro hI hg)
          have HS5 : Hid (SrcB w5 (.slice va l.length vc) l) := hid_mk (HS4.out.kept_ref HI4.out hg)
          clear hI hg HPW
          obtain ⟨_, c1, c2, _⟩ := HI5.out.1.cells HE.out.1 HE.out.2
          obtain ⟨g, off, cap, ed, hcap, hcell⟩ := (HI5.out.1.nmr HE.out.2).at (by simp only; omega)
          injection ed with ed1 ed2 ed3
          subst ed1
          subst ed3
          have q0 := (hcell k _ HP.out.1).1
          have q1 := (hcell k _ HP.out.1).2
          simp only at q0 q1 hfl
          obtain ⟨g2, cap2, ef, hcap2, hFg, hgl, x0, x1, xf, hrow⟩ := HI5.out.1.fileAt HP.out.2.2
          simp only at ef hcap2 x0 x1 hrow
          have hfe := HE.out.1
          rw [ef] at hfe
          injection hfe with hf1 hf2 hf3
          subst hf1
          subst hf3
          obtain ⟨ba, bc, eb⟩ := rows_shape (HI5.out.1.byts f (List.mem_of_getElem? HP.out.2.2)).1
          have HB := hid_mk (HI5.out.1.byts f (List.mem_of_getElem? HP.out.2.2))
          rw [eb] at x0
          have HEB := hid_mk eb
          have xf1 := xf (pf * 2)
          have HRW := hid_mk hrow
          have HFG := hid_mk (And.intro hFg ef)
          have hflI : (pf : Int) < (r.files.length : Int) := by omega
          clear eb ef hf2 ed2 hcell xf hrow hFg
          go_wp2_with fail
          go_quiet (fail)
          have HD := hid_mk (grown_drewN w5 nq none)
          have y0 : (w5.drewN nq).cell? ⟨g2, pf * 2, none⟩ = some (.slice ba f.data.length bc) := x0
          have yf : (w5.drewN nq).frozen? ⟨g2, pf * 2, none⟩ = false := xf1
          clear x0 x1 xf1 c1 c2 q0 q1
          have HS6 := hid_mk (HS5.out.kept_none HD.out)
          have HI6 := hid_mk (HI5.out.1.kept_none HD.out)
          have HB6 := hid_mk (show (w5.drewN nq).ownsRow 0 5 1 (.slice ba f.data.length bc) f.data.length (u8s f.data) from by have := rowsKept HB.out.1 HD.out (noTag_none _ _); rwa [HEB.out] at this)
          have HR6 := hid_mk (rowsKept HRW.out HD.out (noTag_none _ _))
          obtain ⟨i0, hi, hz0, hz1, hz2⟩ := info_parts info5
          have HLL := hid_mk (show f.data.length + l.length ≤ 1048576 by have := HFU.out; omega)
          have h47 : f.data.length + l.length ≤ 140737488355328 := by have := HLL.out; omega
          generalize w5.drewN nq = w6 at *
          go_wp2_with (at_builtin; refine wpList_append_src _ rfl (.tmp 53) (.tmp 54) 32 rfl i0 Try.underlying32 hi hz0 hz1 hz2 (.slice ba f.data.length bc) f.data.length (u8s f.data) rfl HB6.out l (.slice va l.length vc) rfl HS6.out h47 ?_; intro a7 c7 w7 hown7 hgrow7 hloc7; have P7 := hid_mk (And.intro hown7 (And.intro hgrow7 hloc7)); have R7 := hid_mk (rowsKept HR6.out hgrow7 (noTag_rows HB6.out (by decide))); have z0 := World.ownsRow.cellAt R7.out (pf * 2) (by omega); rw [(rfCells_get _ pf f HP.out.2.2).1] at z0; have zf := World.ownsRow.frozenAt R7.out (pf * 2); clear hown7 hgrow7 hloc7)
          go_ret
          have hst := World.ownsRow.stored R7.out (pf * 2) (.slice a7 (f.data.length + l.length) c7)
          have hfv := HFG.out.2
          have hs6 : w4.heap.size ≤ w6.heap.size := Nat.le_trans HI5.out.2.size HD.out.size
          refine RPost.ahead ⟨0, _, rfl, HR.out (.slice a7 (f.data.length + l.length) c7), ((HI6.out.setFile (G := fun k => F k ∨ w4.heap.size ≤ k) (w1 := w7) (w2 := w7.setCell ⟨g2, pf * 2, none⟩ (.slice a7 (f.data.length + l.length) c7)) (fun k hk => .inl hk) (f' := ⟨.slice a7 (f.data.length + l.length) c7, f.data ++ l, f.synced⟩) HP.out.2.2 (by rw [HEB.out]; exact P7.out.2.1) (by simp only [List.length_append, u8s_append]; exact P7.out.1) ?_ (by simp only; rw [hfv]; exact hst.2) (by simp only; rw [hfv, rfCells_setB _ _ _ _ _ HP.out.2.2]; exact hst.1) (by have := HB.out.2.2.1; simp only [List.length_append]; omega) (by have := HLL.out; simpa using this))).monoN (Nat.le_succ _), ?_⟩ HG4.out
          · rcases P7.out.2.2 with e | e
            · exact .inl (by rw [HEB.out]; exact e)
            · exact .inr ⟨w6.heap.size, e, Nat.le_refl _, .inr hs6⟩
          · exact (Keeps.one HI5.out.2 HI5.out.1.fB).then ((Keeps.of_none HD.out).then ((Keeps.of_grown P7.out.2.1 (fun k e _ => HB.out.2.1 k (by rw [HEB.out]; exact e))).then (Keeps.one hst.2 HFG.out.1)))
    · have HN := hid_mk hno
      clear hno
      go_wp2_with fail
      go_ret
      exact RPost.still HI.out HG2.out (.inr (.inl ⟨hr, HN.out, rfl, rfl⟩))

end Go.Proofs.Ytopablemfajecaa
