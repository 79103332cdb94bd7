/- The document's disk: New, Cut, Used, Read, List. -/
import Derived.Test.YtopablemfajecaaRfH
namespace Go.Proofs.Ytopablemfajecaa
open Go.RowKit Go.Maps Go.WideMaps Go.WideElems
set_option linter.unusedVariables false
set_option linter.unusedSimpArgs false
set_option maxRecDepth 100000

theorem rfCells_len (l : List RFile) : (rfCells l).length = l.length * 2 := by
  induction l with
  | nil => rfl
  | cons p r ih => simp [rfCells] at ih ⊢; omega
theorem rfCells_get (l : List RFile) : ∀ (i : Nat) (p : RFile), l[i]? = some p → (rfCells l)[i * 2]? = some p.bv ∧ (rfCells l)[i * 2 + 1]? = some (.int .i64 p.synced) := by
  induction l with
  | nil => intro i p h; simp at h
  | cons q r ih =>
    intro i p h
    cases i with
    | zero => simp at h; subst h; simp [rfCells]
    | succ i =>
      simp at h
      obtain ⟨h1, h2⟩ := ih i p h
      have e : rfCells (q :: r) = [q.bv, .int .i64 q.synced] ++ rfCells r := by simp [rfCells]
      rw [e]
      constructor
      · rw [List.getElem?_append_right (by simp; omega)]
        rw [← h1]; congr 1; simp; omega
      · rw [List.getElem?_append_right (by simp; omega)]
        rw [← h2]; congr 1; simp; omega
/-- A file in its row. -/
theorem IsRef.fileAt {w : World} {F : Nat → Prop} {N b : Nat} {r : RMem} (h : IsRef w F N b r) {j : Nat} {f : RFile} (hj : r.files[j]? = some f) : ∃ g cap, r.fv = .slice (some ⟨g, 0, none⟩) r.files.length cap ∧ r.files.length ≤ cap ∧ F g ∧ g < w.heap.size ∧ w.cell? ⟨g, j * 2, none⟩ = some f.bv ∧ w.cell? ⟨g, j * 2 + 1, none⟩ = some (.int .i64 f.synced) ∧ (∀ i, w.frozen? ⟨g, i, none⟩ = false) ∧ w.ownsRow 0 91 2 (.slice (some ⟨g, 0, none⟩) r.files.length cap) r.files.length (rfCells r.files) := by
  have hl : j < r.files.length := (List.getElem?_eq_some_iff.1 hj).1
  have ho := h.files
  rcases ho.2 with ⟨_, h0⟩ | ⟨g, cap, cur, e, _, hb, hc, _⟩
  · omega
  · rw [e] at ho
    obtain ⟨h1, h2⟩ := rfCells_get _ j f hj
    exact ⟨g, cap, e, hc, h.fF g (by rw [e]; rfl), Blk.lt (cs := cur) hb, by rw [World.ownsRow.cellAt ho (j * 2) (by omega)]; exact h1, by rw [World.ownsRow.cellAt ho (j * 2 + 1) (by omega)]; exact h2, fun i => World.ownsRow.frozenAt ho i, ho⟩
/-- How long the file of a number is. -/
def flen (files : List RFile) (k : Nat) : Nat := match files[k]? with | some f => f.data.length | none => 0
def rused (r : RMem) : Nat := (r.dir.map (fun p => flen r.files p.2)).sum
theorem flen_le {w : World} {F : Nat → Prop} {N b : Nat} {r : RMem} (h : IsRef w F N b r) (k : Nat) : flen r.files k ≤ 1048576 := by
  unfold flen
  split
  · rename_i f hf
    exact (h.byts f (List.mem_of_getElem? hf)).2.2.2
  · omega
theorem sum_flen_le {w : World} {F : Nat → Prop} {N b : Nat} {r : RMem} (h : IsRef w F N b r) : ∀ l : List (ByteArray × Nat), (l.map (fun p => flen r.files p.2)).sum ≤ l.length * 1048576
  | [] => by simp
  | p :: l => by
    have := sum_flen_le h l
    have := flen_le h p.2
    simp only [List.map_cons, List.sum_cons, List.length_cons]
    omega
/-- Each name's file is there. -/
def RIn (r : RMem) : Prop := ∀ p ∈ r.dir, p.2 < r.files.length

set_option maxHeartbeats 2000000 in
theorem rused_any (N b : Nat) (F : Nat → Prop) (r : RMem) (w : World) (h : IsRef w F N b r) (hN : N ≤ 2000000000000) (hin : RIn r) : Calls Try.prog 39 #[.pointer (some ⟨b, 0, none⟩)] w fun e w' => e = .returned (.int .i64 (rused r)) ∧ w.grownBy w' none := by
  have hnd : r.dir.length ≤ 2000000000000 := by have := h.nD; omega
  have HI := hid_mk h
  have HIN := hid_mk hin
  obtain ⟨fa, fc, da, dc, e1, e2⟩ := HI.out.shape
  have HE := hid_mk (And.intro e1 e2)
  clear e1 e2 h hin
  go_enter Try.func39, Try.ntmps39
  go_wp2_with fail
  go_loopw [3, 4] (fun nv iv W1 => ∃ (k s : Nat), k ≤ r.dir.length ∧ iv = .int .i64 k ∧ nv = .int .i64 s ∧ Hid (s = ((r.dir.take k).map (fun p => flen r.files p.2)).sum ∧ w.grownBy W1 none)) (fun _ iv _ => r.dir.length - (intOf iv).toNat)
  case atStart => exact ⟨0, 0, Nat.zero_le _, rfl, rfl, hid_mk ⟨by simp, grown_refl _ _⟩⟩
  case round =>
    obtain ⟨k, s, hk, rfl, rfl, H⟩ := hrel
    have HIr := hid_mk (HI.out.kept_none H.out.2)
    obtain ⟨_, c1, c2, _⟩ := HIr.out.cells HE.out.1 HE.out.2
    by_cases hlt : k < r.dir.length
    · have hlI : (k : Int) < (r.dir.length : Int) := by omega
      obtain ⟨g, off, cap, ed, hcap, hcell⟩ := (HIr.out.nmr HE.out.2).at (by omega)
      injection ed with ed1 ed2 ed3
      subst ed1
      subst ed3
      have hp : r.dir[k]? = some r.dir[k] := List.getElem?_eq_getElem hlt
      have q0 := (hcell k _ hp).1
      have q1 := (hcell k _ hp).2
      have hfl := HIN.out _ (List.mem_of_getElem? hp)
      have HTK := hid_mk (show r.dir.take (k + 1) = r.dir.take k ++ [r.dir[k]] from List.take_succ_eq_append_getElem hlt)
      have HSB := hid_mk (sum_flen_le HIr.out (r.dir.take k))
      generalize r.dir[k] = p at *
      obtain ⟨ps, pf⟩ := p
      simp only at q0 q1 hfl
      have hf : r.files[pf]? = some r.files[pf] := List.getElem?_eq_getElem hfl
      obtain ⟨g2, cap2, ef, hcap2, _, _, x0, _, _, _⟩ := HIr.out.fileAt hf
      have hfe := HE.out.1
      rw [ef] at hfe
      injection hfe with hf1 hf2 hf3
      subst hf1
      subst hf3
      obtain ⟨ba, bc, eb⟩ := rows_shape (HIr.out.byts _ (List.mem_of_getElem? hf)).1
      have HFL := hid_mk (show flen r.files pf = r.files[pf].data.length by unfold flen; rw [hf])
      have hfb := (HIr.out.byts _ (List.mem_of_getElem? hf)).2.2.2
      rw [eb] at x0
      generalize r.files[pf].data.length = L at *
      have hflI : (pf : Int) < (r.files.length : Int) := by omega
      have hsb : s ≤ 2097152000000000000 := by have := H.out.1; have := HSB.out; simp only [List.length_take] at this; omega
      clear hp hf eb ef hf2 ed2 hcell
      go_wp2_with fail
      go_quiet (fail)
      go_wp2_with fail
      refine ⟨⟨k + 1, s + L, by omega, by simp, by simp, hid_mk ⟨?_, grown_trans H.out.2 (grown_drewN _ _ _)⟩⟩, by simp [intOf]; omega⟩
      rw [HTK.out, List.map_append, List.sum_append, ← H.out.1]
      simp [HFL.out]
    · have hlI : ¬ (k : Int) < (r.dir.length : Int) := by omega
      go_wp2_with fail
      go_ret
      refine ⟨?_, H.out.2⟩
      have := H.out.1
      rw [List.take_of_length_le (by omega)] at this
      rw [this]
      rfl


theorem rcut_any (N b : Nat) (F : Nat → Prop) (r : RMem) (n : Int) (w : World) (h : IsRef w F N b r) (hn : n ≤ 9223372036854775807) : Calls Try.prog 36 #[.pointer (some ⟨b, 0, none⟩), .int .i64 n] w fun e w' => e = .returned (.tuple #[]) ∧ IsRef w' F N b { r with fuse := max n (-1) } ∧ Keeps F w w' := by
  obtain ⟨_, _, _, _, _, c5, _, cf⟩ := h.dsk.all
  have f5 := cf 5
  have HD := hid_mk h
  have HB : Hid (RDsk (w.setCell ⟨b, 5, none⟩ (.int .i64 (max n (-1)))) b { r with fuse := max n (-1) }) := hid_mk (Blk.set h.dsk 5 _)
  have HG := hid_mk (grown_setCell w b 5 (.int .i64 (max n (-1))))
  have HR := hid_mk (HD.out.turned HG.out (max n (-1)) r.off (by omega) (by omega) HB.out)
  clear h cf
  go_enter Try.func36, Try.ntmps36
  go_wp2_with fail
  go_end0
  exact ⟨rfl, HR.out, Keeps.one HG.out HD.out.fB⟩
theorem rnew_bad (q : Int) (w : World) (h : q < 1 ∨ 1048576 < q) : Calls Try.prog 10 #[.int .i64 q] w fun e w' => e = .returned (.pointer none) ∧ w' = w := by
  by_cases h1 : q < 1
  · clear h
    go_enter Try.func10, Try.ntmps10
    go_wp2_with fail
    go_ret
    exact ⟨rfl, rfl⟩
  · have h2 : 1048576 < q := by omega
    clear h
    go_enter Try.func10, Try.ntmps10
    go_wp2_with fail
    go_ret
    exact ⟨rfl, rfl⟩
def rmem0 (q : Int) : RMem := ⟨q, -1, false, .slice none 0 0, .slice none 0 0, .slice none 0 0, .slice none 0 0, [], [], [], []⟩
theorem rnew_ok (q : Int) (w : World) (h1 : 1 ≤ q) (h2 : q ≤ 1048576) : Calls Try.prog 10 #[.int .i64 q] w fun e w' => ∃ b, e = .returned (.pointer (some ⟨b, 0, none⟩)) ∧ IsRef w' (fun k => w.heap.size ≤ k) 0 b (rmem0 q) ∧ w.grownBy w' none := by
  have h1' : ¬ q < 1 := by omega
  have h2' : ¬ 1048576 < q := by omega
  go_enter Try.func10, Try.ntmps10
  go_wp2_with fail
  go_ret
  refine ⟨w.heap.size, rfl, ?_, World.grownBy_alloc _ _ _⟩
  have nn : ∀ k, (Value.slice none 0 0).ownBlock = some k → False := fun k hk => by simp [Value.ownBlock] at hk
  exact { dsk := heap_alloc_new w _, fB := Nat.le_refl _, fuseLo := Int.le_refl _, fuseHi := (by show (-1 : Int) ≤ 9223372036854775807; decide), quotaLo := h1, quotaHi := h2, files := World.ownsRow_nil _ _ _ _, fF := fun k hk => (nn k hk).elim, byts := fun f hf => (by simp [rmem0] at hf), apart := fun i j f g k hi => (by simp [rmem0] at hi),
          dir := World.ownsRow_nil _ _ _ _, dF := fun k hk => (nn k hk).elim, sure := World.ownsRow_nil _ _ _ _, sF := fun k hk => (nn k hk).elim, ds := fun k hk => (nn k hk).elim, chs := World.ownsRow_nil _ _ _ _, cF := fun k hk => (nn k hk).elim, nF := Nat.le_refl _, nD := Nat.le_refl _, nS := Nat.le_refl _ }

end Go.Proofs.Ytopablemfajecaa
