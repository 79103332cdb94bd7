/- The document's disk: Append, Sync, SyncDir. -/
import Derived.Test.YtopablemfajecaaRfJ
namespace Go.Proofs.Ytopablemfajecaa
open Go.RowKit Go.Maps Go.WideMaps Go.WideElems
set_option linter.unusedVariables false
set_option linter.unusedSimpArgs false
set_option maxRecDepth 100000

theorem rfCells_setB : ∀ (l : List RFile) (j : Nat) (f : RFile) (v : Value) (d : List UInt8), l[j]? = some f → rfCells (l.set j ⟨v, d, f.synced⟩) = (rfCells l).set (j * 2) v
  | [], j, f, v, d, h => by simp at h
  | q :: l, 0, f, v, d, h => by simp at h; subst h; simp [rfCells]
  | q :: l, j + 1, f, v, d, h => by
    simp at h
    have := rfCells_setB l j f v d h
    have e : ∀ (x : RFile) (m : List RFile), rfCells (x :: m) = x.bv :: .int .i64 x.synced :: rfCells m := fun x m => by simp [rfCells]
    rw [List.set_cons_succ, e, e, this, show (j + 1) * 2 = j * 2 + 1 + 1 by omega, List.set_cons_succ, List.set_cons_succ]
theorem rfCells_setS : ∀ (l : List RFile) (j : Nat) (f : RFile) (n : Nat) (d : List UInt8), l[j]? = some f → rfCells (l.set j ⟨f.bv, d, n⟩) = (rfCells l).set (j * 2 + 1) (.int .i64 n)
  | [], j, f, v, d, h => by simp at h
  | q :: l, 0, f, v, d, h => by simp at h; subst h; simp [rfCells]
  | q :: l, j + 1, f, v, d, h => by
    simp at h
    have := rfCells_setS l j f v d h
    have e : ∀ (x : RFile) (m : List RFile), rfCells (x :: m) = x.bv :: .int .i64 x.synced :: rfCells m := fun x m => by simp [rfCells]
    rw [List.set_cons_succ, e, e, this, show (j + 1) * 2 + 1 = j * 2 + 1 + 1 + 1 by omega, List.set_cons_succ, List.set_cons_succ]
/-- One file is another one: its bytes' row may have turned, and its place in the row of files. -/
theorem IsRef.setFile {w w1 w2 : World} {F G : Nat → Prop} {N b : Nat} {r : RMem} (h : IsRef w F N b r) (hFG : ∀ k, F k → G k) {j : Nat} {f f' : RFile} (hj : r.files[j]? = some f) (hg : w.grownBy w1 f.bv.ownBlock) (hrow : w1.ownsRow 0 5 1 f'.bv f'.data.length (u8s f'.data))
    (hloc : f'.bv.ownBlock = f.bv.ownBlock ∨ ∃ k, f'.bv.ownBlock = some k ∧ w.heap.size ≤ k ∧ G k) (hg2 : w1.grownBy w2 r.fv.ownBlock) (hfiles : w2.ownsRow 0 91 2 r.fv r.files.length (rfCells (r.files.set j f'))) (hs : f'.synced ≤ f'.data.length) (hl : f'.data.length ≤ 1048576) : IsRef w2 G N b { r with files := r.files.set j f' } := by
  have hjl : j < r.files.length := (List.getElem?_eq_some_iff.1 hj).1
  have hf := h.byts f (List.mem_of_getElem? hj)
  have t : ∀ u, u ≠ 5 → NoTag w f.bv.ownBlock u := fun u hu => noTag_rows hf.1 hu
  have hF1 := rowsKept h.files hg (t 91 (by decide))
  have t2 : ∀ u, u ≠ 91 → NoTag w1 r.fv.ownBlock u := fun u hu => noTag_rows hF1 hu
  have at' : ∀ (i : Nat) (x : RFile), (r.files.set j f')[i]? = some x → (i = j ∧ x = f') ∨ (i ≠ j ∧ r.files[i]? = some x) := fun i x hx => by
    by_cases e : i = j
    · subst e
      rw [List.getElem?_set_self (by omega)] at hx
      cases hx
      exact .inl ⟨rfl, rfl⟩
    · rw [List.getElem?_set_ne (Ne.symm e)] at hx
      exact .inr ⟨e, hx⟩
  have own : ∀ (i : Nat) (x : RFile) (k : Nat), i ≠ j → r.files[i]? = some x → x.bv.ownBlock = some k → f'.bv.ownBlock ≠ some k := fun i x k hi hx hk he => by
    rcases hloc with e | ⟨k', e, hk', _⟩
    · rw [e] at he
      exact hi (h.apart i j x f k hx hj hk he)
    · rw [he] at e
      cases e
      have := row_lt (h.byts x (List.mem_of_getElem? hx)).1 hk
      omega
  exact { h with
    dsk := (h.dsk.keptN hg (t 67 (by decide))).keptN hg2 (t2 67 (by decide))
    fB := hFG _ h.fB
    files := by simpa using hfiles
    fF := fun k hk => hFG _ (h.fF k hk)
    byts := fun x hx => by
      obtain ⟨i, hi⟩ := List.getElem?_of_mem hx
      rcases at' i x hi with ⟨rfl, rfl⟩ | ⟨hne, hi'⟩
      · refine ⟨rowsKept hrow hg2 (t2 5 (by decide)), fun k hk => ?_, hs, hl⟩
        rcases hloc with e | ⟨k', e, _, hG⟩
        · rw [e] at hk; exact hFG _ (hf.2.1 k hk)
        · rw [e] at hk; cases hk; exact hG
      · have hb := h.byts x (List.mem_of_getElem? hi')
        refine ⟨rowsKept (World.ownsRow.kept hb.1 hg ?_) hg2 (t2 5 (by decide)), fun k hk => hFG _ (hb.2.1 k hk), hb.2.2⟩
        cases hk : x.bv.ownBlock with
        | none => exact .inl rfl
        | some k => exact .inr (fun e => hne (h.apart i j x f k hi' hj hk e.symm))
    apart := fun i i' x y k hi hi' hx hy => by
      rcases at' i x hi with ⟨rfl, rfl⟩ | ⟨hne, hi0⟩
      · rcases at' i' y hi' with ⟨rfl, rfl⟩ | ⟨hne', hi0'⟩
        · rfl
        · exact absurd hx (own i' y k hne' hi0' hy)
      · rcases at' i' y hi' with ⟨rfl, rfl⟩ | ⟨hne', hi0'⟩
        · exact absurd hy (own i x k hne hi0 hx)
        · exact h.apart i i' x y k hi0 hi0' hx hy
    dir := (h.dir.kept hg (t 94 (by decide))).kept hg2 (t2 94 (by decide))
    dF := fun k hk => hFG _ (h.dF k hk)
    sure := (h.sure.kept hg (t 94 (by decide))).kept hg2 (t2 94 (by decide))
    sF := fun k hk => hFG _ (h.sF k hk)
    chs := rowsKept (rowsKept h.chs hg (t 89 (by decide))) hg2 (t2 89 (by decide))
    cF := fun k hk => hFG _ (h.cF k hk)
    nF := by simpa using h.nF }
def RSyncSpec (s : ByteArray) (r : RMem) (n : Int) (r' : RMem) : Prop :=
  (rightB s = false ∧ n = 1 ∧ r' = r) ∨ (rightB s = true ∧ (∀ p ∈ r.dir, p.1 ≠ s) ∧ n = 3 ∧ r' = r) ∨
  (rightB s = true ∧ ∃ (k : Nat) (p : ByteArray × Nat) (f : RFile), r.dir[k]? = some p ∧ p.1 = s ∧ r.files[p.2]? = some f ∧ ((RNoPower r ∧ n = 9 ∧ r' = { r with off := true }) ∨ (r.off = false ∧ r.fuse ≠ 0 ∧ n = 0 ∧ r' = { r with fuse := spent r.fuse, files := r.files.set p.2 ⟨f.bv, f.data, f.data.length⟩ })))

set_option maxHeartbeats 2000000 in
theorem rsync_any (N b : Nat) (F : Nat → Prop) (r : RMem) (s : ByteArray) (w : World) (h : IsRef w F N b r) (hN : N ≤ 2000000000000) (hs : s.size ≤ maxLen) (hin : RIn r) : Calls Try.prog 32 #[.pointer (some ⟨b, 0, none⟩), .string s] w (RPost F N b w (RSyncSpec s r)) := by
  have hnd : r.dir.length ≤ 2000000000000 := by have := h.nD; omega
  have HI := hid_mk (h)
  have HC := hid_mk (named_any s w hs)
  have HIN := hid_mk hin
  clear h hs hin
  go_enter Try.func32, Try.ntmps32
  go_wp2_with fail
  refine HC.out.mono ?_
  rintro e w1 ⟨rfl, rfl⟩
  clear HC
  cases hr : rightB s with
  | false =>
    go_wp2_with fail
    go_ret
    exact RPost.still HI.out (grown_refl _ _) (.inl ⟨hr, rfl, rfl⟩)
  | true =>
    obtain ⟨fa, fc, da, dc, e1, e2⟩ := HI.out.shape
    obtain ⟨_, _, c2, _⟩ := HI.out.cells e1 e2
    have HE := hid_mk (And.intro e1 e2)
    clear e1 e2
    go_wp2_with fail
    refine (find_any' _ r.dir s _ (HI.out.nmr HE.out.2) (by omega)).mono ?_
    rintro e w2 ⟨k, rfl, hf, hg⟩
    have HI2 := hid_mk (HI.out.kept_none hg)
    have HG2 := hid_mk hg
    clear hg c2
    rcases hf with ⟨k, p, rfl, hp, he⟩ | ⟨rfl, hno⟩
    · have hk0 : ¬ (k : Int) < 0 := by omega
      have hkl : k < r.dir.length := (List.getElem?_eq_some_iff.1 hp).1
      have hkI : (k : Int) < (r.dir.length : Int) := by omega
      have hfl := HIN.out _ (List.mem_of_getElem? hp)
      have hf : r.files[p.2]? = some r.files[p.2] := List.getElem?_eq_getElem hfl
      rcases rpower_cases r with hpw | ⟨hp1, hp2⟩
      · have HR := hid_mk (show RSyncSpec s r 9 { r with off := true } from .inr (.inr ⟨hr, k, p, _, hp, he, hf, .inl ⟨hpw, rfl, rfl⟩⟩))
        clear hp he hf hfl
        go_wp2_with fail
        refine (rpower_no N b F r w2 HI2.out hpw).mono ?_
        rintro e w3 ⟨rfl, hI, hg⟩
        have HF := hid_mk (RPost.ahead (S := RSyncSpec s r) ⟨9, _, rfl, HR.out, (hI.monoF (fun k hk => .inl hk)).monoN (Nat.le_succ _), Keeps.one hg hI.fB⟩ HG2.out)
        clear hI hg
        go_wp2_with fail
        go_ret
        exact HF.out
      · have HPW := hid_mk (rpower_ok N b F r w2 HI2.out hp1 hp2)
        have HR := hid_mk (show RSyncSpec s r 0 { r with fuse := spent r.fuse, files := r.files.set p.2 ⟨r.files[p.2].bv, r.files[p.2].data, r.files[p.2].data.length⟩ } from .inr (.inr ⟨hr, k, p, _, hp, he, hf, .inr ⟨hp1, hp2, rfl, rfl⟩⟩))
        have HF := hid_mk hf
        have HP := hid_mk hp
        generalize r.files[p.2] = f at *
        obtain ⟨ps, pf⟩ := p
        clear hp he hf hp1 hp2
        go_wp2_with fail
        refine HPW.out.mono ?_
        rintro e w3 ⟨rfl, hI, hg⟩
        have HI3 := hid_mk (And.intro hI hg)
        clear hI hg HPW
        obtain ⟨_, c1, c2, _⟩ := HI3.out.1.cells HE.out.1 HE.out.2
        obtain ⟨g, off, cap, ed, hcap, hcell⟩ := (HI3.out.1.nmr HE.out.2).at (by simp only; omega)
        injection ed with ed1 ed2 ed3
        subst ed1
        subst ed3
        have q0 := (hcell k _ HP.out).1
        have q1 := (hcell k _ HP.out).2
        simp only at q0 q1 hfl
        obtain ⟨g2, cap2, ef, hcap2, hFg, hgl, x0, x1, xf, hrow⟩ := HI3.out.1.fileAt HF.out
        simp only at ef hcap2 x0 x1 hrow
        have hfe := HE.out.1
        rw [ef] at hfe
        injection hfe with hf1 hf2 hf3
        subst hf1
        subst hf3
        obtain ⟨ba, bc, eb⟩ := rows_shape (HI3.out.1.byts f (List.mem_of_getElem? HF.out)).1
        have HB := hid_mk (HI3.out.1.byts f (List.mem_of_getElem? HF.out))
        rw [eb] at x0
        have HEB := hid_mk eb
        have xf1 := xf (pf * 2 + 1)
        have HRW := hid_mk hrow
        have HFG := hid_mk (And.intro hFg ef)
        have hflI : (pf : Int) < (r.files.length : Int) := by omega
        clear eb ef hf2 ed2 hcell xf hrow hFg
        go_wp2_with fail
        go_quiet (fail)
        have HD := hid_mk (grown_drewN w3 nq none)
        have y0 : (w3.drewN nq).cell? ⟨g2, pf * 2, none⟩ = some (.slice ba f.data.length bc) := x0
        have y1 : (w3.drewN nq).cell? ⟨g2, pf * 2 + 1, none⟩ = some (.int .i64 f.synced) := x1
        have yf : (w3.drewN nq).frozen? ⟨g2, pf * 2 + 1, none⟩ = false := xf1
        clear x0 x1 xf1 c1 c2 q0 q1
        generalize w3.drewN nq = w4 at *
        go_wp2_with fail
        go_ret
        have hI4 := HI3.out.1.kept_none HD.out
        have hst := World.ownsRow.stored (rowsKept HRW.out HD.out (noTag_none _ _)) (pf * 2 + 1) (.int .i64 f.data.length)
        have hfv := HFG.out.2
        refine RPost.ahead ⟨0, _, rfl, HR.out, ((hI4.setFile (G := fun k => F k ∨ w2.heap.size ≤ k) (w1 := w4) (w2 := w4.setCell ⟨g2, pf * 2 + 1, none⟩ (.int .i64 f.data.length)) (fun k hk => .inl hk) (f' := ⟨f.bv, f.data, f.data.length⟩) HF.out (grown_refl _ _) (rowsKept HB.out.1 HD.out (noTag_none _ _)) (.inl rfl) (by simp only; rw [hfv]; exact hst.2) (by simp only; rw [hfv, rfCells_setS _ _ _ _ _ HF.out]; exact hst.1) (Nat.le_refl _) HB.out.2.2.2)).monoN (Nat.le_succ _), ?_⟩ HG2.out
        exact (Keeps.one HI3.out.2 HI3.out.1.fB).then ((Keeps.of_none HD.out).then (Keeps.one hst.2 HFG.out.1))
    · have HN := hid_mk hno
      clear hno
      go_wp2_with fail
      go_ret
      exact RPost.still HI.out HG2.out (.inr (.inl ⟨hr, HN.out, rfl, rfl⟩))


theorem wpList_append_nm (w0 w : World) {ops : Array Oper} {rest : List Oper} {o : Oper} {a : Act} {Q : Exit → Act → World → Prop} (hgd : o.guard = none) (s x : Operand)
    (ho : o.op = .call { callee := .builtin .append, args := #[s, x], argTypes := #[64, 64] }) (hg0 : w0.grownBy w none)
    (v : Value) (l0 : List (ByteArray × Nat)) (hs : a.eval s = v) (hown : NmO w w0.heap.size v l0) (l : List (ByteArray × Nat)) (sv : Value) (hx : a.eval x = sv) (hsrc : NmR w sv l) (hb : l0.length + l.length ≤ 2199023255552)
    (h : ∀ a' cap' w', Hid (NmO w' w0.heap.size (.slice a' (l0.length + l.length) cap') (l0 ++ l) ∧ w0.grownBy w' none ∧ w.grownBy w' v.ownBlock) → wpList Try.prog ops Q rest (a.put o.dst (.slice a' (l0.length + l.length) cap')) w') :
    wpList Try.prog ops Q (o :: rest) a w := by
  refine wpList_plain hgd fun K hK => ?_
  have hw : Region.wanted o (yielded ops a.tmps) = true := by simp [Region.wanted, hgd]
  have := step_append_nm (ops := ops) (E := True) (K := K) (Q := Q) w0 w hgd s x ho hg0 v l0 hs hown l sv hx hsrc hb (fun a' c' w' hh => hK _ _ (h a' c' w' hh))
  rwa [if_pos hw] at this
theorem grown_same {w w1 w2 : World} {row : Option Nat} (h : w.grownBy w1 row) (k : w1.grownBy w2 row) : w.grownBy w2 row :=
  ⟨k.os.trans h.os, k.tape.trans h.tape, k.output.trans h.output, Nat.le_trans h.size k.size, fun i hi hn => (k.block i (Nat.lt_of_lt_of_le hi h.size) hn).trans (h.block i hi hn)⟩
theorem IsRef.sured {w w' : World} {F : Nat → Prop} {N b : Nat} {r : RMem} (h : IsRef w F N b r) (sv : Value) (hr : NmO w 0 sv r.dir) (hF : ∀ k, sv.ownBlock = some k → F k) (hs : ∀ k, r.dv.ownBlock = some k → sv.ownBlock ≠ some k) (hg2 : w.grownBy w' (some b)) (hd : RDsk w' b { r with sv := sv, sure := r.dir, cv := .slice none 0 0, chs := [] }) : IsRef w' F N b { r with sv := sv, sure := r.dir, cv := .slice none 0 0, chs := [] } := by
  have hb : Blk w b _ 67 := h.dsk
  exact { h with
    dsk := hd
    files := rowsKept h.files hg2 (noTag_blk hb (by decide))
    byts := fun f hf => ⟨rowsKept (h.byts f hf).1 hg2 (noTag_blk hb (by decide)), (h.byts f hf).2⟩
    dir := h.dir.kept hg2 (noTag_blk hb (by decide))
    sure := hr.kept hg2 (noTag_blk hb (by decide))
    chs := World.ownsRow_nil _ _ _ _
    cF := fun k hk => (by simp [Value.ownBlock] at hk)
    sF := hF
    ds := hs
    nS := by simpa using h.nD }

def RSyncDirSpec (r : RMem) (n : Int) (r' : RMem) : Prop :=
  (RNoPower r ∧ n = 9 ∧ r' = { r with off := true }) ∨ (r.off = false ∧ r.fuse ≠ 0 ∧ n = 0 ∧ ∃ sv, r' = { r with fuse := spent r.fuse, sv := sv, sure := r.dir, cv := .slice none 0 0, chs := [] })
set_option maxHeartbeats 2000000 in
theorem rsyncdir_any (N b : Nat) (F : Nat → Prop) (r : RMem) (w : World) (h : IsRef w F N b r) (hN : N ≤ 2000000000000) : Calls Try.prog 33 #[.pointer (some ⟨b, 0, none⟩)] w (RPost F N b w (RSyncDirSpec r)) := by
  have hnd : r.dir.length ≤ 2000000000000 := by have := h.nD; omega
  rcases rpower_cases r with hp | ⟨hp1, hp2⟩
  · have HC := hid_mk (rpower_no N b F r _ h hp)
    have HS := hid_mk hp
    clear h hp
    go_enter Try.func33, Try.ntmps33
    go_wp2_with fail
    refine HC.out.mono ?_
    rintro e w1 ⟨rfl, hI, hg⟩
    have H1 := hid_mk (And.intro hI hg)
    clear hI hg
    go_wp2_with fail
    go_ret
    exact ⟨9, _, rfl, .inl ⟨HS.out, rfl, rfl⟩, (H1.out.1.monoF (fun k hk => .inl hk)).monoN (Nat.le_succ _), Keeps.one H1.out.2 H1.out.1.fB⟩
  · have HC := hid_mk (rpower_ok N b F r _ h hp1 hp2)
    have HS := hid_mk (And.intro hp1 hp2)
    obtain ⟨fa, fc, da, dc, e1, e2⟩ := h.shape
    have HE := hid_mk (And.intro e1 e2)
    clear h hp1 hp2 e1 e2
    go_enter Try.func33, Try.ntmps33
    go_wp2_with fail
    refine HC.out.mono ?_
    rintro e w1 ⟨rfl, hI, hg⟩
    have H1 := hid_mk (And.intro hI hg)
    clear hI hg HC
    obtain ⟨_, _, c2, _⟩ := H1.out.1.cells HE.out.1 HE.out.2
    have k2 : (w1.alloc (.cells #[] 94)).cell? ⟨b, 2, none⟩ = some (.slice da r.dir.length dc) := (World.grownBy_alloc w1 (.cells #[] 94) none).cell c2 (by simp)
    go_wp2_with (at_builtin; refine wpList_append_nm w1 _ rfl (.tmp 7) (.tmp 11) rfl (World.grownBy_alloc _ _ none) (.slice (some ⟨w1.heap.size, 0, none⟩) 0 0) [] rfl (nm_empty (heap_alloc_new _ _) (Nat.le_refl _)) r.dir (.slice da r.dir.length dc) rfl ((H1.out.1.nmr HE.out.2).kept (World.grownBy_alloc _ _ none)) (by simp; omega) ?_; intro a6 c6 w6 P6; have Q6 := hid_mk (H1.out.1.kept_none P6.out.2.1); have n6 := Q6.out.dsk.all.2.2.2.2.2.2.2 3; have m6 := Q6.out.dsk.all.2.2.2.1; have n7 := Q6.out.dsk.all.2.2.2.2.2.2.2 4; have m7 := Q6.out.dsk.all.2.2.2.2.1; rw [show ([] : List (ByteArray × Nat)).length + r.dir.length = r.dir.length by simp, List.nil_append] at P6)
    go_ret
    have B6 : Blk (w6.setCell ⟨b, 3, none⟩ (.slice a6 r.dir.length c6)) b #[.int .i64 r.quota, r.fv, r.dv, .slice a6 r.dir.length c6, r.cv, .int .i64 (spent r.fuse), .bool r.off] 67 := Blk.set Q6.out.dsk 3 _
    have B7 : Blk ((w6.setCell ⟨b, 3, none⟩ (.slice a6 r.dir.length c6)).setCell ⟨b, 4, none⟩ (.slice none 0 0)) b #[.int .i64 r.quota, r.fv, r.dv, .slice a6 r.dir.length c6, .slice none 0 0, .int .i64 (spent r.fuse), .bool r.off] 67 := Blk.set B6 4 _
    have G7 : w6.grownBy ((w6.setCell ⟨b, 3, none⟩ (.slice a6 r.dir.length c6)).setCell ⟨b, 4, none⟩ (.slice none 0 0)) (some b) := grown_same (grown_setCell _ _ _ _) (grown_setCell _ _ _ _)
    refine ⟨0, _, rfl, .inr ⟨HS.out.1, HS.out.2, rfl, .slice a6 r.dir.length c6, rfl⟩, ?_, ?_⟩
    · refine (((Q6.out.monoF (G := fun k => F k ∨ w.heap.size ≤ k) (fun k hk => .inl hk)).monoN (Nat.le_succ N)).sured (.slice a6 r.dir.length c6) (row_to0 P6.out.1) (fun k hk => .inr (Nat.le_trans H1.out.2.size (row_low P6.out.1 hk))) (fun k hk he => ?_) G7 B7)
      have h1 := row_low P6.out.1 he
      have h2 := row_lt H1.out.1.dir hk
      omega
    · exact (Keeps.one H1.out.2 H1.out.1.fB).then ((Keeps.of_none P6.out.2.1).then (Keeps.one G7 H1.out.1.fB))

end Go.Proofs.Ytopablemfajecaa
