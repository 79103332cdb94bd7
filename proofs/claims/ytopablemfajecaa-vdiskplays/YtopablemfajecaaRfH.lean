/- The document's disk: Create, Rename, Remove. -/
import Derived.Test.YtopablemfajecaaRfG
namespace Go.Proofs.Ytopablemfajecaa
open Go.RowKit Go.Maps Go.WideMaps Go.WideElems
set_option linter.unusedVariables false
set_option linter.unusedSimpArgs false
set_option maxRecDepth 100000

theorem info91 : (Try.prog.info? 91).map (fun i => (i.zero, i.size, i.bytes)) = some (some (.agg #[.slice none 0 0, .int .i64 0]), 2, 32) := by kernel_rfl
theorem rfCells_app (a b : List RFile) : rfCells (a ++ b) = rfCells a ++ rfCells b := by simp [rfCells]
theorem IsRef.filed {w w' w'' : World} {F : Nat → Prop} {N b : Nat} {r : RMem} (h : IsRef w F N b r) (hg : w.grownBy w' r.fv.ownBlock) (fv : Value) (files : List RFile) (hr : w'.ownsRow 0 91 2 fv files.length (rfCells files)) (hF : ∀ k, fv.ownBlock = some k → F k)
    (hb : ∀ f ∈ files, w'.ownsRow 0 5 1 f.bv f.data.length (u8s f.data) ∧ (∀ k, f.bv.ownBlock = some k → F k) ∧ f.synced ≤ f.data.length ∧ f.data.length ≤ 1048576)
    (ha : ∀ (i j : Nat) (f g : RFile) (k : Nat), files[i]? = some f → files[j]? = some g → f.bv.ownBlock = some k → g.bv.ownBlock = some k → i = j) (hN : files.length ≤ N) (hg2 : w'.grownBy w'' (some b)) (hd : RDsk w'' b { r with fv := fv, files := files }) : IsRef w'' F N b { r with fv := fv, files := files } := by
  have t : ∀ u, u ≠ 91 → NoTag w r.fv.ownBlock u := fun u hu => noTag_rows h.files hu
  have hbb : Blk w' b _ 67 := h.dsk.keptN hg (t 67 (by decide))
  exact { h with
    dsk := hd
    files := rowsKept hr hg2 (noTag_blk hbb (by decide))
    byts := fun f hf => ⟨rowsKept (hb f hf).1 hg2 (noTag_blk hbb (by decide)), (hb f hf).2⟩
    apart := ha
    fF := hF
    dir := (h.dir.kept hg (t 94 (by decide))).kept hg2 (noTag_blk hbb (by decide))
    sure := (h.sure.kept hg (t 94 (by decide))).kept hg2 (noTag_blk hbb (by decide))
    chs := rowsKept (rowsKept h.chs hg (t 89 (by decide))) hg2 (noTag_blk hbb (by decide))
    nF := hN }
theorem RPost.still {F : Nat → Prop} {N b : Nat} {w w' : World} {S : Int → RMem → Prop} {r : RMem} {n : Int} (h : IsRef w F N b r) (hg : w.grownBy w' none) (hS : S n r) : RPost F N b w S (.returned (.int .i64 n)) w' :=
  ⟨n, r, rfl, hS, ((h.kept_none hg).monoF (fun k hk => .inl hk)).monoN (Nat.le_succ _), Keeps.of_none hg⟩

theorem IsRef.shape {w : World} {F : Nat → Prop} {N b : Nat} {r : RMem} (h : IsRef w F N b r) : ∃ fa fc da dc, r.fv = .slice fa r.files.length fc ∧ r.dv = .slice da r.dir.length dc := by
  obtain ⟨fa, fc, e1⟩ := rows_shape h.files
  obtain ⟨da, dc, e2⟩ := h.dir.len
  exact ⟨fa, fc, da, dc, e1, e2⟩
theorem IsRef.cells {w : World} {F : Nat → Prop} {N b : Nat} {r : RMem} {x1 x2 : Value} (h : IsRef w F N b r) (e1 : r.fv = x1) (e2 : r.dv = x2) : w.cell? ⟨b, 0, none⟩ = some (.int .i64 r.quota) ∧ w.cell? ⟨b, 1, none⟩ = some x1 ∧ w.cell? ⟨b, 2, none⟩ = some x2 ∧ w.frozen? ⟨b, 1, none⟩ = false := by
  obtain ⟨c0, c1, c2, _, _, _, _, cf⟩ := h.dsk.all
  subst e1
  subst e2
  exact ⟨c0, c1, c2, cf 1⟩
theorem IsRef.nmr {w : World} {F : Nat → Prop} {N b : Nat} {r : RMem} {x2 : Value} (h : IsRef w F N b r) (e2 : r.dv = x2) : NmR w x2 r.dir := e2 ▸ h.dir.nmr

def RCreateSpec (s : ByteArray) (r : RMem) (n : Int) (r' : RMem) : Prop :=
  (rightB s = false ∧ n = 1 ∧ r' = r) ∨ (rightB s = true ∧ (∃ (k : Nat) (p : ByteArray × Nat), r.dir[k]? = some p ∧ p.1 = s) ∧ n = 4 ∧ r' = r) ∨ (rightB s = true ∧ (∀ p ∈ r.dir, p.1 ≠ s) ∧ 512 ≤ r.dir.length ∧ n = 7 ∧ r' = r) ∨
  (rightB s = true ∧ (∀ p ∈ r.dir, p.1 ≠ s) ∧ r.dir.length < 512 ∧ RNoPower r ∧ n = 9 ∧ r' = { r with off := true }) ∨
  (rightB s = true ∧ (∀ p ∈ r.dir, p.1 ≠ s) ∧ r.dir.length < 512 ∧ r.off = false ∧ r.fuse ≠ 0 ∧ n = 0 ∧ ∃ cv dv fv, r' = { r with fuse := spent r.fuse, cv := cv, dv := dv, fv := fv, chs := r.chs ++ [⟨0, s, ⟨#[]⟩, r.files.length⟩], dir := rdone r.dir ⟨0, s, ⟨#[]⟩, r.files.length⟩, files := r.files ++ [⟨.slice none 0 0, [], 0⟩] })

set_option maxHeartbeats 2000000 in
theorem rcreate_any (N b : Nat) (F : Nat → Prop) (r : RMem) (s : ByteArray) (w : World) (h : IsRef w F N b r) (hN : N ≤ 1999999999999) (hs : s.size ≤ maxLen) : Calls Try.prog 30 #[.pointer (some ⟨b, 0, none⟩), .string s] w (RPost F N b w (RCreateSpec s r)) := by
  have hnd : r.dir.length ≤ 1999999999999 := by have := h.nD; omega
  have hnf : r.files.length ≤ 1999999999999 := by have := h.nF; omega
  cases hr : rightB s with
  | false =>
    have HP := hid_mk (h)
    have HC := hid_mk (named_any s w hs)
    clear h hs
    go_enter Try.func30, Try.ntmps30
    go_wp2_with fail
    refine HC.out.mono ?_
    rw [hr]
    rintro e w1 ⟨rfl, rfl⟩
    go_wp2_with fail
    go_ret
    exact RPost.still HP.out (grown_refl _ _) (.inl ⟨hr, rfl, rfl⟩)
  | true =>
    have HI := hid_mk (h)
    have HC := hid_mk (named_any s w hs)
    have HS := hid_mk hs
    clear h hs
    go_enter Try.func30, Try.ntmps30
    go_wp2_with fail
    refine HC.out.mono ?_
    rw [hr]
    rintro e w1 ⟨rfl, rfl⟩
    obtain ⟨fa, fc, da, dc, e1, e2⟩ := HI.out.shape
    obtain ⟨_, c1, c2, _⟩ := HI.out.cells e1 e2
    have HE := hid_mk (And.intro e1 e2)
    clear e1 e2
    go_wp2_with fail
    refine (find_any' _ r.dir s _ (HI.out.nmr HE.out.2) (by omega)).mono ?_
    rintro e w2 ⟨k, rfl, hf, hg⟩
    have HI2 := hid_mk (HI.out.kept_none hg)
    have HG2 := hid_mk hg
    clear hg c1 c2
    rcases hf with ⟨k, p, rfl, hp, he⟩ | ⟨rfl, hno⟩
    · have HP := hid_mk (show ∃ (k : Nat) (p : ByteArray × Nat), r.dir[k]? = some p ∧ p.1 = s from ⟨k, p, hp, he⟩)
      have hk0 : (0 : Int) ≤ (k : Int) := by omega
      clear hp he
      go_wp2_with fail
      go_ret
      exact RPost.still HI.out HG2.out (.inr (.inl ⟨hr, HP.out, rfl, rfl⟩))
    · have HN := hid_mk hno
      clear hno
      obtain ⟨_, c1, c2, _⟩ := HI2.out.cells HE.out.1 HE.out.2
      by_cases hz : 512 ≤ r.dir.length
      · have hzI : (512 : Int) ≤ (r.dir.length : Int) := by omega
        go_wp2_with fail
        go_ret
        exact RPost.still HI.out HG2.out (.inr (.inr (.inl ⟨hr, HN.out, hz, rfl, rfl⟩)))
      · have hzI : ¬ (512 : Int) ≤ (r.dir.length : Int) := by omega
        go_wp2_with fail
        refine (rchange_any N b F r ⟨0, s, ⟨#[]⟩, r.files.length⟩ w2 HI2.out hN).mono ?_
        rintro e w3 ⟨n, r3, rfl, hS, hI3, hk3⟩
        rcases hS with ⟨hp, rfl, rfl⟩ | ⟨hp1, hp2, rfl, cv, dv, rfl⟩
        · have HR := hid_mk (RPost.ahead (S := RCreateSpec s r) ⟨9, _, rfl, .inr (.inr (.inr (.inl ⟨hr, HN.out, by omega, hp, rfl, rfl⟩))), hI3, hk3⟩ HG2.out)
          clear hp hI3 hk3 c1 c2
          go_wp2_with fail
          go_ret
          exact HR.out
        · have HI3 := hid_mk hI3
          have HK3 := hid_mk hk3
          have HSP := hid_mk (And.intro hp1 hp2)
          clear hp1 hp2 hI3 hk3 c1 c2
          obtain ⟨i0, hi, hz0, hz1, hz2⟩ := info_parts info91
          obtain ⟨_, c1, _, f1⟩ := HI3.out.cells (x1 := .slice fa r.files.length fc) HE.out.1 rfl
          have HOW := hid_mk (show (w3.alloc (.cells #[.slice none 0 0, .int .i64 0] 91)).ownsRow 0 91 2 (.slice fa r.files.length fc) r.files.length (rfCells r.files) from by
            have := HI3.out.files.alloc (.cells #[.slice none 0 0, .int .i64 0] 91)
            simp only at this
            rwa [HE.out.1] at this)
          go_wp2_with (at_builtin; refine wpList_append_own_at _ rfl (.tmp 40) (.tmp 42) 63 rfl 0 91 i0 _ 2 32 Try.underlying63 hi hz0 hz1 hz2 rfl (by decide) (.slice fa r.files.length fc) r.files.length (rfCells r.files) rfl HOW.out ⟨w3.heap.size, 0, none⟩ 1 1 [.slice none 0 0, .int .i64 0] rfl rfl (cell_two_new _ _ _ _) (by simp [Value.oneCell']) (by unfold maxLen; omega) (by omega) (Nat.zero_le _) ?_; intro v' w6 hown6 hgrow6 _ hloc6; obtain ⟨a6, c6, rfl⟩ := rows_shape hown6; have P6 := hid_mk (And.intro hown6 (And.intro (grown_after (World.grownBy_alloc w3 (.cells #[.slice none 0 0, .int .i64 0] 91) none) hgrow6) hloc6)); have Q6 := hid_mk (HI3.out.dsk.keptN P6.out.2.1 (HE.out.1 ▸ noTag_rows HI3.out.files (by decide))); have n6 := Q6.out.frozen 1; have m6 := (RDsk.all (r := { r with fuse := spent r.fuse, cv := cv, dv := dv, chs := r.chs ++ [⟨0, s, ⟨#[]⟩, r.files.length⟩], dir := rdone r.dir ⟨0, s, ⟨#[]⟩, r.files.length⟩ }) Q6.out).2.1; clear hown6 hgrow6 hloc6)
          go_ret
          have hfv := HE.out.1
          have hsz : w1.heap.size ≤ w3.heap.size := Nat.le_trans HG2.out.size HK3.out.size
          refine ⟨0, _, rfl, .inr (.inr (.inr (.inr ⟨hr, HN.out, by omega, HSP.out.1, HSP.out.2, rfl, cv, dv, .slice a6 (r.files.length + 1) c6, rfl⟩))), ?_, ?_⟩
          · refine ((HI3.out.monoF (G := fun k => F k ∨ w1.heap.size ≤ k) (fun k hk => by rcases hk with h | h; exact .inl h; exact .inr (Nat.le_trans HG2.out.size h)))).filed (w' := w6) (hfv ▸ P6.out.2.1) (.slice a6 (r.files.length + 1) c6) (r.files ++ [⟨.slice none 0 0, [], 0⟩]) (by
              have := P6.out.1
              rw [List.length_append, rfCells_app]
              exact this) (fun k hk => ?_) (fun f hf => ?_) (fun i j f g k hi hj hf hg => ?_) (by have := HI3.out.nF; have := HI.out.nF; simp only [List.length_append, List.length_singleton]; omega) (grown_setCell _ _ _ _) (Blk.set Q6.out 1 _)
            · rcases P6.out.2.2 with e | e
              · rw [e, ← hfv] at hk
                exact .inl (HI.out.fF k hk)
              · rw [e] at hk
                cases hk
                exact .inr (Nat.le_trans hsz (World.grownBy_alloc w3 (.cells #[.slice none 0 0, .int .i64 0] 91) none).size)
            · rcases List.mem_append.1 hf with hf | hf
              · have := HI3.out.byts f hf
                exact ⟨rowsKept this.1 P6.out.2.1 (hfv ▸ noTag_rows HI3.out.files (by decide)), fun k hk => by rcases this.2.1 k hk with h | h; exact .inl h; exact .inr (Nat.le_trans HG2.out.size h), this.2.2⟩
              · simp at hf
                subst hf
                exact ⟨World.ownsRow_nil _ _ _ _, fun k hk => (by simp [Value.ownBlock] at hk), Nat.le_refl _, by simp⟩
            · have fi : ∀ (i : Nat) (f : RFile), (r.files ++ [(⟨.slice none 0 0, [], 0⟩ : RFile)])[i]? = some f → f.bv.ownBlock = some k → r.files[i]? = some f := fun i f hi hk => by
                rw [List.getElem?_append] at hi
                split at hi
                · exact hi
                · have : f = ⟨.slice none 0 0, [], 0⟩ := by
                    have := List.mem_of_getElem? hi
                    simpa using this
                  subst this
                  cases hk
              exact HI.out.apart i j f g k (fi i f hi hf) (fi j g hj hg) hf hg
          · exact (Keeps.of_none HG2.out).then (HK3.out.then ((Keeps.of_grown P6.out.2.1 (fun k e _ => HI.out.fF k (hfv ▸ e))).then (Keeps.one (grown_setCell _ _ _ _) HI.out.fB)))

def RRenameSpec (s t : ByteArray) (r : RMem) (n : Int) (r' : RMem) : Prop :=
  ((rightB s = false ∨ rightB t = false) ∧ n = 1 ∧ r' = r) ∨ (rightB s = true ∧ rightB t = true ∧ (∀ p ∈ r.dir, p.1 ≠ s) ∧ n = 3 ∧ r' = r) ∨
  (rightB s = true ∧ rightB t = true ∧ ∃ (k : Nat) (p : ByteArray × Nat), r.dir[k]? = some p ∧ p.1 = s ∧ RChangeSpec ⟨1, s, t, p.2⟩ r n r')
def RRemoveSpec (s : ByteArray) (r : RMem) (n : Int) (r' : RMem) : Prop :=
  (rightB s = false ∧ n = 1 ∧ r' = r) ∨ (rightB s = true ∧ (∀ p ∈ r.dir, p.1 ≠ s) ∧ n = 3 ∧ r' = r) ∨
  (rightB s = true ∧ (∃ (k : Nat) (p : ByteArray × Nat), r.dir[k]? = some p ∧ p.1 = s) ∧ RChangeSpec ⟨2, s, ⟨#[]⟩, 0⟩ r n r')

set_option maxHeartbeats 2000000 in
theorem rremove_any (N b : Nat) (F : Nat → Prop) (r : RMem) (s : ByteArray) (w : World) (h : IsRef w F N b r) (hN : N ≤ 1999999999999) (hs : s.size ≤ maxLen) : Calls Try.prog 35 #[.pointer (some ⟨b, 0, none⟩), .string s] w (RPost F N b w (RRemoveSpec s r)) := by
  have hnd : r.dir.length ≤ 1999999999999 := by have := h.nD; omega
  have HI := hid_mk (h)
  have HC := hid_mk (named_any s w hs)
  clear h hs
  go_enter Try.func35, Try.ntmps35
  go_wp2_with fail
  refine HC.out.mono ?_
  rintro e w1 ⟨rfl, rfl⟩
  clear HC
  cases hr : rightB s with
  | false =>
    go_wp2_with fail
    go_ret
    exact RPost.still HI.out (grown_refl _ _) (.inl ⟨hr, rfl, rfl⟩)
  | true =>
    obtain ⟨fa, fc, da, dc, e1, e2⟩ := HI.out.shape
    obtain ⟨_, _, c2, _⟩ := HI.out.cells e1 e2
    have HE := hid_mk (And.intro e1 e2)
    clear e1 e2
    go_wp2_with fail
    refine (find_any' _ r.dir s _ (HI.out.nmr HE.out.2) (by omega)).mono ?_
    rintro e w2 ⟨k, rfl, hf, hg⟩
    have HI2 := hid_mk (HI.out.kept_none hg)
    have HG2 := hid_mk hg
    clear hg c2
    rcases hf with ⟨k, p, rfl, hp, he⟩ | ⟨rfl, hno⟩
    · have HP := hid_mk (show ∃ (k : Nat) (p : ByteArray × Nat), r.dir[k]? = some p ∧ p.1 = s from ⟨k, p, hp, he⟩)
      have hk0 : (0 : Int) ≤ (k : Int) := by omega
      clear hp he
      go_wp2_with fail
      refine (rchange_any N b F r ⟨2, s, ⟨#[]⟩, 0⟩ w2 HI2.out hN).mono ?_
      rintro e w3 ⟨n, r3, rfl, hS, hI3, hk3⟩
      have HR := hid_mk (RPost.ahead (S := RRemoveSpec s r) ⟨n, r3, rfl, .inr (.inr ⟨hr, HP.out, hS⟩), hI3, hk3⟩ HG2.out)
      clear hS hI3 hk3
      go_wp2_with fail
      go_ret
      exact HR.out
    · have HN := hid_mk hno
      clear hno
      go_wp2_with fail
      go_ret
      exact RPost.still HI.out HG2.out (.inr (.inl ⟨hr, HN.out, rfl, rfl⟩))

set_option maxHeartbeats 2000000 in
theorem rrename_any (N b : Nat) (F : Nat → Prop) (r : RMem) (s t : ByteArray) (w : World) (h : IsRef w F N b r) (hN : N ≤ 1999999999999) (hs : s.size ≤ maxLen) (ht : t.size ≤ maxLen) : Calls Try.prog 34 #[.pointer (some ⟨b, 0, none⟩), .string s, .string t] w (RPost F N b w (RRenameSpec s t r)) := by
  have hnd : r.dir.length ≤ 1999999999999 := by have := h.nD; omega
  have HI := hid_mk (h)
  have HC := hid_mk (named_any s w hs)
  have HD := hid_mk (named_any t w ht)
  clear h hs ht
  go_enter Try.func34, Try.ntmps34
  go_wp2_with fail
  refine HC.out.mono ?_
  rintro e w1 ⟨rfl, rfl⟩
  clear HC
  cases hr : rightB s with
  | false =>
    go_wp2_with fail
    go_ret
    exact RPost.still HI.out (grown_refl _ _) (.inl ⟨.inl hr, rfl, rfl⟩)
  | true =>
    go_wp2_with fail
    refine HD.out.mono ?_
    rintro e w1 ⟨rfl, rfl⟩
    clear HD
    cases ht : rightB t with
    | false =>
      go_wp2_with fail
      go_ret
      exact RPost.still HI.out (grown_refl _ _) (.inl ⟨.inr ht, rfl, rfl⟩)
    | true =>
      obtain ⟨fa, fc, da, dc, e1, e2⟩ := HI.out.shape
      obtain ⟨_, _, c2, _⟩ := HI.out.cells e1 e2
      have HE := hid_mk (And.intro e1 e2)
      clear e1 e2
      go_wp2_with fail
      refine (find_any' _ r.dir s _ (HI.out.nmr HE.out.2) (by omega)).mono ?_
      rintro e w2 ⟨k, rfl, hf, hg⟩
      have HI2 := hid_mk (HI.out.kept_none hg)
      have HG2 := hid_mk hg
      clear hg c2
      rcases hf with ⟨k, p, rfl, hp, he⟩ | ⟨rfl, hno⟩
      · have HP := hid_mk (And.intro hp he)
        have hk0 : ¬ (k : Int) < 0 := by omega
        have hkl : k < r.dir.length := (List.getElem?_eq_some_iff.1 hp).1
        have hkI : (k : Int) < (r.dir.length : Int) := by omega
        obtain ⟨_, _, c2, _⟩ := HI2.out.cells HE.out.1 HE.out.2
        obtain ⟨g, off, cap, ed, hcap, hcell⟩ := (HI2.out.nmr HE.out.2).at (by omega)
        injection ed with ed1 ed2 ed3
        subst ed1
        subst ed3
        have q0 := (hcell k p hp).1
        have q1 := (hcell k p hp).2
        obtain ⟨ps, pf⟩ := p
        simp only at q0 q1
        clear hp he hcell ed2
        go_wp2_with fail
        refine (rchange_any N b F r ⟨1, s, t, pf⟩ w2 HI2.out hN).mono ?_
        rintro e w3 ⟨n, r3, rfl, hS, hI3, hk3⟩
        have HR := hid_mk (RPost.ahead (S := RRenameSpec s t r) ⟨n, r3, rfl, .inr (.inr ⟨hr, ht, k, (ps, pf), HP.out.1, HP.out.2, hS⟩), hI3, hk3⟩ HG2.out)
        clear hS hI3 hk3
        go_wp2_with fail
        go_ret
        exact HR.out
      · have HN := hid_mk hno
        clear hno
        go_wp2_with fail
        go_ret
        exact RPost.still HI.out HG2.out (.inr (.inl ⟨hr, ht, HN.out, rfl, rfl⟩))

end Go.Proofs.Ytopablemfajecaa
