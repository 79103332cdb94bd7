/- row: frames one behind the other, and where each ends. -/
import Derived.Test.YtdpigghjgjaleaaDoorSame
import Derived.Deep.RegionLaw
namespace Go.Proofs.YtdpigghjgjaleaaDoor
open Go.RowKit Go.Maps
set_option linter.unusedVariables false
set_option linter.unusedSimpArgs false

/-- append, as one step of a region that draws. -/
theorem step_append_byt (w0 w : World) {ops : Array Oper} {o : Oper} {a : Act} {K : Act → World → Prop} {Q : Exit → Act → World → Prop} {E : Prop} (hgd : o.guard = none) (s x : Operand)
    (ho : o.op = .call { callee := .builtin .append, args := #[s, x], argTypes := #[22, 22] }) (hg0 : w0.grownBy w none)
    (v : Value) (l0 : List UInt8) (hs : a.eval s = v) (hown : Own w w0.heap.size v l0) (l : List UInt8) (sv : Value) (hx : a.eval x = sv) (hsrc : Byt w sv l) (h47 : l0.length + l.length ≤ 140737488355328)
    (h : ∀ a' cap' w', Hid (Own w' w0.heap.size (.slice a' (l0.length + l.length) cap') (l0 ++ l) ∧ w0.grownBy w' none ∧ w.grownBy w' v.ownBlock) → K (a.put o.dst (.slice a' (l0.length + l.length) cap')) w') :
    if Region.wanted o (yielded ops a.tmps) = true then Oper.wp Tryd.prog o a w K Q else E := by
  have hw : Region.wanted o (yielded ops a.tmps) = true := by simp [Region.wanted, hgd]
  rw [if_pos hw]
  obtain ⟨i, hi, hz, hsize, hby⟩ := info_parts info5
  have hsrc' : (sv = .slice none 0 0 ∧ l = []) ∨ ∃ ad c, sv = .slice (some ad) l.length c ∧ ∀ j u, (u8s l)[j]? = some u → w.cell? (ad.add j) = some u := by
    rcases hsrc with ⟨rfl, a', cap', rfl, hn⟩ | ⟨b, off, cap', rfl, _, hc⟩
    · cases a' with
      | none => obtain rfl := hn rfl; exact .inl ⟨rfl, rfl⟩
      | some a' => exact .inr ⟨a', cap', rfl, fun j u hj => by simp [u8s] at hj⟩
    · refine .inr ⟨_, cap', rfl, fun j u hj => ?_⟩
      simp only [u8s, List.getElem?_map, Option.map_eq_some_iff] at hj
      obtain ⟨c, hc', rfl⟩ := hj
      have := hc j c hc'
      rw [← this]; congr 1; unfold Addr.add; split <;> simp_all
  have e0 : u8s (l0 ++ l) = u8s l0 ++ u8s l := u8s_append _ _
  have fin : ∀ w', w.grownBy w' v.ownBlock → w0.grownBy w' none := fun w' h2 => by
    cases hv : v.ownBlock with
    | none => rw [hv] at h2; exact grown_trans hg0 h2
    | some r => rw [hv] at h2; exact grown_new hg0 h2 (own_low hown r hv).1
  rcases hsrc' with ⟨rfl, rfl⟩ | ⟨ad, c, rfl, hc⟩
  · have hrun := run_append_owned_none (P := Tryd.prog) w w0.heap.size 22 o.type 5 i 1 Tryd.underlying22 hi v l0.length (u8s l0) hown
    obtain ⟨a1, c1, rfl⟩ := hown.len
    unfold Oper.wp
    simp [execOp, ho, resolve, invoke, builtin, hs, hx, hrun, Result.andThen]
    exact h a1 c1 w (hid_mk ⟨by simpa using hown, fin w (grown_refl _ _), grown_refl _ _⟩)
  · obtain ⟨v', w', hrun, r1, r2, r3⟩ := run_append_own (P := Tryd.prog) w w0.heap.size 22 o.type 5 i (.int .u8 0) 1 1 Tryd.underlying22 hi hz hsize hby rfl (by decide) v l0.length (u8s l0) hown ad l.length c (u8s l) (by simp [u8s_len]) hc (u8s_one l) (by unfold maxLen; omega) (by omega) hg0.size
    have h1' : Own w' w0.heap.size v' (l0 ++ l) := by unfold Own; rw [e0, List.length_append]; exact r1
    obtain ⟨a1, c1, e⟩ := h1'.len
    rw [List.length_append] at e
    subst e
    unfold Oper.wp
    simp [execOp, ho, resolve, invoke, builtin, hs, hx, hrun, Result.andThen]
    exact h a1 c1 w' (hid_mk ⟨h1', fin w' r2, r2⟩)

def prs (fs : List RF) : List (UInt8 × List UInt8) := fs.map fun f => (UInt8.ofNat f.kind.toNat, f.d)
def okF (f : RF) : Prop := putErr f.kind f.d.length = 0
def endsL (fs : List RF) : List Nat := (List.range fs.length).map fun i => (rowB (prs (fs.take (i + 1)))).length
theorem endsL_take (fs : List RF) (i : Nat) (hi : i < fs.length) : endsL (fs.take (i + 1)) = endsL (fs.take i) ++ [(rowB (prs (fs.take (i + 1)))).length] := by
  have h1 : (fs.take (i + 1)).length = i + 1 := by simp; omega
  have h2 : (fs.take i).length = i := by simp; omega
  unfold endsL
  rw [h1, h2, List.range_succ, List.map_append]
  congr 1
  · apply List.map_congr_left
    intro j hj
    have : j < i := List.mem_range.1 hj
    rw [List.take_take, List.take_take, show min (j + 1) (i + 1) = j + 1 by omega, show min (j + 1) i = j + 1 by omega]
  · simp [List.take_take]
def i64s (l : List Nat) : List Value := l.map fun n : Nat => .int .i64 (n : Int)
theorem okF_le {f : RF} (h : okF f) : 0 ≤ f.kind ∧ f.kind ≤ 255 ∧ f.d.length ≤ 65536 := by
  unfold okF putErr at h
  split at h
  · cases h
  · split at h
    · cases h
    · omega
theorem prs_take_succ (fs : List RF) (i : Nat) (f : RF) (hf : fs[i]? = some f) : rowB (prs (fs.take (i + 1))) = rowB (prs (fs.take i)) ++ putB (UInt8.ofNat f.kind.toNat) f.d := by
  have hi := (List.getElem?_eq_some_iff.1 hf).1
  have e : fs[i] = f := (List.getElem?_eq_some_iff.1 hf).2
  rw [List.take_succ_eq_append_getElem hi, e]
  simp [prs, rowB]
theorem row_len_le (fs : List RF) (h : ∀ f ∈ fs, okF f) : (rowB (prs fs)).length ≤ fs.length * 65545 := by
  induction fs with
  | nil => simp [prs, rowB]
  | cons f fs ih =>
    have := ih (fun g hg => h g (by simp [hg]))
    have := okF_le (h f (by simp))
    simp [prs, rowB, putB_len] at *
    omega
theorem prs_ok {fs : List RF} (h : ∀ f ∈ fs, okF f) : ∀ p ∈ prs fs, p.2.length ≤ 65536 := by
  intro p hp
  obtain ⟨f, hf, rfl⟩ := List.mem_map.1 hp
  exact (okF_le (h f hf)).2.2

def RowPost (fs : List RF) (w : World) (e : Ending) (w' : World) : Prop :=
  w.grownBy w' none ∧ ((e = .returned (.tuple #[.slice none 0 0, .slice none 0 0, .bool false])) ∨
    ∃ ba bc ea ec, (∀ f ∈ fs.take 50, okF f) ∧ e = .returned (.tuple #[.slice ba (rowB (prs (fs.take 50))).length bc, .slice ea (fs.take 50).length ec, .bool true]) ∧
      Own w' w.heap.size (.slice ba (rowB (prs (fs.take 50))).length bc) (rowB (prs (fs.take 50))) ∧ w'.ownsRow w.heap.size 3 1 (.slice ea (fs.take 50).length ec) (fs.take 50).length (i64s (endsL (fs.take 50))))

theorem info3 : (Tryd.prog.info? 3).map (fun i => (i.zero, i.size, i.bytes)) = some (some (.int .i64 0), 1, 8) := by kernel_rfl

/-- Between two rounds of row. -/
structure FInv (w : World) (fs : List RF) (i : Nat) (bv ev : Value) (W : World) : Prop where
  bytes : Own W w.heap.size bv (rowB (prs (fs.take i)))
  ends : W.ownsRow w.heap.size 3 1 ev i (i64s (endsL (fs.take i)))
  grown : w.grownBy W none
  ok : ∀ f ∈ fs.take i, okF f

theorem FInv.mid {w W2 w3 : World} {bv ev v3 : Value} {fs : List RF} {i : Nat} (h : FInv w fs i bv ev W2) (hg23 : W2.grownBy w3 bv.ownBlock) : w3.ownsRow w.heap.size 3 1 ev i (i64s (endsL (fs.take i))) :=
  owns_kept h.ends hg23 (fun g cur hh => own_tag h.bytes hh (by decide))
theorem FInv.next {w W2 w3 w4 : World} {bv ev v3 v4 x : Value} {fs : List RF} {i : Nat} {f : RF} {n : Int} (h : FInv w fs i bv ev W2) (hf : fs[i]? = some f) (hok : okF f)
    (ho3 : Own w3 w.heap.size v3 (rowB (prs (fs.take i)) ++ putB (UInt8.ofNat f.kind.toNat) f.d)) (hg3 : w.grownBy w3 none) (hg23 : W2.grownBy w3 bv.ownBlock)
    (ho4 : w4.ownsRow w.heap.size 3 1 v4 (i + 1) (i64s (endsL (fs.take i)) ++ [.int .i64 n])) (hn : n = ((rowB (prs (fs.take (i + 1)))).length : Nat)) (hg4 : (w3.alloc (.cells #[x] 3)).grownBy w4 ev.ownBlock) : FInv w fs (i + 1) v3 v4 w4 := by
  have hi := (List.getElem?_eq_some_iff.1 hf).1
  have he := (List.getElem?_eq_some_iff.1 hf).2
  have ga := World.grownBy_alloc w3 (.cells #[x] 3) none
  have e3 := owns_kept (h.mid (v3 := v3) hg23) ga (fun _ _ _ => by simp)
  refine ⟨?_, ?_, ?_, ?_⟩
  · rw [prs_take_succ fs i f hf]
    exact owns_kept (ho3.kept ga (.inl rfl)) hg4 (fun g cur hh => own_tag e3 hh (by decide))
  · rw [endsL_take fs i hi]
    rw [hn] at ho4
    simpa [i64s] using ho4
  · cases e : ev.ownBlock with
    | none => rw [e] at hg4; exact grown_trans (grown_trans hg3 ga) hg4
    | some r => rw [e] at hg4; exact grown_new (grown_trans hg3 ga) hg4 (own_low e3 r e).1
  · intro g hg
    rw [List.take_succ_eq_append_getElem hi, he] at hg
    rcases List.mem_append.1 hg with hm | hm
    · exact h.ok g hm
    · rw [List.mem_singleton.1 hm]; exact hok
theorem FInv.kept {w W W' : World} {bv ev : Value} {fs : List RF} {i : Nat} (h : FInv w fs i bv ev W) (hg : W.grownBy W' none) : FInv w fs i bv ev W' :=
  ⟨h.bytes.kept hg (.inl rfl), owns_kept h.ends hg (fun _ _ _ => by simp), grown_trans h.grown hg, h.ok⟩

set_option maxRecDepth 100000 in
set_option maxHeartbeats 4000000 in
theorem row_some (b off cap : Nat) (fs : List RF) (w : World) (hcap : fs.length ≤ cap) (hc : ∀ (i : Nat) f, fs[i]? = some f → w.cell? ⟨b, off + i * 2, none⟩ = some (.int .i64 f.kind) ∧ w.cell? ⟨b, off + i * 2 + 1, none⟩ = some f.dv ∧ Byt w f.dv f.d ∧ f.d.length + 2 ≤ 140737488355328) (hl : fs.length ≤ 140737488355328) (ht : Tab w) :
    Calls Tryd.prog 22 #[.slice (some ⟨b, off, none⟩) fs.length cap] w (RowPost fs w) := by
  obtain ⟨M, hM⟩ : ∃ M, M = (fs.take 50).length := ⟨_, rfl⟩
  have hM1 : M ≤ 50 := by rw [hM]; simp; omega
  have hM2 : M ≤ fs.length := by rw [hM]; simp; omega
  have hM3 : ¬ (M < fs.length ∧ M < 50) := by rw [hM]; simp; omega
  have HM := hid_mk hM
  have HC := hid_mk hc
  have HT := hid_mk ht
  clear hc ht hM
  obtain ⟨i0, hi, hz0, hz1, hz2⟩ := info_parts info3
  go_enter Tryd.func22, Tryd.ntmps22
  go_wp2
  go_loopw [5, 6, 7] (fun bv ev t wr => ∃ (i : Nat) (ba : Option Addr) (bc : Nat) (ea : Option Addr) (ec : Nat), i ≤ M ∧ t = .int .i64 i ∧ bv = .slice ba (rowB (prs (fs.take i))).length bc ∧ ev = .slice ea i ec ∧ Hid (FInv w fs i (.slice ba (rowB (prs (fs.take i))).length bc) (.slice ea i ec) wr)) (fun _ _ t _ => M - (intOf t).toNat)
  case atStart => exact ⟨0, none, 0, none, 0, Nat.zero_le _, rfl, by simp [prs, rowB], rfl, hid_mk ⟨by simp [prs, rowB]; exact World.ownsRow_nil _ _ _ _, World.ownsRow_nil _ _ _ _, grown_refl _ _, by simp⟩⟩
  case round =>
    obtain ⟨i, ba, bc, ea, ec, hi1, rfl, rfl, rfl, HF⟩ := hrel
    by_cases hlt : i < M
    · have hif : i < fs.length := by omega
      have hi50 : i < 50 := by omega
      obtain ⟨f, hf⟩ : ∃ f, fs[i]? = some f := ⟨_, List.getElem?_eq_getElem hif⟩
      obtain ⟨c0, c1, cb, cl⟩ := HC.out i f hf
      obtain ⟨fa, fc, hfd⟩ := cb.len
      rw [hfd] at c1 cb
      have C0 := HF.out.grown.cell c0 (by simp)
      have C1 := HF.out.grown.cell c1 (by simp)
      have CB := hid_mk (cb.kept HF.out.grown)
      have GA := hid_mk (grown_trans (World.grownBy_alloc wr (.cells #[] 5) none) (grown_drew _ none))
      have O0 : Hid (Own (wr.alloc (.cells #[] 5)).drew wr.heap.size (.slice (some ⟨wr.heap.size, 0, none⟩) 0 0) []) := hid_mk ((own_empty wr).kept (grown_drew _ none) (.inl rfl))
      have C0a : (wr.alloc (.cells #[] 5)).cell? ⟨b, off + i * 2, none⟩ = some (.int .i64 f.kind) := GA.out.cell C0 (by simp)
      have C1a : (wr.alloc (.cells #[] 5)).cell? ⟨b, off + i * 2 + 1, none⟩ = some (.slice fa f.d.length fc) := GA.out.cell C1 (by simp)
      have CBa := hid_mk (CB.out.kept GA.out)
      have HFF := hid_mk hf
      clear c0 c1 cb hfd hf
      have hI : (i : Int) < (fs.length : Int) := by omega
      generalize hbl : (rowB (prs (fs.take i))).length = bl at *
      go_wp2
      go_region_law (first
        | (refine step_append_byt wr _ rfl (.tmp 26) (.tmp 31) rfl GA.out (.slice (some ⟨wr.heap.size, 0, none⟩) 0 0) [] (by first | rfl | simp [Act.eval, Act.put]) O0.out f.d (.slice fa f.d.length fc) (by first | rfl | simp [Act.eval, Act.put]) CBa.out (by simp; omega) ?_; intro a1 c1 w1 H1; simp only [List.length_nil, Nat.zero_add, List.nil_append] at H1 ⊢; have C0w := H1.out.2.1.cell C0 (by simp))
        | (go_simp; go_at_call 14; refine (put_any f.kind _ f.d w1 H1.out.1.byt ((HT.out.kept HF.out.grown).kept H1.out.2.1)).mono ?_; rintro e w2 ⟨a2, c2, rfl, hb2, hg2⟩; have H2 := hid_mk (And.intro hb2 (grown_trans H1.out.2.1 hg2)); clear hb2 hg2))
      all_goals
        have C2 := H2.out.2.cell C1 (by simp)
        have HF2 := hid_mk (HF.out.kept H2.out.2)
        by_cases hok : okF f
        · have e1 : putErr f.kind f.d.length = 0 := hok
          have e2 : (putL f.kind f.d).length = f.d.length + 9 := by rw [putL_ok hok, putB_len]
          have e3 : putL f.kind f.d = putB (UInt8.ofNat f.kind.toNat) f.d := putL_ok hok
          have hdl := (okF_le hok).2.2
          have hbl2 : bl ≤ 3277250 := by
            have h1 := row_len_le _ HF.out.ok
            have h2 : (fs.take i).length ≤ 50 := by simp; omega
            omega
          have hsum : bl + (f.d.length + 9) = (rowB (prs (fs.take (i + 1)))).length := by rw [prs_take_succ fs i f HFF.out, List.length_append, putB_len, hbl]
          rw [e2, e3] at H2
          rw [e1, e2]
          have HOK := hid_mk (And.intro hok hsum)
          have HBL := hid_mk hbl
          clear hok hsum e1 e2 e3 hbl C0 C1 C0a C1a
          go_wp2_with (first
            | (go_at_call 16; refine (num_any _ _).mono ?_; rintro e wx ⟨rfl, rfl⟩)
            | (at_builtin; refine wpList_append_by w _ (bl + (f.d.length + 9)) rfl (.tmp 51) (.tmp 52) rfl HF2.out.grown (.slice ba bl bc) (rowB (prs (fs.take i))) rfl HF2.out.bytes (putB (UInt8.ofNat f.kind.toNat) f.d) _ rfl H2.out.1 (by rw [HBL.out, putB_len]) (by omega) (by omega) ?_; intro g3 c3 w3 L3 H3)
            | (at_builtin; refine wpList_append_own_at _ rfl (.tmp 54) (.tmp 57) 47 rfl w.heap.size 3 i0 (.int .i64 0) 1 8 Tryd.underlying47 hi hz0 hz1 hz2 rfl (by decide) (.slice ea i ec) i (i64s (endsL (fs.take i))) rfl (owns_kept (HF2.out.mid (v3 := .slice none 0 0) H3.out.2.2.2) (World.grownBy_alloc _ _ none) (fun _ _ _ => by simp)) ⟨w3.heap.size, 0, none⟩ 1 1 [.int .i64 ((bl : Int) + ((f.d.length : Int) + 9))] rfl rfl (cell_one_new _ _ _) (by simp [Value.oneCell']) (by unfold maxLen; omega) (by omega) (by have := H3.out.2.1.size; simp; omega) ?_; intro v4 w4 hown4 hgrow4 _ _; obtain ⟨ea4, ec4, rfl⟩ := row_shape hown4; have H4 := hid_mk (And.intro hown4 hgrow4); clear hown4 hgrow4))
          refine ⟨⟨i + 1, some ⟨g3, 0, none⟩, c3, ea4, ec4, by omega, by simp, by rw [← HOK.out.2], rfl, ?_⟩, by simp [intOf]; omega⟩
          rw [← HOK.out.2]
          exact hid_mk (HF2.out.next HFF.out HOK.out.1 H3.out.1 H3.out.2.1 H3.out.2.2.2 H4.out.1 (by rw [← HOK.out.2]; simp) H4.out.2)
        · have e1 : putErr f.kind f.d.length ≠ 0 := hok
          generalize putErr f.kind f.d.length = er at *
          generalize (putL f.kind f.d).length = pl at *
          have e2 : (er != 0) = true := by simpa using e1
          have e3 : (er == 0) = false := by simpa using e1
          clear hok hbl C0 C1 C0a C1a
          go_wp2_with (go_at_call 16; refine (num_any _ _).mono ?_; rintro e wx ⟨rfl, rfl⟩)
          go_ret3
          exact ⟨grown_trans HF.out.grown H2.out.2, .inl rfl⟩
    · have him : i = M := by omega
      subst him
      have HT50 := hid_mk (show fs.take 50 = fs.take i by rw [HM.out]; simp)
      have HLI := hid_mk (show (fs.take i).length = i by rw [← HT50.out, ← HM.out])
      have fin : RowPost fs w (.returned (.tuple #[.slice ba (rowB (prs (fs.take i))).length bc, .slice ea i ec, .bool true])) wr := by
        refine ⟨HF.out.grown, .inr ⟨ba, bc, ea, ec, ?_, ?_, ?_, ?_⟩⟩ <;> rw [HT50.out]
        · exact HF.out.ok
        · rw [HLI.out]
        · exact HF.out.bytes
        · rw [HLI.out]; exact HF.out.ends
      have FIN := hid_mk fin
      clear fin
      by_cases hA : i < fs.length
      · have h50 : i = 50 := by omega
        subst h50
        have hI : (50 : Int) < (fs.length : Int) := by omega
        go_wp2
        go_ret3
        exact FIN.out
      · have hI : ¬ ((i : Int) < (fs.length : Int)) := by omega
        go_wp2
        go_ret3
        exact FIN.out

theorem row_any (fv : Value) (fs : List RF) (w : World) (h : Frs w fv fs) (hl : fs.length ≤ 140737488355328) (ht : Tab w) : Calls Tryd.prog 22 #[fv] w (RowPost fs w) := by
  rcases h with ⟨rfl, a, cap, rfl, _⟩ | ⟨b, off, cap, rfl, hcap, hc⟩
  · have fin : RowPost [] w (.returned (.tuple #[.slice none 0 0, .slice none 0 0, .bool true])) w :=
      ⟨grown_refl _ _, .inr ⟨none, 0, none, 0, by simp, rfl, World.ownsRow_nil _ _ _ _, World.ownsRow_nil _ _ _ _⟩⟩
    have FIN := hid_mk fin
    clear fin hl ht
    go_enter Tryd.func22, Tryd.ntmps22
    go_wp2
    go_loopw [5, 6, 7] (fun bv ev t wr => t = .int .i64 0 ∧ bv = .slice none 0 0 ∧ ev = .slice none 0 0 ∧ wr = w) (fun _ _ _ _ => 0)
    case atStart => exact ⟨rfl, rfl, rfl, rfl⟩
    case round =>
      obtain ⟨rfl, rfl, rfl, rfl⟩ := hrel
      go_wp2
      go_ret3
      exact FIN.out
  · exact row_some b off cap fs w hcap hc hl ht

end Go.Proofs.YtdpigghjgjaleaaDoor
