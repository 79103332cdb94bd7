/- machine: trim, once; lists. -/
import Derived.Test.YtpncbehabfkhkabMaV
import Derived.Lib.SliceRun
namespace Go.Proofs.Ytpncbehabfkhkab.W
open Go.RowKit Go.Maps Go.WideMaps Go.WideElems
set_option linter.unusedVariables false
set_option linter.unusedSimpArgs false
set_option maxRecDepth 100000

theorem grown_setCells (b : Nat) : ∀ (vs : List Value) (o : Nat) (w : World), w.grownBy (w.setCells b o vs) (some b)
  | [], _, w => grown_refl _ _
  | v :: vs, o, w => grown_trans (grown_setCell w b o v) (grown_setCells b vs (o + 1) _)
theorem Parts.turn {w w' : World} {v : Value} {l : List (Value × List UInt8)} (h : Parts w v l) (hc : ∀ (g off c j : Nat) p, v = .slice (some ⟨g, off, none⟩) l.length c → l[j]? = some p → w.cell? ⟨g, off + j, none⟩ = some p.1 → w'.cell? ⟨g, off + j, none⟩ = some p.1) (hb : ∀ p ∈ l, Byt w' p.1 p.2) : Parts w' v l := by
  rcases h with h | ⟨g, off, c, e, hl, hx⟩
  · exact .inl h
  · exact .inr ⟨g, off, c, e, hl, fun j p hj => ⟨hc g off c j p e hj (hx j p hj).1, hb p (List.mem_of_getElem? hj)⟩⟩
theorem slice_tail (g n cap i : Nat) (h : i ≤ n) (hn : n ≤ cap) : ∃ a' c', (∀ w', (Instr.slice 40 (.slice (some ⟨g, 0, none⟩) n cap) (some (.int .i64 i)) none none).run Try.prog w' = .ok (.slice a' (n - i) c') w') ∧ sliced (some ⟨g, 0, none⟩) i n cap 1 = .slice a' (n - i) c' ∧ (i < n → a' = some ⟨g, i, none⟩) := by
  obtain ⟨a', c', e⟩ : ∃ a' c', sliced (some ⟨g, 0, none⟩) i n cap 1 = .slice a' (n - i) c' := ⟨_, _, rfl⟩
  refine ⟨a', c', fun w' => ?_, e, fun hi => ?_⟩
  · rw [run_slice_l w' 40 _ n cap under40 .i64 i (by omega) (by omega), elem40, Try.sizeOf32 w']
    simp only [Result.andThen, Int.toNat_natCast]
    rw [e]
  · unfold sliced at e
    rw [if_neg (by omega)] at e
    cases e
    simp [Addr.add]
    omega
theorem slice_head (g n cap i : Nat) (h : i ≤ n) (h0 : 0 < i) (hn : n ≤ cap) : ∀ w', (Instr.slice 40 (.slice (some ⟨g, 0, none⟩) n cap) none (some (.int .i64 i)) none).run Try.prog w' = .ok (.slice (some ⟨g, 0, none⟩) i cap) w' := fun w' => by
  rw [run_slice_h w' 40 _ n cap under40 .i64 i (by omega) (by omega), elem40, Try.sizeOf32 w']
  simp only [Result.andThen, Int.toNat_natCast]
  unfold sliced
  rw [if_neg (by omega)]
  simp [Addr.add]

theorem cell_keeps {w w' : World} {F : Nat → Prop} {b off : Nat} {x : Value} (h : w.cell? ⟨b, off, none⟩ = some x) (hk : Keeps F w w') (hn : ¬ F b) : w'.cell? ⟨b, off, none⟩ = some x := by
  have hlt : b < w.heap.size := by
    by_cases hb : b < w.heap.size
    · exact hb
    · rw [World.cell?] at h
      simp [Array.getElem?_eq_none (Nat.le_of_not_lt hb)] at h
  have := hk.block b hlt hn
  simpa [World.cell?, this] using h
/-- A machine that can be read, in blocks of Z. -/
structure MZ (w : World) (Z : Nat → Prop) (b : Nat) (m : Mach) : Prop where
  mr : MR w b m
  zb : Z b
  zr : ∀ k, m.rv.ownBlock = some k → Z k
  ze : ∀ p ∈ m.rs, ∀ k, p.1.ownBlock = some k → Z k
theorem MZ.keeps {w w' : World} {F Z : Nat → Prop} {b : Nat} {m : Mach} (h : MZ w Z b m) (hk : Keeps F w w') (hF : ∀ k, Z k → ¬ F k) : MZ w' Z b m := by
  refine ⟨⟨h.mr.blk.keeps hk (hF _ h.zb), h.mr.row.turn (fun g off c j p e hj hc => cell_keeps hc hk (hF _ (h.zr g (by rw [e]; rfl)))) (fun p hp => ?_), h.mr.el, h.mr.span, h.mr.top, h.mr.few⟩, h.zb, h.zr, h.ze⟩
  obtain ⟨j, hj, rfl⟩ := List.getElem_of_mem hp
  rcases h.mr.row with ⟨e, _⟩ | ⟨g, off, c, e, hl, hx⟩
  · rw [e] at hj; simp at hj
  · exact byt_keeps (hx j m.rs[j] (by simp [hj])).2 hk (fun k e _ => hF _ (h.ze _ hp k e))
theorem MZ.wide {w : World} {Z Z' : Nat → Prop} {b : Nat} {m : Mach} (h : MZ w Z b m) (hz : ∀ k, Z k → Z' k) : MZ w Z' b m := ⟨h.mr, hz _ h.zb, fun k e => hz _ (h.zr k e), fun p hp k e => hz _ (h.ze p hp k e)⟩
theorem IsM.mz {w : World} {Z : Nat → Prop} {b : Nat} {m : Mach} (h : IsM w Z b m) (hl : m.rs.length ≤ 1000000000) : MZ w Z b m := ⟨h.mr hl, h.zb, h.zr, fun p hp k e => ((h.el p hp).2.2 k e).1⟩

theorem trim_same (w : World) (b : Nat) (m : Mach) (t : Nat) (h : MR w b m) (ht : t ≤ m.st) : Calls Try.prog 35 #[.pointer (some ⟨b, 0, none⟩), .int .i64 t] w fun e w' => e = .returned (.int .i64 m.st) ∧ ∃ nq, w' = w.drewN nq := by
  have HN := hid_mk (fun n => next_mr (h.kept (grown_drewN w n none)))
  have hc := fun n => (h.kept (grown_drewN w n none)).cells.2.2.1
  have c2 := h.cells.2.2.1
  have hf := h.few
  have hs := h.top
  clear h
  have ht' : (t : Int) ≤ ((m.st + m.rs.length : Nat) : Int) := by omega
  have ht2 : ¬ (((m.st + m.rs.length : Nat) : Int) < (t : Int)) := by omega
  have hg : ¬ (0 < (t : Int) - (m.st : Int)) := by omega
  go_enter Try.func35, Try.ntmps35
  go_upto_region 1 with fail
  go_quiet ((go_at_call 11; exact Calls.quiet_of (HN.out _)))
  have c2' := hc nq
  go_wp2_with fail
  go_ret
  exact ⟨rfl, _, rfl⟩

set_option maxHeartbeats 2000000 in
theorem trim_go (w : World) (Z : Nat → Prop) (b : Nat) (m : Mach) (t : Nat) (h : IsM w Z b m) (hn : m.rs.length ≤ 1000000000) (ht1 : m.st < t) (ht2 : t ≤ m.st + m.rs.length) (ht3 : t ≤ 1099511627775) : Calls Try.prog 35 #[.pointer (some ⟨b, 0, none⟩), .int .i64 t] w fun e w' => e = .returned (.int .i64 t) ∧ ∃ rv', MZ w' Z b { m with st := t, rv := rv', rs := m.rs.drop (t - m.st) } ∧ Keeps Z w w' := by
  obtain ⟨i, hi⟩ : ∃ i, t = m.st + i := ⟨t - m.st, by omega⟩
  have hti : t - m.st = i := by omega
  rw [hti]
  have hi0 : 0 < i := by omega
  have hin : i ≤ m.rs.length := by omega
  have hI : Hid ((t : Int) - (m.st : Int) = (i : Int) ∧ (m.st : Int) + ((t : Int) - (m.st : Int)) = (t : Int)) := hid_mk (by omega)
  have hg0 : 0 < (t : Int) - (m.st : Int) := by omega
  have hti' : Hid (t = m.st + i) := hid_mk hi
  have hst := h.top.2
  clear hti hi
  have HN := hid_mk (fun n => next_mr ((h.mr hn).kept (grown_drewN w n none)))
  have c2 := (h.mr hn).cells.2.2.1
  have hM := hid_mk h
  clear h
  have ht' : (t : Int) ≤ ((m.st + m.rs.length : Nat) : Int) := by omega
  have ht2' : ¬ (((m.st + m.rs.length : Nat) : Int) < (t : Int)) := by omega
  go_enter Try.func35, Try.ntmps35
  go_upto_region 1 with fail
  go_quiet ((go_at_call 11; exact Calls.quiet_of (HN.out _)))
  have hM1 := hid_mk (show IsM (w.drewN nq) Z b m ∧ Keeps Z w (w.drewN nq) from ⟨hM.out.kept (grown_drewN _ _ none), Keeps.of_none (grown_drewN _ _ none)⟩)
  generalize w.drewN nq = w1 at *
  clear HN c2 hM
  have h := hM1.out.1
  obtain ⟨g, cap, cur, hv, -, hgh, hnc, hcm, hcs, hct⟩ : ∃ g cap cur, m.rv = .slice (some ⟨g, 0, none⟩) m.rs.length cap ∧ 0 ≤ g ∧ w1.heap[g]? = some (.cells cur 32 (0, 0)) ∧ m.rs.length ≤ cap ∧ cap ≤ maxLen ∧ cur.size = cap * 1 ∧ cur.toList.take (m.rs.length * 1) = m.rs.map Prod.fst := by
    rcases h.row.2 with ⟨_, h0⟩ | hh
    · omega
    · exact hh
  have hMR := h.mr hn
  have hgb : g ≠ b := fun e => by subst e; exact ne_tag hgh h.blk (by decide) rfl
  obtain ⟨a', c', hs2, hsl, ha'⟩ := slice_tail g m.rs.length cap i hin hnc
  have hs1 := slice_head g m.rs.length cap i hin hi0 hnc
  rw [← hI.out.1] at hs1 hs2
  have hpt := hMR.row
  rw [hv] at hpt
  have hpt2 := hpt.part i m.rs.length hin (Nat.le_refl _)
  rw [hsl, List.take_length] at hpt2
  have hzg : Z g := h.zr g (by rw [hv]; rfl)
  have hg1 : w1.grownBy (w1.setCells g 0 (List.replicate i (.slice none 0 0))) (some g) := grown_setCells _ _ _ _
  have hcl : ∀ ty, (Builtin.clear_ #[40] ty #[.slice (some ⟨g, 0, none⟩) i cap]).run Try.prog w1 = .ok (.tuple #[]) (w1.setCells g 0 (List.replicate i (.slice none 0 0))) := fun ty =>
    Lib.run_clear_slice w1 40 32 ty (.slice none 0 0) Try.underlying40 Try.zeroValue32 rfl rfl g 0 i cap hi0 (fun j hj => by
      rw [cell_of_row _ _ _ _ _ _ hgh]; simp; omega) (fun j hj => by simp [World.frozen?, hgh])
  have hW1 := hid_mk (show Blk (w1.setCells g 0 (List.replicate i (.slice none 0 0))) b #[.int .i64 m.sp, .int .i64 m.ap, .int .i64 m.st, .slice (some ⟨g, 0, none⟩) m.rs.length cap, .map (some m.bm)] 51 ∧ Keeps Z w (w1.setCells g 0 (List.replicate i (.slice none 0 0))) ∧ (∀ W3, (w1.setCells g 0 (List.replicate i (.slice none 0 0))).grownBy W3 (some b) → Parts W3 (.slice a' (m.rs.length - i) c') (m.rs.drop i)) by
    have ne5 : ∀ p ∈ m.rs, ∀ k, p.1.ownBlock = some k → k ≠ g ∧ k ≠ b := fun p hp k e => by
      obtain ⟨_, c, hc⟩ := (h.el p hp).2.2 k e
      refine ⟨fun e2 => ?_, fun e2 => ?_⟩
      · subst e2; exact ne_tag hc hgh (by decide) rfl
      · subst e2; exact ne_tag hc h.blk (by decide) rfl
    refine ⟨?_, hM1.out.2.thenZ (Keeps.one hg1 hzg), fun W3 hg3 => hpt2.turn ?_ ?_⟩
    · have := h.blk.kept hg1 (by simp; exact fun e => hgb e.symm)
      rwa [hv] at this
    · intro g' off c j p e hj hc
      have hlt : j < (m.rs.drop i).length := (List.getElem?_eq_some_iff.1 hj).1
      simp at hlt
      rw [ha' (by omega)] at e
      simp only [Value.slice.injEq, Option.some.injEq, Addr.mk.injEq] at e
      obtain ⟨⟨rfl, rfl, _⟩, _⟩ := e
      refine hg3.cell ?_ (by simpa using hgb)
      rw [World.cell?_setCells_out]
      · exact hc
      · intro _ _; right; simp
    · intro p hp
      have hp' := List.mem_of_mem_drop hp
      exact byt_kept5 (byt_kept5 (h.el p hp').1 (fun k e => by have := (ne5 p hp' k e).1; simpa using this) hg1) (fun k e => by have := (ne5 p hp' k e).2; simpa using this) hg3)
  have c3 : w1.cell? ⟨b, 3, none⟩ = some (.slice (some ⟨g, 0, none⟩) m.rs.length cap) := by rw [← hv]; exact hMR.cells.2.2.2.1
  have hel := hid_mk (show (∀ p ∈ m.rs.drop i, p.2.length ≤ 1024) ∧ 1 ≤ m.sp ∧ (m.rs.drop i).length ≤ 1000000000 ∧ Z b ∧ (∀ k, (Value.slice a' (m.rs.length - i) c').ownBlock = some k → Z k) ∧ (∀ p ∈ m.rs.drop i, ∀ k, p.1.ownBlock = some k → Z k) from ⟨fun p hp => hMR.el p (List.mem_of_mem_drop hp), hMR.span, by simp; omega, h.zb, fun k e => by
    rw [← hsl] at e
    unfold sliced at e
    split at e
    · cases e; exact hzg
    · simp [Value.ownBlock, Addr.add] at e; rw [← e]; split <;> exact hzg, fun p hp k e => ((h.el p (List.mem_of_mem_drop hp)).2.2 k e).1⟩)
  clear h hMR hpt hpt2 hv hgh hcm hcs hct hM1 hg1 ha' hsl hzg
  go_upto_region 4 with fail
  generalize (w1.setCells g 0 (List.replicate i (.slice none 0 0))) = W1 at *
  clear c3 hs1 hcl
  have c3 : W1.cell? ⟨b, 3, none⟩ = some (.slice (some ⟨g, 0, none⟩) m.rs.length cap) := by rw [hW1.out.1.cell]; rfl
  have cf := fun j => hW1.out.1.frozen j
  have hW2 := hid_mk (show Blk (W1.setCell ⟨b, 3, none⟩ (.slice a' (m.rs.length - i) c')) b #[.int .i64 m.sp, .int .i64 m.ap, .int .i64 m.st, .slice a' (m.rs.length - i) c', .map (some m.bm)] 51 ∧ W1.grownBy (W1.setCell ⟨b, 3, none⟩ (.slice a' (m.rs.length - i) c')) (some b) from ⟨hW1.out.1.set 3 _, grown_setCell _ _ _ _⟩)
  go_upto_region 5 with fail
  generalize (W1.setCell ⟨b, 3, none⟩ (.slice a' (m.rs.length - i) c')) = W2 at *
  clear c3 hs2 cf
  have c2 : W2.cell? ⟨b, 2, none⟩ = some (.int .i64 m.st) := by rw [hW2.out.1.cell]; rfl
  have cf := fun j => hW2.out.1.frozen j
  have hW3 := hid_mk (show Blk (W2.setCell ⟨b, 2, none⟩ (.int .i64 ((m.st : Int) + ((t : Int) - (m.st : Int))))) b #[.int .i64 m.sp, .int .i64 m.ap, .int .i64 t, .slice a' (m.rs.length - i) c', .map (some m.bm)] 51 ∧ W1.grownBy (W2.setCell ⟨b, 2, none⟩ (.int .i64 ((m.st : Int) + ((t : Int) - (m.st : Int))))) (some b) by
    refine ⟨?_, grown_trans hW2.out.2 (grown_setCell _ _ _ _)⟩
    rw [hI.out.2]
    exact hW2.out.1.set 2 _)
  go_upto_region 6 with fail
  generalize (W2.setCell ⟨b, 2, none⟩ (.int .i64 ((m.st : Int) + ((t : Int) - (m.st : Int))))) = W3 at *
  clear c2 cf
  have c2 : W3.cell? ⟨b, 2, none⟩ = some (.int .i64 t) := by rw [hW3.out.1.cell]; rfl
  go_wp2_with fail
  go_ret
  exact ⟨rfl, ⟨.slice a' (m.rs.length - i) c', ⟨hW3.out.1, by have := hW1.out.2.2 W3 hW3.out.2; exact this, hel.out.1, hel.out.2.1, ht3, hel.out.2.2.1⟩, hel.out.2.2.2.1, hel.out.2.2.2.2.1, hel.out.2.2.2.2.2⟩, hW1.out.2.1.thenZ (Keeps.one hW3.out.2 hel.out.2.2.2.1)⟩

theorem trim_any (w : World) (Z : Nat → Prop) (b : Nat) (m : Mach) (t : Nat) (h : IsM w Z b m) (hn : m.rs.length ≤ 1000000000) (ht1 : m.st ≤ t) (ht2 : t ≤ m.st + m.rs.length) (ht3 : t ≤ 1099511627775) : Calls Try.prog 35 #[.pointer (some ⟨b, 0, none⟩), .int .i64 t] w fun e w' => e = .returned (.int .i64 t) ∧ ∃ rv', MZ w' Z b { m with st := t, rv := rv', rs := m.rs.drop (t - m.st) } ∧ Keeps Z w w' := by
  by_cases ht : m.st < t
  · exact trim_go w Z b m t h hn ht ht2 ht3
  · obtain rfl : t = m.st := by omega
    refine (trim_same w b m m.st (h.mr hn) (Nat.le_refl _)).mono ?_
    rintro e w' ⟨rfl, nq, rfl⟩
    refine ⟨rfl, m.rv, ?_, Keeps.of_none (grown_drewN _ _ none)⟩
    have := (h.mz hn).keeps (F := fun _ => False) (Keeps.of_none (grown_drewN w nq none)) (fun _ _ h => h)
    rw [Nat.sub_self, List.drop_zero]
    exact this

end Go.Proofs.Ytpncbehabfkhkab.W
