/- machine: trim, of a row that may lie at an offset. -/
import Derived.Test.YtpncbehabfkhkaaNaL
import Derived.Lib.SliceRun
namespace Go.Proofs.Ytpncbehabfkhkaa.W
open Go.RowKit Go.Maps Go.WideMaps Go.WideElems
set_option linter.unusedVariables false
set_option linter.unusedSimpArgs false
set_option maxRecDepth 100000

theorem elem55 : Try.prog.elem 55 = 22 := by kernel_rfl
theorem under55 : Try.prog.underlying 55 = some (.slice (Try.prog.elem 55)) := by rw [elem55]; exact Try.underlying55
theorem setCells_blk (b : Nat) : ∀ (vs : List Value) (o : Nat) (w : World) (cur : Array Value) (t : TypeId) (f : Nat × Nat), w.heap[b]? = some (.cells cur t f) → ∃ cur', (w.setCells b o vs).heap[b]? = some (.cells cur' t f) ∧ cur'.size = cur.size ∧ ∀ j, (j < o ∨ o + vs.length ≤ j) → cur'[j]? = cur[j]?
  | [], o, w, cur, t, f, h => ⟨cur, h, rfl, fun _ _ => rfl⟩
  | v :: vs, o, w, cur, t, f, h => by
    have h1 : (w.setCell ⟨b, o, none⟩ v).heap[b]? = some (.cells (cur.setIfInBounds o v) t f) := by simp [World.setCell, Array.getElem?_modify, h]
    obtain ⟨cur', h2, h3, h4⟩ := setCells_blk b vs (o + 1) _ _ t f h1
    refine ⟨cur', h2, by simpa using h3, fun j hj => ?_⟩
    simp only [List.length_cons] at hj
    rw [h4 j (by omega), Array.getElem?_setIfInBounds_ne (by omega)]
theorem slice_tailO (g off n cap i : Nat) (h : i ≤ n) (hn : n ≤ cap) : ∃ a' c', (∀ w', (Instr.slice 55 (.slice (some ⟨g, off, none⟩) n cap) (some (.int .i64 i)) none none).run Try.prog w' = .ok (.slice a' (n - i) c') w') ∧ ((cap = i ∧ a' = some ⟨g, off, none⟩ ∧ c' = 0) ∨ (a' = some ⟨g, off + i, none⟩ ∧ c' = cap - i)) := by
  obtain ⟨a', c', e⟩ : ∃ a' c', sliced (some ⟨g, off, none⟩) i n cap 1 = .slice a' (n - i) c' := ⟨_, _, rfl⟩
  refine ⟨a', c', fun w' => ?_, ?_⟩
  · rw [run_slice_l w' 55 _ n cap under55 .i64 i (by omega) (by omega), elem55, Try.sizeOf22 w']
    simp only [Result.andThen, Int.toNat_natCast]
    rw [e]
  · unfold sliced at e
    by_cases hc : cap = i
    · rw [if_pos hc] at e
      cases e
      exact .inl ⟨hc, rfl, by omega⟩
    · rw [if_neg hc] at e
      cases e
      refine .inr ⟨?_, rfl⟩
      simp [Addr.add]
theorem slice_headO (g off n cap i : Nat) (h : i ≤ n) (h0 : 0 < i) (hn : n ≤ cap) : ∀ w', (Instr.slice 55 (.slice (some ⟨g, off, none⟩) n cap) none (some (.int .i64 i)) none).run Try.prog w' = .ok (.slice (some ⟨g, off, none⟩) i cap) w' := fun w' => by
  rw [run_slice_h w' 55 _ n cap under55 .i64 i (by omega) (by omega), elem55, Try.sizeOf22 w']
  simp only [Result.andThen, Int.toNat_natCast]
  unfold sliced
  rw [if_neg (by omega)]
  simp [Addr.add]
/-- What is left of a row behind its first ones. -/
theorem RowO.tail {w : World} {g off n cap i : Nat} {cur : Array Value} {xs : List Value} (hx : xs.length = n) (hnc : n ≤ cap) (hcs : off + cap ≤ cur.size) (hel : ∀ (j : Nat) u, xs[j]? = some u → cur[off + j]? = some u) (hin : i ≤ n) {a' : Option Addr} {c' : Nat} (ha : (cap = i ∧ a' = some ⟨g, off, none⟩ ∧ c' = 0) ∨ (a' = some ⟨g, off + i, none⟩ ∧ c' = cap - i))
    {cur' : Array Value} (hg : w.heap[g]? = some (.cells cur' 22 (0, 0))) (hs : cur'.size = cur.size) (hk : ∀ j, off + i ≤ j → cur'[j]? = cur[j]?) : RowO w 22 (.slice a' (n - i) c') (n - i) (xs.drop i) := by
  refine ⟨by simp [hx], .inr ?_⟩
  rcases ha with ⟨h1, rfl, rfl⟩ | ⟨rfl, rfl⟩
  · refine ⟨g, off, 0, cur', rfl, hg, by omega, by omega, fun j u hj => ?_⟩
    have := (List.getElem?_eq_some_iff.1 hj).1
    simp [hx] at this
    omega
  · refine ⟨g, off + i, cap - i, cur', rfl, hg, by omega, by omega, fun j u hj => ?_⟩
    rw [List.getElem?_drop] at hj
    rw [hk _ (by omega), Nat.add_assoc]
    exact hel _ _ hj
/-- A machine's records behind a trim. -/
theorem IsM.trimmed {w w1 w3 : World} {Z : Nat → Prop} {b : Nat} {m : Mach} (h : IsM w Z b m) (g : Nat) (hv : m.rv.ownBlock = some g) (hg1 : w.grownBy w1 (some g)) (hg3 : w1.grownBy w3 (some b)) (i t : Nat) (rv' : Value) (hb : Blk w3 b #[.int .i64 m.sp, .int .i64 m.ap, .int .i64 t, rv', .map (some m.bm)] 63) (hr : RowO w3 22 rv' (m.rs.length - i) ((m.rs.map Prod.fst).drop i)) (hz : rv'.ownBlock = some g) (ht : t ≤ 1099511627775) : IsM w3 Z b { m with st := t, rv := rv', rs := m.rs.drop i } := by
  obtain ⟨_, c, hgc⟩ := RowO.low h.row g hv
  have ne : ∀ {k : Nat} {c : Array Value} {t : TypeId} {f : Nat × Nat}, w.heap[k]? = some (.cells c t f) → t ≠ 22 → w1.heap[k]? = some (.cells c t f) := fun hk ht => (hg1.block _ (Array.getElem?_eq_some_iff.1 hk).1 (ne_tag hk hgc ht)).trans hk
  have hb1 : w1.heap[b]? = some (.cells #[.int .i64 m.sp, .int .i64 m.ap, .int .i64 m.st, m.rv, .map (some m.bm)] 63 (0, 0)) := ne h.blk (by decide)
  have ne2 : ∀ {k : Nat} {c : Array Value} {t : TypeId} {f : Nat × Nat}, w1.heap[k]? = some (.cells c t f) → t ≠ 63 → w3.heap[k]? = some (.cells c t f) := fun hk ht => (hg3.block _ (Array.getElem?_eq_some_iff.1 hk).1 (ne_tag hk hb1 ht)).trans hk
  have dir : w3.ownsMap Try.prog 3 ptrR m.bm m.N (dirM m.ss) := by
    have d1 : w1.ownsMap Try.prog 3 ptrR m.bm m.N (dirM m.ss) := h.dir.kept hg1 (by have := map_ne hgc h.dir; simp; omega)
    exact d1.kept hg3 (by have := map_ne hb1 d1; simp; omega)
  exact { h with
    blk := hb
    dir := dir
    ses := fun s hs => ⟨ne2 (ne (h.ses s hs).1 (by decide)) (by decide), (h.ses s hs).2⟩
    row := by
      show RowO w3 22 rv' (m.rs.drop i).length ((m.rs.drop i).map Prod.fst)
      rw [List.length_drop, List.map_drop]
      exact hr
    zr := fun k e => by
      have e' : rv'.ownBlock = some k := e
      rw [hz] at e'; cases e'; exact h.zr g hv
    el := fun p hp => by
      have hp' := List.mem_of_mem_drop hp
      obtain ⟨h1, h2, h3⟩ := h.el p hp'
      refine ⟨byt_kept5 (byt_kept5 h1 (fun k e => ?_) hg1) (fun k e => ?_) hg3, h2, fun k e => ?_⟩
      · obtain ⟨_, c, hc⟩ := h3 k e
        exact ne_tag hc hgc (by decide)
      · obtain ⟨_, c, hc⟩ := h3 k e
        exact ne_tag (ne hc (by decide)) hb1 (by decide)
      · obtain ⟨hz, c, hc⟩ := h3 k e
        exact ⟨hz, c, ne2 (ne hc (by decide)) (by decide)⟩
    top := ⟨h.top.1, ht⟩ }
theorem trim_same (w : World) (Z : Nat → Prop) (b : Nat) (m : Mach) (t : Nat) (h : IsM w Z b m) (hl : m.rs.length ≤ 3000000000000) (ht : t ≤ m.st ∨ m.rs.length = 0) : Calls Try.prog 74 #[.pointer (some ⟨b, 0, none⟩), .int .i64 t] w fun e w' => e = .returned (.int .i64 m.st) ∧ ∃ nq, w' = w.drewN nq := by
  have HN := hid_mk (fun n => next_any (h.kept (grown_drewN w n none)) (by omega))
  have hc := fun n => (h.kept (grown_drewN w n none)).cells.2.2.1
  have c2 := h.cells.2.2.1
  have hs := h.top
  clear h
  by_cases htn : t ≤ m.st + m.rs.length
  · have ht' : (t : Int) ≤ ((m.st + m.rs.length : Nat) : Int) := by omega
    have ht2 : ¬ (((m.st + m.rs.length : Nat) : Int) < (t : Int)) := by omega
    have hg : ¬ (0 < (t : Int) - (m.st : Int)) := by omega
    clear ht
    go_enter Try.func74, Try.ntmps74
    go_upto_region 1 with fail
    go_quiet ((go_at_call 30; exact Calls.quiet_of (HN.out _)))
    have c2' := hc nq
    go_wp2_with fail
    go_ret
    exact ⟨rfl, _, rfl⟩
  · have h0 : m.rs.length = 0 := by omega
    have HN2 : Hid (∀ n, Calls Try.prog 30 #[.pointer (some ⟨b, 0, none⟩)] (w.drewN n) fun e w' => e = .returned (.int .i64 (m.st : Nat)) ∧ ∃ nq, w' = (w.drewN n).drewN nq) := hid_mk (fun n => by have := HN.out n; rw [h0, Nat.add_zero] at this; exact this)
    have ht' : ¬ (t : Int) ≤ (m.st : Int) := by omega
    have ht2 : ((m.st : Int) < (t : Int)) := by omega
    clear ht htn HN h0
    go_enter Try.func74, Try.ntmps74
    go_upto_region 1 with fail
    go_quiet ((go_at_call 30; exact Calls.quiet_of (HN2.out _)))
    have c2' := hc nq
    go_wp2_with fail
    go_ret
    exact ⟨rfl, _, rfl⟩

set_option maxHeartbeats 2000000 in
theorem trim_goB (w : World) (Z : Nat → Prop) (b : Nat) (m : Mach) (t : Nat) (h : IsM w Z b m) (hn : m.rs.length ≤ 3000000000000) (ht1 : m.st < t) (ht2 : t ≤ m.st + m.rs.length) (ht3 : t ≤ 1099511627775) : Calls Try.prog 74 #[.pointer (some ⟨b, 0, none⟩), .int .i64 t] w fun e w' => e = .returned (.int .i64 (t : Nat)) ∧ ∃ rv', IsM w' Z b { m with st := t, rv := rv', rs := m.rs.drop (t - m.st) } ∧ Keeps Z w w' := by
  obtain ⟨nx, hnx⟩ : ∃ nx, nx = m.st + m.rs.length := ⟨_, rfl⟩

  obtain ⟨i, hi⟩ : ∃ i, t = m.st + i := ⟨t - m.st, by omega⟩
  have hti : t - m.st = i := by omega
  have hi0 : 0 < i := by omega
  have hin : i ≤ m.rs.length := by omega
  have hI : Hid ((t : Int) - (m.st : Int) = (i : Int) ∧ (m.st : Int) + ((t : Int) - (m.st : Int)) = (t : Int)) := hid_mk (by omega)
  have hg0 : 0 < (t : Int) - (m.st : Int) := by omega
  have hti' : Hid (t = m.st + i ∧ t ≤ 1099511627775) := hid_mk ⟨hi, by omega⟩
  rw [hti]
  have hst := h.top.2
  have hnb : (nx : Int) ≤ 5000000000000 := by omega
  have HN : Hid (∀ n, Calls Try.prog 30 #[.pointer (some ⟨b, 0, none⟩)] (w.drewN n) fun e w' => e = .returned (.int .i64 (nx : Nat)) ∧ ∃ nq, w' = (w.drewN n).drewN nq) := hid_mk (fun n => by rw [hnx]; exact next_any (h.kept (grown_drewN w n none)) (by omega))
  have c2 := h.cells.2.2.1
  have hM := hid_mk h
  have ht' : (t : Int) ≤ (nx : Int) := by omega
  have ht2' : ¬ ((nx : Int) < (t : Int)) := by omega
  clear h hti hi hnx
  go_enter Try.func74, Try.ntmps74
  go_upto_region 1 with fail
  go_quiet ((go_at_call 30; exact Calls.quiet_of (HN.out _)))
  have hM1 := hid_mk (show IsM (w.drewN nq) Z b m ∧ Keeps Z w (w.drewN nq) from ⟨hM.out.kept (grown_drewN _ _ none), Keeps.of_none (grown_drewN _ _ none)⟩)
  generalize w.drewN nq = w1 at *
  clear HN c2 hM
  have h := hM1.out.1
  obtain ⟨g, off, cap, cur, hv, hgh, hnc, hcs, hel⟩ : ∃ g off cap cur, m.rv = .slice (some ⟨g, off, none⟩) m.rs.length cap ∧ w1.heap[g]? = some (.cells cur 22 (0, 0)) ∧ m.rs.length ≤ cap ∧ off + cap ≤ cur.size ∧ ∀ (j : Nat) u, (m.rs.map Prod.fst)[j]? = some u → cur[off + j]? = some u := by
    rcases h.row.2 with ⟨_, h0⟩ | hh
    · omega
    · exact hh
  have hgb : g ≠ b := fun e => by subst e; exact ne_tag hgh h.blk (by decide) rfl
  obtain ⟨a', c', hs2, ha'⟩ := slice_tailO g off m.rs.length cap i hin hnc
  have hs1 := slice_headO g off m.rs.length cap i hin hi0 hnc
  rw [← hI.out.1] at hs1 hs2
  have hzg : Z g := h.zr g (by rw [hv]; rfl)
  have hg1 : w1.grownBy (w1.setCells g off (List.replicate i (.slice none 0 0))) (some g) := grown_setCells _ _ _ _
  obtain ⟨cur', hc1, hc2, hc3⟩ := setCells_blk g (List.replicate i (.slice none 0 0)) off w1 cur 22 (0, 0) hgh
  have hcl : ∀ ty, (Builtin.clear_ #[55] ty #[.slice (some ⟨g, off, none⟩) i cap]).run Try.prog w1 = .ok (.tuple #[]) (w1.setCells g off (List.replicate i (.slice none 0 0))) := fun ty =>
    Lib.run_clear_slice w1 55 22 ty (.slice none 0 0) Try.underlying55 Try.zeroValue22 rfl rfl g off i cap hi0 (fun j hj => by
      rw [cell_of_row _ _ _ _ _ _ hgh, Array.getElem?_eq_getElem (by omega)]; rfl) (fun j hj => by simp [World.frozen?, hgh])
  have hob : m.rv.ownBlock = some g := by rw [hv]; rfl
  have hza : (Value.slice a' (m.rs.length - i) c').ownBlock = some g := by
    rcases ha' with ⟨_, rfl, _⟩ | ⟨rfl, _⟩ <;> rfl
  have c3 : w1.cell? ⟨b, 3, none⟩ = some (.slice (some ⟨g, off, none⟩) m.rs.length cap) := by rw [← hv]; exact h.cells.2.2.2.1
  have hW1 := hid_mk (show Blk (w1.setCells g off (List.replicate i (.slice none 0 0))) b #[.int .i64 m.sp, .int .i64 m.ap, .int .i64 m.st, .slice (some ⟨g, off, none⟩) m.rs.length cap, .map (some m.bm)] 63 ∧ w1.grownBy (w1.setCells g off (List.replicate i (.slice none 0 0))) (some g) ∧ (∀ W3, (w1.setCells g off (List.replicate i (.slice none 0 0))).grownBy W3 (some b) → RowO W3 22 (.slice a' (m.rs.length - i) c') (m.rs.length - i) ((m.rs.map Prod.fst).drop i)) by
    refine ⟨?_, hg1, fun W3 hg3 => ?_⟩
    · have := h.blk.kept hg1 (by simp; exact fun e => hgb e.symm)
      rwa [hv] at this
    · refine RowO.tail (n := m.rs.length) (by simp) hnc hcs hel hin ha' ((hg3.block g (Array.getElem?_eq_some_iff.1 hc1).1 (by simpa using hgb)).trans hc1) hc2 (fun j hj => hc3 j (.inr (by simpa using hj))))
  have HV := hid_mk (And.intro hv (And.intro hob hza))
  clear h hv hgh hcs hel hc1 hc2 hc3 hg1 ha' hob hza
  go_upto_region 4 with fail
  generalize (w1.setCells g off (List.replicate i (.slice none 0 0))) = W1 at *
  clear c3 hs1 hcl
  have c3 : W1.cell? ⟨b, 3, none⟩ = some (.slice (some ⟨g, off, none⟩) m.rs.length cap) := by rw [hW1.out.1.cell]; rfl
  have cf := fun j => hW1.out.1.frozen j
  have hW2 := hid_mk (show Blk (W1.setCell ⟨b, 3, none⟩ (.slice a' (m.rs.length - i) c')) b #[.int .i64 m.sp, .int .i64 m.ap, .int .i64 m.st, .slice a' (m.rs.length - i) c', .map (some m.bm)] 63 ∧ W1.grownBy (W1.setCell ⟨b, 3, none⟩ (.slice a' (m.rs.length - i) c')) (some b) from ⟨hW1.out.1.set 3 _, grown_setCell _ _ _ _⟩)
  go_upto_region 5 with fail
  generalize (W1.setCell ⟨b, 3, none⟩ (.slice a' (m.rs.length - i) c')) = W2 at *
  clear c3 hs2 cf
  have c2 : W2.cell? ⟨b, 2, none⟩ = some (.int .i64 m.st) := by rw [hW2.out.1.cell]; rfl
  have cf := fun j => hW2.out.1.frozen j
  have hW3 := hid_mk (show Blk (W2.setCell ⟨b, 2, none⟩ (.int .i64 ((m.st : Int) + ((t : Int) - (m.st : Int))))) b #[.int .i64 m.sp, .int .i64 m.ap, .int .i64 t, .slice a' (m.rs.length - i) c', .map (some m.bm)] 63 ∧ W1.grownBy (W2.setCell ⟨b, 2, none⟩ (.int .i64 ((m.st : Int) + ((t : Int) - (m.st : Int))))) (some b) by
    refine ⟨?_, grown_trans hW2.out.2 (grown_setCell _ _ _ _)⟩
    rw [hI.out.2]
    exact hW2.out.1.set 2 _)
  go_upto_region 6 with fail
  generalize (W2.setCell ⟨b, 2, none⟩ (.int .i64 ((m.st : Int) + ((t : Int) - (m.st : Int))))) = W3 at *
  clear c2 cf
  have c2 : W3.cell? ⟨b, 2, none⟩ = some (.int .i64 t) := by rw [hW3.out.1.cell]; rfl
  go_wp2_with fail
  go_ret
  refine ⟨rfl, ⟨.slice a' (m.rs.length - i) c', hM1.out.1.trimmed g HV.out.2.1 hW1.out.2.1 hW3.out.2 i t _ hW3.out.1 (hW1.out.2.2 W3 hW3.out.2) HV.out.2.2 hti'.out.2⟩, ?_⟩
  exact (hM1.out.2.thenZ (Keeps.one hW1.out.2.1 hzg)).thenZ (Keeps.one hW3.out.2 hM1.out.1.zb)

set_option maxHeartbeats 2000000 in
theorem trim_goC (w : World) (Z : Nat → Prop) (b : Nat) (m : Mach) (t : Nat) (h : IsM w Z b m) (hn : m.rs.length ≤ 3000000000000) (ht1 : 0 < m.rs.length) (ht2 : m.st + m.rs.length < t) (ht3 : t ≤ 1099511627775) : Calls Try.prog 74 #[.pointer (some ⟨b, 0, none⟩), .int .i64 t] w fun e w' => e = .returned (.int .i64 ((m.st + m.rs.length) : Nat)) ∧ ∃ rv', IsM w' Z b { m with st := (m.st + m.rs.length), rv := rv', rs := m.rs.drop ((m.st + m.rs.length) - m.st) } ∧ Keeps Z w w' := by
  obtain ⟨nx, hnx⟩ : ∃ nx, nx = m.st + m.rs.length := ⟨_, rfl⟩
  rw [← hnx]
  obtain ⟨i, hi⟩ : ∃ i, nx = m.st + i := ⟨nx - m.st, by omega⟩
  have hti : nx - m.st = i := by omega
  have hi0 : 0 < i := by omega
  have hin : i ≤ m.rs.length := by omega
  have hI : Hid ((nx : Int) - (m.st : Int) = (i : Int) ∧ (m.st : Int) + ((nx : Int) - (m.st : Int)) = (nx : Int)) := hid_mk (by omega)
  have hg0 : 0 < (nx : Int) - (m.st : Int) := by omega
  have hti' : Hid (nx = m.st + i ∧ nx ≤ 1099511627775) := hid_mk ⟨hi, by omega⟩
  rw [hti]
  have hst := h.top.2
  have hnb : (nx : Int) ≤ 5000000000000 := by omega
  have HN : Hid (∀ n, Calls Try.prog 30 #[.pointer (some ⟨b, 0, none⟩)] (w.drewN n) fun e w' => e = .returned (.int .i64 (nx : Nat)) ∧ ∃ nq, w' = (w.drewN n).drewN nq) := hid_mk (fun n => by rw [hnx]; exact next_any (h.kept (grown_drewN w n none)) (by omega))
  have c2 := h.cells.2.2.1
  have hM := hid_mk h
  have ht' : ¬ (t : Int) ≤ (nx : Int) := by omega
  have ht2' : ((nx : Int) < (t : Int)) := by omega
  clear h hti hi hnx
  go_enter Try.func74, Try.ntmps74
  go_upto_region 1 with fail
  go_quiet ((go_at_call 30; exact Calls.quiet_of (HN.out _)))
  have hM1 := hid_mk (show IsM (w.drewN nq) Z b m ∧ Keeps Z w (w.drewN nq) from ⟨hM.out.kept (grown_drewN _ _ none), Keeps.of_none (grown_drewN _ _ none)⟩)
  generalize w.drewN nq = w1 at *
  clear HN c2 hM
  have h := hM1.out.1
  obtain ⟨g, off, cap, cur, hv, hgh, hnc, hcs, hel⟩ : ∃ g off cap cur, m.rv = .slice (some ⟨g, off, none⟩) m.rs.length cap ∧ w1.heap[g]? = some (.cells cur 22 (0, 0)) ∧ m.rs.length ≤ cap ∧ off + cap ≤ cur.size ∧ ∀ (j : Nat) u, (m.rs.map Prod.fst)[j]? = some u → cur[off + j]? = some u := by
    rcases h.row.2 with ⟨_, h0⟩ | hh
    · omega
    · exact hh
  have hgb : g ≠ b := fun e => by subst e; exact ne_tag hgh h.blk (by decide) rfl
  obtain ⟨a', c', hs2, ha'⟩ := slice_tailO g off m.rs.length cap i hin hnc
  have hs1 := slice_headO g off m.rs.length cap i hin hi0 hnc
  rw [← hI.out.1] at hs1 hs2
  have hzg : Z g := h.zr g (by rw [hv]; rfl)
  have hg1 : w1.grownBy (w1.setCells g off (List.replicate i (.slice none 0 0))) (some g) := grown_setCells _ _ _ _
  obtain ⟨cur', hc1, hc2, hc3⟩ := setCells_blk g (List.replicate i (.slice none 0 0)) off w1 cur 22 (0, 0) hgh
  have hcl : ∀ ty, (Builtin.clear_ #[55] ty #[.slice (some ⟨g, off, none⟩) i cap]).run Try.prog w1 = .ok (.tuple #[]) (w1.setCells g off (List.replicate i (.slice none 0 0))) := fun ty =>
    Lib.run_clear_slice w1 55 22 ty (.slice none 0 0) Try.underlying55 Try.zeroValue22 rfl rfl g off i cap hi0 (fun j hj => by
      rw [cell_of_row _ _ _ _ _ _ hgh, Array.getElem?_eq_getElem (by omega)]; rfl) (fun j hj => by simp [World.frozen?, hgh])
  have hob : m.rv.ownBlock = some g := by rw [hv]; rfl
  have hza : (Value.slice a' (m.rs.length - i) c').ownBlock = some g := by
    rcases ha' with ⟨_, rfl, _⟩ | ⟨rfl, _⟩ <;> rfl
  have c3 : w1.cell? ⟨b, 3, none⟩ = some (.slice (some ⟨g, off, none⟩) m.rs.length cap) := by rw [← hv]; exact h.cells.2.2.2.1
  have hW1 := hid_mk (show Blk (w1.setCells g off (List.replicate i (.slice none 0 0))) b #[.int .i64 m.sp, .int .i64 m.ap, .int .i64 m.st, .slice (some ⟨g, off, none⟩) m.rs.length cap, .map (some m.bm)] 63 ∧ w1.grownBy (w1.setCells g off (List.replicate i (.slice none 0 0))) (some g) ∧ (∀ W3, (w1.setCells g off (List.replicate i (.slice none 0 0))).grownBy W3 (some b) → RowO W3 22 (.slice a' (m.rs.length - i) c') (m.rs.length - i) ((m.rs.map Prod.fst).drop i)) by
    refine ⟨?_, hg1, fun W3 hg3 => ?_⟩
    · have := h.blk.kept hg1 (by simp; exact fun e => hgb e.symm)
      rwa [hv] at this
    · refine RowO.tail (n := m.rs.length) (by simp) hnc hcs hel hin ha' ((hg3.block g (Array.getElem?_eq_some_iff.1 hc1).1 (by simpa using hgb)).trans hc1) hc2 (fun j hj => hc3 j (.inr (by simpa using hj))))
  have HV := hid_mk (And.intro hv (And.intro hob hza))
  clear h hv hgh hcs hel hc1 hc2 hc3 hg1 ha' hob hza
  go_upto_region 4 with fail
  generalize (w1.setCells g off (List.replicate i (.slice none 0 0))) = W1 at *
  clear c3 hs1 hcl
  have c3 : W1.cell? ⟨b, 3, none⟩ = some (.slice (some ⟨g, off, none⟩) m.rs.length cap) := by rw [hW1.out.1.cell]; rfl
  have cf := fun j => hW1.out.1.frozen j
  have hW2 := hid_mk (show Blk (W1.setCell ⟨b, 3, none⟩ (.slice a' (m.rs.length - i) c')) b #[.int .i64 m.sp, .int .i64 m.ap, .int .i64 m.st, .slice a' (m.rs.length - i) c', .map (some m.bm)] 63 ∧ W1.grownBy (W1.setCell ⟨b, 3, none⟩ (.slice a' (m.rs.length - i) c')) (some b) from ⟨hW1.out.1.set 3 _, grown_setCell _ _ _ _⟩)
  go_upto_region 5 with fail
  generalize (W1.setCell ⟨b, 3, none⟩ (.slice a' (m.rs.length - i) c')) = W2 at *
  clear c3 hs2 cf
  have c2 : W2.cell? ⟨b, 2, none⟩ = some (.int .i64 m.st) := by rw [hW2.out.1.cell]; rfl
  have cf := fun j => hW2.out.1.frozen j
  have hW3 := hid_mk (show Blk (W2.setCell ⟨b, 2, none⟩ (.int .i64 ((m.st : Int) + ((nx : Int) - (m.st : Int))))) b #[.int .i64 m.sp, .int .i64 m.ap, .int .i64 nx, .slice a' (m.rs.length - i) c', .map (some m.bm)] 63 ∧ W1.grownBy (W2.setCell ⟨b, 2, none⟩ (.int .i64 ((m.st : Int) + ((nx : Int) - (m.st : Int))))) (some b) by
    refine ⟨?_, grown_trans hW2.out.2 (grown_setCell _ _ _ _)⟩
    rw [hI.out.2]
    exact hW2.out.1.set 2 _)
  go_upto_region 6 with fail
  generalize (W2.setCell ⟨b, 2, none⟩ (.int .i64 ((m.st : Int) + ((nx : Int) - (m.st : Int))))) = W3 at *
  clear c2 cf
  have c2 : W3.cell? ⟨b, 2, none⟩ = some (.int .i64 nx) := by rw [hW3.out.1.cell]; rfl
  go_wp2_with fail
  go_ret
  refine ⟨rfl, ⟨.slice a' (m.rs.length - i) c', hM1.out.1.trimmed g HV.out.2.1 hW1.out.2.1 hW3.out.2 i nx _ hW3.out.1 (hW1.out.2.2 W3 hW3.out.2) HV.out.2.2 hti'.out.2⟩, ?_⟩
  exact (hM1.out.2.thenZ (Keeps.one hW1.out.2.1 hzg)).thenZ (Keeps.one hW3.out.2 hM1.out.1.zb)

/-- Where the records start behind a trim. -/
def trimN (m : Mach) (t : Nat) : Nat := max m.st (min t (m.st + m.rs.length))
theorem trim_any (w : World) (Z : Nat → Prop) (b : Nat) (m : Mach) (t : Nat) (h : IsM w Z b m) (hn : m.rs.length ≤ 3000000000000) (ht3 : t ≤ 1099511627775) : Calls Try.prog 74 #[.pointer (some ⟨b, 0, none⟩), .int .i64 t] w fun e w' => e = .returned (.int .i64 (trimN m t : Nat)) ∧ ∃ rv', IsM w' Z b { m with st := trimN m t, rv := rv', rs := m.rs.drop (trimN m t - m.st) } ∧ Keeps Z w w' := by
  by_cases h0 : t ≤ m.st ∨ m.rs.length = 0
  · have e : trimN m t = m.st := by unfold trimN; omega
    rw [e]
    refine (trim_same w Z b m t h hn h0).mono ?_
    rintro e w' ⟨rfl, nq, rfl⟩
    refine ⟨rfl, m.rv, ?_, Keeps.of_none (grown_drewN _ _ none)⟩
    rw [Nat.sub_self, List.drop_zero]
    exact h.kept (grown_drewN _ _ none)
  · by_cases h1 : t ≤ m.st + m.rs.length
    · have e : trimN m t = t := by unfold trimN; omega
      rw [e]
      exact trim_goB w Z b m t h hn (by omega) h1 ht3
    · have e : trimN m t = m.st + m.rs.length := by unfold trimN; omega
      rw [e]
      exact trim_goC w Z b m t h hn (by omega) (by omega) ht3

end Go.Proofs.Ytpncbehabfkhkaa.W
