/- step: a call on both machines. -/
import Derived.Test.YtpncbehabfkhkaaRaH
import Derived.Test.YtpncbehabfkhkaaRbP
import Derived.Test.YtpncbehabfkhkaaNaW
namespace Go.Proofs.Ytpncbehabfkhkaa.W
open Go.RowKit Go.Maps Go.WideMaps Go.WideElems
set_option linter.unusedVariables false
set_option linter.unusedSimpArgs false
set_option maxRecDepth 100000

/-- The document's machine, of one's own. -/
structure RO (w W : World) (Z : Nat → Prop) (b : Nat) (r : Rf) : Prop where
  isR : IsR W Z b r
  lo : ∀ k, Z k → w.heap.size ≤ k
  hi : ∀ k, Z k → k < W.heap.size
/-- Both machines, alike. -/
structure TW (w W : World) (Zm Zr : Nat → Prop) (bm br : Nat) (m : Mach) (r : Rf) (i : Nat) : Prop where
  pm : MS w W Zm bm m
  pr : RO w W Zr br r
  dj : ∀ k, Zm k → ¬ Zr k
  eq : r.ab = m.ab
  wf : Wf m.ab
  nx : m.ab.rs.length ≤ i ∧ nextA m.ab ≤ 1099511627775 + i
/-- Bytes that may be written. -/
def WB (W : World) (g off n : Nat) : Prop := ∃ c : Array Value, Blk W g c 5 ∧ off + n ≤ c.size ∧ ∀ j, j < n → ∃ z : Int, c[off + j]? = some (.int .u8 z)
theorem WB.of {W : World} {g off n cap : Nat} {l : List UInt8} (h : Byt W (.slice (some ⟨g, off, none⟩) n cap) l) (hn : n = l.length) (h0 : 0 < n) (hb : ∃ c, W.heap[g]? = some (.cells c 5 (0, 0))) : WB W g off n := by
  subst hn
  obtain ⟨c, hc⟩ := hb
  rcases h with ⟨rfl, _⟩ | ⟨b, o, cp, e, hl, hx⟩
  · simp at h0
  · cases e
    have key : ∀ j, j < l.length → ∃ z : Int, c[off + j]? = some (.int .u8 z) := fun j hj => by
      have := hx j l[j] (by simp [hj])
      rw [cell_of_row _ _ _ _ _ _ hc] at this
      exact ⟨_, this⟩
    refine ⟨c, hc, ?_, key⟩
    obtain ⟨z, hz⟩ := key (l.length - 1) (by omega)
    have := (Array.getElem?_eq_some_iff.1 hz).1
    omega
theorem WB.cell {W : World} {g off n : Nat} (h : WB W g off n) (j : Nat) (hj : j < n) : ∃ z : Int, W.cell? ⟨g, off + j, none⟩ = some (.int .u8 z) := by
  obtain ⟨c, hb, _, hx⟩ := h
  obtain ⟨z, hz⟩ := hx j hj
  exact ⟨z, by rw [hb.cell]; exact hz⟩
theorem WB.frozen {W : World} {g off n : Nat} (h : WB W g off n) : ∀ j, W.frozen? ⟨g, j, none⟩ = false := by
  obtain ⟨c, hb, _⟩ := h
  exact fun j => hb.frozen j
theorem WB.set {W : World} {g off n : Nat} (h : WB W g off n) (g' k : Nat) (z : Int) : WB (W.setCell ⟨g', k, none⟩ (.int .u8 z)) g off n := by
  obtain ⟨c, hb, hs, hx⟩ := h
  by_cases e : g' = g
  · subst e
    refine ⟨c.setIfInBounds k (.int .u8 z), hb.set k _, by simpa using hs, fun j hj => ?_⟩
    rw [Array.getElem?_setIfInBounds]
    split
    · rename_i h1
      have := hx j hj
      obtain ⟨z', hz'⟩ := this
      have := (Array.getElem?_eq_some_iff.1 hz').1
      subst h1
      rw [if_pos this]
      exact ⟨z, rfl⟩
    · exact hx j hj
  · exact ⟨c, hb.kept (grown_setCell _ _ _ _) (by simp; exact fun h => e h.symm), hs, hx⟩
/-- Clones that are written over. -/
structure ZX (N : Nat) (w X : World) (v : Value) (n : Nat) (ps : List (Value × List UInt8)) : Prop where
  kp : Keeps (fun k => N ≤ k) w X
  row : X.ownsRow N 22 1 v n (ps.map Prod.fst)
  el : ∀ p ∈ ps, ∃ pa pc, p.1 = .slice pa p.2.length pc ∧ (0 < p.2.length → ∃ gb po, pa = some ⟨gb, po, none⟩ ∧ N ≤ gb ∧ WB X gb po p.2.length)
theorem ZX.set {N : Nat} {w X : World} {v : Value} {n : Nat} {ps : List (Value × List UInt8)} (h : ZX N w X v n ps) {gb po m : Nat} (hN : N ≤ gb) (hb : WB X gb po m) (k : Nat) (z : Int) : ZX N w (X.setCell ⟨gb, k, none⟩ (.int .u8 z)) v n ps := by
  have hg := grown_setCell X gb k (.int .u8 z)
  refine ⟨h.kp.thenZ (Keeps.one hg hN), owns_kept h.row hg (fun g c hh => ?_), fun p hp => ?_⟩
  · obtain ⟨c', hb', _⟩ := hb
    exact ne_tag hh hb' (by decide)
  · obtain ⟨pa, pc, e, hw⟩ := h.el p hp
    exact ⟨pa, pc, e, fun h0 => by
      obtain ⟨g1, o1, e1, h1, h2⟩ := hw h0
      exact ⟨g1, o1, e1, h1, h2.set _ _ _⟩⟩
theorem ZX.of {w0 W w : World} {v : Value} {ps : List (Value × List UInt8)} {n : Nat} (hn : n = ps.length) (h : Pp w0 W v ps) (hf : ∀ p ∈ ps, ∀ k, p.1.ownBlock = some k → w0.heap.size ≤ k) (hg : W.grownBy w none) : ZX w0.heap.size w w v n ps := by
  subst hn
  have h' := h.kept hg
  refine ⟨Keeps.refl _ _, h'.row, fun p hp => ?_⟩
  obtain ⟨h1, h2⟩ := h'.el p hp
  obtain ⟨pa, pc, e⟩ := h1.len
  refine ⟨pa, pc, e, fun h0 => ?_⟩
  have h1' := h1
  rw [e] at h1'
  rcases h1 with ⟨h, _⟩ | ⟨b, off, cap, e', hl, hx⟩
  · rw [h] at h0; simp at h0
  · rw [e] at e'
    cases e'
    have hob : p.1.ownBlock = some b := by rw [e]; rfl
    exact ⟨b, off, rfl, hf p hp b hob, WB.of h1' rfl h0 (h2 b hob)⟩
/-- What a step leaves. -/
def StepOut (w W : World) (Zm Zr : Nat → Prop) (bm br : Nat) (m : Mach) (i : Nat) (e : Ending) (W' : World) : Prop := e = .returned (.bool true) ∧ ∃ Zm' Zr' m' r', TW w W' Zm' Zr' bm br m' r' (i + 1) ∧ Keeps (fun k => Zm k ∨ Zr k) W W' ∧ (∀ k, Zm' k → Zm k ∨ W.heap.size ≤ k) ∧ (∀ k, Zr' k → Zr k ∨ W.heap.size ≤ k) ∧ m'.ab.sp = m.ab.sp
set_option maxHeartbeats 4000000 in
theorem step_any {w W : World} {Zm Zr : Nat → Prop} {bm br : Nat} {m : Mach} {r : Rf} {i : Nat} (h : TW w W Zm Zr bm br m r i) (hi : i ≤ 1048576) (oa : Option Addr) (oc : Nat) (ix fr mo : Int) (l : List UInt8) (hb : Byt W (.slice oa l.length oc) l) (hz : 0 < l.length → ∀ k, (Value.slice oa l.length oc).ownBlock = some k → k < w.heap.size) (hl : l.length ≤ 1048576) :
    Calls Try.prog 21 #[.pointer (some ⟨bm, 0, none⟩), .pointer (some ⟨br, 0, none⟩), .agg #[.int .i64 ix, .slice oa l.length oc, .int .i64 fr, .int .i64 mo]] W (StepOut w W Zm Zr bm br m i) := by
  have HT := hid_mk h
  have HZ := hid_mk hz
  obtain ⟨cs, hcs⟩ : ∃ cs : Array Value, cs = #[.int .i64 ix, .slice oa l.length oc, .int .i64 fr, .int .i64 mo] := ⟨_, rfl⟩
  have H0 := hid_mk (show Blk (W.alloc (.cells #[.int .i64 ix, .slice oa l.length oc, .int .i64 fr, .int .i64 mo] 44)) W.heap.size #[.int .i64 ix, .slice oa l.length oc, .int .i64 fr, .int .i64 mo] 44 ∧ W.grownBy (W.alloc (.cells #[.int .i64 ix, .slice oa l.length oc, .int .i64 fr, .int .i64 mo] 44)) none ∧ Byt (W.alloc (.cells #[.int .i64 ix, .slice oa l.length oc, .int .i64 fr, .int .i64 mo] 44)) (.slice oa l.length oc) l from ⟨heap_alloc_new _ _, World.grownBy_alloc _ _ _, hb.kept (World.grownBy_alloc _ _ _)⟩)
  clear h hb hz
  go_enter Try.func21, Try.ntmps21
  go_wp2_with fail
  generalize W.alloc (.cells #[.int .i64 ix, .slice oa l.length oc, .int .i64 fr, .int .i64 mo] 44) = w0 at *
  obtain ⟨ob, hob⟩ : ∃ ob, ob = W.heap.size := ⟨_, rfl⟩
  rw [← hob]
  rw [← hob] at H0
  have HOB := hid_mk hob
  clear hob hcs
  refine (lent_any _ l w0 H0.out.2.2 (by omega)).mono ?_
  rintro e w1 ⟨g, gc, rfl, ho, hg⟩
  have H1 := hid_mk (And.intro ho hg)
  clear ho hg
  have H1' := hid_mk (show MS w w1 Zm bm m ∧ RO w w1 Zr br r ∧ Blk w1 ob #[.int .i64 ix, .slice oa l.length oc, .int .i64 fr, .int .i64 mo] 44 ∧ Byt w1 (.slice oa l.length oc) l ∧ Byt w1 (.slice (some ⟨g, 0, none⟩) l.length gc) l ∧ W.heap.size ≤ g ∧ W.grownBy w1 none by
    have hg := grown_trans H0.out.2.1 H1.out.2
    refine ⟨HT.out.pm.kept hg, ⟨HT.out.pr.isR.kept hg, HT.out.pr.lo, fun k hk => Nat.lt_of_lt_of_le (HT.out.pr.hi k hk) hg.size⟩, H0.out.1.kept H1.out.2 (by simp), H0.out.2.2.kept H1.out.2, (lent_byt H1.out.1).1, ?_, hg⟩
    exact Nat.le_trans H0.out.2.1.size (row_tag H1.out.1 g rfl).1)
  have HWF := hid_mk HT.out.wf
  have hms : m.ss.length ≤ 16 := by rw [ab_ss]; exact HT.out.wf.few
  have hmr : m.rs.length ≤ 1048576 := by
    have h1 := HT.out.nx.1
    rw [ab_rs]; omega
  have o0 : w1.cell? ⟨ob, 0, none⟩ = some (.int .i64 ix) := by rw [H1'.out.2.2.1.cell]; rfl
  have HAP := hid_mk (apply_ab w1 Zm bm m ix (some ⟨g, 0, none⟩) gc l H1'.out.1.isM H1'.out.2.2.2.2.1 (fun k e hk => by
    cases e
    have h1 : g < W.heap.size := HT.out.pm.hi _ hk
    have h2 := H1'.out.2.2.2.2.2.1
    omega) (by omega) (by omega) hms)
  obtain ⟨⟨⟨⟨re, rs0, rn⟩, er⟩, ab'⟩, hx⟩ : ∃ x, x = applyA m.ab ix l := ⟨_, rfl⟩
  rw [← hx] at HAP
  have HX := hid_mk hx
  clear hx
  go_wp2_with fail
  refine HAP.out.mono ?_
  clear HAP
  rintro e w2 ⟨m', rfl, hm', hab', hkp'⟩
  simp only [resV]
  have H2 := hid_mk (show MS w w2 (Nx Zm w1 w2) bm m' ∧ RO w w2 Zr br r ∧ Blk w2 ob #[.int .i64 ix, .slice oa l.length oc, .int .i64 fr, .int .i64 mo] 44 ∧ Byt w2 (.slice oa l.length oc) l ∧ Own w2 w0.heap.size (.slice (some ⟨g, 0, none⟩) (l.length + 2) gc) (l ++ [201, 202]) ∧ Keeps Zm W w2 ∧ m'.ab = ab' by
    have hob : ob < w1.heap.size := (Array.getElem?_eq_some_iff.1 H1'.out.2.2.1).1
    have hg := H1'.out.2.2.2.2.2.2
    have hzw : w.heap.size ≤ W.heap.size := HT.out.pm.gr.size
    refine ⟨⟨hm'.bound, fun k hk => ?_, fun k hk => hk.2, Keeps.grown H1'.out.1.gr hkp' HT.out.pm.lo⟩, ⟨H1'.out.2.1.isR.keeps hkp' (fun k h1 h2 => HT.out.dj k h2 h1), HT.out.pr.lo, fun k hk => Nat.lt_of_lt_of_le (H1'.out.2.1.hi k hk) hkp'.size⟩, (hkp'.block ob hob (fun hh => ?_)).trans H1'.out.2.2.1, byt_keepsE H1'.out.2.2.2.1 hkp' (fun h0 k e _ hh => ?_), rows_keeps H1.out.1 hkp' (fun k hk hh => ?_), (Keeps.of_none hg).thenZ hkp', hab'⟩
    · rcases hk.1 with h | h
      · exact HT.out.pm.lo k h
      · exact Nat.le_trans H1'.out.1.gr.size h
    · have h1 := HT.out.pm.hi _ hh
      have h2 := HOB.out
      omega
    · have h1 := HZ.out h0 k e
      have h2 := HT.out.pm.lo k hh
      omega
    · have h1 := HT.out.pm.hi _ hh
      have h2 := H0.out.2.1.size
      have h3 := (row_tag H1.out.1 k hk).1
      omega)
  clear hm' hab' hkp' o0
  have H3 := hid_mk (show Blk (w2.alloc (.cells #[.int .i64 re, .int .i64 rs0, .int .i64 rn] 52)) w2.heap.size #[.int .i64 re, .int .i64 rs0, .int .i64 rn] 52 ∧ w2.grownBy (w2.alloc (.cells #[.int .i64 re, .int .i64 rs0, .int .i64 rn] 52)) none from ⟨heap_alloc_new _ _, World.grownBy_alloc _ _ _⟩)
  have o0 : (w2.alloc (.cells #[.int .i64 re, .int .i64 rs0, .int .i64 rn] 52)).cell? ⟨ob, 0, none⟩ = some (.int .i64 ix) := by rw [(H2.out.2.2.1.kept H3.out.2 (by simp)).cell]; rfl
  have o1 : (w2.alloc (.cells #[.int .i64 re, .int .i64 rs0, .int .i64 rn] 52)).cell? ⟨ob, 1, none⟩ = some (.slice oa l.length oc) := by rw [(H2.out.2.2.1.kept H3.out.2 (by simp)).cell]; rfl
  go_wp2_with fail
  generalize w2.alloc (.cells #[.int .i64 re, .int .i64 rs0, .int .i64 rn] 52) = w3 at *
  obtain ⟨qa, hqa⟩ : ∃ qa, qa = w2.heap.size := ⟨_, rfl⟩
  rw [← hqa]
  rw [← hqa] at H3
  have HQA := hid_mk hqa
  clear hqa
  have hrr : r.rs.length ≤ 1048576 := by
    have : r.rs.length = r.ab.rs.length := by simp [Rf.ab]
    rw [this, HT.out.eq, ← ab_rs]; exact hmr
  have hrs : r.ss.length ≤ 16 := by
    have : r.ss.length = r.ab.ss.length := by simp [Rf.ab]
    rw [this, HT.out.eq, ← ab_ss]; exact hms
  have HRA := hid_mk (rapply_any (H2.out.2.1.isR.kept H3.out.2) ix oa oc l (H2.out.2.2.2.1.kept H3.out.2) (fun h0 k e hk => by
    have h1 := HZ.out h0 k e
    have h2 := HT.out.pr.lo k hk
    omega) (by omega) (by omega) hrs (by
      have h1 : r.sp = m.sp := congrArg Ab.sp HT.out.eq
      rw [h1]; exact HT.out.pm.isM.span.2) (by
      have h1 : r.st = m.st := congrArg Ab.st HT.out.eq
      have := HT.out.pm.isM.top.2
      omega) (fun s hs => by
      have h1 : r.ss = m.ab.ss := congrArg Ab.ss HT.out.eq
      rw [h1] at hs
      have h2 := (HWF.out.ses s hs).2.2.1
      have h3 := HWF.out.ap
      omega) (by
      have h1 : r.ss = m.ab.ss := congrArg Ab.ss HT.out.eq
      rw [h1]; exact HWF.out.asc))
  rw [HT.out.eq, ← HX.out] at HRA
  refine HRA.out.mono ?_
  clear HRA o0 o1
  rintro e w4 ⟨r', rfl, hr', hab', hkp'⟩
  simp only [resV]
  have H4 := hid_mk (show MS w w4 (Nx Zm w1 w2) bm m' ∧ RO w w4 (Nx Zr w3 w4) br r' ∧ Blk w4 ob #[.int .i64 ix, .slice oa l.length oc, .int .i64 fr, .int .i64 mo] 44 ∧ Blk w4 qa #[.int .i64 re, .int .i64 rs0, .int .i64 rn] 52 ∧ Byt w4 (.slice oa l.length oc) l ∧ Own w4 w0.heap.size (.slice (some ⟨g, 0, none⟩) (l.length + 2) gc) (l ++ [201, 202]) ∧ Keeps (fun k => Zm k ∨ Zr k) W w4 ∧ r'.ab = ab' by
    have hg3 := H3.out.2
    have hW2 : W.heap.size ≤ w2.heap.size := H2.out.2.2.2.2.2.1.size
    have hob3 := H2.out.2.2.1.kept hg3 (by simp)
    have hob : ob < w3.heap.size := (Array.getElem?_eq_some_iff.1 hob3).1
    have hqa3 : qa < w3.heap.size := (Array.getElem?_eq_some_iff.1 H3.out.1).1
    have hhi := HT.out.pr.hi
    refine ⟨(H2.out.1.kept hg3).keeps hkp' (fun k h1 h2 => ?_) HT.out.pr.lo, ⟨hr'.bound, fun k hk => ?_, fun k hk => hk.2⟩, (hkp'.block ob hob (fun hh => ?_)).trans hob3, (hkp'.block qa hqa3 (fun hh => ?_)).trans H3.out.1, byt_keepsE (H2.out.2.2.2.1.kept hg3) hkp' (fun h0 k e _ hh => ?_), rows_keeps (owns_kept H2.out.2.2.2.2.1 hg3 (fun _ _ _ => by simp)) hkp' (fun k hk hh => ?_), ?_, hab'⟩
    · rcases h1.1 with h | h
      · exact HT.out.dj k h h2
      · have h3 := hhi k h2
        have h4 := H1'.out.2.2.2.2.2.2.size
        omega
    · rcases hk.1 with h | h
      · exact HT.out.pr.lo k h
      · exact Nat.le_trans H2.out.1.gr.size (Nat.le_trans hg3.size h)
    · have h1 := hhi _ hh
      have h2 := HOB.out
      omega
    · have h1 := hhi _ hh
      have h2 := HQA.out
      omega
    · have h1 := HZ.out h0 k e
      have h2 := HT.out.pr.lo k hh
      omega
    · have h1 := hhi _ hh
      have h2 := H0.out.2.1.size
      have h3 := (row_tag H1.out.1 k hk).1
      omega
    · exact (((H2.out.2.2.2.2.2.1).mono (fun k hk => Or.inl hk)).thenZ (Keeps.of_none hg3)).thenZ (hkp'.mono (fun k hk => Or.inr hk)))
  have HDJ := hid_mk (show ∀ k, Nx Zm w1 w2 k → ¬ Nx Zr w3 w4 k by
    intro k h1 h2
    have hs3 := H3.out.2.size
    have h4 := H1'.out.2.2.2.2.2.2.size
    rcases h2.1 with h2 | h2
    · rcases h1.1 with h1 | h1
      · exact HT.out.dj k h1 h2
      · have := HT.out.pr.hi k h2
        omega
    · have := h1.2
      omega)
  have HNX := hid_mk (show (∀ k, Nx Zm w1 w2 k → Zm k ∨ W.heap.size ≤ k) ∧ (∀ k, Nx Zr w3 w4 k → Zr k ∨ W.heap.size ≤ k) by
    have hs1 := H1'.out.2.2.2.2.2.2.size
    have hs2 := H2.out.2.2.2.2.2.1.size
    have hs3 := H3.out.2.size
    refine ⟨fun k hk => ?_, fun k hk => ?_⟩
    · rcases hk.1 with h | h
      · exact .inl h
      · exact .inr (by omega)
    · rcases hk.1 with h | h
      · exact .inl h
      · exact .inr (by omega))
  have HNG := hid_mk (show ¬ Nx Zm w1 w2 g ∧ ¬ Nx Zr w3 w4 g by
    obtain ⟨hg1, c, hg2⟩ := row_tag H1.out.1 g rfl
    have hg3 := (Array.getElem?_eq_some_iff.1 hg2).1
    have h0 := H0.out.2.1.size
    have hs2 := H2.out.1.gr.size
    have hs3 := H3.out.2.size
    have hs4 := H2.out.2.2.2.2.2.1.size
    obtain ⟨_, c2, hg4⟩ := row_tag H2.out.2.2.2.2.1 g rfl
    have hg5 := (Array.getElem?_eq_some_iff.1 hg4).1
    refine ⟨fun h => ?_, fun h => ?_⟩
    · rcases h.1 with h | h
      · have := HT.out.pm.hi _ h
        omega
      · omega
    · rcases h.1 with h | h
      · have := HT.out.pr.hi _ h
        omega
      · omega)
  generalize Nx Zm w1 w2 = Zm' at *
  generalize Nx Zr w3 w4 = Zr' at *
  have HMB := hid_mk H2.out.2.2.2.2.2.2
  clear hr' hab' hkp' H2 H3 H1 H1' hrr hrs
  have H5 := hid_mk (show Blk (w4.alloc (.cells #[.int .i64 re, .int .i64 rs0, .int .i64 rn] 83)) w4.heap.size #[.int .i64 re, .int .i64 rs0, .int .i64 rn] 83 ∧ w4.grownBy (w4.alloc (.cells #[.int .i64 re, .int .i64 rs0, .int .i64 rn] 83)) none from ⟨heap_alloc_new _ _, World.grownBy_alloc _ _ _⟩)
  go_upto_region 4 with fail
  generalize w4.alloc (.cells #[.int .i64 re, .int .i64 rs0, .int .i64 rn] 83) = w5 at *
  generalize w4.heap.size = qb at *
  have H6 := hid_mk (show MS w w5 Zm' bm m' ∧ RO w w5 Zr' br r' ∧ Blk w5 ob #[.int .i64 ix, .slice oa l.length oc, .int .i64 fr, .int .i64 mo] 44 ∧ Own w5 w0.heap.size (.slice (some ⟨g, 0, none⟩) (l.length + 2) gc) (l ++ [201, 202]) ∧ Keeps (fun k => Zm k ∨ Zr k) W w5 by
    have hg := H5.out.2
    exact ⟨H4.out.1.kept hg, ⟨H4.out.2.1.isR.kept hg, H4.out.2.1.lo, fun k hk => Nat.lt_of_lt_of_le (H4.out.2.1.hi k hk) hg.size⟩, H4.out.2.2.1.kept hg (by simp), owns_kept H4.out.2.2.2.2.2.1 hg (fun _ _ _ => by simp), H4.out.2.2.2.2.2.2.1.thenZ (Keeps.of_none hg)⟩)
  have HBY := hid_mk (show Byt w5 (.slice oa l.length oc) l from H4.out.2.2.2.2.1.kept H5.out.2)
  have a0 : w5.cell? ⟨qa, 0, none⟩ = some (.int .i64 re) := by rw [(H4.out.2.2.2.1.kept H5.out.2 (by simp)).cell]; rfl
  have a1 : w5.cell? ⟨qa, 1, none⟩ = some (.int .i64 rs0) := by rw [(H4.out.2.2.2.1.kept H5.out.2 (by simp)).cell]; rfl
  have a2 : w5.cell? ⟨qa, 2, none⟩ = some (.int .i64 rn) := by rw [(H4.out.2.2.2.1.kept H5.out.2 (by simp)).cell]; rfl
  have b0 : w5.cell? ⟨qb, 0, none⟩ = some (.int .i64 re) := by rw [H5.out.1.cell]; rfl
  have b1 : w5.cell? ⟨qb, 1, none⟩ = some (.int .i64 rs0) := by rw [H5.out.1.cell]; rfl
  have b2 : w5.cell? ⟨qb, 2, none⟩ = some (.int .i64 rn) := by rw [H5.out.1.cell]; rfl
  have o1 : w5.cell? ⟨ob, 1, none⟩ = some (.slice oa l.length oc) := by rw [H6.out.2.2.1.cell]; rfl
  have HRB := hid_mk H4.out.2.2.2.2.2.2.2
  clear H4
  have HCL : ∀ W0, w5.grownBy W0 none → W0.cell? ⟨qa, 0, none⟩ = some (.int .i64 re) ∧ W0.cell? ⟨qa, 1, none⟩ = some (.int .i64 rs0) ∧ W0.cell? ⟨qa, 2, none⟩ = some (.int .i64 rn) ∧ W0.cell? ⟨qb, 0, none⟩ = some (.int .i64 re) ∧ W0.cell? ⟨qb, 1, none⟩ = some (.int .i64 rs0) ∧ W0.cell? ⟨qb, 2, none⟩ = some (.int .i64 rn) ∧ W0.cell? ⟨ob, 1, none⟩ = some (.slice oa l.length oc) := fun W0 hW => ⟨hW.cell a0 (by simp), hW.cell a1 (by simp), hW.cell a2 (by simp), hW.cell b0 (by simp), hW.cell b1 (by simp), hW.cell b2 (by simp), hW.cell o1 (by simp)⟩
  clear a0 a1 a2 b0 b1 b2 o1
  refine wp_region_mix [(0, true), (1, true), (2, true), (3, true), (4, true), (5, true), (6, true), (7, true), (8, true), (9, true), (10, true), (11, true), (12, true), (13, true), (14, true), (15, true), (16, true), (17, true), (18, true), (19, true), (20, true), (21, true), (22, true), (23, true), (24, true), (25, true), (26, true), (27, true), (28, true), (29, true), (30, true), (31, true), (32, true)] (at0 w5 (fun W0 => w5.grownBy W0 none)) (by kernel_rfl) (by kernel_rfl) rfl (by kernel_rfl) (shut_at0 (fun m => grown_drewN _ m _)) ⟨1, rfl⟩ ?_
  repeat (first
    | (refine mix_no1 rfl rfl (fun K hK => ?_); go_simp; refine hK _ _ ?_; clear hK K)
    | (refine mix_rd1 rfl rfl (fun K hK => ?_); apply Exists.intro; refine ⟨fun W0 hW => ?_, ?_⟩; (obtain ⟨f0, f1, f2, f3, f4, f5, f6⟩ := HCL W0 hW; go_simp; rfl); (go_simp; refine hK _ _ ?_; clear hK K))
    | (refine mix_rdcall rfl rfl 16 #[.int .i64 re] (.int .i64 re) ?h1 (fun W0 hW => (num_any _ _).mono (fun e w' ⟨h1, h2⟩ => ⟨h1, 0, h2⟩)) ?_; case h1 => (intro W0; go_simp; done))
    | (refine mix_rdcall rfl rfl 16 #[.int .i64 er] (.int .i64 er) ?h1 (fun W0 hW => (num_any _ _).mono (fun e w' ⟨h1, h2⟩ => ⟨h1, 0, h2⟩)) ?_; case h1 => (intro W0; go_simp; done))
    | (refine mix_rdcall rfl rfl 17 #[.slice (some ⟨g, 0, none⟩) l.length gc, .slice oa l.length oc] (.bool true) ?h1 (fun W0 hW => stays_any w0.heap.size g gc l _ _ (owns_kept H6.out.2.2.2.1 hW (fun _ _ _ => by simp)) (HBY.out.kept hW) (by omega)) ?_; case h1 => (intro W0; go_simp; done)))
  refine mix_nil ?_
  rintro W0 ⟨m5, rfl⟩
  have H7 := hid_mk (show MS w (w5.drewN m5) Zm' bm m' ∧ RO w (w5.drewN m5) Zr' br r' ∧ Blk (w5.drewN m5) ob #[.int .i64 ix, .slice oa l.length oc, .int .i64 fr, .int .i64 mo] 44 ∧ Own (w5.drewN m5) w0.heap.size (.slice (some ⟨g, 0, none⟩) (l.length + 2) gc) (l ++ [201, 202]) ∧ Keeps (fun k => Zm k ∨ Zr k) W (w5.drewN m5) by
    have hg := grown_drewN w5 m5 none
    exact ⟨H6.out.1.kept hg, ⟨H6.out.2.1.isR.kept hg, H6.out.2.1.lo, fun k hk => Nat.lt_of_lt_of_le (H6.out.2.1.hi k hk) hg.size⟩, H6.out.2.2.1.kept hg (by simp), owns_kept H6.out.2.2.2.1 hg (fun _ _ _ => by simp), H6.out.2.2.2.2.thenZ (Keeps.of_none hg)⟩)
  clear H6 HBY HCL H5
  generalize w5.drewN m5 = w6 at *
  go_wp2_with fail
  have HGW := hid_mk (show W.heap.size ≤ g ∧ g ≠ ob by
    obtain ⟨h1, c, h2⟩ := row_tag H7.out.2.2.2.1 g rfl
    have h0 := H0.out.2.1.size
    refine ⟨by omega, fun e => ?_⟩
    subst e
    have := (Array.getElem?_eq_some_iff.1 H0.out.1).1
    omega)
  go_loopg [12] l.length (fun gk iv X => ∃ j : Nat, j ≤ l.length ∧ gk = l.length - j ∧ iv = .int .i64 j ∧ Hid (Keeps (fun k => k = g) w6 X ∧ (0 < l.length → WB X g 0 l.length)))
  case atStart =>
    refine ⟨0, Nat.zero_le _, rfl, rfl, hid_mk ⟨Keeps.refl _ _, fun h0 => ?_⟩⟩
    exact WB.of (lent_byt H7.out.2.2.2.1).1 rfl h0 (row_tag H7.out.2.2.2.1 g rfl).2
  case round =>
    obtain ⟨j, hj, hgj, rfl, HK⟩ := hrel
    by_cases hlt : j < l.length
    · have hlt' : (j : Int) < (l.length : Int) := by omega
      have HWB := hid_mk (HK.out.2 (by omega))
      obtain ⟨z, hz⟩ := HWB.out.cell j hlt
      rw [Nat.zero_add] at hz
      have hzf := HWB.out.frozen
      go_wp2_with fail
      go_roundg (l.length - (j + 1))
      case measure => omega
      case rel => exact ⟨j + 1, by omega, rfl, by go_num, hid_mk ⟨HK.out.1.thenZ (Keeps.one (grown_setCell _ _ _ _) rfl), fun _ => HWB.out.set _ _ _⟩⟩
    · have hnlt : ¬ (j : Int) < (l.length : Int) := by omega
      obtain rfl : j = l.length := by omega
      have H8 := hid_mk (show MS w wr Zm' bm m' ∧ RO w wr Zr' br r' ∧ Blk wr ob #[.int .i64 ix, .slice oa l.length oc, .int .i64 fr, .int .i64 mo] 44 ∧ Keeps (fun k => Zm k ∨ Zr k) W wr by
        have hk := HK.out.1
        have hob : ob < w6.heap.size := (Array.getElem?_eq_some_iff.1 H7.out.2.2.1).1
        have hwW := HT.out.pm.gr.size
        refine ⟨H7.out.1.keeps hk (fun k h1 h2 => ?_) (fun k h1 => ?_), ⟨H7.out.2.1.isR.keeps hk (fun k h1 h2 => ?_), H7.out.2.1.lo, fun k h1 => Nat.lt_of_lt_of_le (H7.out.2.1.hi k h1) hk.size⟩, (hk.block ob hob (fun h1 => HGW.out.2 h1.symm)).trans H7.out.2.2.1, H7.out.2.2.2.2.trans hk (fun k hkW _ h1 => ?_)⟩
        · subst h2; exact HNG.out.1 h1
        · subst h1; have := HGW.out.1; omega
        · subst h2; exact HNG.out.2 h1
        · subst h1; have := HGW.out.1; omega)
      clear HK H7
      have o2 : wr.cell? ⟨ob, 2, none⟩ = some (.int .i64 fr) := by rw [H8.out.2.2.1.cell]; rfl
      have o3 : wr.cell? ⟨ob, 3, none⟩ = some (.int .i64 mo) := by rw [H8.out.2.2.1.cell]; rfl
      have HEQ := hid_mk (show r'.ab = m'.ab ∧ m'.ab = (applyA m.ab ix l).2 from ⟨HRB.out.trans HMB.out.symm, by rw [HMB.out, ← HX.out]⟩)
      have HWF2 := hid_mk (show Wf m'.ab ∧ (m'.ab.rs.length ≤ i + 1 ∧ nextA m'.ab ≤ 1099511627775 + (i + 1)) ∧ m'.ab.sp = m.ab.sp by
        rw [HEQ.out.2]
        obtain ⟨h1, h2, h3⟩ := HWF.out.apply ix l
        have h4 := apply_rs m.ab ix l
        exact ⟨h1, ⟨by have := HT.out.nx.1; omega, Nat.le_trans h2 (by have := HT.out.nx.2; omega)⟩, h3⟩)
      have hmr2 : m'.rs.length ≤ 1048577 := by
        have h1 := HWF2.out.2.1.1
        rw [ab_rs]; omega
      have HRD := hid_mk (read_any H8.out.1.isM fr mo (by omega))
      obtain ⟨⟨xl, xe⟩, hx⟩ : ∃ x, x = readA m'.ab fr mo := ⟨_, rfl⟩
      rw [← hx] at HRD
      have HXL := hid_mk hx
      clear hx
      go_wp2_with fail
      refine HRD.out.mono ?_
      clear HRD o2 o3
      rintro e w8 ⟨xa, xc, ps, rfl, hps, hpp, hfr⟩
      obtain ⟨n, hn⟩ : ∃ n, n = ps.length := ⟨_, rfl⟩
      rw [← hn] at hpp ⊢
      have H9 := hid_mk (show n = ps.length ∧ ps.map Prod.snd = xl ∧ Pp wr w8 (.slice xa n xc) ps ∧ ∀ p ∈ ps, ∀ k, p.1.ownBlock = some k → wr.heap.size ≤ k from ⟨hn, hps, hpp, hfr⟩)
      clear hn hps hpp hfr
      have o2 : w8.cell? ⟨ob, 2, none⟩ = some (.int .i64 fr) := by rw [(H8.out.2.2.1.kept H9.out.2.2.1.gr (by simp)).cell]; rfl
      have o3 : w8.cell? ⟨ob, 3, none⟩ = some (.int .i64 mo) := by rw [(H8.out.2.2.1.kept H9.out.2.2.1.gr (by simp)).cell]; rfl
      have hrr2 : r'.rs.length ≤ 1048577 := by
        have : r'.rs.length = r'.ab.rs.length := by simp [Rf.ab]
        rw [this, HEQ.out.1, ← ab_rs]; exact hmr2
      have HRD := hid_mk (rread_any (H8.out.2.1.isR.kept H9.out.2.2.1.gr) fr mo (by omega) (by
        have h1 : r'.st = m'.st := congrArg Ab.st HEQ.out.1
        have := H8.out.1.isM.top.2
        omega))
      rw [HEQ.out.1, ← HXL.out] at HRD
      go_wp2_with fail
      refine HRD.out.mono ?_
      clear HRD o2 o3
      rintro e w9 ⟨ya, yc, qs, rfl, hqs, hqp, hqg⟩
      have hqn : qs.length = n := by
        have h1 : ps.length = xl.length := by rw [← H9.out.2.1, List.length_map]
        have h2 : qs.length = xl.length := by
          have := congrArg List.length hqs
          simpa using this
        rw [H9.out.1]; omega
      rw [hqn] at hqp ⊢
      have hn20 : n ≤ 1048577 := by
        have h1 : xl.length ≤ 1048577 := by
          have h2 := congrArg (fun z => z.1.length) HXL.out
          simp only at h2
          rw [h2]
          unfold readA
          have h3 := ab_rs m'
          split
          · simp
          · split
            · simp
            · simp only [List.length_take, List.length_drop]; omega
        have h5 : ps.length = xl.length := by rw [← H9.out.2.1, List.length_map]
        rw [H9.out.1, h5]; exact h1
      have HLS := hid_mk (lists_same xa ya xc yc n ps qs w9 (H9.out.2.2.1.parts.kept hqg) hqp H9.out.1 hqn.symm (by rw [H9.out.2.1, hqs]) (by omega))
      have HQG := hid_mk hqg
      clear hqs hqp hqg hqn
      go_wp2_with (first
        | (go_at_call 42; refine HLS.out.mono ?_; clear HLS; rintro e w' ⟨rfl, mm, hw⟩; rw [hw]; clear hw)
        | (go_at_call 16; refine (num_any _ _).mono ?_; rintro e w' ⟨rfl, hw⟩; rw [hw]; clear hw))
      have HZX := hid_mk (ZX.of H9.out.1 H9.out.2.2.1 H9.out.2.2.2 (grown_trans HQG.out (grown_drewN w9 mm none)))
      have HGG := hid_mk (show wr.grownBy (w9.drewN mm) none from grown_trans H9.out.2.2.1.gr (grown_trans HQG.out (grown_drewN w9 mm none)))
      have HPS := hid_mk H9.out.1
      have HPB := hid_mk (show ∀ p ∈ ps, p.2.length ≤ 1024 by
        intro p hp
        have h1 : p.2 ∈ xl := by rw [← H9.out.2.1]; exact List.mem_map_of_mem hp
        have h2 : xl = (readA m'.ab fr mo).1 := congrArg Prod.fst HXL.out
        rw [h2] at h1
        unfold readA at h1
        split at h1
        · cases h1
        · split at h1
          · cases h1
          · exact HWF2.out.1.dat _ (List.mem_of_mem_drop (List.mem_of_mem_take h1)))
      clear H9 HQG
      generalize w9.drewN mm = w10 at *
      obtain ⟨NN, hNN⟩ : ∃ NN, NN = wr.heap.size := ⟨_, rfl⟩
      rw [← hNN] at HZX
      have HNN := hid_mk hNN
      obtain ⟨w7, hw7⟩ : ∃ w7, w7 = wr := ⟨_, rfl⟩
      rw [← hw7] at H8 HGG HNN
      clear hNN hw7
      go_loopg [17] n (fun gk iv X => ∃ j : Nat, j ≤ n ∧ gk = n - j ∧ iv = .int .i64 j ∧ Hid (ZX NN w10 X (.slice xa n xc) n ps))
      case atStart => exact ⟨0, Nat.zero_le _, rfl, rfl, HZX⟩
      case round =>
        obtain ⟨j, hj, hgj, rfl, HZ⟩ := hrel
        by_cases hlt : j < n
        · have hlt' : (j : Int) < (n : Int) := by omega
          obtain ⟨gx, cap, hv, hc, _, hx⟩ := row_get HZ.out.row (by omega)
          have hxa : xa = some ⟨gx, 0, none⟩ := by cases hv; rfl
          subst hxa
          have hjp : j < ps.length := by have := HPS.out; omega
          obtain ⟨pa, pc, hp1, hp2⟩ := HZ.out.el ps[j] (List.getElem_mem hjp)
          have HJ := hid_mk (show ps[j]? = some ps[j] by simp [hjp])
          have HP1 := hid_mk hp1
          clear hv hc hx hp1 hp2
          generalize ps[j] = p at *
          obtain ⟨pn, hpn⟩ : ∃ pn, pn = p.2.length := ⟨_, rfl⟩
          rw [← hpn] at HP1
          have hpb : pn ≤ 1024 := by rw [hpn]; exact HPB.out p (List.mem_of_getElem? HJ.out)
          have HPN := hid_mk hpn
          clear hpn
          have HCE : Hid (∀ X, ZX NN w10 X (.slice (some ⟨gx, 0, none⟩) n xc) n ps → X.cell? ⟨gx, j, none⟩ = some (.slice pa pn pc)) := hid_mk (fun X hX => by
            obtain ⟨gx', cap', hv', _, _, hx'⟩ := row_get hX.row (by omega)
            cases hv'
            rw [← HP1.out]
            exact hx' j p.1 (by simp [HJ.out]))
          go_wp2_with fail
          go_loopg [18] pn (fun gk kv X => ∃ k : Nat, k ≤ pn ∧ gk = pn - k ∧ kv = .int .i64 k ∧ Hid (ZX NN w10 X (.slice (some ⟨gx, 0, none⟩) n xc) n ps))
          case atStart => exact ⟨0, Nat.zero_le _, rfl, rfl, HZ⟩
          case round =>
            obtain ⟨k, hk, hgk, rfl, HZ2⟩ := hrel
            have hce := HCE.out _ HZ2.out
            by_cases hkl : k < pn
            · have hkl' : (k : Int) < (pn : Int) := by omega
              obtain ⟨pa', pc', e1, hwb⟩ := HZ2.out.el p (List.mem_of_getElem? HJ.out)
              rw [HP1.out] at e1
              cases e1
              obtain ⟨gb, po, e2, hNb, hWB⟩ := hwb (Nat.lt_of_le_of_lt (Nat.zero_le k) hkl)
              subst e2
              rw [← HPN.out] at hWB
              obtain ⟨z, hz⟩ := hWB.cell k hkl
              have hzf := hWB.frozen
              have HST := hid_mk (HZ2.out.set hNb hWB (po + k) 0)
              clear hwb hWB hNb
              go_wp2_with fail
              go_roundg (p.2.length - (k + 1))
              case measure => omega
              case rel => exact ⟨k + 1, by omega, rfl, by go_num, HST⟩
            · have hnkl : ¬ (k : Int) < (pn : Int) := by omega
              go_wp2_with fail
              go_roundg (n - (j + 1))
              case measure => omega
              case rel => exact ⟨j + 1, by omega, rfl, by go_num, HZ2⟩
        · have hnlt : ¬ (j : Int) < (n : Int) := by omega
          have hk := HZ.out.kp
          have FIN := hid_mk (show ∃ Zm' Zr' m' r', TW w _ Zm' Zr' bm br m' r' (i + 1) ∧ Keeps (fun k => Zm k ∨ Zr k) W _ ∧ (∀ k, Zm' k → Zm k ∨ W.heap.size ≤ k) ∧ (∀ k, Zr' k → Zr k ∨ W.heap.size ≤ k) ∧ m'.ab.sp = m.ab.sp by
            have hNN := HNN.out
            have hwW := HT.out.pm.gr.size
            have h8W := H8.out.2.2.2.size
            refine ⟨Zm', Zr', m', r', ⟨(H8.out.1.kept HGG.out).keeps hk (fun k h1 h2 => ?_) (fun k h1 => ?_), ⟨(H8.out.2.1.isR.kept HGG.out).keeps hk (fun k h1 h2 => ?_), H8.out.2.1.lo, fun k h1 => Nat.lt_of_lt_of_le (H8.out.2.1.hi k h1) (Nat.le_trans HGG.out.size hk.size)⟩, HDJ.out, HEQ.out.1, HWF2.out.1, HWF2.out.2.1⟩, (H8.out.2.2.2.thenZ (Keeps.of_none HGG.out)).trans hk (fun k hkW _ h1 => ?_), HNX.out.1, HNX.out.2, HWF2.out.2.2⟩
            · have := H8.out.1.hi k h1
              omega
            · omega
            · have := H8.out.2.1.hi k h1
              omega
            · omega)
          go_wp2_with fail
          go_ret
          exact ⟨rfl, FIN.out⟩
end Go.Proofs.Ytpncbehabfkhkaa.W
