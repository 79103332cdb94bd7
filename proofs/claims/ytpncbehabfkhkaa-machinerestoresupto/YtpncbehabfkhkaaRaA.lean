/- The document's machine: memory; New, Next, find. -/
import Derived.Test.YtpncbehabfkhkaaNaX
namespace Go.Proofs.Ytpncbehabfkhkaa.W
open Go.RowKit Go.Maps Go.WideMaps Go.WideElems
set_option linter.unusedVariables false
set_option linter.unusedSimpArgs false
set_option maxRecDepth 100000

structure Rf where
  sp : Nat
  ap : Nat
  st : Nat
  rv : Value
  sv : Value
  rs : List (Value × List UInt8)
  ss : List Sn
def Rf.ab (m : Rf) : Ab := ⟨m.sp, m.ap, m.st, m.ss, m.rs.map Prod.snd⟩
def Sn.cs (s : Sn) : List Value := [.int .i64 s.n, .int .i64 s.q, .int .i64 s.r, .int .i64 s.u]
def snC (l : List Sn) : List Value := (l.map Sn.cs).flatten
theorem snC_len (l : List Sn) : (snC l).length = l.length * 4 := by
  induction l with
  | nil => rfl
  | cons s l ih => simp only [snC, List.map_cons, List.flatten_cons, List.length_append, List.length_cons] at *; rw [ih]; simp [Sn.cs]; omega
theorem snC_append (a b : List Sn) : snC (a ++ b) = snC a ++ snC b := by simp [snC]
theorem snC_get (l : List Sn) (j c : Nat) (hj : j < l.length) (hc : c < 4) : (snC l)[j * 4 + c]? = l[j].cs[c]? := by
  induction l generalizing j with
  | nil => simp at hj
  | cons s l ih =>
    cases j with
    | zero =>
      have e : snC (s :: l) = s.cs ++ snC l := by simp [snC]
      rw [e, List.getElem?_append_left (by simp [Sn.cs]; omega)]
      simp
    | succ j =>
      have e : snC (s :: l) = s.cs ++ snC l := by simp [snC]
      rw [e, List.getElem?_append_right (by simp [Sn.cs]; omega)]
      have : (j + 1) * 4 + c - s.cs.length = j * 4 + c := by simp [Sn.cs]; omega
      rw [this, ih j (by simpa using hj)]
      simp
structure IsR (w : World) (Z : Nat → Prop) (b : Nat) (m : Rf) : Prop where
  blk : Blk w b #[.int .i64 m.sp, .int .i64 m.ap, .int .i64 m.st, m.rv, m.sv] 81
  zb : Z b
  row : w.ownsRow 0 22 1 m.rv m.rs.length (m.rs.map Prod.fst)
  zr : ∀ k, m.rv.ownBlock = some k → Z k
  el : ∀ p ∈ m.rs, Byt w p.1 p.2 ∧ ∀ k, p.1.ownBlock = some k → Z k ∧ ∃ c, w.heap[k]? = some (.cells c 5 (0, 0))
  ses : w.ownsRow 0 90 4 m.sv m.ss.length (snC m.ss)
  zs : ∀ k, m.sv.ownBlock = some k → Z k
theorem IsR.keeps {w w' : World} {F Z : Nat → Prop} {b : Nat} {m : Rf} (h : IsR w Z b m) (hk : Keeps F w w') (hF : ∀ k, Z k → ¬ F k) : IsR w' Z b m :=
  { h with
    blk := h.blk.keeps hk (hF _ h.zb)
    row := rows_keeps h.row hk (fun k e => hF _ (h.zr k e))
    ses := rows_keeps h.ses hk (fun k e => hF _ (h.zs k e))
    el := fun p hp => ⟨byt_keeps (h.el p hp).1 hk (fun k e _ => hF _ ((h.el p hp).2 k e).1), fun k e => by
      obtain ⟨hz, c, hc⟩ := (h.el p hp).2 k e
      exact ⟨hz, c, (hk.block k (Array.getElem?_eq_some_iff.1 hc).1 (hF _ hz)).trans hc⟩⟩ }
theorem IsR.kept {w w' : World} {Z : Nat → Prop} {b : Nat} {m : Rf} (h : IsR w Z b m) (hg : w.grownBy w' none) : IsR w' Z b m := h.keeps (F := fun _ => False) (Keeps.of_none hg) (fun _ _ h => h)
theorem IsR.wide {w : World} {Z Z' : Nat → Prop} {b : Nat} {m : Rf} (h : IsR w Z b m) (hz : ∀ k, Z k → Z' k) : IsR w Z' b m :=
  { h with zb := hz _ h.zb, zr := fun k e => hz _ (h.zr k e), zs := fun k e => hz _ (h.zs k e), el := fun p hp => ⟨(h.el p hp).1, fun k e => ⟨hz _ ((h.el p hp).2 k e).1, ((h.el p hp).2 k e).2⟩⟩ }
theorem IsR.bound {w : World} {Z : Nat → Prop} {b : Nat} {m : Rf} (h : IsR w Z b m) : IsR w (fun k => Z k ∧ k < w.heap.size) b m :=
  { h with
    zb := ⟨h.zb, h.blk.lt⟩
    zr := fun k e => ⟨h.zr k e, by obtain ⟨_, c, hc⟩ := own_low h.row k e; exact (Array.getElem?_eq_some_iff.1 hc).1⟩
    zs := fun k e => ⟨h.zs k e, by obtain ⟨_, c, hc⟩ := own_low h.ses k e; exact (Array.getElem?_eq_some_iff.1 hc).1⟩
    el := fun p hp => ⟨(h.el p hp).1, fun k e => by
      obtain ⟨hz, c, hc⟩ := (h.el p hp).2 k e
      exact ⟨⟨hz, (Array.getElem?_eq_some_iff.1 hc).1⟩, c, hc⟩⟩ }
theorem IsR.other {w w' : World} {Z : Nat → Prop} {b : Nat} {m : Rf} (h : IsR w Z b m) {q : Nat} {cs : Array Value} {t : TypeId} (hq : Blk w q cs t) (h1 : t ≠ 81) (h2 : t ≠ 90) (h3 : t ≠ 22) (h4 : t ≠ 5) (hg : w.grownBy w' (some q)) : IsR w' Z b m :=
  { h with
    blk := h.blk.kept hg (ne_tag h.blk hq (Ne.symm h1))
    row := owns_kept h.row hg (fun g c hh => ne_tag hh hq (Ne.symm h3))
    ses := owns_kept h.ses hg (fun g c hh => ne_tag hh hq (Ne.symm h2))
    el := fun p hp => ⟨byt_kept5 (h.el p hp).1 (fun k e => by
        obtain ⟨_, c, hc⟩ := (h.el p hp).2 k e
        exact ne_tag hc hq (Ne.symm h4)) hg, fun k e => by
      obtain ⟨hz, c, hc⟩ := (h.el p hp).2 k e
      exact ⟨hz, c, (hg.block k (Array.getElem?_eq_some_iff.1 hc).1 (ne_tag hc hq (Ne.symm h4))).trans hc⟩⟩ }
theorem IsR.cells {w : World} {Z : Nat → Prop} {b : Nat} {m : Rf} (h : IsR w Z b m) : w.cell? ⟨b, 0, none⟩ = some (.int .i64 m.sp) ∧ w.cell? ⟨b, 1, none⟩ = some (.int .i64 m.ap) ∧ w.cell? ⟨b, 2, none⟩ = some (.int .i64 m.st) ∧ w.cell? ⟨b, 3, none⟩ = some m.rv ∧ w.cell? ⟨b, 4, none⟩ = some m.sv ∧ ∀ j, w.frozen? ⟨b, j, none⟩ = false :=
  ⟨by rw [h.blk.cell]; rfl, by rw [h.blk.cell]; rfl, by rw [h.blk.cell]; rfl, by rw [h.blk.cell]; rfl, by rw [h.blk.cell]; rfl, fun j => h.blk.frozen j⟩
theorem elem79 : Try.prog.elem 79 = 90 := by kernel_rfl
/-- Where a session lies. -/
theorem IsR.at {w : World} {Z : Nat → Prop} {b : Nat} {m : Rf} (h : IsR w Z b m) (j : Nat) (hj : j < m.ss.length) : ∃ g cap cur, m.sv = .slice (some ⟨g, 0, none⟩) m.ss.length cap ∧ m.ss.length ≤ cap ∧ cap ≤ maxLen ∧ w.heap[g]? = some (.cells cur 90 (0, 0)) ∧ cur.size = cap * 4 ∧ cur.toList.take (m.ss.length * 4) = snC m.ss ∧
    (∀ w', (Instr.indexAt 79 m.sv (.int .i64 j)).run Try.prog w' = .ok (.pointer (some ⟨g, j * 4, none⟩)) w') ∧ ∀ c, c < 4 → w.cell? ⟨g, j * 4 + c, none⟩ = m.ss[j].cs[c]? := by
  rcases h.ses.2 with ⟨_, h0⟩ | ⟨g, cap, cur, hv, _, hg, h1, h2, h3, h4⟩
  · omega
  · refine ⟨g, cap, cur, hv, h1, h2, hg, h3, h4, fun w' => ?_, fun c hc => ?_⟩
    · rw [hv, run_indexAt_slice w' 79 _ m.ss.length cap .i64 j (by rw [elem79]; exact Try.underlying79), if_pos ⟨by omega, by omega⟩, elem79, Try.sizeOf90 w']
      simp [Result.andThen, Addr.add]
      omega
    · rw [cell_of_row _ _ _ _ _ _ hg, ← snC_get m.ss j c hj hc, ← h4, List.getElem?_take]
      rw [if_pos (by omega)]
      simp
theorem rnew_bad (n : Int) (w : World) (h : n < 1 ∨ 1099511627776 < n) : Calls Try.prog 20 #[.int .i64 n] w fun e w' => e = .returned (.pointer none) ∧ w' = w := by
  by_cases h1 : n < 1
  · clear h
    go_enter Try.func20, Try.ntmps20
    go_wp2
    go_ret
    exact ⟨rfl, rfl⟩
  · have h2 : 1099511627776 < n := by omega
    clear h
    go_enter Try.func20, Try.ntmps20
    go_wp2
    go_ret
    exact ⟨rfl, rfl⟩
def newR (s : Nat) : Rf := ⟨s, 0, 0, .slice none 0 0, .slice none 0 0, [], []⟩
theorem rnew_ok (n : Nat) (w : World) (h1 : 1 ≤ n) (h2 : n ≤ 1099511627776) : Calls Try.prog 20 #[.int .i64 n] w fun e w' => ∃ b, e = .returned (.pointer (some ⟨b, 0, none⟩)) ∧ IsR w' (fun k => w.heap.size ≤ k) b (newR n) ∧ w.grownBy w' none := by
  have h1' : ¬ (n : Int) < 1 := by omega
  have h2' : ¬ 1099511627776 < (n : Int) := by omega
  go_enter Try.func20, Try.ntmps20
  go_wp2
  go_ret
  refine ⟨w.heap.size, rfl, ?_, World.grownBy_alloc _ _ none⟩
  exact { blk := heap_alloc_new _ _, zb := Nat.le_refl _, row := World.ownsRow_nil _ _ _ _, zr := (fun k e => by cases e), el := (fun p hp => by cases hp), ses := World.ownsRow_nil _ _ _ _, zs := (fun k e => by cases e) }
theorem rnext_any {w : World} {Z : Nat → Prop} {b : Nat} {m : Rf} (h : IsR w Z b m) (hl : m.rs.length ≤ 3000000000000) (hs : m.st ≤ 1099511627776) : Calls Try.prog 43 #[.pointer (some ⟨b, 0, none⟩)] w fun e w' => e = .returned (.int .i64 (m.st + m.rs.length : Nat)) ∧ ∃ nq, w' = w.drewN nq := by
  obtain ⟨c0, c1, c2, c3, c4, cf⟩ := h.cells
  obtain ⟨ra, rc, hrv⟩ := row_shape h.row
  rw [hrv] at c3
  clear h
  go_enter Try.func43, Try.ntmps43
  go_wp2
  go_quiet (fail)
  go_wp2
  go_ret
  exact ⟨ret_int (by omega), _, rfl⟩
/-- A session's place. -/
def findI (l : List Sn) (n : Nat) : Option Nat := l.findIdx? fun s => decide (s.n = n)
theorem rfind_any {w : World} {Z : Nat → Prop} {b : Nat} {m : Rf} (h : IsR w Z b m) (n : Nat) (hl : m.ss.length ≤ 1000000) : Calls Try.prog 64 #[.pointer (some ⟨b, 0, none⟩), .int .i64 n] w fun e w' => e = .returned (.int .i64 (match findI m.ss n with | some j => (j : Int) | none => -1)) ∧ w' = w := by
  have H := hid_mk h
  have c4 := h.cells.2.2.2.2.1
  obtain ⟨sa, sc, hsv⟩ := row_shape h.ses
  rw [hsv] at c4
  have HSV := hid_mk hsv
  clear h hsv
  obtain ⟨R, hR⟩ : ∃ R : Int, R = (match findI m.ss n with | some j => (j : Int) | none => -1) := ⟨_, rfl⟩
  rw [← hR]
  have HR := hid_mk hR
  clear hR
  go_enter Try.func64, Try.ntmps64
  go_wp2_with fail
  go_loopg [5] m.ss.length (fun g iv W => ∃ j : Nat, j ≤ m.ss.length ∧ g = m.ss.length - j ∧ iv = .int .i64 j ∧ W = w ∧ Hid (∀ (k : Nat) s, k < j → m.ss[k]? = some s → s.n ≠ n))
  case atStart => exact ⟨0, Nat.zero_le _, rfl, rfl, rfl, hid_mk (fun k s hk => by omega)⟩
  case round =>
    obtain ⟨j, hj, hgj, rfl, rfl, HN⟩ := hrel
    by_cases hlt : j < m.ss.length
    · have hlt' : (j : Int) < (m.ss.length : Int) := by omega
      obtain ⟨g, cap, cur, _, _, _, _, _, _, hix, hc⟩ := H.out.at j hlt
      rw [HSV.out] at hix
      have d0 := hc 0 (by omega)
      rw [Nat.add_zero] at d0
      simp only [Sn.cs, List.getElem?_cons_zero] at d0
      have HJ := hid_mk (show m.ss[j]? = some m.ss[j] by simp [hlt])
      generalize m.ss[j] = s at *
      generalize j * 4 = off at *
      clear hc
      by_cases he : s.n = n
      · have he' : ((s.n : Int) == (n : Int)) = true := by simp; omega
        have HF := hid_mk (show R = (j : Int) by
          rw [HR.out]
          have : findI m.ss n = some j := by
            unfold findI
            rw [List.findIdx?_eq_some_iff_getElem]
            refine ⟨hlt, ?_, fun k hk => ?_⟩
            · have e : m.ss[j] = s := by have := HJ.out; rw [List.getElem?_eq_getElem hlt] at this; simpa using this
              rw [e]; simp [he]
            · have := HN.out k m.ss[k] hk (by rw [List.getElem?_eq_getElem])
              simp [this]
          rw [this])
        clear he
        go_wp2_with fail
        go_ret
        exact ⟨ret_int HF.out.symm, rfl⟩
      · have he' : ((s.n : Int) == (n : Int)) = false := by simp; omega
        go_wp2_with fail
        go_roundg (m.ss.length - (j + 1))
        case measure => omega
        case rel => exact ⟨j + 1, by omega, rfl, by go_num, rfl, hid_mk (fun k t hk ht => by
          by_cases hkj : k < j
          · exact HN.out k t hkj ht
          · obtain rfl : k = j := by omega
            rw [HJ.out] at ht
            cases ht
            exact he)⟩
    · have hnlt : ¬ (j : Int) < (m.ss.length : Int) := by omega
      have HF := hid_mk (show R = -1 by
        rw [HR.out]
        have : findI m.ss n = none := by
          unfold findI
          rw [List.findIdx?_eq_none_iff]
          intro x hx
          obtain ⟨k, hk, rfl⟩ := List.getElem_of_mem hx
          have := HN.out k m.ss[k] (by omega) (by simp [hk])
          simp [this]
        rw [this])
      go_wp2_with fail
      go_ret
      exact ⟨ret_int HF.out.symm, rfl⟩
end Go.Proofs.Ytpncbehabfkhkaa.W
