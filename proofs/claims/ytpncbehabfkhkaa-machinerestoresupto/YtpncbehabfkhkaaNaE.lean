/- machine: sessions that turn; put. -/
import Derived.Test.YtpncbehabfkhkaaNaD
namespace Go.Proofs.Ytpncbehabfkhkaa.W
open Go.RowKit Go.Maps Go.WideMaps Go.WideElems
set_option linter.unusedVariables false
set_option linter.unusedSimpArgs false
set_option maxRecDepth 100000

def updS (l : List Ses) (s : Ses) : List Ses := l.map fun x => if x.n = s.n then s else x
theorem same_n {l : List Ses} (ha : l.Pairwise fun s t => s.n < t.n) {x s : Ses} (hx : x ∈ l) (hs : s ∈ l) (h : x.n = s.n) : x = s := by
  have h1 := sesAt_mem ha hx
  have h2 := sesAt_mem ha hs
  rw [h, h2] at h1
  cases h1; rfl
theorem upd_f {l : List Ses} (ha : l.Pairwise fun s t => s.n < t.n) {s s' : Ses} (hs : s ∈ l) (hn : s'.n = s.n) (hf : s'.f = s.f) {x : Ses} (hx : x ∈ l) : (if x.n = s'.n then s' else x).f = x.f ∧ (if x.n = s'.n then s' else x).n = x.n := by
  by_cases h : x.n = s'.n
  · rw [if_pos h, same_n ha hx hs (h.trans hn)]; exact ⟨hf, hn⟩
  · rw [if_neg h]; exact ⟨rfl, rfl⟩
theorem upd_dir {l : List Ses} (ha : l.Pairwise fun s t => s.n < t.n) {s s' : Ses} (hs : s ∈ l) (hn : s'.n = s.n) (hf : s'.f = s.f) : dirM (updS l s') = dirM l := by
  unfold dirM updS
  rw [List.map_map]
  congr 1
  refine List.map_congr_left fun x hx => ?_
  obtain ⟨h1, h2⟩ := upd_f ha hs hn hf hx
  show entM _ = entM x
  unfold entM
  rw [h1, h2]
theorem inj_f : ∀ {l : List Ses}, (l.Pairwise fun s t => s.f ≠ t.f) → ∀ {x y : Ses}, x ∈ l → y ∈ l → x.f = y.f → x = y
  | [], _, _, _, hx, _, _ => by cases hx
  | a :: r, h, x, y, hx, hy, e => by
    rw [List.pairwise_cons] at h
    rcases List.mem_cons.1 hx with hx' | hx'
    · rcases List.mem_cons.1 hy with hy' | hy'
      · rw [hx', hy']
      · rw [hx'] at e; exact absurd e (h.1 y hy')
    · rcases List.mem_cons.1 hy with hy' | hy'
      · rw [hy'] at e; exact absurd e.symm (h.1 x hx')
      · exact inj_f h.2 hx' hy' e
/-- Behind a step that turned a session's block. -/
theorem IsM.sesd {w w' : World} {Z : Nat → Prop} {b : Nat} {m : Mach} (h : IsM w Z b m) {s s' : Ses} (hs : s ∈ m.ss) (hn : s'.n = s.n) (hf : s'.f = s.f) (hq : s'.q ≤ 1099511627775) (hu : s'.u ≤ m.ap) (hb : Blk w' s.f #[.int .i64 s'.q, .int .i64 s'.r, .int .i64 s'.u] 102) (hg : w.grownBy w' (some s.f)) : IsM w' Z b { m with ss := updS m.ss s' } := by
  have hsb := (h.ses s hs).1
  have el : ∀ p ∈ m.rs, Byt w' p.1 p.2 ∧ p.2.length ≤ 1024 ∧ ∀ k, p.1.ownBlock = some k → Z k ∧ ∃ c, w'.heap[k]? = some (.cells c 5 (0, 0)) := fun p hp => by
    refine ⟨byt_kept5 (h.el p hp).1 (fun k e => ?_) hg, (h.el p hp).2.1, fun k e => ?_⟩
    · obtain ⟨_, c, hc⟩ := (h.el p hp).2.2 k e
      exact ne_tag hc hsb (by decide)
    · obtain ⟨hz, c, hc⟩ := (h.el p hp).2.2 k e
      exact ⟨hz, c, (hg.block k (Array.getElem?_eq_some_iff.1 hc).1 (ne_tag hc hsb (by decide))).trans hc⟩
  have ses : ∀ x ∈ updS m.ss s', Blk w' x.f #[.int .i64 x.q, .int .i64 x.r, .int .i64 x.u] 102 ∧ Z x.f := fun x hx => by
    obtain ⟨y, hy, rfl⟩ := List.mem_map.1 hx
    by_cases e : y.n = s'.n
    · rw [if_pos e, hf]
      exact ⟨hb, (h.ses s hs).2⟩
    · rw [if_neg e]
      refine ⟨(h.ses y hy).1.kept hg (fun ee => ?_), (h.ses y hy).2⟩
      have ef : y.f = s.f := by simpa using ee
      have : y = s := inj_f h.inj hy hs ef
      rw [this] at e
      exact e hn.symm
  exact { h with
    blk := h.blk.kept hg (ne_tag h.blk hsb (by decide))
    dir := by
      show w'.ownsMap Try.prog 3 ptrR m.bm m.N (dirM (updS m.ss s'))
      rw [upd_dir h.asc hs hn hf]
      exact h.dir.kept hg (by have := map_ne hsb h.dir; simp; omega)
    ses := ses
    inj := List.pairwise_map.2 (h.inj.imp_of_mem fun hx hy hne => by rw [(upd_f h.asc hs hn hf hx).1, (upd_f h.asc hs hn hf hy).1]; exact hne)
    asc := List.pairwise_map.2 (h.asc.imp_of_mem fun hx hy hne => by rw [(upd_f h.asc hs hn hf hx).2, (upd_f h.asc hs hn hf hy).2]; exact hne)
    lim := fun x hx => by
      obtain ⟨y, hy, rfl⟩ := List.mem_map.1 hx
      by_cases e : y.n = s'.n
      · rw [if_pos e, hn]; exact ⟨(h.lim s hs).1, hq, hu⟩
      · rw [if_neg e]; exact h.lim y hy
    row := RowO.kept h.row hg (fun g c hh => ne_tag hh hsb (by decide))
    el := el }

/-! ### put -/
/-- What a put answers: a number, an error. -/
def putR (m : Mach) (cm : Cmd) : Nat × Nat :=
  match sesAt m.ss cm.s with
  | none => (0, 40)
  | some s => if cm.q < s.q then (0, 41) else if cm.q = s.q then (s.r, 0) else (m.st + m.rs.length, 0)
/-- The sessions behind it. -/
def putS (m : Mach) (cm : Cmd) : List Ses :=
  match sesAt m.ss cm.s with
  | none => m.ss
  | some s => if cm.q ≤ s.q then updS m.ss { s with u := m.ap } else updS m.ss { s with q := cm.q, r := m.st + m.rs.length, u := m.ap }
/-- Is a record added? -/
def adds (m : Mach) (cm : Cmd) : Bool :=
  match sesAt m.ss cm.s with
  | none => false
  | some s => decide (s.q < cm.q)
def putL (m : Mach) (cm : Cmd) : List (List UInt8) := if adds m cm then m.rs.map Prod.snd ++ [cm.d] else m.rs.map Prod.snd
def cmdV (cm : Cmd) (dv : Value) : Value := .agg #[.int .i64 cm.k, .int .i64 cm.s, .int .i64 cm.q, .int .i64 cm.t, dv]
def PutPost (w : World) (Z : Nat → Prop) (b : Nat) (m : Mach) (cm : Cmd) (e : Ending) (w' : World) : Prop :=
  ∃ rv' rs', e = .returned (.tuple #[.int .i64 ((putR m cm).1 : Nat), .int .i64 ((putR m cm).2 : Nat)]) ∧ IsM w' (Up Z w) b { m with ss := putS m cm, rv := rv', rs := rs' } ∧ rs'.map Prod.snd = putL m cm ∧ Keeps Z w w'
theorem zero100 (w : World) : (zeroValue 100).run Try.prog w = .ok (.pointer none) w := by kernel_rfl
theorem IsM.look {w : World} {Z : Nat → Prop} {b : Nat} {m : Mach} (h : IsM w Z b m) (n : Nat) (hn : n ≤ 1099511627776) : (Instr.lookup 61 (.map (some m.bm)) (.int .i64 n) false).run Try.prog w = .ok (ptrOf ((sesAt m.ss n).map Ses.f)) w := by
  obtain ⟨v, ps, hrun, hv⟩ := World.ownsMap.lookup h.dir law3 Try.underlying61 (zero100 w) (zd := .lit (.int .i64 (-1))) (zp := []) rfl (hkey3 n hn)
  rw [hrun]
  rw [atKey_dir] at hv
  cases hs : sesAt m.ss n with
  | none =>
    rw [hs] at hv
    rcases ptrR_inv hv with ⟨rfl, _⟩ | ⟨b, _, hd⟩
    · rfl
    · simp at hd
  | some s =>
    rw [hs] at hv
    rcases ptrR_inv hv with ⟨_, hd⟩ | ⟨b, rfl, hd⟩
    · simp at hd
    · have : (s.f : Int) = b := by simpa using hd
      have : s.f = b := by omega
      subst this
      rfl

set_option maxHeartbeats 2000000 in
theorem put_none (w : World) (Z : Nat → Prop) (b : Nat) (m : Mach) (cm : Cmd) (da : Option Addr) (dn dc : Nat) (h : IsM w Z b m) (hs : cm.s ≤ 1099511627775) (hn : sesAt m.ss cm.s = none) : Calls Try.prog 73 #[.pointer (some ⟨b, 0, none⟩), cmdV cm (.slice da dn dc)] w (PutPost w Z b m cm) := by
  have ga := World.grownBy_alloc w (.cells #[.int .i64 cm.k, .int .i64 cm.s, .int .i64 cm.q, .int .i64 cm.t, .slice da dn dc] 104) none
  have HB := hid_mk (show Blk (w.alloc (.cells #[.int .i64 cm.k, .int .i64 cm.s, .int .i64 cm.q, .int .i64 cm.t, .slice da dn dc] 104)) w.heap.size #[.int .i64 cm.k, .int .i64 cm.s, .int .i64 cm.q, .int .i64 cm.t, .slice da dn dc] 104 ∧ w.grownBy (w.alloc (.cells #[.int .i64 cm.k, .int .i64 cm.s, .int .i64 cm.q, .int .i64 cm.t, .slice da dn dc] 104)) none ∧ IsM (w.alloc (.cells #[.int .i64 cm.k, .int .i64 cm.s, .int .i64 cm.q, .int .i64 cm.t, .slice da dn dc] 104)) Z b m from ⟨heap_alloc_new _ _, ga, h.kept ga⟩)
  clear ga h
  have HN := hid_mk hn
  clear hn
  unfold cmdV
  go_enter Try.func73, Try.ntmps73
  go_wp2_with fail
  generalize (w.alloc (.cells #[.int .i64 cm.k, .int .i64 cm.s, .int .i64 cm.q, .int .i64 cm.t, .slice da dn dc] 104)) = w1 at *
  obtain ⟨q, hq⟩ : ∃ q, q = w.heap.size := ⟨_, rfl⟩
  rw [← hq] at HB ⊢
  have HQ := hid_mk hq
  clear hq
  have c1 : w1.cell? ⟨q, 1, none⟩ = some (.int .i64 cm.s) := by rw [HB.out.1.cell]; rfl
  have m4 := HB.out.2.2.cells.2.2.2.2.1
  have hl : ∀ nq, (Instr.lookup 61 (.map (some m.bm)) (.int .i64 cm.s) false).run Try.prog (w1.drewN nq) = .ok (.pointer none) (w1.drewN nq) := fun nq => by
    have := (HB.out.2.2.kept (grown_drewN w1 nq none)).look cm.s (by omega)
    rw [HN.out] at this
    exact this
  go_quiet (fail)
  go_wp2_with fail
  go_ret2
  have e1 : putR m cm = (0, 40) := by unfold putR; rw [HN.out]
  have e2 : putS m cm = m.ss := by unfold putS; rw [HN.out]
  have e3 : putL m cm = m.rs.map Prod.snd := by unfold putL adds; rw [HN.out]; rfl
  refine ⟨m.rv, m.rs, by rw [e1]; rfl, ?_, e3.symm, Keeps.of_none (grown_trans HB.out.2.1 (grown_drewN _ _ none))⟩
  rw [e2]
  exact (HB.out.2.2.kept (grown_drewN _ _ none)).wide (fun k hk => .inl hk)

end Go.Proofs.Ytpncbehabfkhkaa.W
