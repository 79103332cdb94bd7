/- machine: made, New, Applied, Start, Next; expire. -/
import Derived.Test.YtpncbehabfkhkaaNaB
import Derived.Deep.LoopGhost
namespace Go.Proofs.Ytpncbehabfkhkaa.W
open Go.RowKit Go.Maps Go.WideMaps Go.WideElems
set_option linter.unusedVariables false
set_option linter.unusedSimpArgs false
set_option maxRecDepth 100000

theorem made_nil (w : World) : Calls Try.prog 55 #[.pointer none] w fun e w' => e = .returned (.bool false) ∧ w' = w := by
  go_enter Try.func55, Try.ntmps55
  go_wp2
  go_ret
  exact ⟨rfl, rfl⟩
theorem made_at (b : Nat) (s : Nat) (w : World) (h : w.cell? ⟨b, 0, none⟩ = some (.int .i64 s)) : Calls Try.prog 55 #[.pointer (some ⟨b, 0, none⟩)] w fun e w' => e = .returned (.bool (decide (0 < s))) ∧ w' = w := by
  by_cases hs : 0 < s
  · have hs' : (0 : Int) < (s : Int) := by omega
    simp only [hs, decide_true]
    go_enter Try.func55, Try.ntmps55
    go_wp2
    go_ret
    exact ⟨rfl, rfl⟩
  · have hs' : ¬ (0 : Int) < (s : Int) := by omega
    simp only [hs, decide_false]
    go_enter Try.func55, Try.ntmps55
    go_wp2
    go_ret
    exact ⟨rfl, rfl⟩
theorem made_ok {w : World} {Z : Nat → Prop} {b : Nat} {m : Mach} (h : IsM w Z b m) : Calls Try.prog 55 #[.pointer (some ⟨b, 0, none⟩)] w fun e w' => e = .returned (.bool true) ∧ w' = w := by
  have := made_at b m.sp w h.cells.1
  rwa [show decide (0 < m.sp) = true from decide_eq_true h.span.1] at this

theorem new_bad (n : Int) (w : World) (h : n < 1 ∨ 1099511627776 < n) : Calls Try.prog 19 #[.int .i64 n] w fun e w' => e = .returned (.tuple #[.pointer none, .int .i64 1]) ∧ w' = w := by
  by_cases h1 : n < 1
  · clear h
    go_enter Try.func19, Try.ntmps19
    go_wp2
    go_ret2
    exact ⟨rfl, rfl⟩
  · have h2 : 1099511627776 < n := by omega
    clear h
    go_enter Try.func19, Try.ntmps19
    go_wp2
    go_ret2
    exact ⟨rfl, rfl⟩
/-- An empty machine. -/
def newM (s bm : Nat) : Mach := ⟨s, 0, 0, 0, bm, .slice none 0 0, [], []⟩
theorem new_ok (n : Nat) (w : World) (h1 : 1 ≤ n) (h2 : n ≤ 1099511627776) : Calls Try.prog 19 #[.int .i64 n] w fun e w' => ∃ b bm, e = .returned (.tuple #[.pointer (some ⟨b, 0, none⟩), .int .i64 0]) ∧ IsM w' (fun k => w.heap.size ≤ k) b (newM n bm) ∧ w.grownBy w' none := by
  have hmm := @run_makeMap Try.prog
  have h1' : ¬ (n : Int) < 1 := by omega
  have h2' : ¬ 1099511627776 < (n : Int) := by omega
  go_enter Try.func19, Try.ntmps19
  go_wp2_with fail
  go_ret2
  have d1 : ((w.alloc (.map #[] 0)).alloc (.cells #[.int .i64 n, .int .i64 0, .int .i64 0, .slice none 0 0, .map (some w.heap.size)] 63)).ownsMap Try.prog 3 ptrR w.heap.size 0 (.map []) := (World.ownsMap_made w Try.prog 3 ptrR).alloc _
  have d3 : Blk ((w.alloc (.map #[] 0)).alloc (.cells #[.int .i64 n, .int .i64 0, .int .i64 0, .slice none 0 0, .map (some w.heap.size)] 63)) (w.heap.size + 1) #[.int .i64 n, .int .i64 0, .int .i64 0, .slice none 0 0, .map (some w.heap.size)] 63 := by
    have := heap_alloc_new (w.alloc (.map #[] 0)) (.cells #[.int .i64 n, .int .i64 0, .int .i64 0, .slice none 0 0, .map (some w.heap.size)] 63)
    simpa [Blk] using this
  refine ⟨w.heap.size + 1, rfl, ⟨w.heap.size, ?_⟩, grown_trans (World.grownBy_alloc _ _ none) (World.grownBy_alloc _ _ none)⟩
  exact { blk := d3, zb := (by show w.heap.size ≤ _; omega), dir := d1, zm := Nat.le_refl _, ses := (fun s hs => by cases hs), inj := List.Pairwise.nil, asc := List.Pairwise.nil, lim := (fun s hs => by cases hs), row := RowO.nil _ _, zr := (fun k e => by cases e), el := (fun p hp => by cases hp), span := ⟨h1, h2⟩, top := ⟨by show 0 ≤ _; omega, by show 0 ≤ _; omega⟩ }

theorem next_any {w : World} {Z : Nat → Prop} {b : Nat} {m : Mach} (h : IsM w Z b m) (hl : m.rs.length ≤ 4611686018427387904) : Calls Try.prog 30 #[.pointer (some ⟨b, 0, none⟩)] w fun e w' => e = .returned (.int .i64 (m.st + m.rs.length : Nat)) ∧ ∃ nq, w' = w.drewN nq := by
  have HM := hid_mk (made_ok h)
  obtain ⟨c0, c1, c2, c3, c4, cf⟩ := h.cells
  obtain ⟨ra, rc, hrv⟩ := RowO.shape h.row
  rw [hrv] at c3
  have ht := h.top.2
  clear h
  go_enter Try.func30, Try.ntmps30
  go_wp2_with (go_at_call 55; refine HM.out.mono ?_; rintro e w' ⟨rfl, hw⟩; rw [hw]; clear hw)
  go_quiet (fail)
  go_wp2
  go_ret
  exact ⟨ret_int (by omega), _, rfl⟩
theorem applied_any {w : World} {Z : Nat → Prop} {b : Nat} {m : Mach} (h : IsM w Z b m) : Calls Try.prog 28 #[.pointer (some ⟨b, 0, none⟩)] w fun e w' => e = .returned (.int .i64 m.ap) ∧ w' = w := by
  have HM := hid_mk (made_ok h)
  obtain ⟨c0, c1, c2, c3, c4, cf⟩ := h.cells
  clear h
  go_enter Try.func28, Try.ntmps28
  go_wp2_with (go_at_call 55; refine HM.out.mono ?_; rintro e w' ⟨rfl, hw⟩; rw [hw]; clear hw)
  go_ret
  exact ⟨rfl, rfl⟩
theorem start_any {w : World} {Z : Nat → Prop} {b : Nat} {m : Mach} (h : IsM w Z b m) : Calls Try.prog 29 #[.pointer (some ⟨b, 0, none⟩)] w fun e w' => e = .returned (.int .i64 m.st) ∧ w' = w := by
  have HM := hid_mk (made_ok h)
  obtain ⟨c0, c1, c2, c3, c4, cf⟩ := h.cells
  clear h
  go_enter Try.func29, Try.ntmps29
  go_wp2_with (go_at_call 55; refine HM.out.mono ?_; rintro e w' ⟨rfl, hw⟩; rw [hw]; clear hw)
  go_ret
  exact ⟨rfl, rfl⟩

/-! ### expire -/
/-- Is a session used still? -/
def stays (m : Mach) (s : Ses) : Bool := decide (m.ap < s.u + m.sp)
def expM (m : Mach) : Mach := { m with ss := m.ss.filter (stays m) }
theorem inv3 (k : Value) (kl : Lit) (h : keyOf Try.prog 3 k = some kl) : ∃ x : Int, k = .int .i64 x := by
  obtain ⟨x, rfl, _⟩ := Maps.keyOf_int_inv Try.underlying3 h
  exact ⟨x, rfl⟩
theorem invP (v : Value) (y : DataW Unit × List MemPlace) (h : ptrR v = some y) : ∃ c, v = ptrOf c := by
  rcases ptrR_inv (d := y.1) (ps := y.2) h with ⟨rfl, _⟩ | ⟨b, rfl, _⟩
  · exact ⟨none, rfl⟩
  · exact ⟨some b, rfl⟩
theorem find_of_atKey {es : List (Lit × DataW Unit)} {kl : Lit} {y : DataW Unit} (h : ∀ zd, (DataW.map es).atKey kl zd = y) : ∃ p, es.find? (fun p => p.1.sameKey kl) = some p ∧ p.2 = y := by
  unfold DataW.atKey at h
  cases hf : es.find? (fun p => p.1.sameKey kl) with
  | some p => simp only [hf] at h; exact ⟨p, rfl, h (.lit (.bool true))⟩
  | none =>
    simp only [hf] at h
    have h1 := h (.lit (.bool true))
    have h2 := h (.lit (.bool false))
    rw [← h1] at h2
    simp at h2
/-- The step of a range over sessions. -/
theorem next_ses (w : World) {ops : Array Oper} {rest : List Oper} {o : Oper} {a : Act} {Q : Exit → Act → World → Prop} (hg : o.guard = none) (it : Operand) (hop : o.op = Op.next it false) (b r n : Nat) (l : List Ses) (left : Lit → Bool) (cnt : Nat)
    (hit : a.eval it = .pointer (some ⟨r, 0, none⟩)) (h : w.ranges Try.prog 3 ptrR b r n (dirM l) left cnt)
    (hDone : cnt = 0 → (∀ kl, left kl = false) → wpList Try.prog ops Q rest (a.put o.dst (.tuple #[.bool false])) w)
    (hMore : ∀ (s : Ses) (w' : World) (cnt' : Nat), s ∈ l → left (keyN s.n) = true → w'.ranges Try.prog 3 ptrR b r n (dirM l) (fun z => left z && !z.sameKey (keyN s.n)) cnt' → cnt' < cnt →
      w.grownBy w' (some r) → w'.heap.size = w.heap.size → (Instr.entry (.pointer (some ⟨r, 0, none⟩))).run Try.prog w' = .ok (.tuple #[.int .i64 (s.n : Nat), .pointer (some ⟨s.f, 0, none⟩)]) w' → wpList Try.prog ops Q rest (a.put o.dst (.tuple #[.bool true, .int .i64 (s.n : Nat), .pointer (some ⟨s.f, 0, none⟩)])) w') :
    wpList Try.prog ops Q (o :: rest) a w :=
  wpList_next_ranges w hg it hop 3 law3 ptrR (Value.int .i64) ptrOf (fun key kl hkey => by obtain ⟨x, rfl⟩ := inv3 key kl hkey; exact ⟨x, rfl⟩) invP b r n (dirM l) left cnt hit h hDone (fun x c kl y w' cnt' hkey hlk hv hat hrg hlt hgr hsz hen => by
    obtain ⟨x', ex, hkl, _⟩ := Maps.keyOf_int_inv Try.underlying3 hkey
    cases ex
    obtain ⟨p, hp, hy⟩ := find_of_atKey (es := l.map entM) hat
    have hpm := List.mem_of_find?_eq_some hp
    have hps := List.find?_some hp
    obtain ⟨s, hs, rfl⟩ := List.mem_map.1 hpm
    subst hkl
    have hx : x = (s.n : Int) := by
      have h2 : decide (IntKind.i64 = IntKind.i64 ∧ (s.n : Int) = x) = true := hps
      exact (of_decide_eq_true h2).2.symm
    subst hx
    cases c with
    | none =>
      simp [ptrOf, ptrR] at hv
      rw [← hv] at hy
      simp [entM] at hy
    | some g =>
      have hgf : (g : Int) = s.f := by
        simp [ptrOf, ptrR] at hv
        rw [← hv] at hy
        simpa [entM] using hy.symm
      have hgf' : g = s.f := by omega
      subst hgf'
      exact hMore s w' cnt' hs hlk hrg hlt hgr hsz hen)

theorem filt_start (m : Mach) : m.ss.filter (fun s => stays m s || Maps.has (dirM m.ss) (keyN s.n)) = m.ss := by
  rw [List.filter_eq_self]
  intro s hs
  have : Maps.has (dirM m.ss) (keyN s.n) = true := by
    show Maps.has (.map (m.ss.map entM)) _ = true
    unfold Maps.has
    simp only [List.any_eq_true]
    exact ⟨entM s, List.mem_map.2 ⟨s, hs, rfl⟩, by show (keyN s.n).sameKey (keyN s.n) = true; rw [key_same]; simp⟩
  simp [this]
theorem filt_keep (m : Mach) (left : Lit → Bool) (t : Ses) (ht : t ∈ m.ss) (ha : m.ss.Pairwise fun s t => s.n < t.n) (hk : stays m t = true) : m.ss.filter (fun s => stays m s || (left (keyN s.n) && !(keyN s.n).sameKey (keyN t.n))) = m.ss.filter (fun s => stays m s || left (keyN s.n)) := by
  refine List.filter_congr fun s hs => ?_
  rw [key_same]
  by_cases he : s.n = t.n
  · have h1 := sesAt_mem ha hs
    have h2 := sesAt_mem ha ht
    rw [he, h2] at h1
    cases h1
    simp [hk]
  · simp [he]
theorem filt_drop (m : Mach) (left : Lit → Bool) (t : Ses) (ht : t ∈ m.ss) (ha : m.ss.Pairwise fun s t => s.n < t.n) (hk : stays m t = false) : (m.ss.filter (fun s => stays m s || left (keyN s.n))).filter (fun s => !decide (s.n = t.n)) = m.ss.filter (fun s => stays m s || (left (keyN s.n) && !(keyN s.n).sameKey (keyN t.n))) := by
  rw [List.filter_filter]
  refine List.filter_congr fun s hs => ?_
  rw [key_same]
  by_cases he : s.n = t.n
  · have h1 := sesAt_mem ha hs
    have h2 := sesAt_mem ha ht
    rw [he, h2] at h1
    cases h1
    simp [hk]
  · simp [he]
theorem filt_end (m : Mach) (left : Lit → Bool) (h : ∀ kl, left kl = false) : m.ss.filter (fun s => stays m s || left (keyN s.n)) = m.ss.filter (stays m) := List.filter_congr fun s _ => by simp [h]
theorem strike2 (left : Lit → Bool) (k : Lit) : (fun z => (left z && !z.sameKey k) && !z.sameKey k) = fun z => left z && !z.sameKey k := by
  funext z; cases left z <;> cases z.sameKey k <;> rfl

theorem grown_two {w a c : World} {r k : Nat} (h : w.grownBy a (some k)) (g : a.grownBy c (some r)) (hr : w.heap.size ≤ r) : w.grownBy c (some k) :=
  ⟨g.os.trans h.os, g.tape.trans h.tape, g.output.trans h.output, Nat.le_trans h.size g.size, fun i hi hn => (g.block i (Nat.lt_of_lt_of_le hi h.size) (by simp; omega)).trans (h.block i hi hn)⟩
theorem map_ne {w : World} {b bm n : Nat} {cs : Array Value} {t : TypeId} {f : Nat × Nat} {D : DataW Unit} (h : w.heap[b]? = some (.cells cs t f)) (hm : w.ownsMap Try.prog 3 ptrR bm n D) : b ≠ bm := by
  rintro rfl
  obtain ⟨es, clock, hb, _⟩ := hm
  rw [h] at hb
  cases hb
/-- Behind a step that turned the sessions' map. -/
theorem IsM.mapped {w w' : World} {Z : Nat → Prop} {b : Nat} {m : Mach} (h : IsM w Z b m) (hg : w.grownBy w' (some m.bm)) (N : Nat) (l : List Ses) (hd : w'.ownsMap Try.prog 3 ptrR m.bm N (dirM l)) (hl : ∀ s ∈ l, (Blk w' s.f #[.int .i64 s.q, .int .i64 s.r, .int .i64 s.u] 102 ∧ Z s.f) ∧ s.n ≤ m.ap ∧ s.q ≤ 1099511627775 ∧ s.u ≤ m.ap) (hi : l.Pairwise fun s t => s.f ≠ t.f) (ha : l.Pairwise fun s t => s.n < t.n) : IsM w' Z b { m with N := N, ss := l } :=
  { h with
    blk := h.blk.kept hg (by simpa using map_ne h.blk h.dir)
    dir := hd
    ses := fun s hs => (hl s hs).1
    inj := hi
    asc := ha
    lim := fun s hs => (hl s hs).2
    row := RowO.kept h.row hg (fun g c hb => by simpa using map_ne hb h.dir)
    el := fun p hp => ⟨byt_kept5 (h.el p hp).1 (fun k e => by
        obtain ⟨_, c, hc⟩ := (h.el p hp).2.2 k e
        simpa using map_ne hc h.dir) hg, (h.el p hp).2.1, fun k e => by
      obtain ⟨hz, c, hc⟩ := (h.el p hp).2.2 k e
      exact ⟨hz, c, (hg.block k (Array.getElem?_eq_some_iff.1 hc).1 (by simpa using map_ne hc h.dir)).trans hc⟩⟩ }

theorem ranges_drew {w : World} {b r n cnt : Nat} {D : DataW Unit} {left : Lit → Bool} (h : w.ranges Try.prog 3 ptrR b r n D left cnt) (nq : Nat) : (w.drewN nq).ranges Try.prog 3 ptrR b r n D left cnt := h
set_option maxHeartbeats 1000000 in
theorem expire_any {w : World} {Z : Nat → Prop} {b : Nat} {m : Mach} (h : IsM w Z b m) : Calls Try.prog 56 #[.pointer (some ⟨b, 0, none⟩)] w fun e w' => e = .returned (.tuple #[]) ∧ IsM w' Z b (expM m) ∧ Keeps Z w w' := by
  have HM := hid_mk h
  obtain ⟨c0, c1, c2, c3, c4, cf⟩ := h.cells
  have hd := h.dir
  have hbm : b ≠ m.bm := map_ne h.blk h.dir
  have hlt := h.blk.lt
  have hsp := h.span
  have htp := h.top
  clear h c2 c3 cf
  go_enter Try.func56, Try.ntmps56
  go_wp2_with (first | (at_range; refine wpList_range_own _ rfl _ 61 rfl 3 100 law3 Try.underlying61 _ m.bm m.N (dirM m.ss) rfl hd ?_; intro w0 hrg0 hg0 hs0) | go_in)
  go_frame
  go_loopg [2] (Maps.size (dirM m.ss)) (fun g kv wr => ∃ left, Hid (wr.ranges Try.prog 3 ptrR m.bm w.heap.size m.N (dirM (m.ss.filter fun s => stays m s || left (keyN s.n))) left g ∧ w.grownBy wr (some m.bm)))
  case atStart => exact ⟨_, hid_mk ⟨by rw [filt_start]; exact hrg0, grown_any hg0 _⟩⟩
  case round =>
    obtain ⟨left, HR⟩ := hrel
    rename World => wr
    have hrr := HR.out.1
    go_wp2_with (first
      | (at_next; refine next_ses _ rfl _ rfl m.bm w.heap.size m.N _ left _ rfl hrr ?_ ?_)
      | go_in)
    · intro _ hl0
      have HL0 := hid_mk hl0
      clear hl0 hrr
      go_wp2
      go_end0
      have hd' : wr.ownsMap Try.prog 3 ptrR m.bm m.N (dirM (m.ss.filter (stays m))) := by
        have := HR.out.1.owns
        rwa [filt_end m left HL0.out] at this
      refine ⟨rfl, ?_, Keeps.one HR.out.2 HM.out.zm⟩
      exact HM.out.mapped HR.out.2 m.N _ hd' (fun s hs => by
        have hs := (List.mem_filter.1 hs).1
        exact ⟨⟨(HM.out.ses s hs).1.kept HR.out.2 (by simpa using map_ne (HM.out.ses s hs).1 HM.out.dir), (HM.out.ses s hs).2⟩, HM.out.lim s hs⟩) (HM.out.inj.filter _) (HM.out.asc.filter _)
    · intro s w1 cnt1 hsm hsx hl hrg1 hcnt hg1 hs1 hen
      have hsb := (HM.out.ses s hsm).1
      have hsl := HM.out.lim s hsm
      have g1 : w.grownBy w1 (some m.bm) := grown_two HR.out.2 hg1 (Nat.le_refl _)
      have d2 : w1.cell? ⟨s.f, 2, none⟩ = some (.int .i64 s.u) := by
        rw [(hsb.kept g1 (by simpa using map_ne hsb HM.out.dir)).cell]; rfl
      have d0 := g1.cell c0 (by simpa using hbm)
      have d1 := g1.cell c1 (by simpa using hbm)
      have d4 := g1.cell c4 (by simpa using hbm)
      have HG := hid_mk (And.intro g1 hrg1)
      have HS := hid_mk (And.intro hsm hcnt)
      clear hsx hl hrg1 hg1 hs1 hsb hsm g1 hrr c0 c1 c4
      by_cases hst : stays m s = true
      · have hno : ¬ ((s.u : Int) ≤ (m.ap : Int) - (m.sp : Int)) := by unfold stays at hst; have := of_decide_eq_true hst; omega
        have hno' : ¬ ((s.u : Int) ≤ IntKind.i64.wrap ((m.ap : Int) - (m.sp : Int))) := by rw [IntKind.wrap_i64]; omega
        have HK := hid_mk hst
        clear hst
        go_wp2_with fail
        go_quiet (fail)
        go_wp2_with fail
        go_roundg cnt1
        case measure => exact HS.out.2
        case rel => exact ⟨fun z => left z && !z.sameKey (keyN s.n), hid_mk ⟨by rw [filt_keep m left s HS.out.1 HM.out.asc HK.out]; exact HG.out.2, grown_trans HG.out.1 (grown_drewN _ _ _)⟩⟩
      · have hyes : ((s.u : Int) ≤ (m.ap : Int) - (m.sp : Int)) := by unfold stays at hst; have h2 : ¬ (m.ap < s.u + m.sp) := fun h => hst (decide_eq_true h); omega
        have hyes' : ((s.u : Int) ≤ IntKind.i64.wrap ((m.ap : Int) - (m.sp : Int))) := by rw [IntKind.wrap_i64]; omega
        have HK := hid_mk (show stays m s = false by simpa using hst)
        clear hst
        have hk3 := hkey3 s.n (by omega)
        go_wp2_with fail
        go_quiet (fail)
        go_wp2_with (first | (at_delete; (refine wpList_delete_ranges _ rfl _ _ 61 3 rfl 100 law3 Try.underlying61 ptrR m.bm w.heap.size m.N (dirM (m.ss.filter fun s => stays m s || left (keyN s.n))) (fun z => left z && !z.sameKey (keyN s.n)) cnt1 rfl (ranges_drew HG.out.2 _) (.int .i64 s.n) (keyN s.n) rfl hk3 ?_; intro w2 cnt2 hrg2 hle hturn)) | go_in)
        go_frame
        have hrg3 : w2.ranges Try.prog 3 ptrR m.bm w.heap.size m.N (dirM ((m.ss.filter fun s => stays m s || left (keyN s.n)).filter fun x => !decide (x.n = s.n))) (fun z => left z && !z.sameKey (keyN s.n)) cnt2 := by
          rw [← del_dir, ← strike2 left (keyN s.n)]; exact hrg2
        have HD := hid_mk (And.intro hrg3 (And.intro hle hturn.grown))
        clear hrg2 hle hturn hrg3
        go_roundg cnt2
        case measure => have := HS.out.2; have := HD.out.2.1; omega
        case rel => exact ⟨fun z => left z && !z.sameKey (keyN s.n), hid_mk ⟨by rw [← filt_drop m left s HS.out.1 HM.out.asc HK.out]; exact HD.out.1, grown_trans (grown_trans HG.out.1 (grown_drewN _ _ _)) HD.out.2.2⟩⟩

end Go.Proofs.Ytpncbehabfkhkaa.W
