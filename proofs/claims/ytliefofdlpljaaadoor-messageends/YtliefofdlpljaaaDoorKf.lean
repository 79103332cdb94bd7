/- Reading a message: sure, asBool, readEntries. -/
import Derived.Test.YtliefofdlpljaaaDoorKc
import Derived.Test.YtliefofdlpljaaaDoorKb
import Derived.Test.YtliefofdlpljaaaDoorGp
import Derived.Test.YtliefofdlpljaaaDoorOwnO
namespace Go.Proofs.YtliefofdlpljaaaDoor
open Go.RowKit Go.Maps
set_option linter.unusedVariables false
set_option linter.unusedSimpArgs false

theorem sureI_ok (v : Value) (w : World) : Calls Tryd.prog 58 #[v, .int .i64 0] w fun e w' => e = .returned v ∧ w' = w := by
  go_enter Tryd.func58, Tryd.ntmps58
  go_wp2_with (go_at_call 44; refine (need_ok _).mono ?_; rintro e wx ⟨rfl, hwx⟩; subst wx)
  go_ret
  exact ⟨rfl, rfl⟩
theorem sureI_no (v : Value) (x : Int) (w : World) (hx : ¬ x = 0) : Calls Tryd.prog 58 #[v, .int .i64 x] w fun e w' => e = .panicked upChain ∧ w' = w := by
  have h0 : (x == 0) = false := by simpa using hx
  go_enter Tryd.func58, Tryd.ntmps58
  go_wp2_with fail
  refine (need_no _).mono ?_
  rintro e wx ⟨rfl, rfl⟩
  go_wp2_with fail
  exact ⟨rfl, rfl, rfl⟩
theorem sureE_no (x : Ent) (a : Option Addr) (n c : Nat) (z : Int) (w : World) (hx : ¬ z = 0) : Calls Tryd.prog 72 #[entV x (.slice a n c), .int .i64 z] w fun e w' => e = .panicked upChain ∧ w.grownBy w' none := by
  have h0 : (z == 0) = false := by simpa using hx
  have HG := hid_mk (fun A B => grown_trans (World.grownBy_alloc w A none) (World.grownBy_alloc (w.alloc A) B none))
  unfold entV
  go_enter Tryd.func72, Tryd.ntmps72
  go_wp2_with fail
  refine (need_no _).mono ?_
  rintro e wx ⟨rfl, rfl⟩
  go_wp2_with fail
  exact ⟨rfl, rfl, HG.out _ _⟩
theorem sureE_ok (x : Ent) (a : Option Addr) (n c : Nat) (w : World) : Calls Tryd.prog 72 #[entV x (.slice a n c), .int .i64 0] w fun e w' => e = .returned (entV x (.slice a n c)) ∧ w.grownBy w' none := by
  have HF : Hid (((w.alloc (.cells #[.int .i64 x.term, .int .i64 x.index, .int .i64 x.kind, .slice a n c] 47)).alloc (.cells #[.int .i64 0, .int .i64 0, .int .i64 0, .slice none 0 0] 47)).heap[w.heap.size + 1]? = some (.cells #[.int .i64 0, .int .i64 0, .int .i64 0, .slice none 0 0] 47 (0, 0)) ∧ EB ((w.alloc (.cells #[.int .i64 x.term, .int .i64 x.index, .int .i64 x.kind, .slice a n c] 47)).alloc (.cells #[.int .i64 0, .int .i64 0, .int .i64 0, .slice none 0 0] 47)) w.heap.size x (.slice a n c) ∧ w.grownBy ((w.alloc (.cells #[.int .i64 x.term, .int .i64 x.index, .int .i64 x.kind, .slice a n c] 47)).alloc (.cells #[.int .i64 0, .int .i64 0, .int .i64 0, .slice none 0 0] 47)) none) := hid_mk (by
    have s1 : (w.alloc (.cells #[.int .i64 x.term, .int .i64 x.index, .int .i64 x.kind, .slice a n c] 47)).heap.size = w.heap.size + 1 := by simp
    have m1 : EB (w.alloc (.cells #[.int .i64 x.term, .int .i64 x.index, .int .i64 x.kind, .slice a n c] 47)) w.heap.size x (.slice a n c) := heap_alloc_new w _
    refine ⟨?_, m1.kept (World.grownBy_alloc _ _ _), grown_trans (World.grownBy_alloc _ _ _) (World.grownBy_alloc _ _ _)⟩
    rw [← s1]; exact heap_alloc_new _ _)
  unfold entV
  go_enter Tryd.func72, Tryd.ntmps72
  go_wp2_with fail
  generalize ((w.alloc (.cells _ 47)).alloc (.cells _ 47)) = w2 at *
  refine (need_ok _).mono ?_
  rintro e wx ⟨rfl, hwx⟩
  subst wx
  obtain ⟨c0, c1, c2, c3, _⟩ := HF.out.2.1.cells
  have hz : ∀ i, w2.frozen? ⟨w.heap.size + 1, i, none⟩ = false := fun i => by simp [World.frozen?, HF.out.1]
  have hc : ∀ i, w2.cell? ⟨w.heap.size + 1, i, none⟩ = (#[.int .i64 0, .int .i64 0, .int .i64 0, .slice none 0 0] : Array Value)[i]? := fun i => cell_of_row _ _ _ _ _ _ HF.out.1
  have z0 := hc 0
  have z1 := hc 1
  have z2 := hc 2
  have z3 := hc 3
  clear hc
  simp only [List.getElem?_toArray, List.getElem?_cons_zero, List.getElem?_cons_succ] at z0 z1 z2 z3
  go_wp2_with fail
  exact bodyPost_ret (ret_ent (fn := Tryd.f72) rfl _ _ (w.heap.size + 1) x (.slice a n c) rfl (ent_laid HF.out.1 x (.slice a n c))) rfl ⟨rfl, grown_new HF.out.2.2 (grown_ent _ _ _ _ _ _) (by omega)⟩

theorem asBool_any (n : Nat) (w : World) : Calls Tryd.prog 56 #[.int .i64 n] w fun e w' => w' = w ∧ ((n ≤ 1 ∧ e = .returned (.bool (decide (n = 1)))) ∨ (¬ n ≤ 1 ∧ e = .panicked upChain)) := by
  by_cases h0 : n = 0
  · subst h0
    go_enter Tryd.func56, Tryd.ntmps56
    go_wp2_with (go_at_call 44; refine (need_ok _).mono ?_; rintro e wx ⟨rfl, hwx⟩; subst wx)
    go_ret
    exact ⟨rfl, .inl ⟨by omega, rfl⟩⟩
  · by_cases h1 : n = 1
    · subst h1
      go_enter Tryd.func56, Tryd.ntmps56
      go_wp2_with (go_at_call 44; refine (need_ok _).mono ?_; rintro e wx ⟨rfl, hwx⟩; subst wx)
      go_ret
      exact ⟨rfl, .inl ⟨by omega, rfl⟩⟩
    · have e0 : ((n : Int) == 0) = false := by simpa using h0
      have e1 : ((n : Int) == 1) = false := by simp; omega
      go_enter Tryd.func56, Tryd.ntmps56
      go_wp2_with fail
      refine (need_no _).mono ?_
      rintro e wx ⟨rfl, hwx⟩
      subst wx
      go_wp2_with fail
      exact ⟨rfl, rfl, .inr ⟨by omega, rfl⟩⟩

/-- Entries of one's own, from a block on, whatever else turned. -/
structure EQ (B : Nat) (W : World) (v : Value) (es : List (Ent × Value)) : Prop where
  row : W.ownsRow B 47 4 v es.length (es.flatMap entCells)
  own : ∀ p ∈ es, Own W B p.2 p.1.data ∧ p.1.data.length ≤ 140737488355328
theorem EQ.kept {B : Nat} {W W' : World} {v : Value} {es : List (Ent × Value)} {r : Option Nat} (h : EQ B W v es) (hg : W.grownBy W' r) (hr : ∀ b, r = some b → ∃ c t f, W.heap[b]? = some (.cells c t f) ∧ t ≠ 47 ∧ t ≠ 5) : EQ B W' v es := by
  have key : ∀ (t' : TypeId), t' = 47 ∨ t' = 5 → ∀ g cur, W.heap[g]? = some (.cells cur t' (0, 0)) → some g ≠ r := fun t' ht g cur hh e => by
    obtain ⟨c, t, f, hb, h1, h2⟩ := hr g e.symm
    rw [hh] at hb
    cases hb
    rcases ht with rfl | rfl
    · exact h1 rfl
    · exact h2 rfl
  exact ⟨owns_kept h.row hg (key 47 (.inl rfl)), fun p hp => ⟨owns_kept (h.own p hp).1 hg (key 5 (.inr rfl)), (h.own p hp).2⟩⟩
theorem EQ.nil (B : Nat) (W : World) : EQ B W (.slice none 0 0) [] := ⟨World.ownsRow_nil _ _ _ _, by simp⟩
theorem EQ.reads {B : Nat} {W : World} {v : Value} {es : List (Ent × Value)} (h : EQ B W v es) : EntsR W v (es.map (·.1)) := by
  rcases h.row.2 with ⟨rfl, h0⟩ | ⟨g, cap, cur, rfl, hb, hg, h1, h2, h3, h4⟩
  · obtain rfl : es = [] := List.length_eq_zero_iff.1 h0
    exact EntsR.nil _
  · refine .inr ⟨g, 0, cap, by simp, by simpa using h1, fun j x hj => ?_⟩
    rw [List.getElem?_map, Option.map_eq_some_iff] at hj
    obtain ⟨p, hp, rfl⟩ := hj
    have hl : j < es.length := (List.getElem?_eq_some_iff.1 hp).1
    have key : ∀ i, i < 4 → W.cell? ⟨g, 0 + j * 4 + i, none⟩ = (entCells p)[i]? := fun i hi => by
      rw [← entCells_at es j i p hp hi, cell_of_row _ _ _ _ _ _ hg, ← h4, List.getElem?_take, if_pos (by omega), Nat.zero_add]
      simp
    obtain ⟨ho, hd⟩ := h.own p (List.mem_of_getElem? hp)
    refine ⟨p.2, ?_, ?_, ?_, ?_, ho.byt, hd⟩
    · have := key 0 (by omega); simpa [entCells] using this
    · have := key 1 (by omega); simpa [entCells] using this
    · have := key 2 (by omega); simpa [entCells] using this
    · have := key 3 (by omega); simpa [entCells] using this
/-- append(l, x). -/
theorem wp_ent {B : Nat} {W : World} {v : Value} {es : List (Ent × Value)} (h : EQ B W v es) (hB : B ≤ W.heap.size) (x : Ent) (a3 : Option Addr) (n3 c3 : Nat) (ho : Own W B (.slice a3 n3 c3) x.data) (hd : x.data.length ≤ 140737488355328) (k : Nat) (hk : k = es.length) (hl : (k + 1) * 48 ≤ 140737488355328)
    {ops : Array Oper} {rest : List Oper} {o : Oper} {a : Act} {Q : Exit → Act → World → Prop} (hgd : o.guard = none) (s y : Operand) (hop : o.op = .call { callee := .builtin .append, args := #[s, y], argTypes := #[22, 22] }) (hs : a.eval s = v) (hy : a.eval y = .slice (some ⟨W.heap.size, 0, none⟩) 1 1)
    (hc : ∀ a' c' W', Hid (EQ B W' (.slice a' (k + 1) c') (es ++ [(x, .slice a3 n3 c3)]) ∧ (W.alloc (.cells #[.int .i64 x.term, .int .i64 x.index, .int .i64 x.kind, .slice a3 n3 c3] 47)).grownBy W' v.ownBlock) → wpList Tryd.prog ops Q rest (a.put o.dst (.slice a' (k + 1) c')) W') :
    wpList Tryd.prog ops Q (o :: rest) a (W.alloc (.cells #[.int .i64 x.term, .int .i64 x.index, .int .i64 x.kind, .slice a3 n3 c3] 47)) := by
  subst hk
  obtain ⟨i0, hi, hz0, hz1, hz2⟩ := info_parts info47
  have hg := World.grownBy_alloc W (.cells #[.int .i64 x.term, .int .i64 x.index, .int .i64 x.kind, .slice a3 n3 c3] 47) none
  have hE := h.kept hg (fun b e => by cases e)
  have hO := ho.kept hg (.inl rfl)
  refine wpList_append_own_at _ hgd s y 22 hop B 47 i0 (.agg #[.int .i64 0, .int .i64 0, .int .i64 0, .slice none 0 0]) 4 48 Tryd.underlying22 hi hz0 hz1 hz2 rfl (by decide) v es.length (es.flatMap entCells) hs hE.row ⟨W.heap.size, 0, none⟩ 1 1 (entCells (x, .slice a3 n3 c3)) hy rfl (cell_four_new _ _ _ _ _ _) (fun u hu => by simp [entCells] at hu; rcases hu with rfl | rfl | rfl | rfl <;> rfl) (by unfold maxLen; omega) hl (Nat.le_trans hB hg.size) ?_
  intro v' w' r1 r2 _ _
  obtain ⟨a', c', rfl⟩ := row_shape r1
  have hk : ∀ (z : Value) (d : List UInt8), Own (W.alloc (.cells #[.int .i64 x.term, .int .i64 x.index, .int .i64 x.kind, .slice a3 n3 c3] 47)) B z d → Own w' B z d := fun z d hz => owns_kept hz r2 (fun g cur hh => own_tag hE.row hh (by decide))
  refine hc a' c' w' (hid_mk ⟨⟨?_, fun p hp => ?_⟩, r2⟩)
  · rw [List.length_append, List.flatMap_append]; simpa using r1
  · rcases List.mem_append.1 hp with hp | hp
    · exact ⟨hk _ _ (hE.own p hp).1, (hE.own p hp).2⟩
    · obtain rfl : p = (x, .slice a3 n3 c3) := by simpa using hp
      exact ⟨hk _ _ hO, hd⟩
theorem Rd.tag {w : World} {M N b : Nat} {s : St} (h : Rd w M N b s) : ∃ c t f, w.heap[b]? = some (.cells c t f) ∧ t ≠ 47 ∧ t ≠ 5 := by
  obtain ⟨_, _, rv, hb, _⟩ := h
  exact ⟨_, _, _, hb, by decide, by decide⟩

end Go.Proofs.YtliefofdlpljaaaDoor

/- readEntries. -/
namespace Go.Proofs.YtliefofdlpljaaaDoor
open Go.RowKit Go.Maps
set_option linter.unusedVariables false
set_option linter.unusedSimpArgs false

theorem rdBs_at (k : Nat) : ∀ (n : Nat) (s : St), k < n → (rdBs n s).1[k]? = some (readB (rdBs k s).2).1 := by
  induction k with
  | zero =>
    intro n s h
    obtain ⟨n, rfl⟩ : ∃ n', n = n' + 1 := ⟨n - 1, by omega⟩
    simp [rdBs]
  | succ k ih =>
    intro n s h
    obtain ⟨n, rfl⟩ : ∃ n', n = n' + 1 := ⟨n - 1, by omega⟩
    simp only [rdBs, List.getElem?_cons_succ]
    exact ih n _ (by omega)
theorem rdBs_rest (k : Nat) : ∀ s, (rdBs k s).2.rest.length ≤ s.rest.length := by
  induction k with
  | zero => intro s; exact Nat.le_refl _
  | succ k ih =>
    intro s
    simp only [rdBs]
    exact Nat.le_trans (ih _) (readB_rest s)
theorem grown_own {w W W' : World} {b : Nat} {B : Nat} {e : TypeId} {size n : Nat} {v : Value} {xs : List Value} (h : w.grownBy W (some b)) (hr : W.ownsRow B e size v n xs) (hB : w.heap.size ≤ B) (hk : W.grownBy W' v.ownBlock) : w.grownBy W' (some b) := by
  cases hv : v.ownBlock with
  | none => rw [hv] at hk; exact grown_trans h (grown_any hk _)
  | some r => rw [hv] at hk; exact grown_plus h hk (Nat.le_trans hB (own_low hr r hv).1)

/-- Where the loop stands. -/
structure RE (w W : World) (M N b : Nat) (s1 : St) (k : Nat) (lv : Value) (es : List (Ent × Value)) : Prop where
  eq : EQ w.heap.size W lv es
  map : es.map (·.1) = (rdBs k s1).1.map entR
  ok : ∀ d ∈ (rdBs k s1).1, entOk d = true
  rd : Rd W M N b (rdBs k s1).2
  gr : w.grownBy W (some b)
def RePost (w : World) (M N b : Nat) (s : St) (e : Ending) (w' : World) : Prop := w.grownBy w' (some b) ∧
  (((rdBs (readN s).1 (readN s).2).1.all entOk = true ∧ ∃ a n c es, e = .returned (.slice a n c) ∧ EQ w.heap.size w' (.slice a n c) es ∧ es.map (·.1) = (rdBs (readN s).1 (readN s).2).1.map entR ∧ Rd w' M N b (rdBs (readN s).1 (readN s).2).2) ∨
   ((rdBs (readN s).1 (readN s).2).1.all entOk = false ∧ e = .panicked upChain))

set_option maxRecDepth 100000 in
set_option maxHeartbeats 4000000 in
theorem readEntries_any (M N b : Nat) (s : St) (w : World) (h : Rd w M N b s) (hN : N ≤ w.heap.size) (hL : s.rest.length ≤ 200000000000000)
    (hcap : ∀ k, k ≤ (readN s).1 → (∀ d ∈ (rdBs k (readN s).2).1, entOk d = true) → (k + 1) * 48 ≤ 140737488355328) :
    Calls Tryd.prog 57 #[.pointer (some ⟨b, 0, none⟩)] w (RePost w M N b s) := by
  have HR := hid_mk h
  have HC := hid_mk hcap
  have hlt48 := readN_lt s
  clear h hcap
  go_enter Tryd.func57, Tryd.ntmps57
  go_wp2_with fail
  refine (num_rd M N b s w HR.out hL).mono ?_
  rintro e w1 ⟨rfl, hr1, hg1⟩
  have H1 : Hid (RE w w1 M N b (readN s).2 0 (.slice none 0 0) []) := hid_mk ⟨EQ.nil _ _, rfl, by simp [rdBs], hr1, hg1⟩
  have HRL := hid_mk (Nat.le_trans (readN_rest s) hL)
  clear hr1 hg1
  obtain ⟨n, hn⟩ : ∃ n, n = (readN s).1 := ⟨_, rfl⟩
  obtain ⟨s1, hs1⟩ : ∃ s1, s1 = (readN s).2 := ⟨_, rfl⟩
  have HNS := hid_mk (And.intro hn hs1)
  rw [← hn] at hlt48 HC ⊢
  rw [← hs1] at H1 HRL HC
  clear hn hs1
  go_wp2_with fail
  go_loopw [3, 6] (fun lv iv W => ∃ (k : Nat) (a : Option Addr) (c : Nat), k ≤ n ∧ iv = .int .i64 k ∧ lv = .slice a k c ∧ Hid (∃ es, RE w W M N b s1 k lv es)) (fun _ iv _ => n - (intOf iv).toNat)
  case atStart => exact ⟨0, none, 0, Nat.zero_le _, rfl, rfl, hid_mk ⟨[], H1.out⟩⟩
  case round =>
    obtain ⟨k, a, c, hk, rfl, rfl, H⟩ := hrel
    rename World => w2
    obtain ⟨es, HE⟩ : ∃ es, Hid (RE w w2 M N b s1 k (.slice a k c) es) := by
      obtain ⟨es, h⟩ := H.out
      exact ⟨es, hid_mk h⟩
    clear H H1
    have HKE := hid_mk (show k = es.length by
      have := congrArg List.length HE.out.map
      rw [List.length_map, List.length_map, rdBs_len] at this
      omega)
    by_cases hlt : k < n
    · go_wp2_with fail
      refine (byt_rd M N b _ w2 HE.out.rd (Nat.le_trans hN HE.out.gr.size) (Nat.le_trans (rdBs_rest k s1) HRL.out)).mono ?_
      rintro e w3 ⟨v3, rfl, ho3, hr3, hg3⟩
      have H3 := hid_mk (And.intro ho3 (And.intro hr3 hg3))
      have HEQ3 := hid_mk (HE.out.eq.kept hg3 (fun r e => by cases e; exact HE.out.rd.tag))
      have HD := hid_mk (rdBs_at k n s1 hlt)
      have HS := hid_mk (rdBs_succ k s1)
      have HB3 : Hid ((readB (rdBs k s1).2).1.length ≤ 1048576) := hid_mk (readB_small2 _)
      obtain ⟨d, hd⟩ : ∃ d, d = (readB (rdBs k s1).2).1 := ⟨_, rfl⟩
      have HDD := hid_mk hd
      rw [← hd] at H3 HD HS HB3
      clear ho3 hr3 hg3 hd
      obtain ⟨a3, c3, rfl⟩ := H3.out.1.len
      go_wp2_with fail
      refine (getEntry_any _ d w3 H3.out.1.byt (by have := HB3.out; omega)).mono ?_
      rintro e w4 ⟨dv4, rfl, ho4, hg4⟩
      obtain ⟨a4, n4, c4, hdv⟩ : ∃ a4 n4 c4, dv4 = .slice a4 n4 c4 := by
        obtain ⟨a4, c4, e⟩ := ho4.len
        exact ⟨a4, _, c4, e⟩
      subst hdv
      have G24 := hid_mk (show w2.grownBy w4 (some b) from grown_trans H3.out.2.2 (grown_any hg4 _))
      have R4 := hid_mk (H3.out.2.1.kept hg4 (fun r e => by cases e))
      have Q4 := hid_mk (HEQ3.out.kept hg4 (fun r e => by cases e))
      have HB24 := hid_mk (show w.heap.size ≤ w3.heap.size from Nat.le_trans HE.out.gr.size H3.out.2.2.size)
      have O4 := hid_mk (ho4.base HB24.out)
      clear ho4 hg4 HEQ3
      cases hok : entOk d with
      | false =>
        have HN0 := hid_mk (show (rdBs n s1).1.all entOk = false by rw [List.all_eq_false]; exact ⟨d, List.mem_of_getElem? HD.out, by simp [hok]⟩)
        rw [(gEnt_bad hok).1, (gEnt_bad hok).2]
        clear hok
        go_wp2_with fail
        refine (sureE_no _ _ _ _ 21 w4 (by omega)).mono ?_
        rintro e w5 ⟨rfl, hg5⟩
        have G5 := hid_mk (grown_trans HE.out.gr (grown_trans G24.out (grown_any hg5 _)))
        clear hg5
        go_wp2_with fail
        refine ⟨rfl, G5.out, .inr ⟨?_, rfl⟩⟩
        rw [← HNS.out.1, ← HNS.out.2]
        exact HN0.out
      | true =>
        have HOK := hid_mk hok
        rw [(gEnt_ok hok).1] at O4
        rw [(gEnt_ok hok).1, (gEnt_ok hok).2]
        have HDL := hid_mk (rightE_len (entOk_get hok).1).2.2.2
        clear hok
        go_wp2_with fail
        refine (sureE_ok _ _ _ _ w4).mono ?_
        rintro e w5 ⟨rfl, hg5⟩
        have R5 := hid_mk (R4.out.kept hg5 (fun r e => by cases e))
        have Q5 := hid_mk (Q4.out.kept hg5 (fun r e => by cases e))
        have O5 := hid_mk (O4.out.kept hg5 (.inl rfl))
        have G5 := hid_mk (show w.grownBy w5 (some b) from grown_trans HE.out.gr (grown_trans G24.out (grown_any hg5 _)))
        have HCK := hid_mk (HC.out k (by omega) HE.out.ok)
        clear hg5 R4 Q4 O4
        unfold entV
        go_wp2_with (at_builtin; refine wp_ent Q5.out G5.out.size _ _ _ _ O5.out (by have := HDL.out; omega) k HKE.out HCK.out rfl (.tmp 8) (.tmp 15) rfl rfl rfl ?_; intro a6 c6 w6 P6)
        go_roundw
        case rel =>
          have hal := World.grownBy_alloc w5 (.cells #[.int .i64 (entR d).term, .int .i64 (entR d).index, .int .i64 (entR d).kind, .slice a4 n4 c4] 47) none
          have Q6 := Q5.out.kept hal (fun r e => by cases e)
          refine ⟨k + 1, a6, c6, by omega, by go_num, rfl, hid_mk ⟨_, P6.out.1, ?_, ?_, ?_, ?_⟩⟩
          · rw [HS.out, List.map_append, List.map_append, HE.out.map]
            rfl
          · rw [HS.out]
            intro y hy
            rcases List.mem_append.1 hy with hy | hy
            · exact HE.out.ok y hy
            · obtain rfl : y = d := by simpa using hy
              exact HOK.out
          · rw [HS.out]
            refine (R5.out.kept hal (fun r e => by cases e)).kept P6.out.2 (fun r e => .inr ?_)
            exact Nat.le_trans hN (own_low Q6.row r e).1
          · exact grown_own (grown_trans G5.out (grown_any hal _)) Q6.row (Nat.le_refl _) P6.out.2
        case measure => simp [intOf]; omega
    · have hkn : k = n := by omega
      subst hkn
      go_wp2_with fail
      go_ret
      refine ⟨HE.out.gr, .inl ⟨?_, a, k, c, es, rfl, HE.out.eq, ?_, ?_⟩⟩
      · rw [← HNS.out.1, ← HNS.out.2, List.all_eq_true]; exact HE.out.ok
      · rw [← HNS.out.1, ← HNS.out.2]; exact HE.out.map
      · rw [← HNS.out.1, ← HNS.out.2]; exact HE.out.rd

end Go.Proofs.YtliefofdlpljaaaDoor

/- read: where it stands. -/
namespace Go.Proofs.YtliefofdlpljaaaDoor
open Go.RowKit Go.Maps
set_option linter.unusedVariables false
set_option linter.unusedSimpArgs false

/-- A message of which only numbers are there. -/
def mOf (l : List Nat) (y : Bool) : Msg := ⟨l.getD 0 0, l.getD 1 0, l.getD 2 0, l.getD 3 0, l.getD 4 0, l.getD 5 0, l.getD 6 0, l.getD 7 0, y, [], [], []⟩
theorem mOf_num (l : List Nat) (y : Bool) (k : Nat) (hk : k < 8) : (nums (mOf l y))[k]? = some (l.getD k 0 : Int) := by
  match k, hk with
  | 0, _ => rfl
  | 1, _ => rfl
  | 2, _ => rfl
  | 3, _ => rfl
  | 4, _ => rfl
  | 5, _ => rfl
  | 6, _ => rfl
  | 7, _ => rfl
theorem MB.setN {w : World} {g : Nat} {ev sv dv : Value} {y : Bool} {l : List Nat} (h : MB w 27 g (mOf l y) ev sv dv) (k : Nat) (hk : k < 8) (hl : l.length = k) (x : Nat) : MB (w.setCell ⟨g, k, none⟩ (.int .i64 x)) 27 g (mOf (l ++ [x]) y) ev sv dv := by
  unfold MB msgCells mOf at *
  match k, hk, l, hl with
  | 0, _, [], _ => simp [World.setCell, Array.getElem?_modify, h]
  | 1, _, [a], _ => simp [World.setCell, Array.getElem?_modify, h]
  | 2, _, [a, b], _ => simp [World.setCell, Array.getElem?_modify, h]
  | 3, _, [a, b, c], _ => simp [World.setCell, Array.getElem?_modify, h]
  | 4, _, [a, b, c, d], _ => simp [World.setCell, Array.getElem?_modify, h]
  | 5, _, [a, b, c, d, e], _ => simp [World.setCell, Array.getElem?_modify, h]
  | 6, _, [a, b, c, d, e, f], _ => simp [World.setCell, Array.getElem?_modify, h]
  | 7, _, [a, b, c, d, e, f, i], _ => simp [World.setCell, Array.getElem?_modify, h]
theorem MB.set8 {w : World} {t : TypeId} {g : Nat} {m : Msg} {ev sv dv : Value} (h : MB w t g m ev sv dv) (y : Bool) : MB (w.setCell ⟨g, 8, none⟩ (.bool y)) t g { m with yes := y } ev sv dv := by
  unfold MB msgCells at *
  simp [World.setCell, Array.getElem?_modify, h]
theorem MB.set10 {w : World} {t : TypeId} {g : Nat} {m : Msg} {ev sv dv : Value} (h : MB w t g m ev sv dv) (v : Value) : MB (w.setCell ⟨g, 10, none⟩ v) t g m ev v dv := by
  unfold MB msgCells at *
  simp [World.setCell, Array.getElem?_modify, h]
theorem MB.set11 {w : World} {t : TypeId} {g : Nat} {m : Msg} {ev sv dv : Value} (h : MB w t g m ev sv dv) (v : Value) : MB (w.setCell ⟨g, 11, none⟩ v) t g m ev sv v := by
  unfold MB msgCells at *
  simp [World.setCell, Array.getElem?_modify, h]

/-- Where reading stands: the message's block, the reader, the block that is answered. -/
structure RV (w W : World) (g r0 rb M N : Nat) (m : Msg) (ev sv dv : Value) (s : St) : Prop where
  mb : MB W 27 g m ev sv dv
  rd : Rd W M N rb s
  zero : W.heap[r0]? = some (.cells zeroM 27 (0, 0))
  gr : w.grownBy W none
  lo : w.heap.size ≤ r0 ∧ w.heap.size ≤ g ∧ r0 < M ∧ g < M ∧ r0 ≠ g ∧ N ≤ W.heap.size
theorem RV.kept {w W W' : World} {g r0 rb M N : Nat} {m : Msg} {ev sv dv : Value} {s : St} (h : RV w W g r0 rb M N m ev sv dv s) (hg : W.grownBy W' none) : RV w W' g r0 rb M N m ev sv dv s :=
  ⟨h.mb.kept hg, h.rd.kept hg (fun r e => by cases e), (hg.block r0 (Array.getElem?_eq_some_iff.1 h.zero).1 (by simp)).trans h.zero, grown_trans h.gr hg, ⟨h.lo.1, h.lo.2.1, h.lo.2.2.1, h.lo.2.2.2.1, h.lo.2.2.2.2.1, Nat.le_trans h.lo.2.2.2.2.2 hg.size⟩⟩
/-- The reader went on. -/
theorem RV.turn {w W W' : World} {g r0 rb M N : Nat} {m : Msg} {ev sv dv : Value} {s s' : St} (h : RV w W g r0 rb M N m ev sv dv s) (hg : W.grownBy W' (some rb)) (hr : Rd W' M N rb s') : RV w W' g r0 rb M N m ev sv dv s' := by
  obtain ⟨h1, h2, h3, h4, h5, h6⟩ := h.lo
  have hb := h.rd.lo
  refine ⟨(hg.block g (Array.getElem?_eq_some_iff.1 h.mb).1 (by simp; omega)).trans h.mb, hr, (hg.block r0 (Array.getElem?_eq_some_iff.1 h.zero).1 (by simp; omega)).trans h.zero, grown_new h.gr hg (by omega), h1, h2, h3, h4, h5, Nat.le_trans h6 hg.size⟩
/-- The message's block was turned. -/
theorem RV.set {w W : World} {g r0 rb M N : Nat} {m m' : Msg} {ev sv dv ev' sv' dv' : Value} {s : St} (h : RV w W g r0 rb M N m ev sv dv s) (i : Nat) (v : Value) (hm : MB (W.setCell ⟨g, i, none⟩ v) 27 g m' ev' sv' dv') : RV w (W.setCell ⟨g, i, none⟩ v) g r0 rb M N m' ev' sv' dv' s := by
  obtain ⟨h1, h2, h3, h4, h5, h6⟩ := h.lo
  have hg := grown_setCell W g i v
  exact ⟨hm, h.rd.kept hg (fun r e => .inl (by cases e; exact h4)), (hg.block r0 (Array.getElem?_eq_some_iff.1 h.zero).1 (by simp; omega)).trans h.zero, grown_new h.gr hg h2, h1, h2, h3, h4, h5, Nat.le_trans h6 hg.size⟩

theorem EQ.base {B B' : Nat} {W : World} {v : Value} {es : List (Ent × Value)} (h : EQ B W v es) (hb : B' ≤ B) : EQ B' W v es := by
  refine ⟨⟨h.row.1, ?_⟩, fun p hp => ⟨(h.own p hp).1.base hb, (h.own p hp).2⟩⟩
  rcases h.row.2 with hn | ⟨g, cap, cur, hv, hbg, rest⟩
  · exact .inl hn
  · exact .inr ⟨g, cap, cur, hv, by omega, rest⟩
def rdOk (b : List UInt8) : Bool := decide ((gY b).1 ≤ 1) && (decide (gK b ≠ 3) || (gE b).1.all entOk) && (decide (gK b ≠ 5) || getOk (gS b).1) && decide (endE (gEnd b) = 0)
theorem gOk_of (b : List UInt8) : gOk b = (rdOk b && chk (gM b)) := rfl
def ReadPost (l : List UInt8) (w : World) (e : Ending) (w' : World) : Prop := w.grownBy w' none ∧
  ((rdOk l = true ∧ ∃ ev sv dv es, e = .returned (.agg (msgCells (gM l) ev sv dv)) ∧ (EQ w.heap.size w' ev es ∧ es.map (·.1) = (gM l).ents) ∧ OwnI w' w.heap.size sv (gM l).srv ∧ Own w' w.heap.size dv (gM l).data) ∨ (rdOk l = false ∧ e = .panicked upChain))
theorem gM_other {l : List UInt8} (h3 : ¬ gK l = 3) (h5 : ¬ gK l = 5) : gM l = mOf (gN l).1 (decide ((gY l).1 = 1)) := by unfold gM mOf; simp [h3, h5]
theorem cells_gM (l : List UInt8) (ev sv dv : Value) : msgCells (gM l) ev sv dv = msgCells (mOf (gN l).1 (decide ((gY l).1 = 1))) ev sv dv := rfl


end Go.Proofs.YtliefofdlpljaaaDoor

/- read. -/
namespace Go.Proofs.YtliefofdlpljaaaDoor
open Go.RowKit Go.Maps
set_option linter.unusedVariables false
set_option linter.unusedSimpArgs false

theorem mb_all {w : World} {t : TypeId} {b : Nat} {m : Msg} {ev sv dv : Value} (k : MB w t b m ev sv dv) : w.cell? ⟨b, 0, none⟩ = some (.int .i64 m.kind) ∧ w.cell? ⟨b, 1, none⟩ = some (.int .i64 m.frm) ∧ w.cell? ⟨b, 2, none⟩ = some (.int .i64 m.dst) ∧ w.cell? ⟨b, 3, none⟩ = some (.int .i64 m.term) ∧ w.cell? ⟨b, 4, none⟩ = some (.int .i64 m.a) ∧ w.cell? ⟨b, 5, none⟩ = some (.int .i64 m.b) ∧ w.cell? ⟨b, 6, none⟩ = some (.int .i64 m.c) ∧ w.cell? ⟨b, 7, none⟩ = some (.int .i64 m.d) ∧ w.cell? ⟨b, 8, none⟩ = some (.bool m.yes) ∧ w.cell? ⟨b, 9, none⟩ = some ev ∧ w.cell? ⟨b, 10, none⟩ = some sv ∧ w.cell? ⟨b, 11, none⟩ = some dv := by
  obtain ⟨r8, r9, r10, r11, _⟩ := k.rest
  exact ⟨k.num 0 _ rfl, k.num 1 _ rfl, k.num 2 _ rfl, k.num 3 _ rfl, k.num 4 _ rfl, k.num 5 _ rfl, k.num 6 _ rfl, k.num 7 _ rfl, r8, r9, r10, r11⟩
theorem gN_eq (l : List UInt8) : readNs 8 ⟨l, 0⟩ = gN l := by unfold gN; rfl
theorem gK_eq (l : List UInt8) : (gN l).1.getD 0 0 = gK l := by unfold gK; rfl
theorem gY_eq (l : List UInt8) : readN (gN l).2 = gY l := by unfold gY; rfl
theorem gC_eq (l : List UInt8) : readN (gY l).2 = gC l := by unfold gC; rfl
theorem gE_eq (l : List UInt8) : rdBs (gC l).1 (gC l).2 = gE l := by unfold gE; rfl
theorem gS_eq (l : List UInt8) : readB (gY l).2 = gS l := by unfold gS; rfl
theorem gD_eq (l : List UInt8) : readB (gS l).2 = gD l := by unfold gD; rfl
theorem gM_parts (l : List UInt8) (k : Nat) (hk : gK l = k) : (gM l).ents = (if k = 3 then (gE l).1.map entR else []) ∧ (gM l).srv = (if k = 5 then getL (gS l).1 else []) ∧ (gM l).data = (if k = 5 then (gD l).1 else []) ∧ gEnd l = (if k = 3 then (gE l).2 else if k = 5 then (gD l).2 else (gY l).2) := by
  subst hk
  unfold gM gEnd
  exact ⟨rfl, rfl, rfl, rfl⟩
theorem rdOk_eq (l : List UInt8) (k : Nat) (hk : gK l = k) : rdOk l = (decide ((gY l).1 ≤ 1) && (decide (k ≠ 3) || (gE l).1.all entOk) && (decide (k ≠ 5) || getOk (gS l).1) && decide (endE (gEnd l) = 0)) := by
  subst hk
  unfold rdOk
  rfl
theorem cells_gM2 (l : List UInt8) (nl : List Nat × St) (yp : Nat × St) (h1 : gN l = nl) (h2 : gY l = yp) (ev sv dv : Value) : msgCells (gM l) ev sv dv = msgCells (mOf nl.1 (decide (yp.1 = 1))) ev sv dv := by
  subst h1
  subst h2
  unfold gM mOf msgCells
  rfl

set_option maxRecDepth 100000 in
set_option maxHeartbeats 8000000 in
theorem read_any (v : Value) (l : List UInt8) (w : World) (h : Byt w v l) (hl : l.length ≤ 200000000000000)
    (hcap : gK l = 3 → ∀ k, k ≤ (gC l).1 → (∀ d ∈ (rdBs k (gC l).2).1, entOk d = true) → (k + 1) * 48 ≤ 140737488355328) :
    Calls Tryd.prog 33 #[v] w (ReadPost l w) := by
  have hv := h.len
  have HB := hid_mk h
  have HCAP := hid_mk hcap
  clear h hcap
  obtain ⟨av, cv, rfl⟩ := hv
  have HF : Hid (MB ((w.alloc (.cells zeroM 27)).alloc (.cells zeroM 27)) 27 (w.heap.size + 1) (mOf [] false) (.slice none 0 0) (.slice none 0 0) (.slice none 0 0) ∧ ((w.alloc (.cells zeroM 27)).alloc (.cells zeroM 27)).heap[w.heap.size]? = some (.cells zeroM 27 (0, 0)) ∧ w.grownBy ((w.alloc (.cells zeroM 27)).alloc (.cells zeroM 27)) none ∧ ((w.alloc (.cells zeroM 27)).alloc (.cells zeroM 27)).heap.size = w.heap.size + 2) := hid_mk (by
    have s1 : (w.alloc (.cells zeroM 27)).heap.size = w.heap.size + 1 := by simp
    have e1 : (w.alloc (.cells zeroM 27)).heap[w.heap.size]? = some (.cells zeroM 27 (0, 0)) := heap_alloc_new w _
    refine ⟨?_, ((World.grownBy_alloc _ _ none).block _ (by omega) (by simp)).trans e1, grown_trans (World.grownBy_alloc _ _ _) (World.grownBy_alloc _ _ _), by simp⟩
    unfold MB
    rw [← s1]
    exact heap_alloc_new _ _)
  unfold zeroM at HF
  go_enter Tryd.func33, Tryd.ntmps33
  go_wp2_with fail
  generalize ((w.alloc (.cells _ 27)).alloc (.cells _ 27)) = w0 at *
  refine (new_any _ l w0 (HB.out.kept HF.out.2.2.1) hl).mono ?_
  rintro e w1 ⟨rb, rfl, hr1, hg1⟩
  have H1 := hid_mk (And.intro hr1 hg1)
  clear hr1 hg1
  go_wp2_with fail
  refine (fields_any (w.heap.size + 1) w1).mono ?_
  rintro e w2 ⟨rfl, hg2⟩
  obtain ⟨M, hM⟩ : ∃ M, M = w0.heap.size := ⟨_, rfl⟩
  obtain ⟨N, hN⟩ : ∃ N, N = w1.heap.size := ⟨_, rfl⟩
  have H2 : Hid (RV w w2 (w.heap.size + 1) w.heap.size rb M N (mOf [] false) (.slice none 0 0) (.slice none 0 0) (.slice none 0 0) ⟨l, 0⟩) := hid_mk (by
    subst hM
    subst hN
    have hgr := grown_trans H1.out.2 hg2
    refine ⟨HF.out.1.kept hgr, H1.out.1.kept hg2 (fun r e => by cases e), (hgr.block _ (Array.getElem?_eq_some_iff.1 HF.out.2.1).1 (by simp)).trans HF.out.2.1, grown_trans HF.out.2.2.1 hgr, by omega, by omega, by rw [HF.out.2.2.2]; omega, by rw [HF.out.2.2.2]; omega, by omega, hg2.size⟩)
  clear hg2 hM hN HF H1
  go_wp2_with fail
  go_loopw [10] (fun iv W => ∃ k : Nat, k ≤ 8 ∧ iv = .int .i64 k ∧ Hid (RV w W (w.heap.size + 1) w.heap.size rb M N (mOf (readNs k ⟨l, 0⟩).1 false) (.slice none 0 0) (.slice none 0 0) (.slice none 0 0) (readNs k ⟨l, 0⟩).2)) (fun iv _ => 8 - (intOf iv).toNat)
  case atStart => exact ⟨0, Nat.zero_le _, rfl, H2⟩
  case round =>
    obtain ⟨k, hk, rfl, H⟩ := hrel
    rename World => w3
    by_cases hlt : k < 8
    · have hix := idx_fld (w.heap.size + 1) k hlt
      go_wp2_with fail
      refine (num_rd M N rb _ w3 H.out.rd (Nat.le_trans (readNs_rest k _) hl)).mono ?_
      rintro e w4 ⟨rfl, hr4, hg4⟩
      have H4 := hid_mk (H.out.turn hg4 hr4)
      have HS := hid_mk (readNs_succ k ⟨l, 0⟩)
      have HLEN := hid_mk (readNs_len k ⟨l, 0⟩)
      clear hr4 hg4 hix
      have hcell := H4.out.mb.num k _ (mOf_num _ _ k hlt)
      have hfz := H4.out.mb.rest.2.2.2.2 k
      obtain ⟨x, hx⟩ : ∃ x, x = (readN (readNs k ⟨l, 0⟩).2).1 := ⟨_, rfl⟩
      rw [← hx]
      have HX := hid_mk hx
      clear hx
      go_wp2_with fail
      go_roundw
      case rel =>
        refine ⟨k + 1, by omega, by go_num, hid_mk ?_⟩
        rw [HS.out, ← HX.out]
        exact H4.out.set k _ (H4.out.mb.setN k hlt HLEN.out x)
      case measure => simp [intOf]; omega
    · have hk8 : k = 8 := by omega
      subst hk8
      rw [gN_eq l] at H
      have HRN := hid_mk (show (gN l).2.rest.length ≤ 200000000000000 by rw [← gN_eq]; exact Nat.le_trans (readNs_rest 8 _) hl)
      obtain ⟨nl, hnl⟩ : ∃ nl, gN l = nl := ⟨_, rfl⟩
      obtain ⟨yp, hyp⟩ : ∃ yp, gY l = yp := ⟨_, rfl⟩
      obtain ⟨kk, hkk⟩ : ∃ kk, gK l = kk := ⟨_, rfl⟩
      have HRY := hid_mk (show readN nl.2 = yp by rw [← hnl, gY_eq, hyp])
      have HKN := hid_mk (show nl.1.getD 0 0 = kk by rw [← hnl, gK_eq, hkk])
      have HPA := hid_mk (gM_parts l kk hkk)
      have HOK := hid_mk (rdOk_eq l kk hkk)
      rw [hnl] at H HRN
      rw [hyp] at HOK HPA
      rw [hkk] at HCAP
      have HNL := hid_mk hnl
      have HYP := hid_mk hyp
      have HGC := hid_mk (show readN yp.2 = gC l by rw [← hyp, gC_eq])
      have HGS := hid_mk (show readB yp.2 = gS l by rw [← hyp, gS_eq])
      clear hnl hyp hkk hk hlt H2
      go_wp2_with fail
      refine (num_rd M N rb _ w3 H.out.rd HRN.out).mono ?_
      rintro e w4 ⟨rfl, hr4, hg4⟩
      rw [HRY.out] at hr4 ⊢
      have H4 := hid_mk (H.out.turn hg4 hr4)
      have HRL := hid_mk (show yp.2.rest.length ≤ 200000000000000 by rw [← HRY.out]; exact Nat.le_trans (readN_rest _) HRN.out)
      clear hr4 hg4 H
      go_wp2_with fail
      refine (asBool_any yp.1 w4).mono ?_
      rintro e wx ⟨hwx, hq⟩
      subst wx
      rcases hq with ⟨hy, rfl⟩ | ⟨hy, rfl⟩
      rotate_left
      · have HNO := hid_mk (show rdOk l = false by rw [HOK.out]; simp [hy])
        go_wp2_with fail
        exact ⟨rfl, H4.out.gr, .inr ⟨HNO.out, rfl⟩⟩
      have HY := hid_mk hy
      clear hy
      obtain ⟨r8, _, _, _, rf⟩ := H4.out.mb.rest
      have rf8 := rf 8
      clear rf
      obtain ⟨yb, hyb⟩ : ∃ yb, yb = decide (yp.1 = 1) := ⟨_, rfl⟩
      rw [← hyb]
      have HYB := hid_mk hyb
      clear hyb
      go_upto_region 9 with fail
      have H5 : Hid (RV w (w4.setCell ⟨w.heap.size + 1, 8, none⟩ (.bool yb)) (w.heap.size + 1) w.heap.size rb M N (mOf nl.1 yb) (.slice none 0 0) (.slice none 0 0) (.slice none 0 0) yp.2) := hid_mk (H4.out.set 8 _ (H4.out.mb.set8 yb))
      generalize w4.setCell ⟨w.heap.size + 1, 8, none⟩ (.bool yb) = w5 at *
      clear r8 rf8 H4
      have c0 := H5.out.mb.num 0 _ (mOf_num nl.1 yb 0 (by omega))
      rw [HKN.out] at c0
      by_cases k3 : kk = 3
      · have k3' : (kk : Int) = 3 := by omega
        have HM := hid_mk (show (gM l).ents = (gE l).1.map entR ∧ (gM l).srv = [] ∧ (gM l).data = [] by obtain ⟨q1, q2, q3, _⟩ := HPA.out; rw [q1, q2, q3]; simp [k3])
        have HC3 := hid_mk (HCAP.out k3)
        have HEE := hid_mk (show gEnd l = (gE l).2 by obtain ⟨_, _, _, q4⟩ := HPA.out; rw [q4]; simp [k3])
        go_wp2_with fail
        have HRE := hid_mk (readEntries_any M N rb yp.2 w5 H5.out.rd H5.out.lo.2.2.2.2.2 HRL.out (by rw [HGC.out]; exact HC3.out))
        unfold RePost at HRE
        rw [HGC.out, gE_eq] at HRE
        refine HRE.out.mono ?_
        rintro e w6 ⟨hg6, hq⟩
        rcases hq with ⟨hall, a6, n6, c6, es, rfl, heq6, hmap6, hrd6⟩ | ⟨hall, rfl⟩
        rotate_left
        · have HNO := hid_mk (show rdOk l = false by rw [HOK.out]; simp [k3, hall])
          have G6 := hid_mk (grown_new H5.out.gr hg6 (Nat.le_trans (Nat.le_trans H5.out.lo.2.1 (Nat.le_of_lt H5.out.lo.2.2.2.1)) H5.out.rd.lo))
          clear hg6 hall HRE
          go_wp2_with fail
          exact ⟨rfl, G6.out, .inr ⟨HNO.out, rfl⟩⟩
        have H6 := hid_mk (H5.out.turn hg6 hrd6)
        have Q6 := hid_mk (And.intro heq6 hmap6)
        have HALL := hid_mk hall
        have HB6 := hid_mk H5.out.gr.size
        clear hg6 heq6 hmap6 hrd6 hall HRE c0
        obtain ⟨sE, hsE⟩ : ∃ sE, (gE l).2 = sE := ⟨_, rfl⟩
        have HEND := hid_mk (HEE.out.trans hsE)
        rw [hsE] at H6
        clear hsE
        obtain ⟨_, r9, _, _, rf⟩ := H6.out.mb.rest
        have rf9 := rf 9
        clear rf
        go_upto_region 15 with fail
        have H7 := hid_mk (H6.out.set 9 (.slice a6 n6 c6) (H6.out.mb.set9 (.slice a6 n6 c6)))
        have Q7 := hid_mk (Q6.out.1.kept (grown_setCell w6 (w.heap.size + 1) 9 (.slice a6 n6 c6)) (fun r e => by cases e; exact ⟨_, _, _, H6.out.mb, by decide, by decide⟩))
        generalize w6.setCell ⟨w.heap.size + 1, 9, none⟩ (.slice a6 n6 c6) = w7 at *
        clear r9 rf9 H6
        go_wp2_with fail
        refine (end_rd M N rb _ w7 H7.out.rd).mono ?_
        rintro e wx ⟨rfl, hwx⟩
        subst wx
        obtain ⟨en, hen⟩ : ∃ en, en = endE sE := ⟨_, rfl⟩
        rw [← hen]
        by_cases he0 : en = 0
        rotate_left
        · have HNO := hid_mk (show rdOk l = false by rw [HOK.out, HEND.out, ← hen]; simp [he0])
          have he1 : ((en : Int) == 0) = false := by simp; omega
          clear hen
          go_wp2_with fail
          refine (need_no _).mono ?_
          rintro e wx ⟨rfl, hwx⟩
          subst wx
          go_wp2_with fail
          exact ⟨rfl, H7.out.gr, .inr ⟨HNO.out, rfl⟩⟩
        have HYES := hid_mk (show rdOk l = true by rw [HOK.out, HEND.out, ← hen, he0]; simp [HY.out, k3, HALL.out])
        clear hen
        subst he0
        obtain ⟨p0, p1, p2, p3, p4, p5, p6, p7, p8, p9, p10, p11⟩ := mb_all H7.out.mb
        have hz : ∀ i, w7.frozen? ⟨w.heap.size, i, none⟩ = false := fun i => by simp [World.frozen?, H7.out.zero]
        have hc : ∀ i, w7.cell? ⟨w.heap.size, i, none⟩ = zeroM[i]? := fun i => cell_of_row _ _ _ _ _ _ H7.out.zero
        have z0 := hc 0
        have z1 := hc 1
        have z2 := hc 2
        have z3 := hc 3
        have z4 := hc 4
        have z5 := hc 5
        have z6 := hc 6
        have z7 := hc 7
        have z8 := hc 8
        have z9 := hc 9
        have z10 := hc 10
        have z11 := hc 11
        clear hc
        simp only [zeroM, List.getElem?_toArray, List.getElem?_cons_zero, List.getElem?_cons_succ] at z0 z1 z2 z3 z4 z5 z6 z7 z8 z9 z10 z11
        obtain ⟨mm, hmm⟩ : ∃ mm, mm = mOf nl.1 yb := ⟨_, rfl⟩
        rw [← hmm] at p0 p1 p2 p3 p4 p5 p6 p7 p8
        have HMM := hid_mk hmm
        clear hmm
        go_wp2_with (go_at_call 44; refine (need_ok _).mono ?_; rintro e wx ⟨rfl, hwx⟩; subst wx)
        have HG2 := grown_msg w7 w.heap.size mm (.slice a6 n6 c6) (.slice none 0 0) (.slice none 0 0)
        have hb := msg_laid H7.out.zero mm (.slice a6 n6 c6) (.slice none 0 0) (.slice none 0 0)
        refine bodyPost_ret (ret_msg (fn := Tryd.f33) rfl _ _ w.heap.size mm _ _ _ rfl hb) rfl ⟨grown_new H7.out.gr HG2 (Nat.le_refl _), .inl ⟨HYES.out, _, _, _, es, by rw [cells_gM2 l nl yp HNL.out HYP.out, ← HYB.out, ← HMM.out], ?_, ?_, ?_⟩⟩
        · exact ⟨(Q7.out.kept HG2 (fun r e => by cases e; exact ⟨_, _, _, H7.out.zero, by decide, by decide⟩)).base HB6.out, by rw [HM.out.1, Q6.out.2]⟩
        · rw [HM.out.2.1]; exact OwnI.nil _ _
        · rw [HM.out.2.2]; exact World.ownsRow_nil _ _ _ _
      by_cases k5 : kk = 5
      · have b3 : ((kk : Int) == 3) = false := by simp; omega
        have b5 : ((kk : Int) == 5) = true := by simp; omega
        have HK := hid_mk k5
        have HM := hid_mk (show (gM l).ents = [] ∧ (gM l).srv = getL (gS l).1 ∧ (gM l).data = (gD l).1 by obtain ⟨q1, q2, q3, _⟩ := HPA.out; rw [q1, q2, q3]; simp [k3, k5])
        have HEE := hid_mk (show gEnd l = (gD l).2 by obtain ⟨_, _, _, q4⟩ := HPA.out; rw [q4]; simp [k5])
        clear HPA k3 k5
        go_wp2_with fail
        have HBR := hid_mk (byt_rd M N rb yp.2 w5 H5.out.rd H5.out.lo.2.2.2.2.2 HRL.out)
        have HSM := hid_mk (readB_small2 yp.2)
        have HSL := hid_mk (Nat.le_trans (readB_rest yp.2) HRL.out)
        rw [HGS.out] at HBR HSM HSL
        refine HBR.out.mono ?_
        rintro e w6 ⟨v6, rfl, ho6, hr6, hg6⟩
        have H6 := hid_mk (H5.out.turn hg6 hr6)
        have O6 := hid_mk ho6
        clear ho6 hr6 hg6 HBR c0
        obtain ⟨sp, hsp⟩ : ∃ sp, gS l = sp := ⟨_, rfl⟩
        have HGD := hid_mk (show readB sp.2 = gD l by rw [← hsp, gD_eq])
        rw [hsp] at H6 O6 HSM HSL HM HOK
        clear hsp HGS
        obtain ⟨a6, c6, rfl⟩ := O6.out.len
        go_wp2_with fail
        refine (getServers_any _ sp.1 w6 O6.out.byt (by have := HSM.out; omega)).mono ?_
        rintro e w7 ⟨a7, c7, rfl, ho7, hg7⟩
        have H7 := hid_mk (H6.out.kept hg7)
        cases hgo : getOk sp.1 with
        | false =>
          have HNO := hid_mk (show rdOk l = false by rw [HOK.out]; simp [HK.out, hgo])
          rw [(got_bad hgo).2]
          generalize (gotL sp.1).length = n7 at *
          clear ho7 hg7 hgo
          go_wp2_with fail
          refine (sureI_no _ 21 w7 (by omega)).mono ?_
          rintro e wx ⟨rfl, hwx⟩
          subst wx
          go_wp2_with fail
          exact ⟨rfl, H7.out.gr, .inr ⟨HNO.out, rfl⟩⟩
        | true =>
        have HGO := hid_mk hgo
        rw [(got_ok hgo).1] at ho7
        rw [(got_ok hgo).1, (got_ok hgo).2]
        have O7 := hid_mk ho7
        have HSZ6 := hid_mk H6.out.gr.size
        clear ho7 hg7 hgo H6 O6
        generalize (getL sp.1).length = n7 at *
        go_wp2_with fail
        refine (sureI_ok _ w7).mono ?_
        rintro e wx ⟨rfl, hwx⟩
        subst wx
        obtain ⟨_, _, r10, _, rf⟩ := H7.out.mb.rest
        have rf10 := rf 10
        clear rf
        go_upto_region 14 with fail
        have H8 := hid_mk (H7.out.set 10 (.slice a7 n7 c7) (H7.out.mb.set10 (.slice a7 n7 c7)))
        have O8 := hid_mk (owns_kept O7.out (grown_setCell w7 (w.heap.size + 1) 10 (.slice a7 n7 c7)) (fun _ _ hh => ne_tag hh H7.out.mb (by decide)))
        generalize w7.setCell ⟨w.heap.size + 1, 10, none⟩ (.slice a7 n7 c7) = w8 at *
        clear r10 rf10 H7 O7
        go_wp2_with fail
        have HBR := hid_mk (byt_rd M N rb sp.2 w8 H8.out.rd H8.out.lo.2.2.2.2.2 HSL.out)
        rw [HGD.out] at HBR
        refine HBR.out.mono ?_
        rintro e w10 ⟨v8, rfl, ho8, hr8, hg8⟩
        have H10 := hid_mk (H8.out.turn hg8 hr8)
        have HSZ8 := hid_mk H8.out.gr.size
        have O10 := hid_mk (owns_kept O8.out hg8 (fun _ _ hh => by obtain ⟨c, t, f, hb, h1, h2⟩ := H8.out.rd.tag; obtain ⟨_, _, rv, hb', _⟩ := H8.out.rd; exact ne_tag hh hb' (by decide)))
        have D10 := hid_mk ho8
        clear ho8 hr8 hg8 HBR
        obtain ⟨dp, hdp⟩ : ∃ dp, gD l = dp := ⟨_, rfl⟩
        rw [hdp] at H10 D10 HM HEE
        clear hdp HGD H8 O8
        obtain ⟨a8, c8, rfl⟩ := D10.out.len
        generalize dp.1.length = n8 at *
        obtain ⟨_, _, _, r11, rf⟩ := H10.out.mb.rest
        have rf11 := rf 11
        clear rf
        go_upto_region 15 with fail
        have H9 := hid_mk (H10.out.set 11 (.slice a8 n8 c8) (H10.out.mb.set11 (.slice a8 n8 c8)))
        have O9 := hid_mk (owns_kept O10.out (grown_setCell w10 (w.heap.size + 1) 11 (.slice a8 n8 c8)) (fun _ _ hh => ne_tag hh H10.out.mb (by decide)))
        have D9 := hid_mk (owns_kept D10.out (grown_setCell w10 (w.heap.size + 1) 11 (.slice a8 n8 c8)) (fun _ _ hh => ne_tag hh H10.out.mb (by decide)))
        generalize w10.setCell ⟨w.heap.size + 1, 11, none⟩ (.slice a8 n8 c8) = w9 at *
        clear r11 rf11 H10 O10 D10
        obtain ⟨sE, hsE⟩ : ∃ sE, dp.2 = sE := ⟨_, rfl⟩
        have HEND := hid_mk (HEE.out.trans hsE)
        rw [hsE] at H9
        clear hsE
        go_wp2_with fail
        refine (end_rd M N rb _ w9 H9.out.rd).mono ?_
        rintro e wx ⟨rfl, hwx⟩
        subst wx
        obtain ⟨en, hen⟩ : ∃ en, en = endE sE := ⟨_, rfl⟩
        rw [← hen]
        by_cases he0 : en = 0
        rotate_left
        · have HNO := hid_mk (show rdOk l = false by rw [HOK.out, HEND.out, ← hen]; simp [he0])
          have he1 : ((en : Int) == 0) = false := by simp; omega
          clear hen
          go_wp2_with fail
          refine (need_no _).mono ?_
          rintro e wx ⟨rfl, hwx⟩
          subst wx
          go_wp2_with fail
          exact ⟨rfl, H9.out.gr, .inr ⟨HNO.out, rfl⟩⟩
        have HYES := hid_mk (show rdOk l = true by rw [HOK.out, HEND.out, ← hen, he0]; simp [HY.out, HK.out, HGO.out])
        clear hen
        subst he0
        obtain ⟨p0, p1, p2, p3, p4, p5, p6, p7, p8, p9, p10, p11⟩ := mb_all H9.out.mb
        have hz : ∀ i, w9.frozen? ⟨w.heap.size, i, none⟩ = false := fun i => by simp [World.frozen?, H9.out.zero]
        have hc : ∀ i, w9.cell? ⟨w.heap.size, i, none⟩ = zeroM[i]? := fun i => cell_of_row _ _ _ _ _ _ H9.out.zero
        have z0 := hc 0
        have z1 := hc 1
        have z2 := hc 2
        have z3 := hc 3
        have z4 := hc 4
        have z5 := hc 5
        have z6 := hc 6
        have z7 := hc 7
        have z8 := hc 8
        have z9 := hc 9
        have z10 := hc 10
        have z11 := hc 11
        clear hc
        simp only [zeroM, List.getElem?_toArray, List.getElem?_cons_zero, List.getElem?_cons_succ] at z0 z1 z2 z3 z4 z5 z6 z7 z8 z9 z10 z11
        obtain ⟨mm, hmm⟩ : ∃ mm, mm = mOf nl.1 yb := ⟨_, rfl⟩
        rw [← hmm] at p0 p1 p2 p3 p4 p5 p6 p7 p8
        have HMM := hid_mk hmm
        clear hmm
        go_wp2_with (go_at_call 44; refine (need_ok _).mono ?_; rintro e wx ⟨rfl, hwx⟩; subst wx)
        have HG2 := grown_msg w9 w.heap.size mm (.slice none 0 0) (.slice a7 n7 c7) (.slice a8 n8 c8)
        have hb := msg_laid H9.out.zero mm (.slice none 0 0) (.slice a7 n7 c7) (.slice a8 n8 c8)
        refine bodyPost_ret (ret_msg (fn := Tryd.f33) rfl _ _ w.heap.size mm _ _ _ rfl hb) rfl ⟨grown_new H9.out.gr HG2 (Nat.le_refl _), .inl ⟨HYES.out, _, _, _, [], by rw [cells_gM2 l nl yp HNL.out HYP.out, ← HYB.out, ← HMM.out], ?_, ?_, ?_⟩⟩
        · exact ⟨EQ.nil _ _, by rw [HM.out.1]; rfl⟩
        · rw [HM.out.2.1]; exact OwnI.base (owns_kept O9.out HG2 (fun _ _ hh => ne_tag hh H9.out.zero (by decide))) HSZ6.out
        · rw [HM.out.2.2]; exact Own.base (owns_kept D9.out HG2 (fun _ _ hh => ne_tag hh H9.out.zero (by decide))) HSZ8.out
      · have b3 : ((kk : Int) == 3) = false := by simp; omega
        have b5 : ((kk : Int) == 5) = false := by simp; omega
        have HK := hid_mk (And.intro k3 k5)
        have HM := hid_mk (show (gM l).ents = [] ∧ (gM l).srv = [] ∧ (gM l).data = [] by obtain ⟨q1, q2, q3, _⟩ := HPA.out; rw [q1, q2, q3]; simp [k3, k5])
        obtain ⟨sE, hsE⟩ : ∃ sE, yp.2 = sE := ⟨_, rfl⟩
        have HEND := hid_mk (show gEnd l = sE by obtain ⟨_, _, _, q4⟩ := HPA.out; rw [q4, ← hsE]; simp [k3, k5])
        rw [hsE] at H5
        clear hsE HPA k3 k5
        go_wp2_with fail
        clear c0
        refine (end_rd M N rb _ w5 H5.out.rd).mono ?_
        rintro e wx ⟨rfl, hwx⟩
        subst wx
        obtain ⟨en, hen⟩ : ∃ en, en = endE sE := ⟨_, rfl⟩
        rw [← hen]
        by_cases he0 : en = 0
        rotate_left
        · have HNO := hid_mk (show rdOk l = false by rw [HOK.out, HEND.out, ← hen]; simp [he0])
          have he1 : ((en : Int) == 0) = false := by simp; omega
          clear hen
          go_wp2_with fail
          refine (need_no _).mono ?_
          rintro e wx ⟨rfl, hwx⟩
          subst wx
          go_wp2_with fail
          exact ⟨rfl, H5.out.gr, .inr ⟨HNO.out, rfl⟩⟩
        have HYES := hid_mk (show rdOk l = true by rw [HOK.out, HEND.out, ← hen, he0]; simp [HY.out, HK.out.1, HK.out.2])
        clear hen
        subst he0
        obtain ⟨p0, p1, p2, p3, p4, p5, p6, p7, p8, p9, p10, p11⟩ := mb_all H5.out.mb
        have hz : ∀ i, w5.frozen? ⟨w.heap.size, i, none⟩ = false := fun i => by simp [World.frozen?, H5.out.zero]
        have hc : ∀ i, w5.cell? ⟨w.heap.size, i, none⟩ = zeroM[i]? := fun i => cell_of_row _ _ _ _ _ _ H5.out.zero
        have z0 := hc 0
        have z1 := hc 1
        have z2 := hc 2
        have z3 := hc 3
        have z4 := hc 4
        have z5 := hc 5
        have z6 := hc 6
        have z7 := hc 7
        have z8 := hc 8
        have z9 := hc 9
        have z10 := hc 10
        have z11 := hc 11
        clear hc
        simp only [zeroM, List.getElem?_toArray, List.getElem?_cons_zero, List.getElem?_cons_succ] at z0 z1 z2 z3 z4 z5 z6 z7 z8 z9 z10 z11
        obtain ⟨mm, hmm⟩ : ∃ mm, mm = mOf nl.1 yb := ⟨_, rfl⟩
        rw [← hmm] at p0 p1 p2 p3 p4 p5 p6 p7 p8
        have HMM := hid_mk hmm
        clear hmm
        go_wp2_with (go_at_call 44; refine (need_ok _).mono ?_; rintro e wx ⟨rfl, hwx⟩; subst wx)
        have HG2 := grown_msg w5 w.heap.size mm (.slice none 0 0) (.slice none 0 0) (.slice none 0 0)
        have hb := msg_laid H5.out.zero mm (.slice none 0 0) (.slice none 0 0) (.slice none 0 0)
        refine bodyPost_ret (ret_msg (fn := Tryd.f33) rfl _ _ w.heap.size mm _ _ _ rfl hb) rfl ⟨grown_new H5.out.gr HG2 (Nat.le_refl _), .inl ⟨HYES.out, _, _, _, [], by rw [cells_gM2 l nl yp HNL.out HYP.out, ← HYB.out, ← HMM.out], ?_, ?_, ?_⟩⟩
        · exact ⟨EQ.nil _ _, by rw [HM.out.1]; rfl⟩
        · rw [HM.out.2.1]; exact OwnI.nil _ _
        · rw [HM.out.2.2]; exact World.ownsRow_nil _ _ _ _

end Go.Proofs.YtliefofdlpljaaaDoor
