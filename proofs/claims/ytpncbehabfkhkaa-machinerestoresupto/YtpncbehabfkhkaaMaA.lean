/- machine: within, numbers, counted; Open, Put, Trim. -/
import Derived.Test.YtpncbehabfkhkaaKa
import Derived.Test.YtpncbehabfkhkaaWNr
namespace Go.Proofs.Ytpncbehabfkhkaa.W
open Go.RowKit Go.Maps
set_option linter.unusedVariables false
set_option linter.unusedSimpArgs false
set_option maxRecDepth 100000

set_option maxHeartbeats 1000000 in
theorem putBytes_any (v : Value) (d : List UInt8) (w : World) (h : Byt w v d) : Calls Try.prog 63 #[v] w (OkPost (txtL d) (txtErr d.length) w) := by
  obtain ⟨av, cv, rfl⟩ := h.len
  by_cases hd : 1048576 < d.length
  · rw [(txtL_bad hd).1, (txtL_bad hd).2]
    clear h
    go_enter Try.func63, Try.ntmps63
    go_wp2
    go_ret2
    exact okPost_nil _ _
  · rw [(txtL_ok hd).1, (txtL_ok hd).2]
    have HB := hid_mk h
    have HI := hid_mk (ints_new w [(d.length : Int)] 3 #[.int .i64 d.length] rfl)
    have hm : d.length < 281474976710656 := by omega
    have H7 := hid_mk (numB_le hm)
    clear h
    go_enter Try.func63, Try.ntmps63
    go_wp2_with fail
    refine (numbers_any _ [d.length] _ HI.out (by simp) (by simpa using hm)).mono ?_
    rintro e w1 ⟨v', rfl, ho, hg⟩
    have e1 : numsB [d.length] = numB d.length := by simp [numsB]
    rw [e1] at ho
    obtain ⟨a, c, rfl⟩ := ho.len
    have H1 := hid_mk (And.intro ho (grown_trans (World.grownBy_alloc _ _ _) hg))
    clear ho hg e1
    have HP := hid_mk (parts_two w1 22 _ _ _ _ H1.out.1.byt (HB.out.kept H1.out.2))
    go_wp2_with fail
    refine (join_any _ _ _ HP.out (by simp) (by rw [flat_two, List.length_append]; have := H7.out; omega)).mono ?_
    rintro e w2 ⟨v2, rfl, ho2, hg2⟩
    rw [flat_two, show numB d.length ++ d = txtB d from rfl] at ho2
    obtain ⟨a2, c2, rfl⟩ := ho2.len
    have H2 := hid_mk (And.intro ho2 hg2)
    clear ho2 hg2
    go_wp2
    go_ret2
    exact ⟨a2, c2, rfl, H2.out.1.base (Nat.le_trans H1.out.2.size (by simp)), grown_trans H1.out.2 (grown_trans (World.grownBy_alloc _ _ _) H2.out.2)⟩

/-- Parts that are gathered: a row of one's own, each part of one's own. -/
structure Pp (w W : World) (pv : Value) (ps : List (Value × List UInt8)) : Prop where
  row : W.ownsRow w.heap.size 22 1 pv ps.length (ps.map Prod.fst)
  el : ∀ p ∈ ps, Byt W p.1 p.2 ∧ ∀ k, p.1.ownBlock = some k → ∃ c, W.heap[k]? = some (.cells c 5 (0, 0))
  gr : w.grownBy W none
theorem own_blk5 {W : World} {B : Nat} {v : Value} {l : List UInt8} (h : Own W B v l) : ∀ k, v.ownBlock = some k → ∃ c, W.heap[k]? = some (.cells c 5 (0, 0)) := fun k e => (own_low h k e).2
theorem info22 : (Try.prog.info? 22).map (fun i => (i.zero, i.size, i.bytes)) = some (some (.slice none 0 0), 1, 24) := by kernel_rfl
theorem Pp.nil (w : World) : Pp w w (.slice none 0 0) [] := ⟨World.ownsRow_nil _ _ _ _, (fun p hp => by cases hp), grown_refl _ _⟩
theorem blk_of_own {v : Value} {n c : Nat} {a : Option Addr} (h : v = .slice a n c) {k off : Nat} (ha : a = some ⟨k, off, none⟩) : v.ownBlock = some k := by subst h ha; rfl
theorem byt_kept5 {W W' : World} {v : Value} {l : List UInt8} {row : Option Nat} (h : Byt W v l) (hb : ∀ k, v.ownBlock = some k → some k ≠ row) (hg : W.grownBy W' row) : Byt W' v l := by
  rcases h with h | ⟨b, off, cap, rfl, hl, hc⟩
  · exact .inl h
  · exact .inr ⟨b, off, cap, rfl, hl, fun j u hj => hg.cell (hc j u hj) (hb b rfl)⟩
theorem Pp.kept {w W W' : World} {pv : Value} {ps : List (Value × List UInt8)} (h : Pp w W pv ps) (hg : W.grownBy W' none) : Pp w W' pv ps :=
  ⟨owns_kept h.row hg (fun _ _ _ => by simp), fun p hp => ⟨(h.el p hp).1.kept hg, fun k e => by
    obtain ⟨c, hc⟩ := (h.el p hp).2 k e
    exact ⟨c, (hg.block k (Array.getElem?_eq_some_iff.1 hc).1 (by simp)).trans hc⟩⟩, grown_trans h.gr hg⟩
/-- append(parts, x). -/
theorem wp_part {w W : World} {pv : Value} {ps : List (Value × List UInt8)} (h : Pp w W pv ps) (xa : Option Addr) (xc xn : Nat) (x : List UInt8) (hx : Byt W (.slice xa xn xc) x) (hx5 : ∀ k, (Value.slice xa xn xc).ownBlock = some k → ∃ c, W.heap[k]? = some (.cells c 5 (0, 0))) (k : Nat) (hk : k = ps.length) (hl : k ≤ 1000000000000) {ops : Array Oper} {rest : List Oper} {o : Oper} {a : Act} {Q : Exit → Act → World → Prop} (hgd : o.guard = none) (s y : Operand)
    (ho : o.op = .call { callee := .builtin .append, args := #[s, y], argTypes := #[55, 55] }) (hs : a.eval s = pv) (hy : a.eval y = .slice (some ⟨W.heap.size, 0, none⟩) 1 1)
    (hc : ∀ a' c' W', Hid (Pp w W' (.slice a' (k + 1) c') (ps ++ [(.slice xa xn xc, x)])) → wpList Try.prog ops Q rest (a.put o.dst (.slice a' (k + 1) c')) W') :
    wpList Try.prog ops Q (o :: rest) a (W.alloc (.cells #[.slice xa xn xc] 22)) := by
  subst hk
  obtain ⟨i0, hi, hz0, hz1, hz2⟩ := info_parts info22
  have hga := World.grownBy_alloc W (.cells #[.slice xa xn xc] 22) none
  have h' := h.kept hga
  refine wpList_append_own_at _ hgd s y 55 ho w.heap.size 22 i0 (.slice none 0 0) 1 24 Try.underlying55 hi hz0 hz1 hz2 rfl (by decide) pv ps.length (ps.map Prod.fst) hs h'.row ⟨W.heap.size, 0, none⟩ 1 1 [.slice xa xn xc] hy rfl (cell_one_new _ _ _) (by simp [Value.oneCell']) (by unfold maxLen; omega) (by omega) (by have := h.gr.size; simp; omega) ?_
  intro v' w' hown hgr _ _
  obtain ⟨a', c', rfl⟩ := row_shape hown
  have hne : ∀ k c, (W.alloc (.cells #[.slice xa xn xc] 22)).heap[k]? = some (.cells c 5 (0, 0)) → some k ≠ pv.ownBlock := fun k c hb => own_tag h'.row hb (by decide)
  refine hc a' c' w' (hid_mk ⟨?_, fun p hp => ?_, grown_row h'.gr h'.row hgr⟩)
  · rw [List.length_append, List.map_append]
    exact hown
  · have key : Byt (W.alloc (.cells #[.slice xa xn xc] 22)) p.1 p.2 ∧ ∀ k, p.1.ownBlock = some k → ∃ c, (W.alloc (.cells #[.slice xa xn xc] 22)).heap[k]? = some (.cells c 5 (0, 0)) := by
      rcases List.mem_append.1 hp with hp | hp
      · exact h'.el p hp
      · obtain rfl := List.mem_singleton.1 hp
        refine ⟨hx.kept hga, fun k e => ?_⟩
        obtain ⟨c, hc⟩ := hx5 k e
        exact ⟨c, (hga.block k (Array.getElem?_eq_some_iff.1 hc).1 (by simp)).trans hc⟩
    refine ⟨byt_kept5 key.1 (fun k e => ?_) hgr, fun k e => ?_⟩
    · obtain ⟨c, hc⟩ := key.2 k e
      exact hne k c hc
    · obtain ⟨c, hc⟩ := key.2 k e
      exact ⟨c, (hgr.block k (Array.getElem?_eq_some_iff.1 hc).1 (hne k c hc)).trans hc⟩
theorem row_get {W : World} {B : Nat} {e : TypeId} {v : Value} {n : Nat} {xs : List Value} (h : W.ownsRow B e 1 v n xs) (h0 : 0 < n) : ∃ g cap, v = .slice (some ⟨g, 0, none⟩) n cap ∧ n ≤ cap ∧ g < W.heap.size ∧ ∀ (j : Nat) x, xs[j]? = some x → W.cell? ⟨g, j, none⟩ = some x := by
  rcases h.2 with ⟨_, h0'⟩ | ⟨g, cap, cur, hv, _, hg, h1, h2, h3, h4⟩
  · omega
  · refine ⟨g, cap, hv, by simpa using h1, (Array.getElem?_eq_some_iff.1 hg).1, fun j x hj => ?_⟩
    have hx : (cur.toList.take (n * 1))[j]? = some x := by rw [h4]; exact hj
    rw [cell_of_row _ _ _ _ _ _ hg]
    rw [List.getElem?_take] at hx
    split at hx
    · simpa using hx
    · cases hx
theorem Pp.parts {w W : World} {pv : Value} {ps : List (Value × List UInt8)} (h : Pp w W pv ps) : Parts W pv ps := by
  by_cases h0 : 0 < ps.length
  · obtain ⟨g, cap, hv, hc, _, hx⟩ := row_get h.row h0
    refine .inr ⟨g, 0, cap, hv, hc, fun j p hj => ⟨?_, (h.el p (List.mem_of_getElem? hj)).1⟩⟩
    have := hx j p.1 (by simp [hj])
    simpa using this
  · obtain rfl : ps = [] := by cases ps with | nil => rfl | cons => simp at h0
    rcases h.row.2 with ⟨hv, _⟩ | ⟨g, cap, cur, hv, _⟩
    · exact .inl ⟨rfl, none, 0, by simpa using hv, fun _ => rfl⟩
    · exact .inl ⟨rfl, some ⟨g, 0, none⟩, cap, by simpa using hv, fun h => by cases h⟩

theorem within_any (a n b : Int) (w : World) : Calls Try.prog 33 #[.int .i64 a, .int .i64 n, .int .i64 b] w fun e w' => e = .returned (.bool (decide (a ≤ n) && decide (n ≤ b))) ∧ w' = w := by
  by_cases h1 : a ≤ n <;> by_cases h2 : n ≤ b
  all_goals
    simp only [h1, h2, decide_true, decide_false, Bool.true_and, Bool.false_and, Bool.and_true, Bool.and_false]
    go_enter Try.func33, Try.ntmps33
    go_wp2
    go_ret
    exact ⟨rfl, rfl⟩

set_option maxHeartbeats 2000000 in
theorem mnumbers_in (b off cap : Nat) (l : List Nat) (w : World) (hc : ∀ (j : Nat) x, l[j]? = some x → w.cell? ⟨b, off + j, none⟩ = some (.int .i64 x)) (hl : l.length ≤ 100) (hn : ∀ n ∈ l, n < 281474976710656) :
    Calls Try.prog 35 #[.slice (some ⟨b, off, none⟩) l.length cap] w fun e w' => ∃ v', e = .returned v' ∧ Own w' w.heap.size v' (numsB l) ∧ w.grownBy w' none := by
  have HC := hid_mk (And.intro hc hn)
  clear hc hn
  go_enter Try.func35, Try.ntmps35
  go_wp2_with fail
  go_loopw [3, 10] (fun pv iv W => ∃ (i : Nat) (a : Option Addr) (c : Nat), i ≤ l.length ∧ iv = .int .i64 i ∧ pv = .slice a i c ∧ Hid (∃ ps : List (Value × List UInt8), ps.length = i ∧ ps.map Prod.snd = (l.take i).map numB ∧ Pp w W pv ps)) (fun _ iv _ => l.length - (intOf iv).toNat)
  case atStart => exact ⟨0, none, 0, Nat.zero_le _, rfl, rfl, hid_mk ⟨[], rfl, rfl, Pp.nil w⟩⟩
  case round =>
    obtain ⟨i, a, c, hi, rfl, rfl, H⟩ := hrel
    rename World => W
    obtain ⟨ps, hps, hpm, hP⟩ := H.out
    have HP := hid_mk (And.intro hps (And.intro hpm hP))
    clear H hps hpm hP
    by_cases hlt : i < l.length
    · have hcell : W.cell? ⟨b, off + i, none⟩ = some (.int .i64 l[i]) := HP.out.2.2.gr.cell (HC.out.1 i l[i] (by simp [hlt])) (by simp)
      have hlx : l[i] < 281474976710656 := HC.out.2 _ (List.getElem_mem hlt)
      have HX := hid_mk (show (l.take (i + 1)).map numB = (l.take i).map numB ++ [numB l[i]] by rw [List.take_succ_eq_append_getElem hlt, List.map_append]; rfl)
      generalize l[i] = x at *
      have hlt' : (i : Int) < (l.length : Int) := by omega
      go_wp2_with fail
      have HN := hid_mk (putNumber_any x W)
      rw [(numL_ok (n := (x : Int)) (by omega)).1, (numL_ok (n := (x : Int)) (by omega)).2] at HN
      refine HN.out.mono ?_
      rintro e W1 ⟨xa, xc, rfl, ho, hg⟩
      rw [show ((x : Int).toNat) = x from rfl] at ho ⊢
      obtain ⟨xn, hxn⟩ : ∃ n, n = (numB x).length := ⟨_, rfl⟩
      rw [← hxn] at ho ⊢
      have H1 := hid_mk (And.intro ho hg)
      have HE := hid_mk hxn
      clear ho hg HN hxn hcell
      go_wp2_with (at_builtin; refine wp_part (HP.out.2.2.kept H1.out.2) xa xc xn (numB x) (by have := H1.out.1.byt; exact this) (own_blk5 H1.out.1) i HP.out.1.symm (by omega) rfl (.tmp 19) (.tmp 21) rfl rfl rfl ?_; intro a' c' W' H')
      go_roundw
      case rel => exact ⟨i + 1, a', c', by omega, by go_num, rfl, hid_mk ⟨_, by rw [List.length_append, HP.out.1]; rfl, by rw [List.map_append, HP.out.2.1, HX.out]; rfl, H'.out⟩⟩
      case measure => simp [intOf]; omega
    · have hil : i = l.length := by omega
      subst hil
      have hnlt : ¬ ((l.length : Int) < (l.length : Int)) := by omega
      go_wp2_with fail
      have hfl : flat ps = numsB l := by unfold flat numsB; rw [HP.out.2.1, List.take_length]
      have hlen : (numsB l).length ≤ 7 * l.length := by
        have : ∀ l : List Nat, (∀ n ∈ l, n < 281474976710656) → (numsB l).length ≤ 7 * l.length := by
          intro l
          induction l with
          | nil => intro _; simp [numsB]
          | cons x r ih =>
            intro h
            rw [numsB_cons, List.length_append, List.length_cons]
            have := numB_le (h x List.mem_cons_self)
            have := ih (fun n hn => h n (List.mem_cons_of_mem _ hn))
            omega
        exact this l HC.out.2
      refine (join_any _ ps W HP.out.2.2.parts (by have := HP.out.1; omega) (by rw [hfl]; omega)).mono ?_
      rintro e w2 ⟨v2, rfl, ho2, hg2⟩
      rw [hfl] at ho2
      obtain ⟨a2, c2, rfl⟩ := ho2.len
      have H2 := hid_mk (And.intro (ho2.base HP.out.2.2.gr.size) (grown_trans HP.out.2.2.gr hg2))
      clear ho2 hg2 hfl hlen
      go_wp2
      go_ret
      exact ⟨_, rfl, H2.out.1, H2.out.2⟩

theorem mnumbers_any (v : Value) (l : List Nat) (w : World) (h : IntsR w v (l.map Int.ofNat)) (h0 : l ≠ []) (hl : l.length ≤ 100) (hn : ∀ n ∈ l, n < 281474976710656) :
    Calls Try.prog 35 #[v] w fun e w' => ∃ v', e = .returned v' ∧ Own w' w.heap.size v' (numsB l) ∧ w.grownBy w' none := by
  rcases h with ⟨h0', _⟩ | ⟨b, off, cap, rfl, _, hc⟩
  · simp at h0'; exact absurd h0' h0
  · rw [List.length_map]
    exact mnumbers_in b off cap l w (fun j x hj => by have := hc j (x : Int) (by simp [hj]); exact this) hl hn

theorem mcounted_any (v : Value) (d : List UInt8) (w : World) (h : Byt w v d) (hd : d.length ≤ 1048576) :
    Calls Try.prog 36 #[v] w fun e w' => ∃ v', e = .returned v' ∧ Own w' w.heap.size v' (txtB d) ∧ w.grownBy w' none := by
  obtain ⟨a, c, rfl⟩ := h.len
  have HP := hid_mk (putBytes_any _ d w h)
  rw [(txtL_ok (by omega)).1, (txtL_ok (by omega)).2] at HP
  clear h
  go_enter Try.func36, Try.ntmps36
  go_wp2_with fail
  refine HP.out.mono ?_
  rintro e w1 ⟨a1, c1, rfl, ho, hg⟩
  have H1 := hid_mk (And.intro ho hg)
  clear ho hg HP
  go_wp2_with fail
  go_ret
  exact ⟨_, rfl, H1.out.1, H1.out.2⟩

/-- Commands as bytes. -/
def openB : List UInt8 := numsB [1]
def inN (a n b : Int) : Bool := decide (a ≤ n) && decide (n ≤ b)
theorem inN_iff {a n b : Int} : inN a n b = true ↔ a ≤ n ∧ n ≤ b := by unfold inN; simp
def cmdB (s q : Nat) (d : List UInt8) : List UInt8 := numsB [2, s, q] ++ txtB d
def trimB (t : Nat) : List UInt8 := numsB [3, t]
def okC (s q : Int) : Bool := inN 1 s 1099511627775 && inN 1 q 1099511627775
theorem openC_any (w : World) : Calls Try.prog 14 #[] w fun e w' => ∃ v', e = .returned v' ∧ Own w' w.heap.size v' openB ∧ w.grownBy w' none := by
  have HI := hid_mk (ints_new w [(1 : Int)] 3 #[.int .i64 1] rfl)
  have ga := hid_mk (World.grownBy_alloc w (.cells #[.int .i64 1] 3) none)
  go_enter Try.func14, Try.ntmps14
  go_wp2_with fail
  refine (mnumbers_any _ [1] _ HI.out (by simp) (by simp) (by simp)).mono ?_
  rintro e w1 ⟨v1, rfl, ho, hg⟩
  obtain ⟨a, c, rfl⟩ := ho.len
  have H1 := hid_mk (And.intro (ho.base ga.out.size) (grown_trans ga.out hg))
  clear ho hg
  go_wp2_with fail
  go_ret
  exact ⟨_, rfl, H1.out.1, H1.out.2⟩

theorem trimC_bad (t : Int) (w : World) (h : inN 0 t 1099511627775 = false) : Calls Try.prog 12 #[.int .i64 t] w fun e w' => e = .returned (.tuple #[.slice none 0 0, .int .i64 1]) ∧ w' = w := by
  have HB := hid_mk h
  go_enter Try.func12, Try.ntmps12
  go_wp2_with fail
  refine (within_any 0 t 1099511627775 w).mono ?_
  rintro e w' ⟨rfl, rfl⟩
  rw [show (decide ((0 : Int) ≤ t) && decide (t ≤ 1099511627775)) = false from HB.out]
  go_wp2_with fail
  go_ret2
  exact ⟨rfl, rfl⟩
theorem trimC_ok (t : Nat) (w : World) (h : t ≤ 1099511627775) : Calls Try.prog 12 #[.int .i64 t] w (OkPost (trimB t) 0 w) := by
  have HI := hid_mk (ints_new w [(3 : Int), (t : Int)] 3 #[.int .i64 3, .int .i64 t] rfl)
  have ga := hid_mk (World.grownBy_alloc w (.cells #[.int .i64 3, .int .i64 t] 3) none)
  go_enter Try.func12, Try.ntmps12
  go_wp2_with fail
  refine (within_any 0 t 1099511627775 w).mono ?_
  rintro e w' ⟨rfl, rfl⟩
  rw [show (decide ((0 : Int) ≤ (t : Int)) && decide ((t : Int) ≤ 1099511627775)) = true by simp; omega]
  go_wp2_with fail
  refine (mnumbers_any _ [3, t] _ HI.out (by simp) (by simp) (by simp; omega)).mono ?_
  rintro e w1 ⟨v1, rfl, ho, hg⟩
  obtain ⟨a, c, rfl⟩ := ho.len
  have H1 := hid_mk (And.intro (ho.base ga.out.size) (grown_trans ga.out hg))
  clear ho hg
  go_wp2_with fail
  go_ret2
  exact ⟨a, c, rfl, H1.out.1, H1.out.2⟩

theorem putC_arg (s q : Int) (a : Option Addr) (n c : Nat) (w : World) (h : okC s q = false) : Calls Try.prog 10 #[.int .i64 s, .int .i64 q, .slice a n c] w fun e w' => e = .returned (.tuple #[.slice none 0 0, .int .i64 1]) ∧ w' = w := by
  have HB := hid_mk h
  unfold okC at h
  cases h1 : inN 1 s 1099511627775 with
  | false =>
    clear h
    have H1 := hid_mk h1
    clear h1
    go_enter Try.func10, Try.ntmps10
    go_wp2_with fail
    refine (within_any 1 s 1099511627775 w).mono ?_
    rintro e w' ⟨rfl, rfl⟩
    rw [show (decide ((1 : Int) ≤ s) && decide (s ≤ 1099511627775)) = false from H1.out]
    go_wp2_with fail
    go_ret2
    exact ⟨rfl, rfl⟩
  | true =>
    rw [h1, Bool.true_and] at h
    have H1 := hid_mk (And.intro h1 h)
    clear h1 h
    go_enter Try.func10, Try.ntmps10
    go_wp2_with fail
    refine (within_any 1 s 1099511627775 w).mono ?_
    rintro e w' ⟨rfl, rfl⟩
    rw [show (decide ((1 : Int) ≤ s) && decide (s ≤ 1099511627775)) = true from H1.out.1]
    go_wp2_with fail
    refine (within_any 1 q 1099511627775 _).mono ?_
    rintro e w' ⟨rfl, rfl⟩
    rw [show (decide ((1 : Int) ≤ q) && decide (q ≤ 1099511627775)) = false from H1.out.2]
    go_wp2_with fail
    go_ret2
    exact ⟨rfl, rfl⟩
theorem putC_size (s q : Int) (a : Option Addr) (n c : Nat) (w : World) (h : okC s q = true) (hn : 1024 < n) : Calls Try.prog 10 #[.int .i64 s, .int .i64 q, .slice a n c] w fun e w' => e = .returned (.tuple #[.slice none 0 0, .int .i64 6]) ∧ w' = w := by
  unfold okC at h
  rw [Bool.and_eq_true] at h
  have H1 := hid_mk h
  have hn' : (1024 : Int) < (n : Int) := by omega
  clear h
  go_enter Try.func10, Try.ntmps10
  go_wp2_with fail
  refine (within_any 1 s 1099511627775 w).mono ?_
  rintro e w' ⟨rfl, rfl⟩
  rw [show (decide ((1 : Int) ≤ s) && decide (s ≤ 1099511627775)) = true from H1.out.1]
  go_wp2_with fail
  refine (within_any 1 q 1099511627775 _).mono ?_
  rintro e w' ⟨rfl, rfl⟩
  rw [show (decide ((1 : Int) ≤ q) && decide (q ≤ 1099511627775)) = true from H1.out.2]
  go_wp2_with fail
  go_ret2
  exact ⟨rfl, rfl⟩
set_option maxHeartbeats 1000000 in
theorem putC_ok (s q : Nat) (a : Option Addr) (c : Nat) (d : List UInt8) (w : World) (h : okC s q = true) (hd : d.length ≤ 1024) (hb : Byt w (.slice a d.length c) d) : Calls Try.prog 10 #[.int .i64 s, .int .i64 q, .slice a d.length c] w (OkPost (cmdB s q d) 0 w) := by
  unfold okC at h
  rw [Bool.and_eq_true] at h
  have hs := inN_iff.1 h.1
  have hq := inN_iff.1 h.2
  have H1 := hid_mk h
  have HB := hid_mk hb
  have hn' : ¬ (1024 : Int) < (d.length : Int) := by omega
  have HI := hid_mk (ints_new w [(2 : Int), (s : Int), (q : Int)] 3 #[.int .i64 2, .int .i64 s, .int .i64 q] rfl)
  have ga := hid_mk (World.grownBy_alloc w (.cells #[.int .i64 2, .int .i64 s, .int .i64 q] 3) none)
  clear h hb
  go_enter Try.func10, Try.ntmps10
  go_wp2_with fail
  refine (within_any 1 s 1099511627775 w).mono ?_
  rintro e w' ⟨rfl, rfl⟩
  rw [show (decide ((1 : Int) ≤ s) && decide ((s : Int) ≤ 1099511627775)) = true from H1.out.1]
  go_wp2_with fail
  refine (within_any 1 q 1099511627775 _).mono ?_
  rintro e w' ⟨rfl, rfl⟩
  rw [show (decide ((1 : Int) ≤ q) && decide ((q : Int) ≤ 1099511627775)) = true from H1.out.2]
  go_wp2_with fail
  refine (mnumbers_any _ [2, s, q] _ HI.out (by simp) (by simp) (by simp; omega)).mono ?_
  rintro e w1 ⟨v1, rfl, ho, hg⟩
  obtain ⟨a1, c1, rfl⟩ := ho.len
  have H2 := hid_mk (And.intro (ho.base ga.out.size) (grown_trans ga.out hg))
  clear ho hg HI
  go_wp2_with fail
  refine (mcounted_any _ d w1 (HB.out.kept H2.out.2) (by omega)).mono ?_
  rintro e w2 ⟨v2, rfl, ho, hg⟩
  obtain ⟨a2, c2, rfl⟩ := ho.len
  have H3 := hid_mk (And.intro ho (And.intro (H2.out.1.byt.kept hg) (grown_trans H2.out.2 hg)))
  clear ho hg
  have HP := hid_mk (parts_two w2 22 _ _ _ _ H3.out.2.1 H3.out.1.byt)
  have hlen : (numsB [2, s, q]).length + (txtB d).length ≤ 10000 := by
    have e1 : (numsB [2, s, q]).length ≤ 21 := by
      simp only [numsB, List.map_cons, List.map_nil, List.flatten_cons, List.flatten_nil, List.length_append, List.length_nil]
      have := numB_le (n := 2) (by omega)
      have := numB_le (n := s) (by omega)
      have := numB_le (n := q) (by omega)
      omega
    have e2 : (txtB d).length ≤ 7 + d.length := by
      unfold txtB
      rw [List.length_append]
      have := numB_le (n := d.length) (by omega)
      omega
    omega
  have HL := hid_mk hlen
  clear hlen
  go_wp2_with fail
  refine (join_any _ _ _ HP.out (by simp) (by rw [flat_two, List.length_append]; have := HL.out; omega)).mono ?_
  rintro e w3 ⟨v3, rfl, ho3, hg3⟩
  rw [flat_two, show numsB [2, s, q] ++ txtB d = cmdB s q d from rfl] at ho3
  obtain ⟨a3, c3, rfl⟩ := ho3.len
  have gb := World.grownBy_alloc w2 (.cells #[.slice a1 (numsB [2, s, q]).length c1, .slice a2 (txtB d).length c2] 22) none
  have H4 := hid_mk (And.intro (ho3.base (Nat.le_trans H3.out.2.2.size gb.size)) (grown_trans H3.out.2.2 (grown_trans gb hg3)))
  clear ho3 hg3 gb
  go_wp2_with fail
  go_ret2
  exact ⟨a3, c3, rfl, H4.out.1, H4.out.2⟩

end Go.Proofs.Ytpncbehabfkhkaa.W
