/- MachineReads: lists, appends of lists, a row of texts. -/
import Derived.Test.YtpncbehabfkhkabMaX
import Derived.Laws.OwnMore
namespace Go.Proofs.Ytpncbehabfkhkab.W
open Go.RowKit Go.Maps Go.WideMaps Go.WideElems
set_option linter.unusedVariables false
set_option linter.unusedSimpArgs false
set_option maxRecDepth 100000

/-- Read, in one form. -/
theorem read_any {w : World} {b : Nat} {m : Mach} (h : MR w b m) (f k : Nat) (h1 : m.st ≤ f) (h2 : f ≤ m.st + m.rs.length) (hk : k ≤ 1000000000) : Calls Try.prog 15 #[.pointer (some ⟨b, 0, none⟩), .int .i64 f, .int .i64 k] w fun e w' => ∃ a n c ps, e = .returned (.tuple #[.slice a n c, .int .i64 0]) ∧ n = ps.length ∧ n = min k (m.rs.length - (f - m.st)) ∧ ps.map Prod.snd = ((m.rs.map Prod.snd).drop (f - m.st)).take k ∧ Parts w' (.slice a n c) ps ∧ w.grownBy w' none := by
  obtain ⟨i, rfl⟩ : ∃ i, f = m.st + i := ⟨f - m.st, by omega⟩
  have hi : i ≤ m.rs.length := by omega
  have e0 : m.st + i - m.st = i := by omega
  rw [e0]
  have := read_walk h i k (min k (m.rs.length - i)) hi hk (by omega)
  rw [show ((m.st : Int) + (i : Int)) = ((m.st + i : Nat) : Int) by omega] at this
  refine this.mono ?_
  rintro e w' ⟨a, c, ps, rfl, hl, hm, hP, hg⟩
  refine ⟨a, _, c, ps, rfl, hl.symm, rfl, ?_, hP, hg⟩
  rw [hm, List.map_take, List.map_drop]
  rcases Nat.le_total k (m.rs.length - i) with hh | hh
  · rw [Nat.min_eq_left hh]
  · rw [Nat.min_eq_right hh, List.take_of_length_le (by simp), List.take_of_length_le (by simp; omega)]

set_option maxHeartbeats 2000000 in
theorem lists_same (a a' : Option Addr) (c c' n : Nat) (l l' : List (Value × List UInt8)) (w : World) (h : Parts w (.slice a n c) l) (h' : Parts w (.slice a' n c') l') (hn : n = l.length) (hn' : n = l'.length) (hs : l.map Prod.snd = l'.map Prod.snd) (hl : n ≤ 1000000000) : Calls Try.prog 16 #[.slice a n c, .slice a' n c'] w fun e w' => e = .returned (.bool true) ∧ ∃ m, w' = w.drewN m := by
  have HP := hid_mk (And.intro h (And.intro h' (And.intro hn (And.intro hn' hs))))
  clear h h' hn hn' hs
  go_enter Try.func16, Try.ntmps16
  go_wp2_with fail
  go_loopg [5] n (fun g iv W => ∃ i : Nat, i ≤ n ∧ g = n - i ∧ iv = .int .i64 i ∧ ∃ m, W = w.drewN m)
  case atStart => exact ⟨0, Nat.zero_le _, rfl, rfl, 0, rfl⟩
  case round =>
    obtain ⟨i, hi, hgk, rfl, m, rfl⟩ := hrel
    by_cases hlt : i < n
    · obtain ⟨b, off, pa, pc, rfl, -, -, -, x1, y1⟩ := HP.out.1.get i (by have := HP.out.2.2.1; omega)
      obtain ⟨b', off', pa', pc', rfl, -, -, -, x2, y2⟩ := HP.out.2.1.get i (by have := HP.out.2.2.2.1; omega)
      have he : l'[i]'(by have := HP.out.2.2.2.1; omega) = l'[i]'(by have := HP.out.2.2.2.1; omega) := rfl
      have hxy : (l[i]'(by have := HP.out.2.2.1; omega)).2 = (l'[i]'(by have := HP.out.2.2.2.1; omega)).2 := by
        have h1 := congrArg (fun z => z[i]?) HP.out.2.2.2.2
        have l1 : i < l.length := by have := HP.out.2.2.1; omega
        have l2 : i < l'.length := by have := HP.out.2.2.2.1; omega
        simp [l1, l2] at h1
        exact h1
      rw [← hxy] at x2 y2
      generalize (l[i]'(by have := HP.out.2.2.1; omega)).2 = x at *
      have t1 := fun k => byt_drewN y1 k
      have t2 := fun k => byt_drewN y2 k
      have hiI : (i : Int) < (n : Int) := by omega
      have hiI0 : (0 : Int) ≤ (i : Int) := by omega
      clear y1 y2 he hxy
      go_wp2_with fail
      go_quiet (fail)
      go_wp2_with fail
      go_roundg (n - (i + 1))
      case measure => omega
      case rel => exact ⟨i + 1, by omega, rfl, by go_num, _, by first | rfl | (rw [World.drewN_drewN])⟩
    · have hil : i = n := by omega
      subst hil
      have hnl : ¬ ((i : Int) < (i : Int)) := by omega
      go_wp2_with fail
      go_ret
      exact ⟨rfl, m, rfl⟩

/-- append of a list to a row of one's own. -/
theorem run_append_parts (W : World) (B : Nat) (hB : B ≤ W.heap.size) (v : Value) (ps : List (Value × List UInt8)) (hrow : W.ownsRow B 32 1 v ps.length (ps.map Prod.fst)) (y : Value) (qs : List (Value × List UInt8)) (hq : Parts W y qs) (hl : ps.length + qs.length ≤ 1000000000) :
    ∃ v' W', (Builtin.append_ #[40, 40] 40 #[v, y]).run Try.prog W = .ok v' W' ∧ W'.ownsRow B 32 1 v' (ps ++ qs).length ((ps ++ qs).map Prod.fst) ∧ W.grownBy W' v.ownBlock := by
  obtain ⟨i0, hi, hz0, hz1, hz2⟩ := info_parts info22
  rw [List.length_append, List.map_append]
  rcases hq with ⟨rfl, a, cap, rfl, hn⟩ | ⟨b, off, cap, rfl, hc, hx⟩
  · cases a with
    | none =>
      obtain rfl := hn rfl
      exact ⟨v, W, run_append_owned_none (P := Try.prog) (w := W) B 40 40 32 i0 1 Try.underlying40 hi v ps.length (ps.map Prod.fst) hrow, by simpa using hrow, grown_refl _ _⟩
    | some ad =>
      obtain ⟨v', W', hr, h2, h3, _⟩ := run_append_own_at (P := Try.prog) W B 40 40 32 i0 (.slice none 0 0) 1 24 Try.underlying40 hi hz0 hz1 hz2 rfl (by decide) v ps.length (ps.map Prod.fst) hrow ad 0 cap [] rfl (by simp) (by simp) (by unfold maxLen; omega) (by omega) hB
      exact ⟨v', W', hr, by simpa using h2, h3⟩
  · obtain ⟨v', W', hr, h2, h3, _⟩ := run_append_own_at (P := Try.prog) W B 40 40 32 i0 (.slice none 0 0) 1 24 Try.underlying40 hi hz0 hz1 hz2 rfl (by decide) v ps.length (ps.map Prod.fst) hrow ⟨b, off, none⟩ qs.length cap (qs.map Prod.fst) (by simp) (fun j u hj => by
        rw [List.getElem?_map] at hj
        obtain ⟨p, hp, rfl⟩ := Option.map_eq_some_iff.1 hj
        have := (hx j p hp).1
        unfold Addr.add
        split
        · simp_all
        · simpa using this) (fun u hu => by
        obtain ⟨p, hp, rfl⟩ := List.mem_map.1 hu
        obtain ⟨j, hj, rfl⟩ := List.getElem_of_mem hp
        obtain ⟨a1, c1, e⟩ := (hx j qs[j] (by simp [hj])).2.len
        rw [e]; rfl) (by unfold maxLen; omega) (by omega) hB
    exact ⟨v', W', hr, h2, h3⟩

/-- append under a guard. -/
theorem wp_append_g {W W' : World} {ops : Array Oper} {rest : List Oper} {o : Oper} {a : Act} {Q : Exit → Act → World → Prop} (hw : Region.wanted o (yielded ops a.tmps) = true) (s y : Operand)
    (ho : o.op = .call { callee := .builtin .append, args := #[s, y], argTypes := #[40, 40] }) {v u v' : Value} (hs : a.eval s = v) (hy : a.eval y = u) (ht : o.type = 40) (hr : (Builtin.append_ #[40, 40] 40 #[v, u]).run Try.prog W = .ok v' W')
    (h : wpList Try.prog ops Q rest (a.put o.dst v') W') : wpList Try.prog ops Q (o :: rest) a W := by
  refine wpList_step fun K hK => ?_
  rw [if_pos hw]
  unfold Oper.wp execOp
  simp only [ho, ht, resolve, invoke, builtin, Sem.run_bind, Sem.run_pure, Result.andThen_ok, List.map_toArray, List.map_cons, List.map_nil, hs, hy, hr]
  exact hK _ _ h

theorem under41 : Try.prog.underlying 41 = some (.slice 9) := Try.underlying41
/-- A text that comes to a row of texts. -/
theorem wp_text {w W : World} {tv : Value} {ts : List Value} (hr : W.ownsRow w.heap.size 9 1 tv ts.length ts) (hg : w.grownBy W none) (x : Value) (hx : x.oneCell' = true) (k : Nat) (hk : k = ts.length) (hl : k ≤ 1000000) {ops : Array Oper} {rest : List Oper} {o : Oper} {a : Act} {Q : Exit → Act → World → Prop} (hgd : o.guard = none) (s y : Operand)
    (ho : o.op = .call { callee := .builtin .append, args := #[s, y], argTypes := #[41, 41] }) (hs : a.eval s = tv) (hy : a.eval y = .slice (some ⟨W.heap.size, 0, none⟩) 1 1)
    (hc : ∀ a' c' W', Hid (W'.ownsRow w.heap.size 9 1 (.slice a' (k + 1) c') (k + 1) (ts ++ [x]) ∧ w.grownBy W' none ∧ (W.alloc (.cells #[x] 9)).grownBy W' tv.ownBlock ∧ ((Value.slice a' (k + 1) c').ownBlock = tv.ownBlock ∨ (Value.slice a' (k + 1) c').ownBlock = some (W.alloc (.cells #[x] 9)).heap.size)) → wpList Try.prog ops Q rest (a.put o.dst (.slice a' (k + 1) c')) W') :
    wpList Try.prog ops Q (o :: rest) a (W.alloc (.cells #[x] 9)) := by
  subst hk
  obtain ⟨i0, hi, hz0, hz1, hz2⟩ := info_parts info9
  have hga := World.grownBy_alloc W (.cells #[x] 9) none
  have h' := owns_kept hr hga (fun _ _ _ => by simp)
  refine wpList_append_own_at _ hgd s y 41 ho w.heap.size 9 i0 (.string ⟨#[]⟩) 1 16 under41 hi hz0 hz1 hz2 rfl (by decide) tv ts.length ts hs h' ⟨W.heap.size, 0, none⟩ 1 1 [x] hy rfl (cell_one_new _ _ _) (by simpa using hx) (by unfold maxLen; omega) (by omega) (by have := hg.size; simp; omega) ?_
  intro v' w' hown hgr _ hat
  obtain ⟨a', c', rfl⟩ := row_shape hown
  exact hc a' c' w' (hid_mk ⟨hown, grown_row (grown_trans hg hga) h' hgr, hgr, hat⟩)

end Go.Proofs.Ytpncbehabfkhkab.W
