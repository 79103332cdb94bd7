/- The document's disk: with, done. -/
import Derived.Test.YtopablemfajecaaRfC
namespace Go.Proofs.Ytopablemfajecaa
open Go.RowKit Go.Maps Go.WideMaps Go.WideElems
set_option linter.unusedVariables false
set_option linter.unusedSimpArgs false
set_option maxRecDepth 100000

def lessN (s : ByteArray) (p : ByteArray × Nat) : Bool := Op.bytesLess p.1.toList s.toList
def rwith (dir : List (ByteArray × Nat)) (p : ByteArray × Nat) : List (ByteArray × Nat) := dir.takeWhile (lessN p.1) ++ [p] ++ dir.dropWhile (lessN p.1)
theorem takeWhile_at {α : Type} (f : α → Bool) : ∀ (l : List α) (k : Nat), (∀ j x, j < k → l[j]? = some x → f x = true) → (k ≤ l.length) → (∀ x, l[k]? = some x → f x = false) → l.takeWhile f = l.take k ∧ l.dropWhile f = l.drop k
  | [], k, _, hk, _ => by
    have : k = 0 := by simpa using hk
    subst this; simp
  | x :: r, 0, _, _, h2 => by
    have := h2 x rfl
    simp [List.takeWhile, List.dropWhile, this]
  | x :: r, k + 1, h1, hk, h2 => by
    have hx := h1 0 x (by omega) rfl
    obtain ⟨e1, e2⟩ := takeWhile_at f r k (fun j y hj hy => h1 (j + 1) y (by omega) (by simpa using hy)) (by simpa using hk) (fun y hy => h2 y (by simpa using hy))
    simp [List.takeWhile, List.dropWhile, hx, e1, e2]
theorem rwith_at {dir : List (ByteArray × Nat)} {p : ByteArray × Nat} {k : Nat} (h1 : ∀ j x, j < k → dir[j]? = some x → lessN p.1 x = true) (hk : k ≤ dir.length) (h2 : ∀ x, dir[k]? = some x → lessN p.1 x = false) : rwith dir p = dir.take k ++ [p] ++ dir.drop k := by
  obtain ⟨e1, e2⟩ := takeWhile_at (lessN p.1) dir k h1 hk h2
  unfold rwith
  rw [e1, e2]

theorem grown_drew1 (w : World) (row : Option Nat) : w.grownBy w.drew row := ⟨rfl, rfl, rfl, Nat.le_refl _, fun _ _ _ => rfl⟩
theorem nm_empty {W1 : World} {B e : Nat} (h : W1.heap[e]? = some (.cells #[] 94 (0, 0))) (hB : B ≤ e) : NmO W1 B (.slice (some ⟨e, 0, none⟩) 0 0) [] :=
  ⟨rfl, .inr ⟨e, 0, #[], rfl, hB, h, Nat.le_refl _, by unfold maxLen; omega, rfl, rfl⟩⟩
theorem nm_single {W1 : World} {e fi : Nat} {s : ByteArray} (h : W1.heap[e]? = some (.cells #[.string s, .int .i64 fi] 94 (0, 0))) : NmR W1 (.slice (some ⟨e, 0, none⟩) 1 1) [(s, fi)] :=
  .inr ⟨e, 0, 1, rfl, Nat.le_refl _, fun i p hp => by
    match i, hp with
    | 0, hp =>
      cases hp
      exact ⟨by simp [World.cell?, h], by simp [World.cell?, h]⟩⟩

/-- Ahead of the first append, in some order. -/
structure WithAt (w W7 : World) (s : ByteArray) (fi : Nat) (W1 : World) : Prop where
  g : w.grownBy W1 none
  c0 : W1.cell? ⟨w.heap.size, 0, none⟩ = some (.string s)
  c1 : W1.cell? ⟨w.heap.size, 1, none⟩ = some (.int .i64 fi)
theorem WithAt.one {w W7 : World} {s : ByteArray} {fi : Nat} (W1 : World) (h : w.grownBy W7 none) (hg : W7.grownBy W1 none) (h0 : W7.cell? ⟨w.heap.size, 0, none⟩ = some (.string s)) (h1 : W7.cell? ⟨w.heap.size, 1, none⟩ = some (.int .i64 fi)) : WithAt w W7 s fi W1 :=
  ⟨grown_trans h hg, hg.cell h0 (by simp), hg.cell h1 (by simp)⟩
/-- Behind it; n: where the new name lies, if it lies there already. -/
structure WithBe (w w6 : World) (s : ByteArray) (fi : Nat) (v : Value) (l : List (ByteArray × Nat)) (n : Option Nat) : Prop where
  g : w.grownBy w6 none
  c0 : w6.cell? ⟨w.heap.size, 0, none⟩ = some (.string s)
  c1 : w6.cell? ⟨w.heap.size, 1, none⟩ = some (.int .i64 fi)
  own : NmO w6 w.heap.size v l
  n : ∀ i, n = some i → w6.heap[i]? = some (.cells #[.string s, .int .i64 fi] 94 (0, 0))
theorem WithBe.one {w W7 W1 w6 : World} {s : ByteArray} {fi k c6 : Nat} {a6 : Option Addr} {v : Value} {l : List (ByteArray × Nat)} (h : WithAt w W7 s fi W1) (P : NmO w6 w.heap.size (.slice a6 (([] : List (ByteArray × Nat)).length + l.length) c6) ([] ++ l) ∧ w.grownBy w6 none ∧ W1.grownBy w6 v.ownBlock)
    (hne : some w.heap.size ≠ v.ownBlock) (hk : ([] : List (ByteArray × Nat)).length + l.length = k) (n : Option Nat) (hn : ∀ {i}, n = some i → W1.heap[i]? = some (.cells #[.string s, .int .i64 fi] 94 (0, 0)) ∧ some i ≠ v.ownBlock) : WithBe w w6 s fi (.slice a6 k c6) l n := by
  obtain ⟨p1, p2, p3⟩ := P
  rw [hk, List.nil_append] at p1
  refine ⟨p2, p3.cell h.c0 hne, p3.cell h.c1 hne, p1, fun i hi => ?_⟩
  obtain ⟨h1, h2⟩ := hn hi
  exact (p3.block i (Array.getElem?_eq_some_iff.1 h1).1 h2).trans h1

set_option maxHeartbeats 4000000 in
theorem with_any (v : Value) (dir : List (ByteArray × Nat)) (s : ByteArray) (fi : Nat) (w : World) (h : NmR w v dir) (hl : dir.length ≤ 2000000000001) : Calls Try.prog 69 #[v, .agg #[.string s, .int .i64 fi]] w fun e w' => ∃ v', e = .returned v' ∧ NmO w' w.heap.size v' (rwith dir (s, fi)) ∧ w.grownBy w' none := by
  obtain ⟨a, c, rfl⟩ := h.len
  have HN := hid_mk h
  clear h
  have HA : Hid (Blk (w.alloc (.cells #[.string s, .int .i64 fi] 94)) w.heap.size #[.string s, .int .i64 fi] 94 ∧ w.grownBy (w.alloc (.cells #[.string s, .int .i64 fi] 94)) none) := hid_mk ⟨heap_alloc_new _ _, World.grownBy_alloc _ _ _⟩
  go_enter Try.func69, Try.ntmps69
  go_wp2
  generalize (w.alloc (.cells #[.string s, .int .i64 fi] 94)) = w0 at *
  go_loopw [5] (fun iv W1 => ∃ k : Nat, k ≤ dir.length ∧ iv = .int .i64 k ∧ Hid ((∀ j x, j < k → dir[j]? = some x → lessN s x = true) ∧ w0.grownBy W1 none)) (fun iv _ => dir.length - (intOf iv).toNat)
  case atStart => exact ⟨0, Nat.zero_le _, rfl, hid_mk ⟨fun j x hj => by omega, grown_refl _ _⟩⟩
  case round =>
    obtain ⟨k, hk, rfl, H⟩ := hrel
    have n0 : wr.cell? ⟨w.heap.size, 0, none⟩ = some (.string s) := by rw [(HA.out.1.kept H.out.2 (by simp)).cell]; rfl
    have n1 : wr.cell? ⟨w.heap.size, 1, none⟩ = some (.int .i64 fi) := by rw [(HA.out.1.kept H.out.2 (by simp)).cell]; rfl
    have HG := hid_mk (grown_trans HA.out.2 H.out.2)
    by_cases hlt : k < dir.length
    · have hlI : (k : Int) < (dir.length : Int) := by omega
      obtain ⟨b, off, cap, e, hc, hcell⟩ := HN.out.at (by omega)
      injection e with e1 e2 e3
      subst e1
      subst e3
      have hp : dir[k]? = some dir[k] := List.getElem?_eq_getElem hlt
      have HP := hid_mk hp
      have c0 := HG.out.cell (hcell k _ hp).1 (by simp)
      have c1 := HG.out.cell (hcell k _ hp).2 (by simp)
      generalize dir[k] = p at *
      clear hp hcell e2
      obtain ⟨s', fi'⟩ := p
      cases hb : Op.bytesLess s'.toList s.toList with
      | true =>
        go_wp2_with fail
        go_quiet (fail)
        go_wp2_with fail
        refine ⟨⟨k + 1, by omega, by simp, hid_mk ⟨fun j x hj hx => ?_, grown_trans H.out.2 (grown_drewN _ _ _)⟩⟩, by simp [intOf]; omega⟩
        by_cases e : j = k
        · subst e
          rw [HP.out] at hx
          cases hx
          exact hb
        · exact H.out.1 j x (by omega) hx
      | false =>
        have HR := hid_mk (show rwith dir (s, fi) = dir.take k ++ [(s, fi)] ++ dir.drop k from rwith_at H.out.1 hk (fun x hx => by rw [HP.out] at hx; cases hx; exact hb))
        obtain ⟨a1, d1, q1, y1⟩ := HN.out.low k hk
        obtain ⟨a2, d2, q2, y2⟩ := HN.out.high k hk
        go_wp2_with fail
        go_quiet (fail)
        go_wp2_with fail
        have GW := hid_mk (grown_trans HG.out (grown_drewN wr nq none))
        have HSZ := hid_mk (show w.heap.size < (wr.drewN nq).heap.size from Nat.lt_of_lt_of_le HA.out.1.lt (grown_trans H.out.2 (grown_drewN wr nq none)).size)
        have Y1 := hid_mk y1
        have Y2 := hid_mk y2
        have n0' : (wr.drewN nq).cell? ⟨w.heap.size, 0, none⟩ = some (.string s) := n0
        have n1' : (wr.drewN nq).cell? ⟨w.heap.size, 1, none⟩ = some (.int .i64 fi) := n1
        clear y1 y2 c0 c1 n0 n1
        generalize wr.drewN nq = W7 at *
        have FA : WithAt w W7 s fi (W7.alloc (.cells #[] 94)).drew := WithAt.one _ GW.out (grown_trans (World.grownBy_alloc _ _ none) (grown_drew1 _ none)) n0' n1'
        have FC : WithAt w W7 s fi ((W7.alloc (.cells #[] 94)).alloc (.cells #[.string s, .int .i64 fi] 94)).drew := WithAt.one _ GW.out (grown_trans (World.grownBy_alloc _ _ none) (grown_trans (World.grownBy_alloc _ _ none) (grown_drew1 _ none))) n0' n1'
        have FD : WithAt w W7 s fi ((W7.alloc (.cells #[.string s, .int .i64 fi] 94)).alloc (.cells #[] 94)).drew := WithAt.one _ GW.out (grown_trans (World.grownBy_alloc _ _ none) (grown_trans (World.grownBy_alloc _ _ none) (grown_drew1 _ none))) n0' n1'
        have eA : Hid ((W7.alloc (.cells #[] 94)).drew.heap[W7.heap.size]? = some (.cells #[] 94 (0, 0))) := hid_mk (heap_alloc_new W7 _)
        have eC : Hid (((W7.alloc (.cells #[] 94)).alloc (.cells #[.string s, .int .i64 fi] 94)).drew.heap[W7.heap.size]? = some (.cells #[] 94 (0, 0))) := hid_mk (((World.grownBy_alloc (W7.alloc (.cells #[] 94)) (.cells #[.string s, .int .i64 fi] 94) none).block _ (by simp) (by simp)).trans (heap_alloc_new W7 _))
        have eD : Hid (((W7.alloc (.cells #[.string s, .int .i64 fi] 94)).alloc (.cells #[] 94)).drew.heap[W7.heap.size + 1]? = some (.cells #[] 94 (0, 0))) := hid_mk (by
          have := heap_alloc_new (W7.alloc (.cells #[.string s, .int .i64 fi] 94)) (.cells #[] 94)
          rw [show (W7.alloc (.cells #[.string s, .int .i64 fi] 94)).heap.size = W7.heap.size + 1 by simp] at this
          exact this)
        have nC : Hid (((W7.alloc (.cells #[] 94)).alloc (.cells #[.string s, .int .i64 fi] 94)).drew.heap[W7.heap.size + 1]? = some (.cells #[.string s, .int .i64 fi] 94 (0, 0))) := hid_mk (by
          have := heap_alloc_new (W7.alloc (.cells #[] 94)) (.cells #[.string s, .int .i64 fi] 94)
          rw [show (W7.alloc (.cells #[] 94)).heap.size = W7.heap.size + 1 by simp] at this
          exact this)
        have nD : Hid (((W7.alloc (.cells #[.string s, .int .i64 fi] 94)).alloc (.cells #[] 94)).drew.heap[W7.heap.size]? = some (.cells #[.string s, .int .i64 fi] 94 (0, 0))) := hid_mk (((World.grownBy_alloc (W7.alloc (.cells #[.string s, .int .i64 fi] 94)) (.cells #[] 94) none).block _ (by simp) (by simp)).trans (heap_alloc_new W7 _))
        have q0 := FA.c0
        have q1' := FA.c1
        have q2' := FC.c0
        have q3 := FC.c1
        have q4 := FD.c0
        have q5 := FD.c1
        have d0 : W7.drew.cell? ⟨w.heap.size, 0, none⟩ = some (.string s) := n0'
        have d1' : W7.drew.cell? ⟨w.heap.size, 1, none⟩ = some (.int .i64 fi) := n1'
        have HFA := hid_mk FA
        have HFC := hid_mk FC
        have HFD := hid_mk FD
        clear FA FC FD
        go_region_law (first
          | (refine step_append_nm w _ rfl (.tmp 22) (.tmp 25) rfl HFA.out.g (.slice (some ⟨W7.heap.size, 0, none⟩) 0 0) [] rfl (nm_empty eA.out (by have := HSZ.out; omega)) (dir.take k) (.slice a1 k d1) rfl (Y1.out.kept HFA.out.g) (by simp; omega) ?_; intro a6 c6 w6 P6; have Q6 := hid_mk (WithBe.one (k := k) HFA.out P6.out (by have := HSZ.out; simp [Value.ownBlock]; omega) (by simp; omega) none (fun e => by cases e)); have m0 := Q6.out.c0; have m1 := Q6.out.c1; clear P6)
          | (refine step_append_nm w _ rfl (.tmp 22) (.tmp 25) rfl HFC.out.g (.slice (some ⟨W7.heap.size, 0, none⟩) 0 0) [] rfl (nm_empty eC.out (by have := HSZ.out; omega)) (dir.take k) (.slice a1 k d1) rfl (Y1.out.kept HFC.out.g) (by simp; omega) ?_; intro a6 c6 w6 P6; have Q6 := hid_mk (WithBe.one (k := k) HFC.out P6.out (by have := HSZ.out; simp [Value.ownBlock]; omega) (by simp; omega) (some (W7.heap.size + 1)) (fun e => by cases e; exact ⟨nC.out, by simp [Value.ownBlock]⟩)); have m0 := Q6.out.c0; have m1 := Q6.out.c1; clear P6)
          | (refine step_append_nm w _ rfl (.tmp 22) (.tmp 25) rfl HFD.out.g (.slice (some ⟨W7.heap.size + 1, 0, none⟩) 0 0) [] rfl (nm_empty eD.out (by have := HSZ.out; omega)) (dir.take k) (.slice a1 k d1) rfl (Y1.out.kept HFD.out.g) (by simp; omega) ?_; intro a6 c6 w6 P6; have Q6 := hid_mk (WithBe.one (k := k) HFD.out P6.out (by have := HSZ.out; simp [Value.ownBlock]; omega) (by simp; omega) (some W7.heap.size) (fun e => by cases e; exact ⟨nD.out, by simp [Value.ownBlock]⟩)); have m0 := Q6.out.c0; have m1 := Q6.out.c1; clear P6)
          | (refine step_append_nm w _ rfl (.tmp 26) (.tmp 28) rfl (grown_trans Q6.out.g (World.grownBy_alloc _ _ none)) (.slice a6 k c6) (dir.take k) rfl (Q6.out.own.kept (World.grownBy_alloc _ _ none) (noTag_none _ _)) [(s, fi)] (.slice (some ⟨w6.heap.size, 0, none⟩) 1 1) rfl (nm_single (heap_alloc_new _ _)) (by simp; omega) ?_; intro a8 c8 w8 P8; rw [show (dir.take k).length + [(s, fi)].length = k + 1 by simp; omega] at P8)
          | (refine step_append_nm w _ rfl (.tmp 26) (.tmp 28) rfl Q6.out.g (.slice a6 k c6) (dir.take k) rfl Q6.out.own [(s, fi)] (.slice (some ⟨W7.heap.size, 0, none⟩) 1 1) rfl (nm_single (Q6.out.n W7.heap.size rfl)) (by simp; omega) ?_; intro a8 c8 w8 P8; rw [show (dir.take k).length + [(s, fi)].length = k + 1 by simp; omega] at P8)
          | (refine step_append_nm w _ rfl (.tmp 26) (.tmp 28) rfl Q6.out.g (.slice a6 k c6) (dir.take k) rfl Q6.out.own [(s, fi)] (.slice (some ⟨W7.heap.size + 1, 0, none⟩) 1 1) rfl (nm_single (Q6.out.n (W7.heap.size + 1) rfl)) (by simp; omega) ?_; intro a8 c8 w8 P8; rw [show (dir.take k).length + [(s, fi)].length = k + 1 by simp; omega] at P8)
          | (refine step_append_nm w _ rfl (.tmp 29) (.tmp 32) rfl P8.out.2.1 (.slice a8 (k + 1) c8) (dir.take k ++ [(s, fi)]) rfl P8.out.1 (dir.drop k) (.slice a2 (dir.length - k) d2) rfl (Y2.out.kept P8.out.2.1) (by simp; omega) ?_; intro a9 c9 w9 P9; rw [show (dir.take k ++ [(s, fi)]).length + (dir.drop k).length = k + 1 + (dir.length - k) by simp; omega] at P9))
        all_goals (
          go_wp2
          go_ret
          refine ⟨_, rfl, ?_, P9.out.2.1⟩
          rw [HR.out]
          exact P9.out.1)
    · have hlI : ¬ (k : Int) < (dir.length : Int) := by omega
      have HR := hid_mk (show rwith dir (s, fi) = dir.take k ++ [(s, fi)] ++ dir.drop k from rwith_at H.out.1 hk (fun x hx => by rw [List.getElem?_eq_none (by omega)] at hx; cases hx))
      obtain ⟨a1, d1, q1, y1⟩ := HN.out.low k hk
      obtain ⟨a2, d2, q2, y2⟩ := HN.out.high k hk
      go_wp2_with fail
      go_quiet (fail)
      go_wp2_with fail
      have GW := hid_mk (grown_trans HG.out (grown_drewN wr nq none))
      have HSZ := hid_mk (show w.heap.size < (wr.drewN nq).heap.size from Nat.lt_of_lt_of_le HA.out.1.lt (grown_trans H.out.2 (grown_drewN wr nq none)).size)
      have Y1 := hid_mk y1
      have Y2 := hid_mk y2
      have n0' : (wr.drewN nq).cell? ⟨w.heap.size, 0, none⟩ = some (.string s) := n0
      have n1' : (wr.drewN nq).cell? ⟨w.heap.size, 1, none⟩ = some (.int .i64 fi) := n1
      clear y1 y2 n0 n1
      generalize wr.drewN nq = W7 at *
      have FA : WithAt w W7 s fi (W7.alloc (.cells #[] 94)).drew := WithAt.one _ GW.out (grown_trans (World.grownBy_alloc _ _ none) (grown_drew1 _ none)) n0' n1'
      have FC : WithAt w W7 s fi ((W7.alloc (.cells #[] 94)).alloc (.cells #[.string s, .int .i64 fi] 94)).drew := WithAt.one _ GW.out (grown_trans (World.grownBy_alloc _ _ none) (grown_trans (World.grownBy_alloc _ _ none) (grown_drew1 _ none))) n0' n1'
      have FD : WithAt w W7 s fi ((W7.alloc (.cells #[.string s, .int .i64 fi] 94)).alloc (.cells #[] 94)).drew := WithAt.one _ GW.out (grown_trans (World.grownBy_alloc _ _ none) (grown_trans (World.grownBy_alloc _ _ none) (grown_drew1 _ none))) n0' n1'
      have eA : Hid ((W7.alloc (.cells #[] 94)).drew.heap[W7.heap.size]? = some (.cells #[] 94 (0, 0))) := hid_mk (heap_alloc_new W7 _)
      have eC : Hid (((W7.alloc (.cells #[] 94)).alloc (.cells #[.string s, .int .i64 fi] 94)).drew.heap[W7.heap.size]? = some (.cells #[] 94 (0, 0))) := hid_mk (((World.grownBy_alloc (W7.alloc (.cells #[] 94)) (.cells #[.string s, .int .i64 fi] 94) none).block _ (by simp) (by simp)).trans (heap_alloc_new W7 _))
      have eD : Hid (((W7.alloc (.cells #[.string s, .int .i64 fi] 94)).alloc (.cells #[] 94)).drew.heap[W7.heap.size + 1]? = some (.cells #[] 94 (0, 0))) := hid_mk (by
        have := heap_alloc_new (W7.alloc (.cells #[.string s, .int .i64 fi] 94)) (.cells #[] 94)
        rw [show (W7.alloc (.cells #[.string s, .int .i64 fi] 94)).heap.size = W7.heap.size + 1 by simp] at this
        exact this)
      have nC : Hid (((W7.alloc (.cells #[] 94)).alloc (.cells #[.string s, .int .i64 fi] 94)).drew.heap[W7.heap.size + 1]? = some (.cells #[.string s, .int .i64 fi] 94 (0, 0))) := hid_mk (by
        have := heap_alloc_new (W7.alloc (.cells #[] 94)) (.cells #[.string s, .int .i64 fi] 94)
        rw [show (W7.alloc (.cells #[] 94)).heap.size = W7.heap.size + 1 by simp] at this
        exact this)
      have nD : Hid (((W7.alloc (.cells #[.string s, .int .i64 fi] 94)).alloc (.cells #[] 94)).drew.heap[W7.heap.size]? = some (.cells #[.string s, .int .i64 fi] 94 (0, 0))) := hid_mk (((World.grownBy_alloc (W7.alloc (.cells #[.string s, .int .i64 fi] 94)) (.cells #[] 94) none).block _ (by simp) (by simp)).trans (heap_alloc_new W7 _))
      have q0 := FA.c0
      have q1' := FA.c1
      have q2' := FC.c0
      have q3 := FC.c1
      have q4 := FD.c0
      have q5 := FD.c1
      have d0 : W7.drew.cell? ⟨w.heap.size, 0, none⟩ = some (.string s) := n0'
      have d1' : W7.drew.cell? ⟨w.heap.size, 1, none⟩ = some (.int .i64 fi) := n1'
      have HFA := hid_mk FA
      have HFC := hid_mk FC
      have HFD := hid_mk FD
      clear FA FC FD
      go_region_law (first
        | (refine step_append_nm w _ rfl (.tmp 22) (.tmp 25) rfl HFA.out.g (.slice (some ⟨W7.heap.size, 0, none⟩) 0 0) [] rfl (nm_empty eA.out (by have := HSZ.out; omega)) (dir.take k) (.slice a1 k d1) rfl (Y1.out.kept HFA.out.g) (by simp; omega) ?_; intro a6 c6 w6 P6; have Q6 := hid_mk (WithBe.one (k := k) HFA.out P6.out (by have := HSZ.out; simp [Value.ownBlock]; omega) (by simp; omega) none (fun e => by cases e)); have m0 := Q6.out.c0; have m1 := Q6.out.c1; clear P6)
        | (refine step_append_nm w _ rfl (.tmp 22) (.tmp 25) rfl HFC.out.g (.slice (some ⟨W7.heap.size, 0, none⟩) 0 0) [] rfl (nm_empty eC.out (by have := HSZ.out; omega)) (dir.take k) (.slice a1 k d1) rfl (Y1.out.kept HFC.out.g) (by simp; omega) ?_; intro a6 c6 w6 P6; have Q6 := hid_mk (WithBe.one (k := k) HFC.out P6.out (by have := HSZ.out; simp [Value.ownBlock]; omega) (by simp; omega) (some (W7.heap.size + 1)) (fun e => by cases e; exact ⟨nC.out, by simp [Value.ownBlock]⟩)); have m0 := Q6.out.c0; have m1 := Q6.out.c1; clear P6)
        | (refine step_append_nm w _ rfl (.tmp 22) (.tmp 25) rfl HFD.out.g (.slice (some ⟨W7.heap.size + 1, 0, none⟩) 0 0) [] rfl (nm_empty eD.out (by have := HSZ.out; omega)) (dir.take k) (.slice a1 k d1) rfl (Y1.out.kept HFD.out.g) (by simp; omega) ?_; intro a6 c6 w6 P6; have Q6 := hid_mk (WithBe.one (k := k) HFD.out P6.out (by have := HSZ.out; simp [Value.ownBlock]; omega) (by simp; omega) (some W7.heap.size) (fun e => by cases e; exact ⟨nD.out, by simp [Value.ownBlock]⟩)); have m0 := Q6.out.c0; have m1 := Q6.out.c1; clear P6)
        | (refine step_append_nm w _ rfl (.tmp 26) (.tmp 28) rfl (grown_trans Q6.out.g (World.grownBy_alloc _ _ none)) (.slice a6 k c6) (dir.take k) rfl (Q6.out.own.kept (World.grownBy_alloc _ _ none) (noTag_none _ _)) [(s, fi)] (.slice (some ⟨w6.heap.size, 0, none⟩) 1 1) rfl (nm_single (heap_alloc_new _ _)) (by simp; omega) ?_; intro a8 c8 w8 P8; rw [show (dir.take k).length + [(s, fi)].length = k + 1 by simp; omega] at P8)
        | (refine step_append_nm w _ rfl (.tmp 26) (.tmp 28) rfl Q6.out.g (.slice a6 k c6) (dir.take k) rfl Q6.out.own [(s, fi)] (.slice (some ⟨W7.heap.size, 0, none⟩) 1 1) rfl (nm_single (Q6.out.n W7.heap.size rfl)) (by simp; omega) ?_; intro a8 c8 w8 P8; rw [show (dir.take k).length + [(s, fi)].length = k + 1 by simp; omega] at P8)
        | (refine step_append_nm w _ rfl (.tmp 26) (.tmp 28) rfl Q6.out.g (.slice a6 k c6) (dir.take k) rfl Q6.out.own [(s, fi)] (.slice (some ⟨W7.heap.size + 1, 0, none⟩) 1 1) rfl (nm_single (Q6.out.n (W7.heap.size + 1) rfl)) (by simp; omega) ?_; intro a8 c8 w8 P8; rw [show (dir.take k).length + [(s, fi)].length = k + 1 by simp; omega] at P8)
        | (refine step_append_nm w _ rfl (.tmp 29) (.tmp 32) rfl P8.out.2.1 (.slice a8 (k + 1) c8) (dir.take k ++ [(s, fi)]) rfl P8.out.1 (dir.drop k) (.slice a2 (dir.length - k) d2) rfl (Y2.out.kept P8.out.2.1) (by simp; omega) ?_; intro a9 c9 w9 P9; rw [show (dir.take k ++ [(s, fi)]).length + (dir.drop k).length = k + 1 + (dir.length - k) by simp; omega] at P9))
      all_goals (
        go_wp2
        go_ret
        refine ⟨_, rfl, ?_, P9.out.2.1⟩
        rw [HR.out]
        exact P9.out.1)


end Go.Proofs.Ytopablemfajecaa
