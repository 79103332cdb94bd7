/- net: letters appended; Send. -/
import Derived.Test.YthidpnjndhelbaaNbL
namespace Go.Proofs.Ythidpnjndhelbaa
open Go.RowKit Go.Maps
set_option linter.unusedVariables false
set_option linter.unusedSimpArgs false
set_option maxRecDepth 100000

/-- append(l, ms...), rows of letters. -/
theorem appL {t st : TypeId} (hu : Try.prog.underlying st = some (.slice t)) (hinf : (Try.prog.info? t).map (fun i => (i.zero, i.size, i.bytes)) = some (some (.agg #[.int .i64 0, .int .i64 0, .slice none 0 0]), 3, 40)) {W : World} {B : Nat} {v : Value} {l : List LV} (h : OwnL t W B v l) (ms : List LV) (ad : Addr) (c : Nat) (hc : ∀ j u, (lts ms)[j]? = some u → W.cell? (ad.add j) = some u) (hone : OneL ms) (hl : l.length + ms.length ≤ 1000000) (hB : B ≤ W.heap.size) (ty : TypeId) :
    ∃ a' c' W', (Builtin.append_ #[st, st] ty #[v, .slice (some ad) ms.length c]).run Try.prog W = .ok (.slice a' (l.length + ms.length) c') W' ∧ OwnL t W' B (.slice a' (l.length + ms.length) c') (l ++ ms) ∧ W.grownBy W' v.ownBlock ∧ ((Value.slice a' (l.length + ms.length) c').ownBlock = v.ownBlock ∨ (Value.slice a' (l.length + ms.length) c').ownBlock = some W.heap.size) := by
  obtain ⟨i0, hi, hz0, hz1, hz2⟩ := info_parts hinf
  obtain ⟨v', w', hr, hown, hg, _, hbl⟩ := run_append_own_at (P := Try.prog) W B st ty t i0 _ 3 40 hu hi hz0 hz1 hz2 rfl (by decide) v l.length (lts l) h ad ms.length c (lts ms) (lts_len ms) hc hone (by unfold maxLen; omega) (by omega) hB
  obtain ⟨a', c', rfl⟩ := row_shape hown
  refine ⟨a', c', w', hr, ?_, hg, hbl⟩
  unfold OwnL
  rw [lts_append, List.length_append]
  exact hown
theorem add_at (b o j : Nat) : (⟨b, o, none⟩ : Addr).add j = ⟨b, o + j, none⟩ := by unfold Addr.add; split <;> simp_all
theorem one_src {W : World} {q : Nat} {x : LV} {t : TypeId} (hq : Blk W q (ltC x).toArray t) : ∀ j u, (lts [x])[j]? = some u → W.cell? ((⟨q, 0, none⟩ : Addr).add j) = some u := fun j u hj => by
  rw [add_at, Nat.zero_add, hq.cell]
  simpa [lts] using hj
theorem oneL_one {x : LV} (h : x.2.oneCell' = true) : OneL [x] := fun u hu => by
  simp [lts, ltC] at hu
  rcases hu with rfl | rfl | rfl
  · rfl
  · rfl
  · exact h
theorem oneL_own {w : World} {B : Nat} {v : Value} {l : List UInt8} (h : Own w B v l) : v.oneCell' = true := by
  obtain ⟨a, c, rfl⟩ := h.len
  rfl
def sendE (g : NetG) (x : Lt) : Int := if okL x.fr x.tw x.b.length = true then (if g.most ≤ g.L.length then 7 else 0) else 1
def addG (g : NetG) (x : LV) : NetG := ⟨g.most, g.L ++ [x], g.W⟩
theorem addG_ok {g : NetG} (h : OkN g) {x : LV} (hx : okL x.1.fr x.1.tw x.1.b.length = true) (hf : ¬ g.most ≤ g.L.length) : OkN (addG g x) := ⟨h.lo, h.hi, by
  show ((g.L ++ [x]).length : Int) ≤ g.most
  simp
  omega, fun p hp => by
  rcases List.mem_append.1 hp with hp | hp
  · exact h.lts p hp
  · simp at hp; subst hp; exact hx⟩
theorem send_no {w : World} {p : Value} (h : NoN w p) (x : Value) (hx : ∃ a b c, x = .agg #[a, b, c]) : Calls Try.prog 17 #[p, x] w fun e w' => e = .returned (.int .i64 1) ∧ w.grownBy w' none := by
  obtain ⟨a, b, c, rfl⟩ := hx
  have HG := hid_mk (World.grownBy_alloc w (.cells #[a, b, c] 39) none)
  have HM := hid_mk (h.kept HG.out)
  clear h
  go_enter Try.func17, Try.ntmps17
  go_wp2_with (go_at_call 38; refine (made_no HM.out).mono ?_; rintro e w' ⟨rfl, hw⟩; rw [hw]; clear hw)
  go_ret
  exact ⟨rfl, HG.out⟩
set_option maxHeartbeats 1000000 in
theorem send_bad {w : World} {B b : Nat} {v : Value} {g : NetG} (h : IsN w B b v g) (fr tw : Int) (a : Option Addr) (n c : Nat) (hb : okL fr tw n = false) : Calls Try.prog 17 #[.pointer (some ⟨b, 0, none⟩), .agg #[.int .i64 fr, .int .i64 tw, .slice a n c]] w fun e w' => e = .returned (.int .i64 1) ∧ w.grownBy w' none := by
  have HG := hid_mk (World.grownBy_alloc w (.cells #[.int .i64 fr, .int .i64 tw, .slice a n c] 39) none)
  have HM := hid_mk (made_any (h.kept HG.out))
  have HB := hid_mk (mayBe_any fr tw a n c)
  have HE := hid_mk hb
  clear h hb
  go_enter Try.func17, Try.ntmps17
  go_wp2_with (first | (go_at_call 38; refine HM.out.mono ?_; rintro e w' ⟨rfl, hw⟩; rw [hw]; clear hw) | (go_at_call 39; refine (HB.out _).mono ?_; rintro e w2 ⟨rfl, hw2⟩; have HG2 := hid_mk (grown_trans HG.out hw2); clear hw2; rw [HE.out]))
  go_ret
  exact ⟨rfl, HG2.out⟩
set_option maxHeartbeats 1000000 in
theorem send_full {w : World} {B b : Nat} {v : Value} {g : NetG} (h : IsN w B b v g) (fr tw : Int) (a : Option Addr) (n c : Nat) (hb : okL fr tw n = true) (hf : g.most ≤ g.L.length) : Calls Try.prog 17 #[.pointer (some ⟨b, 0, none⟩), .agg #[.int .i64 fr, .int .i64 tw, .slice a n c]] w fun e w' => e = .returned (.int .i64 7) ∧ w.grownBy w' none := by
  have HG := hid_mk (World.grownBy_alloc w (.cells #[.int .i64 fr, .int .i64 tw, .slice a n c] 39) none)
  have HM := hid_mk (made_any (h.kept HG.out))
  have HB := hid_mk (mayBe_any fr tw a n c)
  have HE := hid_mk (And.intro hb (And.intro h (decide_eq_true hf)))
  clear h hb hf
  go_enter Try.func17, Try.ntmps17
  go_wp2_with (first | (go_at_call 38; refine HM.out.mono ?_; rintro e w' ⟨rfl, hw⟩; rw [hw]; clear hw) | (go_at_call 39; refine (HB.out _).mono ?_; rintro e w2 ⟨rfl, hw2⟩; have HG2 := hid_mk (grown_trans HG.out hw2); clear hw2; rw [HE.out.1]) | (go_at_call 40; refine (full_any (HE.out.2.1.kept HG2.out)).mono ?_; rintro e w3 ⟨rfl, nq, hw3⟩; rw [hw3, HE.out.2.2]; clear hw3))
  go_ret
  exact ⟨rfl, grown_trans HG2.out (grown_drewN _ _ none)⟩
end Go.Proofs.Ythidpnjndhelbaa
