/- A reader: the document's. -/
import Derived.Test.YtckblgpalbedhaaWRdC
import Derived.Deep.LoopGhost
namespace Go.Proofs.Ytckblgpalbedhaa.W
open Go.RowKit Go.Maps
set_option linter.unusedVariables false
set_option linter.unusedSimpArgs false

/-- The document's reader. -/
structure Rr (w : World) (M N b : Nat) (s : St) : Prop where
  lo : M ≤ b
  hi : b < N
  blk : ∃ bv B at_, w.heap[b]? = some (.cells #[bv, .int .i64 (at_ : Nat), .int .i64 s.e] 93 (0, 0)) ∧ BytIn w M N bv B ∧ at_ ≤ B.length ∧ s.rest = B.drop at_ ∧ B.length ≤ 140737488355328
theorem Rr.kept {w w' : World} {M N b : Nat} {s : St} (h : Rr w M N b s) {row : Option Nat} (hg : w.grownBy w' row) (hr : ∀ r, row = some r → r < M ∨ N ≤ r) : Rr w' M N b s := by
  obtain ⟨hM, hN, bv, B, at_, hb, hy, rest⟩ := h
  refine ⟨hM, hN, bv, B, at_, (hg.block b (Array.getElem?_eq_some_iff.1 hb).1 (fun e => ?_)).trans hb, hy.kept hg hr, rest⟩
  have := hr b e.symm
  omega
theorem Rr.wide {w : World} {M N M' N' b : Nat} {s : St} (h : Rr w M N b s) (hM : M' ≤ M) (hN : N ≤ N') : Rr w M' N' b s := by
  obtain ⟨h1, h2, bv, B, at_, hb, hy, rest⟩ := h
  exact ⟨by omega, by omega, bv, B, at_, hb, hy.wide hM hN, rest⟩
theorem rr_cells {w : World} {b : Nat} {x y z : Value} (hb : w.heap[b]? = some (.cells #[x, y, z] 93 (0, 0))) : w.cell? ⟨b, 0, none⟩ = some x ∧ w.cell? ⟨b, 1, none⟩ = some y ∧ w.cell? ⟨b, 2, none⟩ = some z ∧ ∀ i, w.frozen? ⟨b, i, none⟩ = false :=
  ⟨by rw [cell_of_row _ _ _ _ _ _ hb]; rfl, by rw [cell_of_row _ _ _ _ _ _ hb]; rfl, by rw [cell_of_row _ _ _ _ _ _ hb]; rfl, fun i => by simp [World.frozen?, hb]⟩
theorem rr_ne {w : World} {b : Nat} {a0 : Option Addr} {n0 c0 : Nat} {y z : Int} {ty : TypeId} (hb : w.heap[b]? = some (.cells #[.slice a0 n0 c0, .int .i64 y, .int .i64 z] ty (0, 0))) {v : Value} {l : List UInt8} (h : Byt w v l) (h0 : 0 < l.length) : ∀ ad n c, v = .slice (some ad) n c → ad.block ≠ b := by
  intro ad n c hv he
  obtain ⟨b', off, cap, e', _, hc⟩ := h.at h0
  rw [hv] at e'
  injection e' with e1 _ _
  injection e1 with e1
  subst e1
  simp only at he
  subst he
  have := hc 0 l[0] (by simp)
  rw [cell_of_row _ _ _ _ _ _ hb] at this
  match off, this with
  | 0, this => simp at this
  | 1, this => simp at this
  | 2, this => simp at this
  | k + 3, this => simp at this
/-- What a store into the reader leaves. -/
theorem rr_store {w W : World} {M N b : Nat} {bv : Value} {B : List UInt8} {at0 e0 : Nat} (hM : M ≤ b) (hN : b < N) (hb : w.heap[b]? = some (.cells #[bv, .int .i64 at0, .int .i64 e0] 93 (0, 0))) (hy : BytIn w M N bv B) (hB : B.length ≤ 140737488355328)
    (hg : w.grownBy W (some b)) (at1 e1 : Nat) (hW : W.heap[b]? = some (.cells #[bv, .int .i64 at1, .int .i64 e1] 93 (0, 0))) (h1 : at1 ≤ B.length) : Rr W M N b ⟨B.drop at1, e1⟩ := by
  refine ⟨hM, hN, bv, B, at1, hW, ⟨?_, hy.inb⟩, h1, rfl, hB⟩
  obtain ⟨a, c, rfl⟩ := hy.byt.len
  have hne := fun h0 => rr_ne hb hy.byt h0
  rcases hy.byt with hh | ⟨b', off', cap', e', hcap, hc⟩
  · exact .inl hh
  · refine .inr ⟨b', off', cap', e', hcap, fun j u hj => hg.cell (hc j u hj) (fun he => ?_)⟩
    have hj0 := (List.getElem?_eq_some_iff.1 hj).1
    injection he with he
    injection e' with e1 e2 e3
    exact hne (Nat.lt_of_le_of_lt (Nat.zero_le _) hj0) ⟨b', off', none⟩ B.length c (by rw [e1]) he

/-- Left, from the cells. -/
theorem rleft_raw (b : Nat) (a : Option Addr) (n c k : Nat) (w : World) (h0 : w.cell? ⟨b, 0, none⟩ = some (.slice a n c)) (h1 : w.cell? ⟨b, 1, none⟩ = some (.int .i64 k)) (hk : k ≤ n) (hn : n ≤ 140737488355328) :
    Calls Try.prog 65 #[.pointer (some ⟨b, 0, none⟩)] w fun e w' => e = .returned (.int .i64 ((n - k : Nat) : Int)) ∧ ∃ m, w' = w.drewN m := by
  go_enter Try.func65, Try.ntmps65
  go_wp2
  go_quiet (fail)
  go_wp2
  go_ret
  exact ⟨ret_int (by first | omega | (rw [IntKind.wrap_i64]; omega)), nq, rfl⟩
theorem rleft_any (M N b : Nat) (s : St) (w : World) (h : Rr w M N b s) : Calls Try.prog 65 #[.pointer (some ⟨b, 0, none⟩)] w fun e w' => e = .returned (.int .i64 s.rest.length) ∧ ∃ m, w' = w.drewN m := by
  obtain ⟨_, _, bv, B, k, hb, hy, hk, hr, hB⟩ := h
  obtain ⟨a, c, rfl⟩ := hy.byt.len
  obtain ⟨c0, c1, c2, _⟩ := rr_cells hb
  rw [hr, List.length_drop]
  exact rleft_raw b a B.length c k w c0 c1 hk hB
theorem rend_any (M N b : Nat) (s : St) (w : World) (h : Rr w M N b s) : Calls Try.prog 61 #[.pointer (some ⟨b, 0, none⟩)] w fun e w' => e = .returned (.int .i64 (endE s)) ∧ ∃ m, w' = w.drewN m := by
  have H := hid_mk h
  obtain ⟨_, _, bv, B, k, hb, hy, hk, hr, hB⟩ := h
  obtain ⟨c0, c1, c2, _⟩ := rr_cells hb
  have HE := hid_mk (show endE s = if s.e ≠ 0 then s.e else if 0 < s.rest.length then 21 else 0 from rfl)
  clear hy hr hb c0 c1
  generalize endE s = E at *
  by_cases he : s.e = 0
  · have he' : ((s.e : Int) == 0) = true := by simp [he]
    by_cases h0 : s.rest.length = 0
    · have HX := hid_mk (show E = 0 by rw [HE.out]; simp [he, h0])
      have HZ := hid_mk (show s.e = E by rw [HX.out]; exact he)
      go_enter Try.func61, Try.ntmps61
      go_wp2_with (go_at_call 65; refine (rleft_any M N b s _ H.out).mono ?_; rintro e wx ⟨rfl, m, rfl⟩)
      go_ret
      exact ⟨ret_int (by first | rfl | (have := HX.out; omega) | (rw [HZ.out])), m, rfl⟩
    · have h0' : 0 < (s.rest.length : Int) := by omega
      have HX := hid_mk (show E = 21 by rw [HE.out]; rw [if_neg (by omega), if_pos (by omega)])
      go_enter Try.func61, Try.ntmps61
      go_wp2_with (go_at_call 65; refine (rleft_any M N b s _ H.out).mono ?_; rintro e wx ⟨rfl, m, rfl⟩)
      go_ret
      exact ⟨ret_int (by rw [HX.out]; rfl), m, rfl⟩
  · have HX := hid_mk (show E = s.e by rw [HE.out, if_pos he])
    have he' : ((s.e : Int) == 0) = false := by simp; omega
    go_enter Try.func61, Try.ntmps61
    go_wp2_with (go_at_call 65; refine (rleft_any M N b s _ H.out).mono ?_; rintro e wx ⟨rfl, m, rfl⟩)
    go_ret
    exact ⟨ret_int (by rw [HX.out]), 0, rfl⟩

/-- New. -/
theorem rnew_any (v : Value) (l : List UInt8) (w : World) (h : Byt w v l) (hl : l.length ≤ 140737488355328) :
    Calls Try.prog 59 #[v] w fun e w' => ∃ b, e = .returned (.pointer (some ⟨b, 0, none⟩)) ∧ Rr w' w.heap.size w'.heap.size b ⟨l, 0⟩ ∧ w.grownBy w' none := by
  obtain ⟨av, capv, rfl⟩ := h.len
  have HB := hid_mk h
  have HO := hid_mk (own_empty w)
  clear h
  go_enter Try.func59, Try.ntmps59
  go_wp2_with (at_builtin; refine wpList_append_new w _ rfl (.tmp 3) (.tmp 4) rfl (World.grownBy_alloc _ _ _) (.slice (some ⟨w.heap.size, 0, none⟩) 0 0) [] rfl HO.out l _ rfl (HB.out.kept (World.grownBy_alloc _ _ _)) (by simp; omega) ?_; intro a1 c1 w1 O1; simp only [List.length_nil, Nat.zero_add, List.nil_append] at O1 ⊢)
  go_ret
  refine ⟨w1.heap.size, rfl, ⟨O1.out.2.1.size, by simp, _, l, 0, heap_alloc_new _ _, ?_, Nat.zero_le _, by simp, hl⟩, grown_trans O1.out.2.1 (World.grownBy_alloc _ _ _)⟩
  exact (O1.out.1.inb.kept (World.grownBy_alloc _ _ none) (fun r hr => by cases hr)).wide (Nat.le_refl _) (by simp)

end Go.Proofs.Ytckblgpalbedhaa.W
