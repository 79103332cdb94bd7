/- Bytes that can be read, bytes of one's own; append; Lent, Stays, Clone. -/
import Derived.Test.YthbfjpaimnhpgabVA
import Derived.Maps.OwnSet
import Derived.Maps.AppendAt
import Derived.WalkKit
import Derived.WalkSpells
import Derived.WalkLawsBesides
import Derived.Deep.QuietTactic
import Derived.BigQuiet
import Derived.LoopTactic
import Derived.Lib.BufferRead
import Derived.Laws.CopyOwn
import Derived.Deep.RegionWith
import Derived.BigRegion
namespace Go.Proofs.Ythbfjpaimnhpgab
open Go.RowKit Go.Maps
set_option linter.unusedVariables false
set_option linter.unusedSimpArgs false


theorem grown_setCell (w : World) (b i : Nat) (v : Value) : w.grownBy (w.setCell ⟨b, i, none⟩ v) (some b) :=
  ⟨rfl, rfl, rfl, by simp [World.setCell], fun k _ hne => Below.heap_setCell _ _ _ _ (fun e => hne (by rw [e]))⟩
def u8s (l : List UInt8) : List Value := l.map fun c => .int .u8 c.toNat
theorem u8s_len (l : List UInt8) : (u8s l).length = l.length := by simp [u8s]
theorem u8s_append (a b : List UInt8) : u8s (a ++ b) = u8s a ++ u8s b := by simp [u8s]
theorem u8s_one (l : List UInt8) : ∀ u ∈ u8s l, u.oneCell' = true := by
  intro u hu
  obtain ⟨c, _, rfl⟩ := List.mem_map.1 hu
  rfl

/-- A slice of bytes that can be read. -/
def Byt (w : World) (v : Value) (l : List UInt8) : Prop :=
  (l = [] ∧ ∃ a cap, v = .slice a 0 cap ∧ (a = none → cap = 0)) ∨ ∃ b off cap, v = .slice (some ⟨b, off, none⟩) l.length cap ∧ l.length ≤ cap ∧ ∀ (j : Nat) u, l[j]? = some u → w.cell? ⟨b, off + j, none⟩ = some (.int .u8 u.toNat)

theorem Byt.len {w : World} {v : Value} {l : List UInt8} (h : Byt w v l) : ∃ a cap, v = .slice a l.length cap := by
  rcases h with ⟨rfl, a, cap, rfl, _⟩ | ⟨b, off, cap, rfl, _⟩
  · exact ⟨_, _, rfl⟩
  · exact ⟨_, _, rfl⟩
theorem Byt.kept {w w' : World} {v : Value} {l : List UInt8} (h : Byt w v l) (hg : w.grownBy w' none) : Byt w' v l := by
  rcases h with h | ⟨b, off, cap, hv, hl, hc⟩
  · exact .inl h
  · exact .inr ⟨b, off, cap, hv, hl, fun j u hj => hg.cell (hc j u hj) (by simp)⟩
theorem Byt.nil (w : World) : Byt w (.slice none 0 0) [] := .inl ⟨rfl, none, 0, rfl, fun _ => rfl⟩



theorem elem22 : Try.prog.elem 24 = 5 := by kernel_rfl
theorem under22 : Try.prog.underlying 24 = some (.slice (Try.prog.elem 24)) := by rw [elem22]; exact Try.underlying24

/-- A part of what can be read can be read. -/
theorem Byt.part {w : World} {a : Option Addr} {l : List UInt8} {cap : Nat} (h : Byt w (.slice a l.length cap) l) (i j : Nat) (hij : i ≤ j) (hj : j ≤ l.length) : Byt w (sliced a i j cap 1) ((l.take j).drop i) := by
  rcases h with ⟨rfl, a', cap', e, hn⟩ | ⟨b, off, cap', e, hl, hc⟩
  · cases e
    have hj0 : j = 0 := by simpa using hj
    subst hj0
    have hi0 : i = 0 := by omega
    subst hi0
    refine .inl ⟨by simp, ?_⟩
    unfold sliced
    refine ⟨_, _, rfl, ?_⟩
    split
    · simpa using hn
    · intro hm; cases a <;> simp_all
  · cases e
    unfold sliced
    by_cases hm : cap = i
    · have : l.length = i := by omega
      subst hm
      have hji : j = cap := by omega
      subst hji
      refine .inl ⟨?_, ?_⟩
      · simp
      · exact ⟨some ⟨b, off, none⟩, 0, by simp, by simp⟩
    · rw [if_neg hm]
      refine .inr ⟨b, off + i, cap - i, ?_, ?_, fun k u hk => ?_⟩
      · simp [Addr.add]; omega
      · simp; omega
      · rw [List.getElem?_drop, List.getElem?_take] at hk
        split at hk
        · have := hc (i + k) u hk
          rw [Nat.add_assoc]; exact this
        · cases hk

theorem sliced_slice (a : Option Addr) (i j cap : Nat) : ∃ a' cap', sliced a i j cap 1 = .slice a' (j - i) cap' := ⟨_, _, rfl⟩

theorem Byt.lh {w : World} {v : Value} {l : List UInt8} (h : Byt w v l) (i j : Nat) (hij : i ≤ j) (hj : j ≤ l.length) :
    ∃ a' cap', (∀ w', (Instr.slice 24 v (some (.int .i64 i)) (some (.int .i64 j)) none).run Try.prog w' = .ok (.slice a' (j - i) cap') w') ∧ Byt w (.slice a' (j - i) cap') ((l.take j).drop i) := by
  have hcap : ∀ a cap, v = .slice a l.length cap → l.length ≤ cap := fun a cap e => by
    rcases h with ⟨rfl, a', cap', e', hn⟩ | ⟨b, off, cap', e', hl, hc⟩
    · simp
    · rw [e] at e'; cases e'; exact hl
  obtain ⟨a, cap, rfl⟩ := h.len
  have hlc := hcap a cap rfl
  obtain ⟨a', cap', e⟩ := sliced_slice a i j cap
  have hp := h.part i j hij hj
  rw [e] at hp
  refine ⟨a', cap', fun w' => ?_, hp⟩
  rw [run_slice_lh w' 24 a l.length cap under22 .i64 .i64 i j (by omega) (by omega) (by omega), elem22, Try.sizeOf5 w']
  simp only [Result.andThen, Int.toNat_natCast]
  rw [e]
theorem Byt.l {w : World} {v : Value} {l : List UInt8} (h : Byt w v l) (i : Nat) (hi : i ≤ l.length) :
    ∃ a' cap', (∀ w', (Instr.slice 24 v (some (.int .i64 i)) none none).run Try.prog w' = .ok (.slice a' (l.length - i) cap') w') ∧ Byt w (.slice a' (l.length - i) cap') (l.drop i) := by
  obtain ⟨a, cap, rfl⟩ := h.len
  obtain ⟨a', cap', e⟩ := sliced_slice a i l.length cap
  have hp := h.part i l.length hi (Nat.le_refl _)
  rw [e, List.take_length] at hp
  refine ⟨a', cap', fun w' => ?_, hp⟩
  rw [run_slice_l w' 24 a l.length cap under22 .i64 i (by omega) (by omega), elem22, Try.sizeOf5 w']
  simp only [Result.andThen, Int.toNat_natCast]
  rw [e]
theorem Byt.h {w : World} {v : Value} {l : List UInt8} (h : Byt w v l) (j : Nat) (hj : j ≤ l.length) :
    ∃ a' cap', (∀ w', (Instr.slice 24 v none (some (.int .i64 j)) none).run Try.prog w' = .ok (.slice a' j cap') w') ∧ Byt w (.slice a' j cap') (l.take j) := by
  have hcap : ∀ a cap, v = .slice a l.length cap → l.length ≤ cap := fun a cap e => by
    rcases h with ⟨rfl, a', cap', e', hn⟩ | ⟨b, off, cap', e', hl, hc⟩
    · simp
    · rw [e] at e'; cases e'; exact hl
  obtain ⟨a, cap, rfl⟩ := h.len
  have hlc := hcap a cap rfl
  obtain ⟨a', cap', e⟩ := sliced_slice a 0 j cap
  have hp := h.part 0 j (Nat.zero_le _) hj
  rw [e] at hp
  refine ⟨a', cap', fun w' => ?_, by simpa using hp⟩
  rw [run_slice_h w' 24 a l.length cap under22 .i64 j (by omega) (by omega), elem22, Try.sizeOf5 w']
  simp only [Result.andThen, Int.toNat_natCast]
  rw [e]; simp

/-- The address of what is not empty. -/
theorem Byt.at {w : World} {v : Value} {l : List UInt8} (h : Byt w v l) (h0 : 0 < l.length) : ∃ b off cap, v = .slice (some ⟨b, off, none⟩) l.length cap ∧ l.length ≤ cap ∧ ∀ (j : Nat) u, l[j]? = some u → w.cell? ⟨b, off + j, none⟩ = some (.int .u8 u.toNat) := by
  rcases h with ⟨rfl, _⟩ | h
  · simp at h0
  · exact h

theorem Byt.text {w : World} {v : Value} {l : List UInt8} (h : Byt w v l) : (convert 24 9 v).run Try.prog w = .ok (.string ⟨l.toArray⟩) w := by
  rcases h with ⟨rfl, a, cap, rfl, hn⟩ | ⟨b, off, cap, rfl, _, hc⟩
  · cases a with
    | none => obtain rfl := hn rfl; exact Lib.run_convert_nil_bytes w 24 9 5 0 Try.underlying24 Try.underlying5 Try.underlying9
    | some a => exact run_convert_bytes_back w 24 9 5 a cap [] Try.underlying24 Try.underlying5 Try.underlying9 (fun j hj => by simp at hj)
  · refine run_convert_bytes_back w 24 9 5 ⟨b, off, none⟩ cap l Try.underlying24 Try.underlying5 Try.underlying9 (fun j hj => ?_)
    have := hc j l[j] (by simp)
    rw [← this]; congr 1; unfold Addr.add; split <;> simp_all

/-! ### Numbers -/
theorem num_any (n : Int) (w : World) : Calls Try.prog 6 #[.int .i64 n] w fun e w' => e = .returned (.int .i64 n) ∧ w' = w := by
  go_enter Try.func6, Try.ntmps6
  go_wp2
  go_ret
  exact ⟨rfl, rfl⟩


theorem info5 : (Try.prog.info? 5).map (fun i => (i.zero, i.size, i.bytes)) = some (some (.int .u8 0), 1, 1) := by kernel_rfl

/-- Bytes of one's own. -/
def Own (w : World) (B : Nat) (v : Value) (l : List UInt8) : Prop := w.ownsRow B 5 1 v l.length (u8s l)

theorem Own.len {w : World} {B : Nat} {v : Value} {l : List UInt8} (h : Own w B v l) : ∃ a cap, v = .slice a l.length cap := by
  rcases h.2 with ⟨rfl, h0⟩ | ⟨g, cap, cur, rfl, _⟩
  · exact ⟨none, 0, by rw [h0]⟩
  · exact ⟨_, _, rfl⟩
theorem Own.base {w : World} {B B' : Nat} {v : Value} {l : List UInt8} (h : Own w B v l) (hb : B' ≤ B) : Own w B' v l := by
  refine ⟨h.1, ?_⟩
  rcases h.2 with hn | ⟨g, cap, cur, hv, hbg, rest⟩
  · exact .inl hn
  · exact .inr ⟨g, cap, cur, hv, by omega, rest⟩
theorem Own.at {w : World} {B : Nat} {v : Value} {l : List UInt8} (h : Own w B v l) (h0 : 0 < l.length) : ∃ g cap cur, v = .slice (some ⟨g, 0, none⟩) l.length cap ∧ B ≤ g ∧ w.heap[g]? = some (.cells cur 5 (0, 0)) ∧ l.length ≤ cap ∧ cap ≤ maxLen ∧ cur.size = cap ∧ cur.toList.take l.length = u8s l := by
  rcases h.2 with ⟨_, h0'⟩ | ⟨g, cap, cur, hv, hb, hg, h1, h2, h3, h4⟩
  · omega
  · exact ⟨g, cap, cur, hv, hb, hg, h1, h2, by simpa using h3, by simpa using h4⟩
theorem Own.byt {w : World} {B : Nat} {v : Value} {l : List UInt8} (h : Own w B v l) : Byt w v l := by
  rcases h.2 with ⟨rfl, h0⟩ | ⟨g, cap, cur, hv, hb, hg, h1, h2, h3, h4⟩
  · obtain rfl : l = [] := List.length_eq_zero_iff.1 h0
    exact Byt.nil w
  · refine .inr ⟨g, 0, cap, hv, h1, fun j u hj => ?_⟩
    have hj' : (u8s l)[j]? = some (.int .u8 u.toNat) := by simp [u8s, hj]
    rw [← h4, List.getElem?_take] at hj'
    simp only [World.cell?, hg, Nat.zero_add]
    split at hj'
    · simpa using hj'
    · cases hj'
theorem Own.kept {w w' : World} {B : Nat} {v : Value} {l : List UInt8} {row : Option Nat} (h : Own w B v l) (hg : w.grownBy w' row) (hr : row = none ∨ v.ownBlock ≠ row) : Own w' B v l := by
  refine ⟨h.1, ?_⟩
  rcases h.2 with hn | ⟨g, cap, cur, hv, hb, hh, rest⟩
  · exact .inl hn
  · refine .inr ⟨g, cap, cur, hv, hb, ?_, rest⟩
    refine (hg.block g (Array.getElem?_eq_some_iff.1 hh).1 ?_).trans hh
    rcases hr with rfl | hr
    · simp
    · rw [hv] at hr; exact hr

/-- append of bytes that can be read onto bytes of one's own. -/
theorem wpList_append_byt (w : World) {ops : Array Oper} {rest : List Oper} {o : Oper} {a : Act} {Q : Exit → Act → World → Prop} (hgd : o.guard = none) (s x : Operand)
    (ho : o.op = .call { callee := .builtin .append, args := #[s, x], argTypes := #[24, 24] }) (B : Nat) (hB : B ≤ w.heap.size)
    (v : Value) (l0 : List UInt8) (hs : a.eval s = v) (hown : Own w B v l0) (l : List UInt8) (sv : Value) (hx : a.eval x = sv) (hsrc : Byt w sv l) (h47 : l0.length + l.length ≤ 140737488355328)
    (h : ∀ a' cap' w', Own w' B (.slice a' (l0.length + l.length) cap') (l0 ++ l) → w.grownBy w' v.ownBlock → ((Value.slice a' (l0.length + l.length) cap').ownBlock = v.ownBlock ∨ (Value.slice a' (l0.length + l.length) cap').ownBlock = some w.heap.size) → wpList Try.prog ops Q rest (a.put o.dst (.slice a' (l0.length + l.length) cap')) w') :
    wpList Try.prog ops Q (o :: rest) a w := by
  obtain ⟨i, hi, hz, hsize, hby⟩ := info_parts info5
  have hsrc' : (sv = .slice none 0 0 ∧ l = []) ∨ ∃ ad c, sv = .slice (some ad) l.length c ∧ ∀ j u, (u8s l)[j]? = some u → w.cell? (ad.add j) = some u := by
    clear hi hz hsize hby h hown
    rcases hsrc with ⟨rfl, a', cap', rfl, hn⟩ | ⟨b, off, cap', rfl, _, hc⟩
    · cases a' with
      | none => obtain rfl := hn rfl; exact .inl ⟨rfl, rfl⟩
      | some a' => exact .inr ⟨a', cap', rfl, fun j u hj => by simp [u8s] at hj⟩
    · refine .inr ⟨_, cap', rfl, fun j u hj => ?_⟩
      simp only [u8s, List.getElem?_map, Option.map_eq_some_iff] at hj
      obtain ⟨c, hc', rfl⟩ := hj
      have := hc j c hc'
      rw [← this]; congr 1; unfold Addr.add; split <;> simp_all
  have e0 : u8s (l0 ++ l) = u8s l0 ++ u8s l := u8s_append _ _
  rcases hsrc' with ⟨rfl, rfl⟩ | ⟨ad, c, rfl, hc⟩
  · refine wpList_plain hgd fun K hK' => ?_
    have hrun := run_append_owned_none (P := Try.prog) w B 24 o.type 5 i 1 Try.underlying24 hi v l0.length (u8s l0) hown
    obtain ⟨a1, c1, rfl⟩ := hown.len
    unfold Oper.wp
    simp [execOp, ho, resolve, invoke, builtin, hs, hx, hrun, Result.andThen]
    exact hK' _ _ (by simpa using h a1 c1 w (by simpa using hown) (grown_refl _ _) (.inl rfl))
  · refine wpList_append_own_at (P := Try.prog) w hgd s x 24 ho B 5 i (.int .u8 0) 1 1 Try.underlying24 hi hz hsize hby rfl (by decide) v l0.length (u8s l0) hs hown ad l.length c (u8s l) hx (by simp [u8s_len]) hc (u8s_one l) (by unfold maxLen; omega) (by omega) hB ?_
    intro v' w' h1 h2 _ h4
    have h1' : Own w' B v' (l0 ++ l) := by unfold Own; rw [e0, List.length_append]; exact h1
    obtain ⟨a1, c1, e⟩ := h1'.len
    rw [List.length_append] at e
    subst e
    exact h a1 c1 w' h1' h2 h4

/-- An empty slice that was made. -/
theorem own_empty (w : World) : Own (w.alloc (.cells #[] 5)) w.heap.size (.slice (some ⟨w.heap.size, 0, none⟩) 0 0) [] :=
  World.ownsRow_made (e := 5) (size := 1) (base := w.heap.size) w #[] 0 (Nat.le_refl _) (by unfold maxLen; omega) (by simp)

/-- .. and of all that lay when the call began nothing has turned. -/
theorem wpList_append_new (w0 w : World) {ops : Array Oper} {rest : List Oper} {o : Oper} {a : Act} {Q : Exit → Act → World → Prop} (hgd : o.guard = none) (s x : Operand)
    (ho : o.op = .call { callee := .builtin .append, args := #[s, x], argTypes := #[24, 24] }) (hg0 : w0.grownBy w none)
    (v : Value) (l0 : List UInt8) (hs : a.eval s = v) (hown : Own w w0.heap.size v l0) (l : List UInt8) (sv : Value) (hx : a.eval x = sv) (hsrc : Byt w sv l) (h47 : l0.length + l.length ≤ 140737488355328)
    (h : ∀ a' cap' w', Hid (Own w' w0.heap.size (.slice a' (l0.length + l.length) cap') (l0 ++ l) ∧ w0.grownBy w' none ∧ w.grownBy w' v.ownBlock) → wpList Try.prog ops Q rest (a.put o.dst (.slice a' (l0.length + l.length) cap')) w') :
    wpList Try.prog ops Q (o :: rest) a w := by
  refine wpList_append_byt w hgd s x ho w0.heap.size hg0.size v l0 hs hown l sv hx hsrc h47 ?_
  intro a' cap' w' h1 h2 h3
  refine h a' cap' w' (hid_mk ⟨h1, ?_, h2⟩)
  cases hv : v.ownBlock with
  | none => rw [hv] at h2; exact grown_trans hg0 h2
  | some r =>
    rw [hv] at h2
    refine grown_new hg0 h2 ?_
    rcases hown.2 with ⟨rfl, _⟩ | ⟨g, cap, cur, rfl, hb, _⟩
    · cases hv
    · cases hv; exact hb

/-- .. where something is there. -/
theorem wpList_append_at (w0 w : World) (n : Nat) {ops : Array Oper} {rest : List Oper} {o : Oper} {a : Act} {Q : Exit → Act → World → Prop} (hgd : o.guard = none) (s x : Operand)
    (ho : o.op = .call { callee := .builtin .append, args := #[s, x], argTypes := #[24, 24] }) (hg0 : w0.grownBy w none)
    (v : Value) (l0 : List UInt8) (hs : a.eval s = v) (hown : Own w w0.heap.size v l0) (l : List UInt8) (sv : Value) (hx : a.eval x = sv) (hsrc : Byt w sv l) (hn : l0.length + l.length = n) (hn0 : 0 < n) (h47 : n ≤ 140737488355328)
    (h : ∀ g cap' w', n ≤ cap' → Hid (Own w' w0.heap.size (.slice (some ⟨g, 0, none⟩) n cap') (l0 ++ l) ∧ w0.grownBy w' none ∧ w0.heap.size ≤ g) → wpList Try.prog ops Q rest (a.put o.dst (.slice (some ⟨g, 0, none⟩) n cap')) w') :
    wpList Try.prog ops Q (o :: rest) a w := by
  refine wpList_append_new w0 w hgd s x ho hg0 v l0 hs hown l sv hx hsrc (by omega) ?_
  intro a' cap' w' O
  rw [hn] at O ⊢
  have hl : (l0 ++ l).length = n := by simp [hn]
  obtain ⟨g, cc, cur, E, hB, hb, hL, hM, hS, hT⟩ := O.out.1.at (by omega)
  rw [hl] at E hL
  injection E with e1 e2 e3
  subst e1
  subst e3
  exact h g cap' w' hL (hid_mk ⟨O.out.1, O.out.2.1, hB⟩)

theorem byt_marks (w : World) : Byt (w.alloc (.cells #[.int .u8 201, .int .u8 202] 5)) (.slice (some ⟨w.heap.size, 0, none⟩) 2 2) [201, 202] := by
  refine .inr ⟨w.heap.size, 0, 2, rfl, Nat.le_refl _, fun j u hj => ?_⟩
  have hb : (w.alloc (.cells #[.int .u8 201, .int .u8 202] 5)).heap[w.heap.size]? = some (.cells #[.int .u8 201, .int .u8 202] 5 (0, 0)) := heap_alloc_new w _
  simp only [World.cell?, hb]
  match j, hj with
  | 0, hj => simp at hj; subst hj; rfl
  | 1, hj => simp at hj; subst hj; rfl

/-- What was lent, as it is lent. -/
theorem lent_byt {w : World} {B g cap : Nat} {l : List UInt8} (h : Own w B (.slice (some ⟨g, 0, none⟩) (l.length + 2) cap) (l ++ [201, 202])) :
    Byt w (.slice (some ⟨g, 0, none⟩) l.length cap) l ∧ w.cell? ⟨g, l.length, none⟩ = some (.int .u8 201) ∧ w.cell? ⟨g, l.length + 1, none⟩ = some (.int .u8 202) ∧ l.length + 2 ≤ cap := by
  have hl : (l ++ [201, 202]).length = l.length + 2 := by simp
  obtain ⟨b, off, cap', e, hcap, hc⟩ := h.byt.at (by omega)
  rw [hl] at e hcap
  cases e
  refine ⟨.inr ⟨g, 0, cap, rfl, by omega, fun j u hj => hc j u ?_⟩, ?_, ?_, hcap⟩
  · rw [List.getElem?_append_left (List.getElem?_eq_some_iff.1 hj).1]; exact hj
  · simpa using hc l.length 201 (by rw [List.getElem?_append_right (by omega)]; simp)
  · simpa using hc (l.length + 1) 202 (by rw [List.getElem?_append_right (by omega)]; simp)

theorem byt_drewN {w : World} {v : Value} {l : List UInt8} (h : Byt w v l) (nq : Nat) : (convert 24 9 v).run Try.prog (w.drewN nq) = .ok (.string ⟨l.toArray⟩) (w.drewN nq) := (h.kept (grown_drewN w nq none)).text

/-- A block of bytes. -/
def BlkB (w : World) (g : Nat) (l : List UInt8) : Prop := w.heap[g]? = some (.cells (u8s l).toArray 5 (0, 0))
theorem BlkB.cell {w : World} {g : Nat} {l : List UInt8} (h : BlkB w g l) (i : Nat) (u : UInt8) (hi : l[i]? = some u) : w.cell? ⟨g, i, none⟩ = some (.int .u8 u.toNat) := by
  unfold BlkB at h; simp [World.cell?, h, u8s, hi]
theorem BlkB.there {w : World} {g : Nat} {l : List UInt8} (h : BlkB w g l) (i : Nat) (hi : i < l.length) : ∃ v, w.cell? ⟨g, i, none⟩ = some (.int .u8 v) := ⟨_, h.cell i l[i] (by simp)⟩
theorem BlkB.frozen {w : World} {g : Nat} {l : List UInt8} (h : BlkB w g l) (i : Nat) : w.frozen? ⟨g, i, none⟩ = false := by
  unfold BlkB at h; simp [World.frozen?, h]
theorem BlkB.set {w : World} {g : Nat} {l : List UInt8} (h : BlkB w g l) (i : Nat) (u : UInt8) (z : Int) (hz : z = u.toNat) : BlkB (w.setCell ⟨g, i, none⟩ (.int .u8 z)) g (l.set i u) := by
  unfold BlkB at *
  simp [World.setCell, Array.getElem?_modify, h, u8s, hz, List.map_set]
theorem BlkB.lt {w : World} {g : Nat} {l : List UInt8} (h : BlkB w g l) : g < w.heap.size := (Array.getElem?_eq_some_iff.1 h).1
theorem BlkB.kept {w w' : World} {g : Nat} {l : List UInt8} (h : BlkB w g l) (hg : w.grownBy w' none) : BlkB w' g l := (hg.block g h.lt (by simp)).trans h
theorem BlkB.byt {w : World} {g : Nat} {l : List UInt8} (h : BlkB w g l) : Byt w (.slice (some ⟨g, 0, none⟩) l.length l.length) l := .inr ⟨g, 0, l.length, rfl, Nat.le_refl _, fun j u hj => by simpa using h.cell j u hj⟩
theorem BlkB.own {w : World} {g : Nat} {l : List UInt8} (h : BlkB w g l) (hl : l.length ≤ maxLen) : Own w g (.slice (some ⟨g, 0, none⟩) l.length l.length) l :=
  ⟨by simp [u8s], .inr ⟨g, l.length, (u8s l).toArray, rfl, Nat.le_refl _, h, Nat.le_refl _, hl, by simp [u8s], by rw [Nat.mul_one, ← u8s_len l]; simp⟩⟩



theorem own_new (w : World) (l : List UInt8) (cs : Array Value) (hcs : cs = (u8s l).toArray) (hl : l.length ≤ maxLen) : Own (w.alloc (.cells cs 5)) w.heap.size (.slice (some ⟨w.heap.size, 0, none⟩) l.length l.length) l := by
  subst hcs
  have hb : BlkB (w.alloc (.cells (u8s l).toArray 5)) w.heap.size l := heap_alloc_new w _
  exact hb.own hl

/-- append, with what it turned. -/
theorem wpList_append_by (w0 w : World) (n : Nat) {ops : Array Oper} {rest : List Oper} {o : Oper} {a : Act} {Q : Exit → Act → World → Prop} (hgd : o.guard = none) (s x : Operand)
    (ho : o.op = .call { callee := .builtin .append, args := #[s, x], argTypes := #[24, 24] }) (hg0 : w0.grownBy w none)
    (v : Value) (l0 : List UInt8) (hs : a.eval s = v) (hown : Own w w0.heap.size v l0) (l : List UInt8) (sv : Value) (hx : a.eval x = sv) (hsrc : Byt w sv l) (hn : l0.length + l.length = n) (hn0 : 0 < n) (h47 : n ≤ 140737488355328)
    (h : ∀ g cap' w', n ≤ cap' → Hid (Own w' w0.heap.size (.slice (some ⟨g, 0, none⟩) n cap') (l0 ++ l) ∧ w0.grownBy w' none ∧ w0.heap.size ≤ g ∧ w.grownBy w' v.ownBlock) → wpList Try.prog ops Q rest (a.put o.dst (.slice (some ⟨g, 0, none⟩) n cap')) w') :
    wpList Try.prog ops Q (o :: rest) a w := by
  refine wpList_append_new w0 w hgd s x ho hg0 v l0 hs hown l sv hx hsrc (by omega) ?_
  intro a' cap' w' O
  rw [hn] at O ⊢
  have hl : (l0 ++ l).length = n := by simp [hn]
  obtain ⟨g, cc, cur, E, hB, hb, hL, hM, hS, hT⟩ := O.out.1.at (by omega)
  rw [hl] at E hL
  injection E with e1 e2 e3
  subst e1
  subst e3
  exact h g cap' w' hL (hid_mk ⟨O.out.1, O.out.2.1, hB, O.out.2.2⟩)
/-- What is not in the turned block can be read on. -/
theorem Byt.kept_but {w w' : World} {b off n cap r : Nat} {l : List UInt8} (h : Byt w (.slice (some ⟨b, off, none⟩) n cap) l) (hg : w.grownBy w' (some r)) (hr : b ≠ r) : Byt w' (.slice (some ⟨b, off, none⟩) n cap) l := by
  rcases h with h | ⟨b', off', cap', e, hl, hc⟩
  · exact .inl h
  · cases e
    exact .inr ⟨b, off, cap, rfl, hl, fun j u hj => hg.cell (hc j u hj) (by simpa using hr)⟩



theorem below_of_grown {w w' : World} (h : w.grownBy w' none) : Below w.heap.size w w' := ⟨h.os, h.tape, h.output, h.size, fun k hk => h.block k hk (by simp)⟩
theorem grown_of_below {w w' : World} (h : Below w.heap.size w w') : w.grownBy w' none := ⟨h.os, h.tape, h.output, h.size, fun k hk _ => h.block k hk⟩

theorem Own.kept_low {w w' : World} {B r : Nat} {v : Value} {l : List UInt8} (h : Own w B v l) (hg : w.grownBy w' (some r)) (hr : r < B) : Own w' B v l := by
  refine h.kept hg (.inr ?_)
  rcases h.2 with ⟨rfl, _⟩ | ⟨g, cap, cur, rfl, hb, _⟩
  · simp [Value.ownBlock]
  · simp [Value.ownBlock]; omega
theorem grown_drew (w : World) (row : Option Nat) : w.grownBy w.drew row := ⟨rfl, rfl, rfl, Nat.le_refl _, fun _ _ _ => rfl⟩


theorem Byt.set {w : World} {b off n cap : Nat} {l : List UInt8} (h : Byt w (.slice (some ⟨b, off, none⟩) n cap) l) (k : Nat) (hk : k < l.length) (y : UInt8) (z : Int) (hz : z = y.toNat) :
    Byt (w.setCell ⟨b, off + k, none⟩ (.int .u8 z)) (.slice (some ⟨b, off, none⟩) n cap) (l.set k y) := by
  obtain ⟨b', off', cap', e, hcap, hc⟩ := h.at (by omega)
  cases e
  refine .inr ⟨b, off, cap, by simp, by simpa using hcap, fun j u hj => ?_⟩
  by_cases hjk : j = k
  · subst hjk
    rw [List.getElem?_set_self hk] at hj
    cases hj
    rw [hz]
    exact World.cell?_setCell_same' _ _ _ (by rw [hc j l[j] (by simp)]; rfl)
  · rw [List.getElem?_set_ne (by omega)] at hj
    refine Eq.trans ?_ (hc j u hj)
    apply World.cell?_setCell_other
    intro e; injection e; omega

theorem lent_blk {w : World} {B g n cap : Nat} {l : List UInt8} (h : Own w B (.slice (some ⟨g, 0, none⟩) n cap) l) : B ≤ g ∧ ∀ i, w.frozen? ⟨g, i, none⟩ = false := by
  rcases h.2 with ⟨e, _⟩ | ⟨g', cap', cur, e, hb, hg, _⟩
  · cases e
  · injection e with e1 _ _
    injection e1 with e2
    injection e2 with e3
    subst e3
    exact ⟨hb, fun i => by simp [World.frozen?, hg]⟩

end Go.Proofs.Ythbfjpaimnhpgab
