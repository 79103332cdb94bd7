/- Lent, Stays, Clone; a frame put. -/
import Derived.Test.YtpikocpbgnhooaaGreatDoorFByte
import Derived.Laws.CopyOwn
import Derived.Deep.RegionWith
import Derived.BigRegion
namespace Go.Proofs.YtpikocpbgnhooaaGreatDoor.F
open Go.RowKit Go.Maps
set_option linter.unusedVariables false
set_option linter.unusedSimpArgs false
set_option maxRecDepth 100000

theorem info5 : (Tryz.prog.info? 5).map (fun i => (i.zero, i.size, i.bytes)) = some (some (.int .u8 0), 1, 1) := by kernel_rfl

/-- Bytes of one's own. -/
def Own (w : World) (B : Nat) (v : Value) (l : List UInt8) : Prop := w.ownsRow B 5 1 v l.length (u8s l)

theorem Own.len {w : World} {B : Nat} {v : Value} {l : List UInt8} (h : Own w B v l) : ∃ a cap, v = .slice a l.length cap := by
  rcases h.2 with ⟨rfl, h0⟩ | ⟨g, cap, cur, rfl, _⟩
  · exact ⟨none, 0, by rw [h0]⟩
  · exact ⟨_, _, rfl⟩
theorem Own.base {w : World} {B B' : Nat} {v : Value} {l : List UInt8} (h : Own w B v l) (hb : B' ≤ B) : Own w B' v l := by
  refine ⟨h.1, ?_⟩
  rcases h.2 with hn | ⟨g, cap, cur, hv, hbg, rest⟩
  · exact .inl hn
  · exact .inr ⟨g, cap, cur, hv, by omega, rest⟩
theorem Own.at {w : World} {B : Nat} {v : Value} {l : List UInt8} (h : Own w B v l) (h0 : 0 < l.length) : ∃ g cap cur, v = .slice (some ⟨g, 0, none⟩) l.length cap ∧ B ≤ g ∧ w.heap[g]? = some (.cells cur 5 (0, 0)) ∧ l.length ≤ cap ∧ cap ≤ maxLen ∧ cur.size = cap ∧ cur.toList.take l.length = u8s l := by
  rcases h.2 with ⟨_, h0'⟩ | ⟨g, cap, cur, hv, hb, hg, h1, h2, h3, h4⟩
  · omega
  · exact ⟨g, cap, cur, hv, hb, hg, h1, h2, by simpa using h3, by simpa using h4⟩
theorem Own.byt {w : World} {B : Nat} {v : Value} {l : List UInt8} (h : Own w B v l) : Byt w v l := by
  rcases h.2 with ⟨rfl, h0⟩ | ⟨g, cap, cur, hv, hb, hg, h1, h2, h3, h4⟩
  · obtain rfl : l = [] := List.length_eq_zero_iff.1 h0
    exact Byt.nil w
  · refine .inr ⟨g, 0, cap, hv, h1, fun j u hj => ?_⟩
    have hj' : (u8s l)[j]? = some (.int .u8 u.toNat) := by simp [u8s, hj]
    rw [← h4, List.getElem?_take] at hj'
    simp only [World.cell?, hg, Nat.zero_add]
    split at hj'
    · simpa using hj'
    · cases hj'
theorem Own.kept {w w' : World} {B : Nat} {v : Value} {l : List UInt8} {row : Option Nat} (h : Own w B v l) (hg : w.grownBy w' row) (hr : row = none ∨ v.ownBlock ≠ row) : Own w' B v l := by
  refine ⟨h.1, ?_⟩
  rcases h.2 with hn | ⟨g, cap, cur, hv, hb, hh, rest⟩
  · exact .inl hn
  · refine .inr ⟨g, cap, cur, hv, hb, ?_, rest⟩
    refine (hg.block g (Array.getElem?_eq_some_iff.1 hh).1 ?_).trans hh
    rcases hr with rfl | hr
    · simp
    · rw [hv] at hr; exact hr

/-- append of bytes that can be read onto bytes of one's own. -/
theorem wpList_append_byt (w : World) {ops : Array Oper} {rest : List Oper} {o : Oper} {a : Act} {Q : Exit → Act → World → Prop} (hgd : o.guard = none) (s x : Operand)
    (ho : o.op = .call { callee := .builtin .append, args := #[s, x], argTypes := #[24, 24] }) (B : Nat) (hB : B ≤ w.heap.size)
    (v : Value) (l0 : List UInt8) (hs : a.eval s = v) (hown : Own w B v l0) (l : List UInt8) (sv : Value) (hx : a.eval x = sv) (hsrc : Byt w sv l) (h47 : l0.length + l.length ≤ 140737488355328)
    (h : ∀ a' cap' w', Own w' B (.slice a' (l0.length + l.length) cap') (l0 ++ l) → w.grownBy w' v.ownBlock → ((Value.slice a' (l0.length + l.length) cap').ownBlock = v.ownBlock ∨ (Value.slice a' (l0.length + l.length) cap').ownBlock = some w.heap.size) → wpList Tryz.prog ops Q rest (a.put o.dst (.slice a' (l0.length + l.length) cap')) w') :
    wpList Tryz.prog ops Q (o :: rest) a w := by
  obtain ⟨i, hi, hz, hsize, hby⟩ := info_parts info5
  have hsrc' : (sv = .slice none 0 0 ∧ l = []) ∨ ∃ ad c, sv = .slice (some ad) l.length c ∧ ∀ j u, (u8s l)[j]? = some u → w.cell? (ad.add j) = some u := by
    clear hi hz hsize hby h hown
    rcases hsrc with ⟨rfl, a', cap', rfl, hn⟩ | ⟨b, off, cap', rfl, _, hc⟩
    · cases a' with
      | none => obtain rfl := hn rfl; exact .inl ⟨rfl, rfl⟩
      | some a' => exact .inr ⟨a', cap', rfl, fun j u hj => by simp [u8s] at hj⟩
    · refine .inr ⟨_, cap', rfl, fun j u hj => ?_⟩
      simp only [u8s, List.getElem?_map, Option.map_eq_some_iff] at hj
      obtain ⟨c, hc', rfl⟩ := hj
      have := hc j c hc'
      rw [← this]; congr 1; unfold Addr.add; split <;> simp_all
  have e0 : u8s (l0 ++ l) = u8s l0 ++ u8s l := u8s_append _ _
  rcases hsrc' with ⟨rfl, rfl⟩ | ⟨ad, c, rfl, hc⟩
  · refine wpList_plain hgd fun K hK' => ?_
    have hrun := run_append_owned_none (P := Tryz.prog) w B 24 o.type 5 i 1 Tryz.underlying24 hi v l0.length (u8s l0) hown
    obtain ⟨a1, c1, rfl⟩ := hown.len
    unfold Oper.wp
    simp [execOp, ho, resolve, invoke, builtin, hs, hx, hrun, Result.andThen]
    exact hK' _ _ (by simpa using h a1 c1 w (by simpa using hown) (grown_refl _ _) (.inl rfl))
  · refine wpList_append_own_at (P := Tryz.prog) w hgd s x 24 ho B 5 i (.int .u8 0) 1 1 Tryz.underlying24 hi hz hsize hby rfl (by decide) v l0.length (u8s l0) hs hown ad l.length c (u8s l) hx (by simp [u8s_len]) hc (u8s_one l) (by unfold maxLen; omega) (by omega) hB ?_
    intro v' w' h1 h2 _ h4
    have h1' : Own w' B v' (l0 ++ l) := by unfold Own; rw [e0, List.length_append]; exact h1
    obtain ⟨a1, c1, e⟩ := h1'.len
    rw [List.length_append] at e
    subst e
    exact h a1 c1 w' h1' h2 h4

/-- An empty slice that was made. -/
theorem own_empty (w : World) : Own (w.alloc (.cells #[] 5)) w.heap.size (.slice (some ⟨w.heap.size, 0, none⟩) 0 0) [] :=
  World.ownsRow_made (e := 5) (size := 1) (base := w.heap.size) w #[] 0 (Nat.le_refl _) (by unfold maxLen; omega) (by simp)

/-- .. and of all that lay when the call began nothing has turned. -/
theorem wpList_append_new (w0 w : World) {ops : Array Oper} {rest : List Oper} {o : Oper} {a : Act} {Q : Exit → Act → World → Prop} (hgd : o.guard = none) (s x : Operand)
    (ho : o.op = .call { callee := .builtin .append, args := #[s, x], argTypes := #[24, 24] }) (hg0 : w0.grownBy w none)
    (v : Value) (l0 : List UInt8) (hs : a.eval s = v) (hown : Own w w0.heap.size v l0) (l : List UInt8) (sv : Value) (hx : a.eval x = sv) (hsrc : Byt w sv l) (h47 : l0.length + l.length ≤ 140737488355328)
    (h : ∀ a' cap' w', Hid (Own w' w0.heap.size (.slice a' (l0.length + l.length) cap') (l0 ++ l) ∧ w0.grownBy w' none ∧ w.grownBy w' v.ownBlock) → wpList Tryz.prog ops Q rest (a.put o.dst (.slice a' (l0.length + l.length) cap')) w') :
    wpList Tryz.prog ops Q (o :: rest) a w := by
  refine wpList_append_byt w hgd s x ho w0.heap.size hg0.size v l0 hs hown l sv hx hsrc h47 ?_
  intro a' cap' w' h1 h2 h3
  refine h a' cap' w' (hid_mk ⟨h1, ?_, h2⟩)
  cases hv : v.ownBlock with
  | none => rw [hv] at h2; exact grown_trans hg0 h2
  | some r =>
    rw [hv] at h2
    refine grown_new hg0 h2 ?_
    rcases hown.2 with ⟨rfl, _⟩ | ⟨g, cap, cur, rfl, hb, _⟩
    · cases hv
    · cases hv; exact hb

/-- .. where something is there. -/
theorem wpList_append_at (w0 w : World) (n : Nat) {ops : Array Oper} {rest : List Oper} {o : Oper} {a : Act} {Q : Exit → Act → World → Prop} (hgd : o.guard = none) (s x : Operand)
    (ho : o.op = .call { callee := .builtin .append, args := #[s, x], argTypes := #[24, 24] }) (hg0 : w0.grownBy w none)
    (v : Value) (l0 : List UInt8) (hs : a.eval s = v) (hown : Own w w0.heap.size v l0) (l : List UInt8) (sv : Value) (hx : a.eval x = sv) (hsrc : Byt w sv l) (hn : l0.length + l.length = n) (hn0 : 0 < n) (h47 : n ≤ 140737488355328)
    (h : ∀ g cap' w', n ≤ cap' → Hid (Own w' w0.heap.size (.slice (some ⟨g, 0, none⟩) n cap') (l0 ++ l) ∧ w0.grownBy w' none ∧ w0.heap.size ≤ g) → wpList Tryz.prog ops Q rest (a.put o.dst (.slice (some ⟨g, 0, none⟩) n cap')) w') :
    wpList Tryz.prog ops Q (o :: rest) a w := by
  refine wpList_append_new w0 w hgd s x ho hg0 v l0 hs hown l sv hx hsrc (by omega) ?_
  intro a' cap' w' O
  rw [hn] at O ⊢
  have hl : (l0 ++ l).length = n := by simp [hn]
  obtain ⟨g, cc, cur, E, hB, hb, hL, hM, hS, hT⟩ := O.out.1.at (by omega)
  rw [hl] at E hL
  injection E with e1 e2 e3
  subst e1
  subst e3
  exact h g cap' w' hL (hid_mk ⟨O.out.1, O.out.2.1, hB⟩)

theorem byt_marks (w : World) : Byt (w.alloc (.cells #[.int .u8 201, .int .u8 202] 5)) (.slice (some ⟨w.heap.size, 0, none⟩) 2 2) [201, 202] := by
  refine .inr ⟨w.heap.size, 0, 2, rfl, Nat.le_refl _, fun j u hj => ?_⟩
  have hb : (w.alloc (.cells #[.int .u8 201, .int .u8 202] 5)).heap[w.heap.size]? = some (.cells #[.int .u8 201, .int .u8 202] 5 (0, 0)) := heap_alloc_new w _
  simp only [World.cell?, hb]
  match j, hj with
  | 0, hj => simp at hj; subst hj; rfl
  | 1, hj => simp at hj; subst hj; rfl

/-- What was lent, as it is lent. -/
theorem lent_byt {w : World} {B g cap : Nat} {l : List UInt8} (h : Own w B (.slice (some ⟨g, 0, none⟩) (l.length + 2) cap) (l ++ [201, 202])) :
    Byt w (.slice (some ⟨g, 0, none⟩) l.length cap) l ∧ w.cell? ⟨g, l.length, none⟩ = some (.int .u8 201) ∧ w.cell? ⟨g, l.length + 1, none⟩ = some (.int .u8 202) ∧ l.length + 2 ≤ cap := by
  have hl : (l ++ [201, 202]).length = l.length + 2 := by simp
  obtain ⟨b, off, cap', e, hcap, hc⟩ := h.byt.at (by omega)
  rw [hl] at e hcap
  cases e
  refine ⟨.inr ⟨g, 0, cap, rfl, by omega, fun j u hj => hc j u ?_⟩, ?_, ?_, hcap⟩
  · rw [List.getElem?_append_left (List.getElem?_eq_some_iff.1 hj).1]; exact hj
  · simpa using hc l.length 201 (by rw [List.getElem?_append_right (by omega)]; simp)
  · simpa using hc (l.length + 1) 202 (by rw [List.getElem?_append_right (by omega)]; simp)

theorem byt_drewN {w : World} {v : Value} {l : List UInt8} (h : Byt w v l) (nq : Nat) : (convert 24 9 v).run Tryz.prog (w.drewN nq) = .ok (.string ⟨l.toArray⟩) (w.drewN nq) := (h.kept (grown_drewN w nq none)).text

set_option maxHeartbeats 1000000 in
theorem clone_any (v : Value) (l : List UInt8) (w : World) (h : Byt w v l) (hl : l.length ≤ 140737488355328) :
    Calls Tryz.prog 61 #[v] w fun e w' => ∃ v', e = .returned v' ∧ Own w' w.heap.size v' l ∧ w.grownBy w' none := by
  obtain ⟨av, capv, rfl⟩ := h.len
  cases av with
  | none =>
    obtain ⟨rfl, rfl⟩ : l = [] ∧ capv = 0 := by
      rcases h with ⟨rfl, a', cap', e, hn⟩ | ⟨b, off, cap', e, _⟩
      · cases e; exact ⟨rfl, hn rfl⟩
      · cases e
    have hq := fun w => Lib.run_eql_slice_nil (P := Tryz.prog) w 24 5 none 0 0 0 0 Tryz.underlying24
    clear h
    go_enter Tryz.func61, Tryz.ntmps61
    go_wp2
    go_ret
    exact ⟨_, rfl, World.ownsRow_nil _ _ _ _, grown_refl _ _⟩
  | some a =>
    have hq := fun w => Lib.run_eql_slice_nil (P := Tryz.prog) w 24 5 (some a) l.length capv 0 0 Tryz.underlying24
    have HB := hid_mk h
    have HO := hid_mk (own_empty w)
    clear h
    go_enter Tryz.func61, Tryz.ntmps61
    go_wp2_with (at_builtin; refine wpList_append_new w _ rfl (.tmp 5) (.tmp 6) rfl (World.grownBy_alloc _ _ _) (.slice (some ⟨w.heap.size, 0, none⟩) 0 0) [] rfl HO.out l _ rfl (HB.out.kept (World.grownBy_alloc _ _ _)) (by simp; omega) ?_; intro a1 c1 w1 O1; simp only [List.length_nil, Nat.zero_add, List.nil_append] at O1 ⊢)
    go_ret
    exact ⟨_, rfl, O1.out.1, O1.out.2.1⟩

end Go.Proofs.YtpikocpbgnhooaaGreatDoor.F
