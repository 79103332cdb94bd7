import Derived.Test.YtlpkphdgadgmiaaGreatDoorKf
import Derived.Test.YtlpkphdgadgmiaaGreatDoorVKp
import Derived.Test.YtlpkphdgadgmiaaGreatDoorKa
namespace Go.Proofs.YtlpkphdgadgmiaaGreatDoor.W
open Go.RowKit Go.Maps
set_option linter.unusedVariables false
set_option linter.unusedSimpArgs false
set_option maxRecDepth 100000

structure EsG (W : World) (G : Nat → Prop) (v : Value) (ps : List (Ent × Value)) : Prop where
 row : W.ownsRow 0 51 4 v ps.length (ps.flatMap entCells)
 rowG : ∀ k, v.ownBlock = some k → G k
 own : ∀ p ∈ ps, Own W 0 p.2 p.1.data ∧ p.1.data.length ≤ 140737488355328
 ownG : ∀ p ∈ ps, ∀ k, p.2.ownBlock = some k → G k
theorem EsG.kept {W W' : World} {G : Nat → Prop} {v : Value} {ps : List (Ent × Value)} (h : EsG W G v ps) (hg : W.grownBy W' none) : EsG W' G v ps :=
 ⟨owns_kept h.row hg (fun _ _ _ => by simp), h.rowG, fun p hp => ⟨(h.own p hp).1.kept hg (.inl rfl), (h.own p hp).2⟩, h.ownG⟩
theorem EsG.keeps {W W' : World} {F G : Nat → Prop} {v : Value} {ps : List (Ent × Value)} (h : EsG W G v ps) (hk : V.Keeps F W W') (hF : ∀ k, G k → ¬ F k) : EsG W' G v ps :=
 ⟨V.rows_keeps h.row hk (fun k e => hF k (h.rowG k e)), h.rowG, fun p hp => ⟨V.rows_keeps (h.own p hp).1 hk (fun k e => hF k (h.ownG p hp k e)), (h.own p hp).2⟩, h.ownG⟩
theorem EsG.wide {W : World} {G G' : Nat → Prop} {v : Value} {ps : List (Ent × Value)} (h : EsG W G v ps) (hG : ∀ k, G k → G' k) : EsG W G' v ps :=
 ⟨h.row, fun k e => hG k (h.rowG k e), h.own, fun p hp k e => hG k (h.ownG p hp k e)⟩
theorem EsG.nil (W : World) (G : Nat → Prop) : EsG W G (.slice none 0 0) [] := ⟨World.ownsRow_nil _ _ _ _, fun k e => (by cases e), fun p hp => (by cases hp), fun p hp => (by cases hp)⟩
theorem EsG.bound {W : World} {G : Nat → Prop} {v : Value} {ps : List (Ent × Value)} (h : EsG W G v ps) : EsG W (fun k => G k ∧ k < W.heap.size) v ps := by
 have key : ∀ {n sz : Nat} {e : TypeId} {v : Value} {xs : List Value}, W.ownsRow 0 e sz v n xs → ∀ k, v.ownBlock = some k → k < W.heap.size := fun hr k hk => by
  rcases hr.2 with ⟨rfl, _⟩ | ⟨g, cap, cur, rfl, _, hg, _⟩
  ·cases hk
  ·cases hk; exact (Array.getElem?_eq_some_iff.1 hg).1
 exact ⟨h.row, fun k e => ⟨h.rowG k e, key h.row k e⟩, h.own, fun p hp k e => ⟨h.ownG p hp k e, key (h.own p hp).1 k e⟩⟩
theorem EsG.reads {W : World} {G : Nat → Prop} {v : Value} {ps : List (Ent × Value)} (h : EsG W G v ps) : EntsR W v (ps.map (·.1)) := by
 rcases h.row.2 with ⟨rfl, h0⟩ | ⟨g, cap, cur, rfl, hb, hg, h1, h2, h3, h4⟩
 ·obtain rfl : ps = [] := List.length_eq_zero_iff.1 h0
  exact EntsR.nil _
 ·refine .inr ⟨g, 0, cap, by simp, by simpa using h1, fun j x hj => ?_⟩
  rw [List.getElem?_map, Option.map_eq_some_iff] at hj
  obtain ⟨p, hp, rfl⟩ := hj
  have hl : j < ps.length := (List.getElem?_eq_some_iff.1 hp).1
  have key : ∀ i, i < 4 → W.cell? ⟨g, 0 + j * 4 + i, none⟩ = (entCells p)[i]? := fun i hi => by
   rw [← entCells_at ps j i p hp hi, cell_of_row _ _ _ _ _ _ hg, ← h4, List.getElem?_take, if_pos (by omega), Nat.zero_add]
   simp
  obtain ⟨ho, hd⟩ := h.own p (List.mem_of_getElem? hp)
  refine ⟨p.2, ?_, ?_, ?_, ?_, ho.byt, hd⟩
  ·have := key 0 (by omega); simpa [entCells] using this
  ·have := key 1 (by omega); simpa [entCells] using this
  ·have := key 2 (by omega); simpa [entCells] using this
  ·have := key 3 (by omega); simpa [entCells] using this

structure Pl where
 dk : Option Addr
 num : Nat
 size : Nat
 whole : Bool
 sure : Bool
 out : Bool
def logC (p : Pl) (i t : Int) (v : Value) : Array Value := #[.pointer p.dk, .int .i64 p.num, .int .i64 p.size, .bool p.whole, .bool p.sure, .bool p.out, .int .i64 i, .int .i64 t, v]
def LogB (W : World) (b : Nat) (p : Pl) (i t : Int) (v : Value) : Prop := W.heap[b]? = some (.cells (logC p i t v) 76 (0, 0))
structure LogAt (W : World) (G : Nat → Prop) (b : Nat) (p : Pl) (s : LS) : Prop where
 blk : ∃ v ps, LogB W b p s.i s.t v ∧ EsG W G v ps ∧ ps.map (·.1) = s.es
 gb : G b
 lo : 0 ≤ s.i ∧ s.i < 281474976710656
 n : s.es.length ≤ 1000000000000
theorem LogB.cells {W : World} {b : Nat} {p : Pl} {i t : Int} {v : Value} (h : LogB W b p i t v) : W.cell? ⟨b, 0, none⟩ = some (.pointer p.dk) ∧ W.cell? ⟨b, 1, none⟩ = some (.int .i64 p.num) ∧ W.cell? ⟨b, 2, none⟩ = some (.int .i64 p.size) ∧ W.cell? ⟨b, 3, none⟩ = some (.bool p.whole) ∧ W.cell? ⟨b, 4, none⟩ = some (.bool p.sure) ∧ W.cell? ⟨b, 5, none⟩ = some (.bool p.out) ∧ W.cell? ⟨b, 6, none⟩ = some (.int .i64 i) ∧ W.cell? ⟨b, 7, none⟩ = some (.int .i64 t) ∧ W.cell? ⟨b, 8, none⟩ = some v ∧ ∀ j, W.frozen? ⟨b, j, none⟩ = false :=
 ⟨by rw [cell_of_row _ _ _ _ _ _ h]; rfl, by rw [cell_of_row _ _ _ _ _ _ h]; rfl, by rw [cell_of_row _ _ _ _ _ _ h]; rfl, by rw [cell_of_row _ _ _ _ _ _ h]; rfl, by rw [cell_of_row _ _ _ _ _ _ h]; rfl, by rw [cell_of_row _ _ _ _ _ _ h]; rfl, by rw [cell_of_row _ _ _ _ _ _ h]; rfl, by rw [cell_of_row _ _ _ _ _ _ h]; rfl, by rw [cell_of_row _ _ _ _ _ _ h]; rfl, fun j => by unfold LogB at h; simp [World.frozen?, h]⟩
theorem LogB.kept {W W' : World} {b : Nat} {p : Pl} {i t : Int} {v : Value} {row : Option Nat} (h : LogB W b p i t v) (hg : W.grownBy W' row) (hr : row ≠ some b) : LogB W' b p i t v := (hg.block b (Array.getElem?_eq_some_iff.1 h).1 (fun e => hr e.symm)).trans h
theorem LogB.list {W : World} {b : Nat} {p : Pl} {i t : Int} {v : Value} (h : LogB W b p i t v) (v' : Value) : LogB (W.setCell ⟨b, 8, none⟩ v') b p i t v' := by
 unfold LogB logC at *
 simp [World.setCell, Array.getElem?_modify, h]
theorem LogAt.kept {W W' : World} {G : Nat → Prop} {b : Nat} {p : Pl} {s : LS} (h : LogAt W G b p s) (hg : W.grownBy W' none) : LogAt W' G b p s := by
 obtain ⟨v, ps, h1, h2, h3⟩ := h.blk
 exact ⟨⟨v, ps, h1.kept hg (by simp), h2.kept hg, h3⟩, h.gb, h.lo, h.n⟩
theorem LogAt.keeps {W W' : World} {F G : Nat → Prop} {b : Nat} {p : Pl} {s : LS} (h : LogAt W G b p s) (hk : V.Keeps F W W') (hF : ∀ k, G k → ¬ F k) : LogAt W' G b p s := by
 obtain ⟨v, ps, h1, h2, h3⟩ := h.blk
 exact ⟨⟨v, ps, (hk.block b (Array.getElem?_eq_some_iff.1 h1).1 (hF b h.gb)).trans h1, h2.keeps hk hF, h3⟩, h.gb, h.lo, h.n⟩
theorem LogAt.wide {W : World} {G G' : Nat → Prop} {b : Nat} {p : Pl} {s : LS} (h : LogAt W G b p s) (hG : ∀ k, G k → G' k) : LogAt W G' b p s := by
 obtain ⟨v, ps, h1, h2, h3⟩ := h.blk
 exact ⟨⟨v, ps, h1, h2.wide hG, h3⟩, hG b h.gb, h.lo, h.n⟩
theorem LogAt.bound {W : World} {G : Nat → Prop} {b : Nat} {p : Pl} {s : LS} (h : LogAt W G b p s) : LogAt W (fun k => G k ∧ k < W.heap.size) b p s := by
 obtain ⟨v, ps, h1, h2, h3⟩ := h.blk
 exact ⟨⟨v, ps, h1, h2.bound, h3⟩, ⟨h.gb, (Array.getElem?_eq_some_iff.1 h1).1⟩, h.lo, h.n⟩
theorem str_of {W : World} {G : Nat → Prop} {b : Nat} {p : Pl} {s : LS} {v : Value} {ps : List (Ent × Value)} (h1 : LogB W b p s.i s.t v) (h2 : EsG W G v ps) (h3 : ps.map (·.1) = s.es) (hlo : 0 ≤ s.i ∧ s.i < 281474976710656) (hn : s.es.length ≤ 1000000000000) : StR W b 6 s.i s.t v s.es :=
 ⟨h1.cells.2.2.2.2.2.2.1, h1.cells.2.2.2.2.2.2.2.1, h1.cells.2.2.2.2.2.2.2.2.1, by rw [← h3]; exact h2.reads, hlo, by omega⟩
theorem LogAt.st {W : World} {G : Nat → Prop} {b : Nat} {p : Pl} {s : LS} (h : LogAt W G b p s) : ∃ v, StR W b 6 s.i s.t v s.es := by
 obtain ⟨v, ps, h1, h2, h3⟩ := h.blk
 exact ⟨v, str_of h1 h2 h3 h.lo h.n⟩
theorem EsG.log {W W' : World} {G : Nat → Prop} {v : Value} {ps : List (Ent × Value)} {b : Nat} {c : Array Value} (h : EsG W G v ps) (hb : W.heap[b]? = some (.cells c 76 (0, 0))) (hg : W.grownBy W' (some b)) : EsG W' G v ps :=
 ⟨owns_kept h.row hg (fun g cur hh => ne_tag hh hb (by decide)), h.rowG, fun p hp => ⟨owns_kept (h.own p hp).1 hg (fun g cur hh => ne_tag hh hb (by decide)), (h.own p hp).2⟩, h.ownG⟩

theorem ents_take (ps : List (Ent × Value)) (i : Nat) : (ps.take i).flatMap entCells = (ps.flatMap entCells).take (i * 4) := by
 induction ps generalizing i with
 | nil => simp
 | cons p ps ih =>
  cases i with
  | zero => simp
  | succ i =>
   rw [List.take_succ_cons, List.flatMap_cons, List.flatMap_cons, ih, List.take_append]
   have : (entCells p).length = 4 := rfl
   rw [this, List.take_of_length_le (l := entCells p) (by rw [this]; omega), show (i + 1) * 4 - 4 = i * 4 by omega]

set_option maxHeartbeats 4000000 in
theorem cutS_no (G : Nat → Prop) (b : Nat) (p : Pl) (s : LS) (n : Int) (w : World) (h : LogAt w G b p s) (hn : s.hasB n = false) : Calls Tryz.prog 78 #[.pointer (some ⟨b, 6, none⟩), .int .i64 n] w fun e w' => e = .returned (.bool false) ∧ w.grownBy w' none := by
 obtain ⟨v, hs⟩ := h.st
 have HS := hid_mk hs
 have HN := hid_mk hn
 clear h hs hn
 go_enter Tryz.func78, Tryz.ntmps78
 go_wp2_with fail
 refine (has_any b 6 s.i s.t v s.es n w HS.out).mono ?_
 rintro e w1 ⟨rfl, hg1⟩
 rw [show (decide (s.i < n) && decide (n ≤ s.i + s.es.length)) = false from HN.out]
 have G1 := hid_mk hg1
 clear hg1
 go_wp2_with fail
 go_ret
 exact ⟨rfl, G1.out⟩
end Go.Proofs.YtlpkphdgadgmiaaGreatDoor.W

namespace Go.Proofs.YtlpkphdgadgmiaaGreatDoor.W
set_option linter.unusedVariables false
set_option linter.unusedSimpArgs false

section
variable {P : Program} {ops : Array Oper} {md : Region.Mode}

def preB (md : Region.Mode) (ops : Array Oper) (m j : Nat) : Bool :=
 match ops[m]? with
 | none => false
 | some o => o.after.any fun e => Region.binds md e && e.on == j
def ancB (md : Region.Mode) (ops : Array Oper) : Nat → Nat → Nat → Bool
 | 0, m, j => preB md ops m j
 | n + 1, m, j => preB md ops m j || (List.range ops.size).any fun q => preB md ops m q && ancB md ops n q j
def lastB (md : Region.Mode) (ops : Array Oper) (L : Nat) : Bool := (List.range ops.size).all fun j => j == L || ancB md ops 2 L j
def Closed (md : Region.Mode) (ops : Array Oper) (listed : Array Bool) : Prop := ∀ m o, ops[m]? = some o → listed.getD m false = true → ∀ e ∈ o.after, Region.binds md e = true → listed.getD e.on false = true
theorem Closed.next {listed : Array Bool} (h : Closed md ops listed) {i : Nat} (hi : i ∈ Region.ready md ops listed) : Closed md ops (listed.setIfInBounds i true) := by
 obtain ⟨_, oi, hoi, hall⟩ := mem_ready.1 hi
 intro m o ho hm e he hb
 refine getD_set_true ?_
 by_cases hmi : i = m
 ·subst hmi
  rw [hoi] at ho
  cases ho
  exact hall e he hb
 ·rw [getD_set_ne false hmi] at hm
  exact h m o ho hm e he hb
theorem Closed.start (n : Nat) : Closed md ops (Array.replicate n false) := by
 intro m o ho hm
 simp [Array.getElem?_replicate] at hm
 split at hm <;> simp at hm
theorem pre_listed {listed : Array Bool} {m j : Nat} {o : Oper} (ho : ops[m]? = some o) (hall : ∀ e ∈ o.after, Region.binds md e = true → listed.getD e.on false = true) (h : preB md ops m j = true) : listed.getD j false = true := by
 unfold preB at h
 rw [ho] at h
 simp only [Array.any_eq_true] at h
 obtain ⟨k, hk, he⟩ := h
 simp only [Bool.and_eq_true, beq_iff_eq] at he
 have h2 := hall o.after[k] (by simp) he.1
 rwa [he.2] at h2
theorem anc_listed {listed : Array Bool} (hc : Closed md ops listed) : ∀ (n m j : Nat) (o : Oper), ops[m]? = some o → (∀ e ∈ o.after, Region.binds md e = true → listed.getD e.on false = true) → ancB md ops n m j = true → listed.getD j false = true
 | 0, m, j, o, ho, hall, h => pre_listed ho hall h
 | n + 1, m, j, o, ho, hall, h => by
  simp only [ancB, Bool.or_eq_true, List.any_eq_true, List.mem_range, Bool.and_eq_true] at h
  rcases h with h | ⟨q, hq, h1, h2⟩
  ·exact pre_listed ho hall h
  ·have hl := pre_listed ho hall h1
   obtain ⟨oq, hoq⟩ : ∃ oq, ops[q]? = some oq := ⟨ops[q], by simp [hq]⟩
   exact anc_listed hc n q j oq hoq (hc q oq hoq hl) h2
theorem not_ready {L : Nat} (h : lastB md ops L = true) {listed : Array Bool} (hc : Closed md ops listed) {i : Nat} (hi : i ∈ Region.ready md ops listed) (hL : i ≠ L) : L ∉ Region.ready md ops listed := by
 intro hr
 obtain ⟨h0, oi, hoi, _⟩ := mem_ready.1 hi
 obtain ⟨_, oL, hoL, hall⟩ := mem_ready.1 hr
 unfold lastB at h
 simp only [List.all_eq_true, List.mem_range] at h
 have h1 := h i (Array.getElem?_eq_some_iff.1 hoi).1
 simp only [Bool.or_eq_true, beq_iff_eq, hL, false_or] at h1
 have h2 := anc_listed hc 2 L i oL hoL hall h1
 rcases Nat.lt_or_ge i listed.size with h' | h'
 ·simp [h'] at h0 h2; rw [h0] at h2; cases h2
 ·simp [Array.getElem?_eq_none h'] at h2

def wpAnyL (P : Program) (md : Region.Mode) (ops : Array Oper) (L : Nat) (R : Act → Cl → Prop) : Nat → Array Bool → Act → Cl → Prop
 | 0, listed, a, C => Region.ready md ops listed = [L] ∧ Region.ready md ops (listed.setIfInBounds L true) = [] ∧ R a C
 | fuel + 1, listed, a, C => Region.ready md ops listed ≠ [] ∧ ∀ i ∈ Region.ready md ops listed, mxOp P ops i (wpAnyL P md ops L R fuel (listed.setIfInBounds i true)) a C

theorem wpAny_of_mixL {L : Nat} {R : Act → Cl → Prop} {Q' : Exit → Act → World → Prop} (hQ : ∀ a C w, Shut C → C.now w → R a C → ∀ K : Act → World → Prop, (∀ a w, Q' .normal a w → K a w) → wpOp P ops Q' L K a w) : ∀ (fuel : Nat) (listed : Array Bool) (a : Act) (C : Cl) (w : World), Shut C → C.now w →
  wpAnyL P md ops L R fuel listed a C → wpAny P md ops Q' (fuel + 1) listed a w
 | 0, listed, a, C, w, hs, hw, h => ⟨fun h0 => (by rw [h.1] at h0; cases h0), fun i hi => by
   rw [h.1] at hi
   obtain rfl : i = L := by simpa using hi
   exact hQ a C w hs hw h.2.2 _ (fun a' w' hq => ⟨h.2.1, hq⟩)⟩
 | fuel + 1, _, _, _, _, hs, hw, h => ⟨fun h0 => absurd h0 h.1, fun i hi => wpOp_of_mxOp hs hw (fun a' C' w' hs' hw' => wpAny_of_mixL hQ fuel _ a' C' w' hs' hw') (h.2 i hi)⟩

theorem wpAnyL_first {L : Nat} (hL : lastB md ops L = true) {R : Act → Cl → Prop} {i : Nat} {oi : Oper} {v : Value} (hi : ops[i]? = some oi) (hiL : i ≠ L) (hsel : ∀ (j : Nat) (o : Oper) cs b, ops[j]? = some o → o.op ≠ .select cs b) :
  ∀ (fuel : Nat) (listed : Array Bool) (a : Act) (C : Cl), Closed md ops listed →
   (∀ j oj, ops[j]? = some oj → j ≠ i → listed.getD j true = false → (∀ e ∈ oj.after, Region.binds md e = true → e.on ≠ i) → oi.apart ops oj = true) →
   i ∈ Region.ready md ops listed → ReadsIn P ops C oi v a →
   wpAnyL P md ops L R fuel (listed.setIfInBounds i true) (a.put oi.dst v) C → wpAnyL P md ops L R (fuel + 1) listed a C := by
 intro fuel
 induction fuel with
 | zero =>
  intro listed a C hcl _ hr hy H
  refine ⟨fun h => (by rw [h] at hr; cases hr), fun j hj => ?_⟩
  by_cases hji : j = i
  ·subst hji; exact hy.mxOp hi H
  ·have := ready_mono hj hji
   rw [H.1] at this
   obtain rfl : j = L := by simpa using this
   exact absurd hj (not_ready hL hcl hr hiL)
 | succ fuel ih =>
  intro listed a C hcl hfree hr hy H
  refine ⟨fun h => (by rw [h] at hr; cases hr), fun j hj => ?_⟩
  by_cases hji : j = i
  ·subst hji; exact hy.mxOp hi H
  ·have h1 := H.2 j (ready_mono hj hji)
   obtain ⟨hjun, oj, hoj, hall⟩ := mem_ready.1 hj
   have hnot : ∀ e ∈ oj.after, Region.binds md e = true → e.on ≠ i := fun e he hb heq => by
    have h1 := hall e he hb
    have h0 := (mem_ready.1 hr).1
    rw [heq] at h1
    rcases Nat.lt_or_ge i listed.size with h' | h'
    ·simp [h'] at h0 h1; rw [h0] at h1; cases h1
    ·simp [Array.getElem?_eq_none h'] at h1
   have h2 := mxOp_put hoj (hfree j oj hoj hji hjun hnot) (fun cs b => hsel i oi cs b hi) (fun cs b => hsel j oj cs b hoj) hy h1
   have hfree' : ∀ k ok, ops[k]? = some ok → k ≠ i → (listed.setIfInBounds j true).getD k true = false →
     (∀ e ∈ ok.after, Region.binds md e = true → e.on ≠ i) → oi.apart ops ok = true := fun k ok hk hki hun hno => by
    refine hfree k ok hk hki ?_ hno
    by_cases hjk : j = k
    ·subst hjk; exact hjun
    ·rw [getD_set_ne true hjk] at hun; exact hun
   refine mxOp_mono (fun a' C' h3 => ih (listed.setIfInBounds j true) a' C' (hcl.next hj) hfree' (ready_mono hr (Ne.symm hji)) h3.1 ?_) h2
   rw [Array.setIfInBounds_comm _ _ hji]
   exact h3.2

def orderL (md : Region.Mode) (ops : Array Oper) (L : Nat) : List (Nat × Bool) → Array Bool → Bool
 | [], listed => Region.ready md ops listed == [L] && (Region.ready md ops (listed.setIfInBounds L true)).isEmpty
 | (i, true) :: rest, listed => (Region.ready md ops listed).contains i && Region.free md ops listed i && i != L && orderL md ops L rest (listed.setIfInBounds i true)
 | (i, false) :: rest, listed => Region.ready md ops listed == [i] && orderL md ops L rest (listed.setIfInBounds i true)

theorem wpAnyL_order {L : Nat} (hL : lastB md ops L = true) {R : Act → Cl → Prop} (hs : Region.noSelect ops = true) : ∀ (l : List (Nat × Bool)) (listed : Array Bool) (a : Act) (C : Cl), Closed md ops listed →
  orderL md ops L l listed = true → wpMix P ops R l a C → wpAnyL P md ops L R l.length listed a C
 | [], _, _, _, _, hB, h => by
  simp only [orderL, Bool.and_eq_true, beq_iff_eq, List.isEmpty_iff] at hB
  exact ⟨hB.1, hB.2, h⟩
 | (i, true) :: l, listed, a, C, hcl, hB, ⟨o, h0, h⟩ => by
  simp only [orderL, Bool.and_eq_true, bne_iff_ne] at hB
  obtain ⟨⟨⟨hr, hf⟩, hiL⟩, hB'⟩ := hB
  by_cases hw : Region.wanted o (yielded ops a.tmps) = true
  ·simp only [hw, if_true] at h
   obtain ⟨v, h1, h2⟩ := h
   exact wpAnyL_first hL h0 hiL (Region.noSelect_spec hs) l.length listed a C hcl (Region.free_spec h0 hf) (by simpa using hr) (.inl ⟨hw, h1⟩) (wpAnyL_order hL hs l _ _ _ (hcl.next (by simpa using hr)) hB' h2)
  ·simp only [hw] at h
   exact wpAnyL_first hL h0 hiL (Region.noSelect_spec hs) l.length listed a C hcl (Region.free_spec h0 hf) (by simpa using hr) (.inr ⟨by simpa using hw, rfl⟩) (wpAnyL_order hL hs l _ _ _ (hcl.next (by simpa using hr)) hB' h)
 | (i, false) :: l, listed, a, C, hcl, hB, ⟨o, h0, h⟩ => by
  simp only [orderL, Bool.and_eq_true, beq_iff_eq] at hB
  obtain ⟨hr, hB'⟩ := hB
  refine ⟨fun hh => (by rw [hr] at hh; cases hh), fun j hj => ?_⟩
  have hnx := hcl.next hj
  rw [hr] at hj
  obtain rfl : j = i := by simpa using hj
  unfold mxOp
  simp only [h0]
  split
  ·rename_i hw
   simp only [hw, if_true, Bool.false_eq_true, if_false] at h
   exact .inr fun w hC => mixUpon_mono (fun u w' ⟨C', c1, c2, c3, c4⟩ => ⟨C', c1, c2, c3, wpAnyL_order hL hs l _ _ _ hnx hB' c4⟩) (h w hC)
  ·rename_i hw
   simp only [hw] at h
   exact wpAnyL_order hL hs l _ _ _ hnx hB' h

theorem wp_region_mixL {id : Nat} {Q : Exit → Act → World → Prop} {a : Act} {w : World} (order : List (Nat × Bool)) (L : Nat) {o : Oper} (C : Cl) (hm : P.follows .mixedOrders = true) (hs : Region.noSelect ops = true) (hl : order.length + 1 = ops.size) (hLa : lastB .any ops L = true) (ho : ops[L]? = some o)
  (hB : orderL .any ops L order (Array.replicate ops.size false) = true) (hsh : Shut C) (hC : C.now w.drew)
  (h : wpMix P ops (fun a' C' => Region.wanted o (yielded ops a'.tmps) = true ∧ ∀ w', C'.now w' → ∃ w'', (execOp a'.eval o).run P w' = .ok .skip w'' ∧ Q .normal (a'.put o.dst undef) w'') order a C) : (Code.region id ops true).wp P Q a w := by
 refine wp_region_any hm ?_
 have := wpAny_of_mixL (P := P) (ops := ops) (md := .any) (L := L) (R := fun a' C' => Region.wanted o (yielded ops a'.tmps) = true ∧ ∀ w', C'.now w' → ∃ w'', (execOp a'.eval o).run P w' = .ok .skip w'' ∧ Q .normal (a'.put o.dst undef) w'') (Q' := Q)
  (fun a' C' w' _ hw' hr K hK => by
   obtain ⟨hwt, hr⟩ := hr
   obtain ⟨w'', hrun, hq⟩ := hr w' hw'
   unfold wpOp
   simp only [ho, hwt, if_true]
   refine .inl ?_
   unfold Oper.wp
   rw [hrun]
   simp only [Oper.upon]
   exact hK _ _ hq) order.length (Array.replicate ops.size false) a C w.drew hsh hC (wpAnyL_order hLa hs order _ a C (Closed.start _) hB h)
 rwa [hl] at this
end
end Go.Proofs.YtlpkphdgadgmiaaGreatDoor.W

namespace Go.Proofs.YtlpkphdgadgmiaaGreatDoor.W
open Go.RowKit Go.Maps
set_option linter.unusedVariables false
set_option linter.unusedSimpArgs false
set_option maxRecDepth 100000

set_option maxHeartbeats 4000000 in
theorem cutS_yes (G : Nat → Prop) (b : Nat) (p : Pl) (s : LS) (k : Nat) (w : World) (h : LogAt w G b p s) (hk : k < s.es.length) : Calls Tryz.prog 78 #[.pointer (some ⟨b, 6, none⟩), .int .i64 (s.i + 1 + k)] w fun e w' => e = .returned (.bool true) ∧ LogAt w' G b p ⟨s.i, s.t, s.es.take k⟩ ∧ V.Keeps G w w' := by
 obtain ⟨v, ps, h1, h2, h3⟩ := h.blk
 have hlen : ps.length = s.es.length := by rw [← h3, List.length_map]
 obtain ⟨g, cap, cur, rfl, hcur⟩ : ∃ g cap cur, v = .slice (some ⟨g, 0, none⟩) s.es.length cap ∧ w.heap[g]? = some (.cells cur 51 (0, 0)) ∧ s.es.length ≤ cap ∧ cap ≤ maxLen ∧ cur.size = cap * 4 ∧ cur.toList.take (s.es.length * 4) = ps.flatMap entCells := by
  rcases h2.row.2 with ⟨_, h0⟩ | ⟨g, cap, cur, e, _, hg, r1, r2, r3, r4⟩
  ·omega
  ·rw [hlen] at e r1 r4
   exact ⟨g, cap, cur, e, hg, r1, r2, r3, r4⟩
 have hlo := h.lo
 have hn := h.n
 have HH := hid_mk h
 have HS := hid_mk (str_of h1 h2 h3 h.lo h.n)
 have HB := hid_mk (And.intro h1 (And.intro h2 h3))
 have HC := hid_mk hcur
 have hcap := hcur.2.1
 have hcm : cap ≤ 9223372036854775807 := by
  have := hcur.2.2.1
  unfold maxLen at this
  omega
 have e1 : s.i + 1 + (k : Int) - s.i = (k : Int) + 1 := by omega
 have e2 : (k : Int) + 1 - 1 = (k : Int) := by omega
 have ew1 : IntKind.i64.wrap ((k : Int) + 1) = k + 1 := by simp [IntKind.wrap, IntKind.bits, IntKind.signed]; omega
 have ew2 : IntKind.i64.wrap (k : Int) = k := by simp [IntKind.wrap, IntKind.bits, IntKind.signed]; omega
 clear h h1 h2 h3 hcur hlen
 go_enter Tryz.func78, Tryz.ntmps78
 go_wp2_with fail
 refine (has_any b 6 s.i s.t _ s.es (s.i + 1 + k) w HS.out).mono ?_
 rintro e w1 ⟨rfl, hg1⟩
 rw [show (decide (s.i < s.i + 1 + k) && decide (s.i + 1 + k ≤ s.i + s.es.length)) = true by simp; omega]
 have HK := hid_mk (show ∀ W, w1.grownBy W none → LogB W b p s.i s.t (.slice (some ⟨g, 0, none⟩) s.es.length cap) from fun W hW => HB.out.1.kept (grown_trans hg1 hW) (by simp))
 have G1 := hid_mk hg1
 clear hg1
 go_upto_region 3 with fail
 refine wp_region_mixL [(0, true), (1, true), (2, true), (3, true), (4, true), (5, true), (6, true), (7, true), (8, true), (9, true), (10, true), (11, true), (12, true), (13, true), (14, true), (15, true), (16, true), (17, false), (18, true), (19, true)] 20 (at0 w1 (fun W => LogB W b p s.i s.t (.slice (some ⟨g, 0, none⟩) s.es.length cap))) (by kernel_rfl) (by kernel_rfl) rfl (by kernel_rfl) rfl (by kernel_rfl) (shut_at0 (fun m => HK.out _ (grown_drewN _ m none))) ⟨1, rfl⟩ ?_
 repeat (refine mix_rd1 rfl rfl (fun K hK => ?_); apply Exists.intro; refine ⟨fun W hW => ?_, ?_⟩; (obtain ⟨c0, c1, c2, c3, c4, c5, c6, c7, c8, _⟩ := LogB.cells hW; go_simp; rfl); (go_simp; refine hK _ _ ?_; clear hK K))
 refine mix_call rfl rfl 115 #[.slice (some ⟨g, 0, none⟩) s.es.length cap, .int .i64 k, .int .i64 s.es.length] (fun W => by go_simp) ?_
 rintro W ⟨m4, rfl⟩
 have G2 := hid_mk (show w.grownBy (w1.drewN m4) none from grown_trans G1.out (grown_drewN _ m4 none))
 have hgW : (w1.drewN m4).heap[g]? = some (.cells cur 51 (0, 0)) := (G2.out.block g (Array.getElem?_eq_some_iff.1 HC.out.1).1 (by simp)).trans HC.out.1
 refine (delete_tail g k s.es.length cap cur (w1.drewN m4) hgW hk hcap hcm HC.out.2.2.2.1).mono ?_
 rintro e w2 ⟨rfl, hc2, hg2⟩
 have hLB := HK.out _ (grown_drewN w1 m4 none)
 have hbg : some g ≠ some b := fun e => by cases e; unfold LogB at hLB; rw [hLB] at hgW; cases hgW
 have H2 := hid_mk (show LogB w2 b p s.i s.t (.slice (some ⟨g, 0, none⟩) s.es.length cap) ∧ (w1.drewN m4).grownBy w2 (some g) from ⟨hLB.kept hg2 hbg, hg2⟩)
 have HC2 := hid_mk hc2
 have HBG := hid_mk hbg
 clear hgW hLB hg2 hc2 hbg
 refine ⟨_, rfl, at0 w2 _, ⟨0, rfl⟩, shut_at0 (fun m => H2.out.1.kept (grown_drewN _ m none) (by simp)), fun _ h => h, ?_⟩
 go_simp
 repeat (refine mix_rd1 rfl rfl (fun K hK => ?_); apply Exists.intro; refine ⟨fun W hW => ?_, ?_⟩; (obtain ⟨c0, c1, c2, c3, c4, c5, c6, c7, c8, _⟩ := LogB.cells hW; go_simp; rfl); (go_simp; refine hK _ _ ?_; clear hK K))
 refine mix_nil ?_
 rintro W5 ⟨m5, rfl⟩
 have HL5 := hid_mk (H2.out.1.kept (grown_drewN w2 m5 none) (by simp))
 have HG5 := hid_mk (grown_drewN w2 m5 none)
 have HC5 := hid_mk (show ∃ cur' : Array Value, (w2.drewN m5).heap[g]? = some (.cells cur' 51 (0, 0)) ∧ cur'.size = cap * 4 ∧ cur'.toList.take (k * 4) = cur.toList.take (k * 4) from HC2.out)
 generalize w2.drewN m5 = w3 at *
 obtain ⟨c0, c1, c2, c3, c4, c5, c6, c7, c8, cz⟩ := HL5.out.cells
 refine ⟨w3.setCell ⟨b, 8, none⟩ (.slice (some ⟨g, 0, none⟩) k cap), by go_simp, ?_⟩
 have HL6 := hid_mk (HL5.out.list (.slice (some ⟨g, 0, none⟩) k cap))
 have HG6 := hid_mk (grown_setCell w3 b 8 (.slice (some ⟨g, 0, none⟩) k cap))
 have HC6 := hid_mk (show ∃ cur' : Array Value, (w3.setCell ⟨b, 8, none⟩ (.slice (some ⟨g, 0, none⟩) k cap)).heap[g]? = some (.cells cur' 51 (0, 0)) ∧ cur'.size = cap * 4 ∧ cur'.toList.take (k * 4) = cur.toList.take (k * 4) from by
  obtain ⟨cur', h1, h2⟩ := HC5.out
  exact ⟨cur', (HG6.out.block g (Array.getElem?_eq_some_iff.1 h1).1 HBG.out).trans h1, h2⟩)
 generalize w3.setCell ⟨b, 8, none⟩ _ = w4 at *
 clear c0 c1 c2 c3 c4 c5 c6 c7 c8 cz
 go_simp
 go_wp2_with fail
 go_ret
 have K1 : V.Keeps G w w2 := (V.Keeps.of_none G2.out).then (V.Keeps.one H2.out.2 (HB.out.2.1.rowG g rfl))
 have K2 : V.Keeps G w w4 := K1.then ((V.Keeps.of_none HG5.out).then (V.Keeps.one HG6.out HH.out.gb))
 refine ⟨rfl, ⟨⟨_, ps.take k, HL6.out, ⟨?_, fun k' e => HB.out.2.1.rowG k' e, fun q hq => ?_, fun q hq => HB.out.2.1.ownG q (List.mem_of_mem_take hq)⟩, ?_⟩, HH.out.gb, hlo, ?_⟩, K2⟩
 ·obtain ⟨cur', h1, h2, h3⟩ := HC6.out
  have hlen : ps.length = s.es.length := by rw [← HB.out.2.2, List.length_map]
  have hlk : (ps.take k).length = k := by rw [List.length_take]; omega
  refine ⟨entCells_len _, .inr ⟨g, cap, cur', by rw [hlk], Nat.zero_le _, h1, by rw [hlk]; omega, HC.out.2.2.1, h2, ?_⟩⟩
  rw [hlk, h3, ents_take, ← HC.out.2.2.2.2, List.take_take, Nat.min_eq_left (by omega)]
 ·obtain ⟨ho, hd⟩ := HB.out.2.1.own q (List.mem_of_mem_take hq)
  refine ⟨?_, hd⟩
  have o1 : Own (w1.drewN m4) 0 q.2 q.1.data := ho.kept G2.out (.inl rfl)
  have hgW : (w1.drewN m4).heap[g]? = some (.cells cur 51 (0, 0)) := (G2.out.block g (Array.getElem?_eq_some_iff.1 HC.out.1).1 (by simp)).trans HC.out.1
  have o2 : Own w2 0 q.2 q.1.data := owns_kept o1 H2.out.2 (fun _ _ hh => ne_tag hh hgW (by decide))
  have o3 : Own w3 0 q.2 q.1.data := o2.kept HG5.out (.inl rfl)
  exact owns_kept o3 HG6.out (fun _ _ hh => ne_tag hh HL5.out (by decide))
 ·show (ps.take k).map (·.1) = s.es.take k
  rw [← HB.out.2.2, List.map_take]
 ·show (s.es.take k).length ≤ _
  rw [List.length_take]; omega

theorem cutS_any (G : Nat → Prop) (b : Nat) (p : Pl) (s : LS) (n : Int) (w : World) (h : LogAt w G b p s) : Calls Tryz.prog 78 #[.pointer (some ⟨b, 6, none⟩), .int .i64 n] w fun e w' => e = .returned (.bool (s.hasB n)) ∧ LogAt w' G b p (if s.hasB n then s.cutTo n else s) ∧ V.Keeps G w w' := by
 cases hb : s.hasB n with
 | false =>
  refine (cutS_no G b p s n w h hb).mono ?_
  rintro e w' ⟨rfl, hg⟩
  exact ⟨rfl, by simpa using h.kept hg, V.Keeps.of_none hg⟩
 | true =>
  have hb' := hb
  unfold LS.hasB at hb'
  simp at hb'
  have e : n = s.i + 1 + (s.at n : Nat) := by unfold LS.at; omega
  have hk : s.at n < s.es.length := by unfold LS.at; omega
  have := cutS_yes G b p s (s.at n) w h hk
  rw [← e] at this
  refine this.mono ?_
  rintro e w' ⟨rfl, hl, hkp⟩
  exact ⟨rfl, by simpa [LS.cutTo] using hl, hkp⟩
end Go.Proofs.YtlpkphdgadgmiaaGreatDoor.W

namespace Go.Proofs.YtlpkphdgadgmiaaGreatDoor.W
open Go.RowKit Go.Maps
set_option linter.unusedVariables false
set_option linter.unusedSimpArgs false
set_option maxRecDepth 100000

theorem run_append_entG {W : World} {G H : Nat → Prop} {v : Value} {ps : List (Ent × Value)} (h : EsG W G v ps) (x : Ent) (dv : Value) (ho : Own W 0 dv x.data) (hd : x.data.length ≤ 140737488355328) (hl : ps.length + 1 ≤ 1000000000000)
  (hGH : ∀ k, G k → H k) (hH : ∀ k, W.heap.size ≤ k → H k) (hoH : ∀ k, dv.ownBlock = some k → H k) {o : Oper} {a : Act} (s y : Operand)
  (hop : o.op = .call { callee := .builtin .append, args := #[s, y], argTypes := #[30, 30] }) (hs : a.eval s = v) (hy : a.eval y = .slice (some ⟨W.heap.size, 0, none⟩) 1 1) :
  ∃ a' c' W', (execOp a.eval o).run Tryz.prog (W.alloc (.cells #[.int .i64 x.term, .int .i64 x.index, .int .i64 x.kind, dv] 51)) = .ok (.value (.slice a' (ps.length + 1) c')) W' ∧ EsG W' H (.slice a' (ps.length + 1) c') (ps ++ [(x, dv)]) ∧ (W.alloc (.cells #[.int .i64 x.term, .int .i64 x.index, .int .i64 x.kind, dv] 51)).grownBy W' v.ownBlock := by
 obtain ⟨i0, hi, hz0, hz1, hz2⟩ := info_parts info47
 have hg := World.grownBy_alloc W (.cells #[.int .i64 x.term, .int .i64 x.index, .int .i64 x.kind, dv] 51) none
 have hE := h.kept hg
 have hone : ∀ u ∈ entCells (x, dv), u.oneCell' = true := fun u hu => by
  obtain ⟨_, _, rfl⟩ := ho.len
  simp [entCells] at hu
  rcases hu with rfl | rfl | rfl | rfl <;> rfl
 obtain ⟨v', w', hrun, r1, r2, _, r4⟩ := run_append_own_at (P := Tryz.prog) (W.alloc (.cells #[.int .i64 x.term, .int .i64 x.index, .int .i64 x.kind, dv] 51)) 0 30 o.type 51 i0 (.agg #[.int .i64 0, .int .i64 0, .int .i64 0, .slice none 0 0]) 4 48 Tryz.underlying30 hi hz0 hz1 hz2 rfl (by decide) v ps.length (ps.flatMap entCells) hE.row ⟨W.heap.size, 0, none⟩ 1 1 (entCells (x, dv)) rfl (cell_four_new _ _ _ _ _ _) hone (by unfold maxLen; omega) (by omega) (Nat.zero_le _)
 obtain ⟨a', c', rfl⟩ := row_shape r1
 refine ⟨a', c', w', by simp [execOp, hop, resolve, invoke, builtin, hs, hy, hrun, Result.andThen], ⟨?_, fun k e => ?_, fun q hq => ?_, fun q hq k e => ?_⟩, r2⟩
 ·rw [List.length_append, List.flatMap_append]; simpa using r1
 ·rcases r4 with r4 | r4
  ·exact hGH k (h.rowG k (by rw [← r4]; exact e))
  ·rw [r4] at e
   cases e
   exact hH _ (by simp)
 ·have hk : ∀ (z : Value) (d : List UInt8), Own (W.alloc (.cells #[.int .i64 x.term, .int .i64 x.index, .int .i64 x.kind, dv] 51)) 0 z d → Own w' 0 z d := fun z d hz => owns_kept hz r2 (fun g cur hh => own_tag hE.row hh (by decide))
  rcases List.mem_append.1 hq with hq | hq
  ·exact ⟨hk _ _ (hE.own q hq).1, (hE.own q hq).2⟩
  ·obtain rfl : q = (x, dv) := by simpa using hq
   exact ⟨hk _ _ (ho.kept hg (.inl rfl)), hd⟩
 ·rcases List.mem_append.1 hq with hq | hq
  ·exact hGH k (h.ownG q hq k e)
  ·obtain rfl : q = (x, dv) := by simpa using hq
   exact hoH k e

theorem termS_any (b o : Nat) (s : LS) (v : Value) (n : Int) (w : World) (h : StR w b o s.i s.t v s.es) (h1 : s.i ≤ n) (h2 : n ≤ s.i + s.es.length) : Calls Tryz.prog 63 #[.pointer (some ⟨b, o, none⟩), .int .i64 n] w fun e w' => e = .returned (.int .i64 (s.termAt n)) ∧ w.grownBy w' none := by
 by_cases he : n = s.i
 ·subst he
  rw [show s.termAt s.i = s.t from if_pos rfl]
  exact termOf_base b o s.i s.t v s.es w h
 ·have hk : s.at n < s.es.length := by unfold LS.at; omega
  have hx : s.es[s.at n]? = some s.es[s.at n] := List.getElem?_eq_getElem hk
  have := termOf_at b o s.i s.t v s.es (s.at n) _ w h hx
  rw [show s.i + 1 + ((s.at n : Nat) : Int) = n by unfold LS.at; omega] at this
  refine this.mono ?_
  rintro e w' ⟨rfl, hg⟩
  refine ⟨?_, hg⟩
  unfold LS.termAt
  rw [if_neg he, hx]
  rfl

set_option maxHeartbeats 4000000 in
theorem takeE_old (G : Nat → Prop) (b : Nat) (p : Pl) (s : LS) (x : Ent) (a : Option Addr) (n c : Nat) (w : World) (h : LogAt w G b p s) (hx : x.index ≤ s.i) : Calls Tryz.prog 142 #[.pointer (some ⟨b, 6, none⟩), .agg #[.int .i64 x.term, .int .i64 x.index, .int .i64 x.kind, .slice a n c]] w fun e w' => e = .returned (.bool true) ∧ w.grownBy w' none := by
 obtain ⟨v, ps, h1, h2, h3⟩ := h.blk
 have HB := hid_mk h1
 clear h h1 h2 h3
 have HA : Hid (EB (w.alloc (.cells #[.int .i64 x.term, .int .i64 x.index, .int .i64 x.kind, .slice a n c] 51)) w.heap.size x (.slice a n c) ∧ w.grownBy (w.alloc (.cells #[.int .i64 x.term, .int .i64 x.index, .int .i64 x.kind, .slice a n c] 51)) none) := hid_mk ⟨heap_alloc_new _ _, World.grownBy_alloc _ _ _⟩
 go_enter Tryz.func142, Tryz.ntmps142
 go_upto_region 1 with fail
 generalize w.alloc (.cells _ 51) = w1 at *
 have HB1 := hid_mk (HB.out.kept HA.out.2 (by simp))
 obtain ⟨c0, c1, c2, c3, c4, c5, c6, c7, c8, _⟩ := HB1.out.cells
 obtain ⟨x0, x1, x2, x3, _⟩ := HA.out.1.cells
 have hd : decide (x.index ≤ s.i) = true := decide_eq_true hx
 clear c0 c1 c2 c3 c4 c5 c7 c8
 go_region
 go_wp2_with fail
 go_ret
 exact ⟨rfl, grown_trans HA.out.2 (grown_drew _ _)⟩
theorem takeE_facts {w : World} {G : Nat → Prop} {b : Nat} {p : Pl} {s : LS} (h : LogAt w G b p s) : ∃ v, ∀ W, w.grownBy W none → StR W b 6 s.i s.t v s.es ∧ LogB W b p s.i s.t v := by
 obtain ⟨v, ps, h1, h2, h3⟩ := h.blk
 exact ⟨v, fun W hW => ⟨(str_of h1 h2 h3 h.lo h.n).kept hW, h1.kept hW (by simp)⟩⟩

set_option maxHeartbeats 4000000 in
theorem takeE_gap (G : Nat → Prop) (b : Nat) (p : Pl) (s : LS) (x : Ent) (a : Option Addr) (n c : Nat) (w : World) (h : LogAt w G b p s) (hx : s.i + s.es.length + 1 < x.index) : Calls Tryz.prog 142 #[.pointer (some ⟨b, 6, none⟩), .agg #[.int .i64 x.term, .int .i64 x.index, .int .i64 x.kind, .slice a n c]] w fun e w' => e = .returned (.bool false) ∧ w.grownBy w' none := by
 obtain ⟨v, hf⟩ := takeE_facts h
 have hlo := h.lo
 have hn := h.n
 have HF := hid_mk hf
 clear h hf
 have HA : Hid (EB (w.alloc (.cells #[.int .i64 x.term, .int .i64 x.index, .int .i64 x.kind, .slice a n c] 51)) w.heap.size x (.slice a n c) ∧ w.grownBy (w.alloc (.cells #[.int .i64 x.term, .int .i64 x.index, .int .i64 x.kind, .slice a n c] 51)) none) := hid_mk ⟨heap_alloc_new _ _, World.grownBy_alloc _ _ _⟩
 go_enter Tryz.func142, Tryz.ntmps142
 go_upto_region 1 with fail
 generalize w.alloc (.cells _ 51) = w1 at *
 obtain ⟨c0, c1, c2, c3, c4, c5, c6, c7, c8, _⟩ := (HF.out w1 HA.out.2).2.cells
 obtain ⟨x0, x1, x2, x3, _⟩ := HA.out.1.cells
 have hd : decide (x.index ≤ s.i) = false := decide_eq_false (by omega)
 clear c0 c1 c2 c3 c4 c5 c7 c8
 go_region
 go_upto_region 3 with fail
 clear c6 x0 x1 x2 x3
 have HA2 := hid_mk (show EB w1.drew w.heap.size x (.slice a n c) ∧ w.grownBy w1.drew none from ⟨HA.out.1.kept (grown_drew _ _), grown_trans HA.out.2 (grown_drew _ _)⟩)
 generalize w1.drew = w2 at *
 generalize w.heap.size = gx at *
 have ew : IntKind.i64.wrap (s.i + s.es.length + 1) = s.i + s.es.length + 1 := by rw [IntKind.wrap_i64]; omega
 have hd2 : decide (s.i + s.es.length + 1 < x.index) = true := decide_eq_true hx
 refine wp_region_mix [(0, true), (1, true), (2, true), (3, false), (4, true), (5, true), (6, true), (7, true), (8, true), (9, true), (10, true), (11, true), (12, true), (13, false), (14, true), (15, true)] (at0 w2 (fun W => w2.grownBy W none)) (by kernel_rfl) (by kernel_rfl) rfl (by kernel_rfl) (shut_at0 (fun m => grown_drewN _ m none)) ⟨1, rfl⟩ ?_
 repeat (refine mix_rd1 rfl rfl (fun K hK => ?_); apply Exists.intro; refine ⟨fun W hW => ?_, ?_⟩; (obtain ⟨x0, x1, x2, x3, _⟩ := (HA2.out.1.kept hW).cells; go_simp; rfl); (go_simp; refine hK _ _ ?_; clear hK K))
 refine mix_call rfl rfl 62 #[.pointer (some ⟨b, 6, none⟩)] (fun W => by go_simp) ?_
 rintro W ⟨m3, rfl⟩
 refine (last_any b 6 s.i s.t v s.es _ (HF.out _ (grown_trans HA2.out.2 (grown_drewN _ m3 none))).1).mono ?_
 rintro e w3 ⟨rfl, hg3⟩
 have G3 := hid_mk (show w2.grownBy w3 none from grown_trans (grown_drewN _ m3 none) hg3)
 clear hg3
 refine ⟨_, rfl, at0 w3 (fun W => w2.grownBy W none), ⟨0, rfl⟩, shut_at0 (all_kept G3.out), fun _ h => h, ?_⟩
 go_simp
 repeat (first | (refine mix_no1 rfl rfl (fun K hK => ?_); (go_simp; refine hK _ _ ?_; clear hK K)) | (refine mix_rd1 rfl rfl (fun K hK => ?_); apply Exists.intro; refine ⟨fun W hW => ?_, ?_⟩; (obtain ⟨x0, x1, x2, x3, _⟩ := (HA2.out.1.kept hW).cells; go_simp; rfl); (go_simp; refine hK _ _ ?_; clear hK K)))
 refine mix_nil ?_
 rintro W ⟨m7, rfl⟩
 go_wp2_with fail
 go_ret
 exact ⟨rfl, grown_trans HA2.out.2 (grown_trans G3.out (grown_drewN _ m7 none))⟩
end Go.Proofs.YtlpkphdgadgmiaaGreatDoor.W

namespace Go.Proofs.YtlpkphdgadgmiaaGreatDoor.W
open Go.RowKit Go.Maps
set_option linter.unusedVariables false
set_option linter.unusedSimpArgs false
set_option maxRecDepth 100000

theorem mix_appE {ops : Array Oper} {Q : Act → Cl → Prop} {act : Act} {all : World → Prop} {i : Nat} {rest : List (Nat × Bool)} {o : Oper} {X : World} {G H : Nat → Prop} {v : Value} {ps : List (Ent × Value)} {x : Ent} {dv : Value} (hop0 : ops[i]? = some o) (hw : Region.wanted o (yielded ops act.tmps) = true) (s y : Operand)
  (hop : o.op = .call { callee := .builtin .append, args := #[s, y], argTypes := #[30, 30] }) (hs : act.eval s = v) (hy : act.eval y = .slice (some ⟨X.heap.size, 0, none⟩) 1 1)
  (h : EsG X G v ps) (ho : Own X 0 dv x.data) (hd : x.data.length ≤ 140737488355328) (hl : ps.length + 1 ≤ 1000000000000) (hGH : ∀ k, G k → H k) (hH : ∀ k, X.heap.size ≤ k → H k) (hoH : ∀ k, dv.ownBlock = some k → H k)
  (hK : ∀ a' c' X' W', (X.grownBy X' none ∧ EsG W' H (.slice a' (ps.length + 1) c') (ps ++ [(x, dv)]) ∧ (X'.alloc (.cells #[.int .i64 x.term, .int .i64 x.index, .int .i64 x.kind, dv] 51)).grownBy W' v.ownBlock) →
   Behind (at0 (X.alloc (.cells #[.int .i64 x.term, .int .i64 x.index, .int .i64 x.kind, dv] 51)) all) (wpMix Tryz.prog ops Q rest) (act.put o.dst (.slice a' (ps.length + 1) c')) W') :
  wpMix Tryz.prog ops Q ((i, false) :: rest) act (at0 (X.alloc (.cells #[.int .i64 x.term, .int .i64 x.index, .int .i64 x.kind, dv] 51)) all) := by
 refine mix_do hop0 hw ?_
 rintro W ⟨m, rfl⟩
 have hg : X.grownBy (X.drewN m) none := grown_drewN _ m none
 obtain ⟨a', c', W', hrun, hE, hg'⟩ := run_append_entG (H := H) (h.kept hg) x dv (ho.kept hg (.inl rfl)) hd hl hGH hH hoH (o := o) (a := act) s y hop hs hy
 exact ⟨_, W', hrun, hK a' c' (X.drewN m) W' ⟨hg, hE, hg'⟩⟩

set_option maxHeartbeats 4000000 in
theorem takeE_fall (G : Nat → Prop) (b : Nat) (p : Pl) (s : LS) (x : Ent) (a : Option Addr) (n c : Nat) (w : World) (h : LogAt w G b p s) (hx1 : s.i < x.index) (hx2 : x.index ≤ s.i + s.es.length + 1) (hx3 : x.term < s.termAt (x.index - 1)) : Calls Tryz.prog 142 #[.pointer (some ⟨b, 6, none⟩), .agg #[.int .i64 x.term, .int .i64 x.index, .int .i64 x.kind, .slice a n c]] w fun e w' => e = .returned (.bool false) ∧ w.grownBy w' none := by
 obtain ⟨v, hf⟩ := takeE_facts h
 have hlo := h.lo
 have hn := h.n
 have HH := hid_mk h
 have HF := hid_mk hf
 clear h hf
 have HA : Hid (EB (w.alloc (.cells #[.int .i64 x.term, .int .i64 x.index, .int .i64 x.kind, .slice a n c] 51)) w.heap.size x (.slice a n c) ∧ w.grownBy (w.alloc (.cells #[.int .i64 x.term, .int .i64 x.index, .int .i64 x.kind, .slice a n c] 51)) none) := hid_mk ⟨heap_alloc_new _ _, World.grownBy_alloc _ _ _⟩
 go_enter Tryz.func142, Tryz.ntmps142
 go_upto_region 1 with fail
 generalize w.alloc (.cells _ 51) = w1 at *
 obtain ⟨c0, c1, c2, c3, c4, c5, c6, c7, c8, _⟩ := (HF.out w1 HA.out.2).2.cells
 obtain ⟨x0, x1, x2, x3, _⟩ := HA.out.1.cells
 have hd : decide (x.index ≤ s.i) = false := decide_eq_false (by omega)
 clear c0 c1 c2 c3 c4 c5 c7 c8
 go_region
 go_upto_region 3 with fail
 clear c6 x0 x1 x2 x3
 have HA2 := hid_mk (show EB w1.drew w.heap.size x (.slice a n c) ∧ w.grownBy w1.drew none from ⟨HA.out.1.kept (grown_drew _ _), grown_trans HA.out.2 (grown_drew _ _)⟩)
 clear HA
 generalize w1.drew = w2 at *
 obtain ⟨gx, hgx⟩ : ∃ gx, gx = w.heap.size := ⟨_, rfl⟩
 rw [← hgx] at HA2 ⊢
 have HGX := hid_mk hgx
 clear hgx
 have ew : IntKind.i64.wrap (s.i + s.es.length + 1) = s.i + s.es.length + 1 := by rw [IntKind.wrap_i64]; omega
 have ew2 : IntKind.i64.wrap (x.index - 1) = x.index - 1 := by rw [IntKind.wrap_i64]; omega
 have hd2 : decide (s.i + s.es.length + 1 < x.index) = false := decide_eq_false (by omega)
 have HTA := hid_mk hx3
 obtain ⟨ta, hta⟩ : ∃ ta, ta = s.termAt (x.index - 1) := ⟨_, rfl⟩
 have HT := hid_mk hta
 rw [← hta] at hx3
 clear hta
 have hd3 : decide (x.term < ta) = true := decide_eq_true hx3
 refine wp_region_mix [(0, true), (1, true), (2, true), (3, false), (4, true), (5, true), (6, true), (7, true), (8, true), (9, true), (10, true), (11, true), (12, true), (13, false), (14, true), (15, true)] (at0 w2 (fun W => w2.grownBy W none)) (by kernel_rfl) (by kernel_rfl) rfl (by kernel_rfl) (shut_at0 (fun m => grown_drewN _ m none)) ⟨1, rfl⟩ ?_
 repeat (refine mix_rd1 rfl rfl (fun K hK => ?_); apply Exists.intro; refine ⟨fun W hW => ?_, ?_⟩; (obtain ⟨x0, x1, x2, x3, _⟩ := (HA2.out.1.kept hW).cells; go_simp; rfl); (go_simp; refine hK _ _ ?_; clear hK K))
 refine mix_call rfl rfl 62 #[.pointer (some ⟨b, 6, none⟩)] (fun W => by go_simp) ?_
 rintro W ⟨m3, rfl⟩
 refine (last_any b 6 s.i s.t v s.es _ (HF.out _ (grown_trans HA2.out.2 (grown_drewN _ m3 none))).1).mono ?_
 rintro e w3 ⟨rfl, hg3⟩
 have G3 := hid_mk (show w2.grownBy w3 none from grown_trans (grown_drewN _ m3 none) hg3)
 clear hg3
 refine ⟨_, rfl, at0 w3 (fun W => w2.grownBy W none), ⟨0, rfl⟩, shut_at0 (all_kept G3.out), fun _ h => h, ?_⟩
 go_simp
 repeat (refine mix_rd1 rfl rfl (fun K hK => ?_); apply Exists.intro; refine ⟨fun W hW => ?_, ?_⟩; (obtain ⟨x0, x1, x2, x3, _⟩ := (HA2.out.1.kept hW).cells; go_simp; rfl); (go_simp; refine hK _ _ ?_; clear hK K))
 refine mix_call rfl rfl 63 #[.pointer (some ⟨b, 6, none⟩), .int .i64 (x.index - 1)] (fun W => by go_simp) ?_
 rintro W ⟨m4, rfl⟩
 refine (termS_any b 6 s v (x.index - 1) _ (HF.out _ (grown_trans HA2.out.2 (grown_trans G3.out (grown_drewN _ m4 none)))).1 (by omega) (by omega)).mono ?_
 rintro e w4 ⟨rfl, hg4⟩
 rw [← HT.out]
 have G4 := hid_mk (show w2.grownBy w4 none from grown_trans G3.out (grown_trans (grown_drewN _ m4 none) hg4))
 clear hg4 G3
 refine ⟨_, rfl, at0 w4 (fun W => w2.grownBy W none), ⟨0, rfl⟩, shut_at0 (all_kept G4.out), fun _ h => h, ?_⟩
 go_simp
 repeat (refine mix_rd1 rfl rfl (fun K hK => ?_); apply Exists.intro; refine ⟨fun W hW => ?_, ?_⟩; (obtain ⟨x0, x1, x2, x3, _⟩ := (HA2.out.1.kept hW).cells; go_simp; rfl); (go_simp; refine hK _ _ ?_; clear hK K))
 refine mix_nil ?_
 rintro W ⟨m7, rfl⟩
 go_wp2_with fail
 go_ret
 exact ⟨rfl, grown_trans HA2.out.2 (grown_trans G4.out (grown_drewN _ m7 none))⟩

set_option maxHeartbeats 8000000 in
theorem takeE_fits (G H : Nat → Prop) (b : Nat) (p : Pl) (s : LS) (x : Ent) (a : Option Addr) (n c : Nat) (w : World) (h : LogAt w G b p s) (hx1 : s.i < x.index) (hx2 : x.index ≤ s.i + s.es.length + 1) (hx3 : s.termAt (x.index - 1) ≤ x.term)
  (hGb : ∀ k, G k → k < w.heap.size) (hGH : ∀ k, G k → H k) (hH : ∀ k, w.heap.size ≤ k → H k) (ho : Own w 0 (.slice a n c) x.data) (hoG : ∀ k, (Value.slice a n c).ownBlock = some k → ¬ G k) (hoH : ∀ k, (Value.slice a n c).ownBlock = some k → H k) (hdl : x.data.length ≤ 140737488355328) (hl : s.es.length + 1 ≤ 1000000000000) :
  Calls Tryz.prog 142 #[.pointer (some ⟨b, 6, none⟩), .agg #[.int .i64 x.term, .int .i64 x.index, .int .i64 x.kind, .slice a n c]] w fun e w' => e = .returned (.bool true) ∧ LogAt w' H b p ⟨s.i, s.t, s.es.take (s.at x.index) ++ [x]⟩ ∧ V.Keeps G w w' := by
 have HG := hid_mk (And.intro hGb (And.intro hGH hH))
 have HO := hid_mk (And.intro ho (And.intro hoG hoH))
 clear hGb hGH hH ho hoG hoH
 obtain ⟨v, hf⟩ := takeE_facts h
 have hlo := h.lo
 have hn := h.n
 have HH := hid_mk h
 have HF := hid_mk hf
 clear h hf
 have HA : Hid (EB (w.alloc (.cells #[.int .i64 x.term, .int .i64 x.index, .int .i64 x.kind, .slice a n c] 51)) w.heap.size x (.slice a n c) ∧ w.grownBy (w.alloc (.cells #[.int .i64 x.term, .int .i64 x.index, .int .i64 x.kind, .slice a n c] 51)) none) := hid_mk ⟨heap_alloc_new _ _, World.grownBy_alloc _ _ _⟩
 go_enter Tryz.func142, Tryz.ntmps142
 go_upto_region 1 with fail
 generalize w.alloc (.cells _ 51) = w1 at *
 obtain ⟨c0, c1, c2, c3, c4, c5, c6, c7, c8, _⟩ := (HF.out w1 HA.out.2).2.cells
 obtain ⟨x0, x1, x2, x3, _⟩ := HA.out.1.cells
 have hd : decide (x.index ≤ s.i) = false := decide_eq_false (by omega)
 clear c0 c1 c2 c3 c4 c5 c7 c8
 go_region
 go_upto_region 3 with fail
 clear c6 x0 x1 x2 x3
 have HA2 := hid_mk (show EB w1.drew w.heap.size x (.slice a n c) ∧ w.grownBy w1.drew none from ⟨HA.out.1.kept (grown_drew _ _), grown_trans HA.out.2 (grown_drew _ _)⟩)
 clear HA
 generalize w1.drew = w2 at *
 obtain ⟨gx, hgx⟩ : ∃ gx, gx = w.heap.size := ⟨_, rfl⟩
 rw [← hgx] at HA2 ⊢
 have HGX := hid_mk hgx
 clear hgx
 have ew : IntKind.i64.wrap (s.i + s.es.length + 1) = s.i + s.es.length + 1 := by rw [IntKind.wrap_i64]; omega
 have ew2 : IntKind.i64.wrap (x.index - 1) = x.index - 1 := by rw [IntKind.wrap_i64]; omega
 have hd2 : decide (s.i + s.es.length + 1 < x.index) = false := decide_eq_false (by omega)
 have HTA := hid_mk hx3
 obtain ⟨ta, hta⟩ : ∃ ta, ta = s.termAt (x.index - 1) := ⟨_, rfl⟩
 have HT := hid_mk hta
 rw [← hta] at hx3
 clear hta
 have hd3 : decide (x.term < ta) = false := decide_eq_false (by omega)
 refine wp_region_mix [(0, true), (1, true), (2, true), (3, false), (4, true), (5, true), (6, true), (7, true), (8, true), (9, true), (10, true), (11, true), (12, true), (13, false), (14, true), (15, true)] (at0 w2 (fun W => w2.grownBy W none)) (by kernel_rfl) (by kernel_rfl) rfl (by kernel_rfl) (shut_at0 (fun m => grown_drewN _ m none)) ⟨1, rfl⟩ ?_
 repeat (refine mix_rd1 rfl rfl (fun K hK => ?_); apply Exists.intro; refine ⟨fun W hW => ?_, ?_⟩; (obtain ⟨x0, x1, x2, x3, _⟩ := (HA2.out.1.kept hW).cells; go_simp; rfl); (go_simp; refine hK _ _ ?_; clear hK K))
 refine mix_call rfl rfl 62 #[.pointer (some ⟨b, 6, none⟩)] (fun W => by go_simp) ?_
 rintro W ⟨m3, rfl⟩
 refine (last_any b 6 s.i s.t v s.es _ (HF.out _ (grown_trans HA2.out.2 (grown_drewN _ m3 none))).1).mono ?_
 rintro e w3 ⟨rfl, hg3⟩
 have G3 := hid_mk (show w2.grownBy w3 none from grown_trans (grown_drewN _ m3 none) hg3)
 clear hg3
 refine ⟨_, rfl, at0 w3 (fun W => w2.grownBy W none), ⟨0, rfl⟩, shut_at0 (all_kept G3.out), fun _ h => h, ?_⟩
 go_simp
 repeat (refine mix_rd1 rfl rfl (fun K hK => ?_); apply Exists.intro; refine ⟨fun W hW => ?_, ?_⟩; (obtain ⟨x0, x1, x2, x3, _⟩ := (HA2.out.1.kept hW).cells; go_simp; rfl); (go_simp; refine hK _ _ ?_; clear hK K))
 refine mix_call rfl rfl 63 #[.pointer (some ⟨b, 6, none⟩), .int .i64 (x.index - 1)] (fun W => by go_simp) ?_
 rintro W ⟨m4, rfl⟩
 refine (termS_any b 6 s v (x.index - 1) _ (HF.out _ (grown_trans HA2.out.2 (grown_trans G3.out (grown_drewN _ m4 none)))).1 (by omega) (by omega)).mono ?_
 rintro e w4 ⟨rfl, hg4⟩
 rw [← HT.out]
 have G4 := hid_mk (show w2.grownBy w4 none from grown_trans G3.out (grown_trans (grown_drewN _ m4 none) hg4))
 clear hg4 G3
 refine ⟨_, rfl, at0 w4 (fun W => w2.grownBy W none), ⟨0, rfl⟩, shut_at0 (all_kept G4.out), fun _ h => h, ?_⟩
 go_simp
 repeat (refine mix_rd1 rfl rfl (fun K hK => ?_); apply Exists.intro; refine ⟨fun W hW => ?_, ?_⟩; (obtain ⟨x0, x1, x2, x3, _⟩ := (HA2.out.1.kept hW).cells; go_simp; rfl); (go_simp; refine hK _ _ ?_; clear hK K))
 refine mix_nil ?_
 rintro W ⟨m7, rfl⟩
 have G7 := hid_mk (show w.grownBy (w4.drewN m7) none from grown_trans HA2.out.2 (grown_trans G4.out (grown_drewN _ m7 none)))
 have HE7 := hid_mk (show EB (w4.drewN m7) gx x (.slice a n c) from HA2.out.1.kept (grown_trans G4.out (grown_drewN _ m7 none)))
 clear HA2 G4 HF
 generalize w4.drewN m7 = w5 at *
 obtain ⟨x0, x1, x2, x3, _⟩ := HE7.out.cells
 go_upto_region 5 with fail
 go_wp2_with fail
 clear x0 x1 x2 x3
 refine (cutS_any G b p s x.index w5 (HH.out.kept G7.out)).mono ?_
 rintro e w6 ⟨rfl, hl6, hk6⟩
 have hst : (if s.hasB x.index = true then s.cutTo x.index else s) = ⟨s.i, s.t, s.es.take (s.at x.index)⟩ := by
  cases hb : s.hasB x.index with
  | true => rfl
  | false =>
   have : s.es.length ≤ s.at x.index := by
    unfold LS.hasB at hb
    simp at hb
    unfold LS.at
    have := hb hx1
    omega
   simp only [Bool.false_eq_true, if_false]
   rw [List.take_of_length_le this]
 rw [hst] at hl6
 have hgx := HGX.out
 have hnx : ¬ G gx := fun hg => by have := HG.out.1 gx hg; omega
 clear hgx
 have K6 := hid_mk (show V.Keeps G w w6 from (V.Keeps.of_none G7.out).then hk6)
 have HE6 := hid_mk (show EB w6 gx x (.slice a n c) from (hk6.block gx (Array.getElem?_eq_some_iff.1 HE7.out).1 hnx).trans HE7.out)
 have HO6 := hid_mk (show Own w6 0 (.slice a n c) x.data from V.rows_keeps HO.out.1 K6.out (fun k e => HO.out.2.1 k e))
 obtain ⟨v6, ps6, h61, h62, h63⟩ := hl6.blk
 have h6n := hl6.n
 have HL6 := hid_mk (And.intro h61 (And.intro h62 h63))
 have HGB := hid_mk hl6.gb
 simp only at h61 h62 h63 h6n HL6
 have hlen6 : ps6.length = (s.es.take (s.at x.index)).length := by rw [← h63, List.length_map]
 have hl6' : ps6.length + 1 ≤ 1000000000000 := by rw [hlen6, List.length_take]; omega
 obtain ⟨a6, c6, rfl⟩ := row_shape h62.row
 have hb6 : ∀ k, (Value.slice a6 ps6.length c6).ownBlock = some k → k ≠ gx ∧ k ≠ b := fun k e => ⟨fun e2 => hnx (e2 ▸ h62.rowG k e), fun e2 => by
  rcases h62.row.2 with ⟨e3, _⟩ | ⟨g, cap, cur, e3, _, hg, _⟩
  ·rw [e3] at e; cases e
  ·rw [e3] at e
   cases e
   unfold LogB at h61
   rw [← e2] at h61
   change w6.heap[g]? = _ at h61
   rw [hg] at h61
   cases h61⟩
 have HB6 := hid_mk hb6
 have HSZ := hid_mk (show w.heap.size ≤ w6.heap.size from K6.out.size)
 clear h61 h62 h63 hl6 hk6 hlen6 hb6 hst h6n HE7 G7 hnx
 go_upto_region 6 with fail
 refine wp_region_mixL [(0, true), (1, true), (2, true), (3, true), (4, true), (5, true), (6, false), (7, false), (8, true), (9, true)] 10 (at0 w6 (fun W => LogB W b p s.i s.t (.slice a6 ps6.length c6) ∧ EB W gx x (.slice a n c))) (by kernel_rfl) (by kernel_rfl) rfl (by kernel_rfl) rfl (by kernel_rfl) (shut_at0 (fun m => ⟨HL6.out.1.kept (grown_drewN _ m none) (by simp), HE6.out.kept (grown_drewN _ m none)⟩)) ⟨1, rfl⟩ ?_
 repeat (refine mix_rd1 rfl rfl (fun K hK => ?_); apply Exists.intro; refine ⟨fun W hW => ?_, ?_⟩; (obtain ⟨c0, c1, c2, c3, c4, c5, c6, c7, c8, _⟩ := LogB.cells hW.1; obtain ⟨x0, x1, x2, x3, _⟩ := EB.cells hW.2; go_simp; rfl); (go_simp; refine hK _ _ ?_; clear hK K))
 refine mix_do rfl rfl ?_
 rintro W ⟨m8, rfl⟩
 have GA := hid_mk (World.grownBy_alloc (w6.drewN m8) (.cells #[.int .i64 x.term, .int .i64 x.index, .int .i64 x.kind, .slice a n c] 51) none)
 have G8 := hid_mk (grown_drewN w6 m8 none)
 refine ⟨.slice (some ⟨w6.heap.size, 0, none⟩) 1 1, (w6.drewN m8).alloc (.cells #[.int .i64 x.term, .int .i64 x.index, .int .i64 x.kind, .slice a n c] 51), by go_simp, at0 ((w6.drewN m8).alloc (.cells #[.int .i64 x.term, .int .i64 x.index, .int .i64 x.kind, .slice a n c] 51)) (fun W => LogB W b p s.i s.t (.slice a6 ps6.length c6) ∧ EB W gx x (.slice a n c)), ⟨0, rfl⟩, shut_at0 (fun m => ⟨HL6.out.1.kept (grown_trans G8.out (grown_trans GA.out (grown_drewN _ m none))) (by simp), HE6.out.kept (grown_trans G8.out (grown_trans GA.out (grown_drewN _ m none)))⟩), fun _ h => h, ?_⟩
 go_simp
 refine mix_appE (X := w6.drewN m8) (G := G) (H := H) rfl rfl (.tmp 36) (.tmp 38) rfl rfl rfl (HL6.out.2.1.kept G8.out) (HO6.out.kept G8.out (.inl rfl)) hdl hl6' HG.out.2.1 (fun k hk => HG.out.2.2 k (Nat.le_trans HSZ.out hk)) HO.out.2.2 ?_
 rintro aN cN X9 w9 ⟨hx9, he9, hg9⟩
 have HX9 := hid_mk (show w6.grownBy (X9.alloc (.cells #[.int .i64 x.term, .int .i64 x.index, .int .i64 x.kind, .slice a n c] 51)) none from grown_trans (grown_trans G8.out hx9) (World.grownBy_alloc _ _ none))
 have HE9 := hid_mk he9
 have HL9 := hid_mk (show LogB w9 b p s.i s.t (.slice a6 ps6.length c6) ∧ EB w9 gx x (.slice a n c) from ⟨(HL6.out.1.kept HX9.out (by simp)).kept hg9 (fun e => (HB6.out b e).2 rfl), (HE6.out.kept HX9.out |> fun hh => (hg9.block gx (Array.getElem?_eq_some_iff.1 hh).1 (fun e => (HB6.out gx e.symm).1 rfl)).trans hh)⟩)
 have HK9 := hid_mk (show V.Keeps G w w9 from K6.out.then ((V.Keeps.of_none HX9.out).then (V.Keeps.of_grown hg9 (fun k e _ => HL6.out.2.1.rowG k e))))
 clear hx9 he9 hg9 GA G8
 refine ⟨at0 w9 (fun W => LogB W b p s.i s.t (.slice a6 ps6.length c6) ∧ EB W gx x (.slice a n c)), ⟨0, rfl⟩, shut_at0 (fun m => ⟨HL9.out.1.kept (grown_drewN _ m none) (by simp), HL9.out.2.kept (grown_drewN _ m none)⟩), fun _ h => h, ?_⟩
 go_simp
 repeat (refine mix_rd1 rfl rfl (fun K hK => ?_); apply Exists.intro; refine ⟨fun W hW => ?_, ?_⟩; (obtain ⟨c0, c1, c2, c3, c4, c5, c6, c7, c8, _⟩ := LogB.cells hW.1; go_simp; rfl); (go_simp; refine hK _ _ ?_; clear hK K))
 refine mix_nil ?_
 rintro W10 ⟨m10, rfl⟩
 have HL10 := hid_mk (HL9.out.1.kept (grown_drewN w9 m10 none) (by simp))
 have HE10 := hid_mk (HE9.out.kept (grown_drewN w9 m10 none))
 have HK10 := hid_mk (HK9.out.then (V.Keeps.of_none (grown_drewN w9 m10 none)))
 generalize w9.drewN m10 = w10 at *
 obtain ⟨c0, c1, c2, c3, c4, c5, c6', c7, c8, cz⟩ := HL10.out.cells
 refine ⟨w10.setCell ⟨b, 8, none⟩ (.slice aN (ps6.length + 1) cN), by go_simp, ?_⟩
 have HL11 := hid_mk (HL10.out.list (.slice aN (ps6.length + 1) cN))
 have HG11 := hid_mk (grown_setCell w10 b 8 (.slice aN (ps6.length + 1) cN))
 have HE11 := hid_mk (HE10.out.log HL10.out HG11.out)
 have HK11 := hid_mk (HK10.out.then (V.Keeps.one HG11.out HGB.out))
 generalize w10.setCell ⟨b, 8, none⟩ _ = w11 at *
 clear c0 c1 c2 c3 c4 c5 c6' c7 c8 cz
 go_simp
 go_wp2_with fail
 go_ret
 refine ⟨rfl, ⟨⟨_, ps6 ++ [(x, .slice a n c)], HL11.out, HE11.out, ?_⟩, HG.out.2.1 b HGB.out, hlo, ?_⟩, HK11.out⟩
 ·show (ps6 ++ [(x, Value.slice a n c)]).map (·.1) = s.es.take (s.at x.index) ++ [x]
  rw [List.map_append, HL6.out.2.2]
  rfl
 ·show (s.es.take (s.at x.index) ++ [x]).length ≤ _
  rw [List.length_append, List.length_take, List.length_singleton]
  omega

end Go.Proofs.YtlpkphdgadgmiaaGreatDoor.W

namespace Go.Proofs.YtlpkphdgadgmiaaGreatDoor.W
open Go.RowKit Go.Maps
set_option linter.unusedVariables false
set_option linter.unusedSimpArgs false
set_option maxRecDepth 100000

theorem takeE_any (G H : Nat → Prop) (b : Nat) (p : Pl) (s : LS) (x : Ent) (a : Option Addr) (n c : Nat) (w : World) (h : LogAt w G b p s)
  (hGb : ∀ k, G k → k < w.heap.size) (hGH : ∀ k, G k → H k) (hH : ∀ k, w.heap.size ≤ k → H k) (ho : Own w 0 (.slice a n c) x.data) (hoG : ∀ k, (Value.slice a n c).ownBlock = some k → ¬ G k) (hoH : ∀ k, (Value.slice a n c).ownBlock = some k → H k) (hdl : x.data.length ≤ 140737488355328) (hl : s.es.length + 1 ≤ 1000000000000) :
  Calls Tryz.prog 142 #[.pointer (some ⟨b, 6, none⟩), .agg #[.int .i64 x.term, .int .i64 x.index, .int .i64 x.kind, .slice a n c]] w fun e w' => e = .returned (.bool (s.takeE x).isSome) ∧ LogAt w' H b p ((s.takeE x).getD s) ∧ V.Keeps G w w' := by
 unfold LS.takeE
 by_cases h1 : x.index ≤ s.i
 ·rw [if_pos h1]
  refine (takeE_old G b p s x a n c w h h1).mono ?_
  rintro e w' ⟨rfl, hg⟩
  exact ⟨rfl, (h.kept hg).wide hGH, V.Keeps.of_none hg⟩
 rw [if_neg h1]
 by_cases h2 : s.i + s.es.length + 1 < x.index
 ·rw [if_pos (.inl h2)]
  refine (takeE_gap G b p s x a n c w h h2).mono ?_
  rintro e w' ⟨rfl, hg⟩
  exact ⟨rfl, (h.kept hg).wide hGH, V.Keeps.of_none hg⟩
 by_cases h3 : x.term < s.termAt (x.index - 1)
 ·rw [if_pos (.inr h3)]
  refine (takeE_fall G b p s x a n c w h (by omega) (by omega) h3).mono ?_
  rintro e w' ⟨rfl, hg⟩
  exact ⟨rfl, (h.kept hg).wide hGH, V.Keeps.of_none hg⟩
 rw [if_neg (by rintro (h | h) <;> omega)]
 exact takeE_fits G H b p s x a n c w h (by omega) (by omega) (by omega) hGb hGH hH ho hoG hoH hdl hl

set_option maxHeartbeats 1000000 in
theorem cloneG_any (ad : Addr) (c : Nat) (es : List (Ent × Value)) (w : World) (hc : ∀ j u, (es.flatMap entCells)[j]? = some u → w.cell? (ad.add j) = some u) (hb : ∀ q ∈ es, Byt w q.2 q.1.data) (hl : es.length * 48 ≤ 140737488355328) :
  Calls Tryz.prog 101 #[.slice (some ad) es.length c] w fun e w' => ∃ v', e = .returned v' ∧ w'.ownsRow w.heap.size 51 4 v' es.length (es.flatMap entCells) ∧ w.grownBy w' none := by
 have hq := fun w => Lib.run_eql_slice_nil (P := Tryz.prog) w 30 51 (some ad) es.length c 0 0 Tryz.underlying30
 have HE := hid_mk (And.intro hc hb)
 clear hc hb
 go_enter Tryz.func101, Tryz.ntmps101
 go_wp2_with (at_builtin; refine wpList_append_ents w rfl (.tmp 5) (.tmp 6) rfl rfl es ad c rfl HE.out.1 HE.out.2 hl ?_; intro v1 w1 O1)
 go_ret
 exact ⟨_, rfl, O1.out.1, O1.out.2⟩

def SB (W : World) (b : Nat) (i t : Int) (v : Value) : Prop := W.heap[b]? = some (.cells #[.int .i64 i, .int .i64 t, v] 74 (0, 0))
theorem SB.kept {W W' : World} {b : Nat} {i t : Int} {v : Value} {row : Option Nat} (h : SB W b i t v) (hg : W.grownBy W' row) (hr : row ≠ some b) : SB W' b i t v := (hg.block b (Array.getElem?_eq_some_iff.1 h).1 (fun e => hr e.symm)).trans h
theorem SB.cells {W : World} {b : Nat} {i t : Int} {v : Value} (h : SB W b i t v) : W.cell? ⟨b, 0, none⟩ = some (.int .i64 i) ∧ W.cell? ⟨b, 1, none⟩ = some (.int .i64 t) ∧ W.cell? ⟨b, 2, none⟩ = some v ∧ ∀ j, W.frozen? ⟨b, j, none⟩ = false :=
 ⟨by rw [cell_of_row _ _ _ _ _ _ h]; rfl, by rw [cell_of_row _ _ _ _ _ _ h]; rfl, by rw [cell_of_row _ _ _ _ _ _ h]; rfl, fun j => by unfold SB at h; simp [World.frozen?, h]⟩
theorem SB.list {W : World} {b : Nat} {i t : Int} {v : Value} (h : SB W b i t v) (v' : Value) : SB (W.setCell ⟨b, 2, none⟩ v') b i t v' := by
 unfold SB at *
 simp [World.setCell, Array.getElem?_modify, h]
theorem SB.laid {W : World} {b : Nat} {i t i' t' : Int} {v v' : Value} (h : SB W b i t v) : SB (((W.setCell ⟨b, 0, none⟩ (.int .i64 i')).setCell ⟨b, 1, none⟩ (.int .i64 t')).setCell ⟨b, 2, none⟩ v') b i' t' v' := by
 unfold SB at *
 simp [World.setCell, Array.getElem?_modify, h]
theorem load74 (w : World) (b : Nat) (i t : Int) (v : Value) (h : SB w b i t v) (hv : v.oneCell' = true) : (loadVar 74 ⟨b, 0, none⟩).run Tryz.prog w = .ok (.agg #[.int .i64 i, .int .i64 t, v]) w := by
 obtain ⟨h0, h1, h2, _⟩ := h.cells
 simp [loadVar, go_sem, h0, h1, h2]
theorem ret_state {fn : Func} {q : Tmp} (h : fn.results = #[.cell q 74]) (tmps : Array Value) (w : World) (b : Nat) (i t : Int) (v : Value) (hp : tmps.getD q undef = .pointer (some ⟨b, 0, none⟩)) (hb : SB w b i t v) (hv : v.oneCell' = true) :
  (results fn tmps).run Tryz.prog w = .ok (.agg #[.int .i64 i, .int .i64 t, v]) w := by
 have ha : (asAddr (.pointer (some ⟨b, 0, none⟩))).run Tryz.prog w = .ok ⟨b, 0, none⟩ w := by simp [asAddr]
 rw [results_cell1 h, hp, ha]
 simp only [Result.andThen]
 rw [load74 w b i t v hb hv]
theorem reb_has_no (G : Nat → Prop) (b : Nat) (p : Pl) (s : LS) (i t : Int) (w : World) (h : LogAt w G b p s) (hi : s.hasB i = false) : Calls Tryz.prog 79 #[.pointer (some ⟨b, 6, none⟩), .int .i64 i, .int .i64 t] w fun e w' => e = .returned (.agg #[.int .i64 i, .int .i64 t, .slice none 0 0]) ∧ w.grownBy w' none := by
 have HI := hid_mk hi
 clear hi
 obtain ⟨v, hf⟩ := takeE_facts h
 have hlo := h.lo
 have hn := h.n
 have HH := hid_mk h
 have HF := hid_mk hf
 clear h hf
 have HA : Hid (SB ((w.alloc (.cells #[.int .i64 0, .int .i64 0, .slice none 0 0] 74)).alloc (.cells #[.int .i64 i, .int .i64 t, .slice none 0 0] 74)) w.heap.size 0 0 (.slice none 0 0) ∧ SB ((w.alloc (.cells #[.int .i64 0, .int .i64 0, .slice none 0 0] 74)).alloc (.cells #[.int .i64 i, .int .i64 t, .slice none 0 0] 74)) (w.heap.size + 1) i t (.slice none 0 0) ∧ w.grownBy ((w.alloc (.cells #[.int .i64 0, .int .i64 0, .slice none 0 0] 74)).alloc (.cells #[.int .i64 i, .int .i64 t, .slice none 0 0] 74)) none) := hid_mk (by
  have s1 : (w.alloc (.cells #[.int .i64 0, .int .i64 0, .slice none 0 0] 74)).heap.size = w.heap.size + 1 := by simp
  have m1 := heap_alloc_new w (.cells #[.int .i64 0, .int .i64 0, .slice none 0 0] 74)
  refine ⟨((World.grownBy_alloc _ _ none).block _ (by rw [s1]; omega) (by simp)).trans m1, ?_, grown_trans (World.grownBy_alloc _ _ _) (World.grownBy_alloc _ _ _)⟩
  rw [← s1]; exact heap_alloc_new _ _)
 go_enter Tryz.func79, Tryz.ntmps79
 go_upto_region 2 with fail
 generalize ((w.alloc (.cells _ 74)).alloc (.cells _ 74)) = w1 at *
 go_wp2_with fail
 refine (has_any b 6 s.i s.t v s.es i w1 (HF.out w1 HA.out.2.2).1).mono ?_
 rintro e w2 ⟨rfl, hg2⟩
 have H2 := hid_mk (show SB w2 w.heap.size 0 0 (.slice none 0 0) ∧ SB w2 (w.heap.size + 1) i t (.slice none 0 0) ∧ w.grownBy w2 none from ⟨HA.out.1.kept hg2 (by simp), HA.out.2.1.kept hg2 (by simp), grown_trans HA.out.2.2 hg2⟩)
 clear hg2 HA
 rw [show (decide (s.i < i) && decide (i ≤ s.i + s.es.length)) = false from HI.out]
 go_upto_region 4 with fail
 obtain ⟨z0, z1, z2, zz⟩ := H2.out.1.cells
 obtain ⟨y0, y1, y2, yy⟩ := H2.out.2.1.cells
 go_wp2_with fail
 have HL := hid_mk (SB.laid (i' := i) (t' := t) (v' := .slice none 0 0) H2.out.1)
 have HGL := hid_mk (show w2.grownBy (((w2.setCell ⟨w.heap.size, 0, none⟩ (.int .i64 i)).setCell ⟨w.heap.size, 1, none⟩ (.int .i64 t)).setCell ⟨w.heap.size, 2, none⟩ (.slice none 0 0)) (some w.heap.size) from grown_trans (grown_setCell _ _ _ _) (grown_trans (grown_setCell _ _ _ _) (grown_setCell _ _ _ _)))
 refine bodyPost_ret (ret_state (fn := Tryz.f79) rfl _ _ w.heap.size i t (.slice none 0 0) rfl HL.out rfl) rfl ?_
 exact ⟨rfl, grown_new H2.out.2.2 HGL.out (Nat.le_refl _)⟩

theorem reb_differs (G : Nat → Prop) (b : Nat) (p : Pl) (s : LS) (i t : Int) (w : World) (h : LogAt w G b p s) (hi : s.hasB i = true) (ht : s.termAt i ≠ t) : Calls Tryz.prog 79 #[.pointer (some ⟨b, 6, none⟩), .int .i64 i, .int .i64 t] w fun e w' => e = .returned (.agg #[.int .i64 i, .int .i64 t, .slice none 0 0]) ∧ w.grownBy w' none := by
 have hb := hi
 unfold LS.hasB at hb
 simp at hb
 have HI := hid_mk hi
 obtain ⟨ta, hta⟩ : ∃ ta, ta = s.termAt i := ⟨_, rfl⟩
 rw [← hta] at ht
 have HT := hid_mk hta
 have hd : (ta == t) = false := by simp [ht]
 clear hi hta
 obtain ⟨v, hf⟩ := takeE_facts h
 have hlo := h.lo
 have hn := h.n
 have HH := hid_mk h
 have HF := hid_mk hf
 clear h hf
 have HA : Hid (SB ((w.alloc (.cells #[.int .i64 0, .int .i64 0, .slice none 0 0] 74)).alloc (.cells #[.int .i64 i, .int .i64 t, .slice none 0 0] 74)) w.heap.size 0 0 (.slice none 0 0) ∧ SB ((w.alloc (.cells #[.int .i64 0, .int .i64 0, .slice none 0 0] 74)).alloc (.cells #[.int .i64 i, .int .i64 t, .slice none 0 0] 74)) (w.heap.size + 1) i t (.slice none 0 0) ∧ w.grownBy ((w.alloc (.cells #[.int .i64 0, .int .i64 0, .slice none 0 0] 74)).alloc (.cells #[.int .i64 i, .int .i64 t, .slice none 0 0] 74)) none) := hid_mk (by
  have s1 : (w.alloc (.cells #[.int .i64 0, .int .i64 0, .slice none 0 0] 74)).heap.size = w.heap.size + 1 := by simp
  have m1 := heap_alloc_new w (.cells #[.int .i64 0, .int .i64 0, .slice none 0 0] 74)
  refine ⟨((World.grownBy_alloc _ _ none).block _ (by rw [s1]; omega) (by simp)).trans m1, ?_, grown_trans (World.grownBy_alloc _ _ _) (World.grownBy_alloc _ _ _)⟩
  rw [← s1]; exact heap_alloc_new _ _)
 go_enter Tryz.func79, Tryz.ntmps79
 go_upto_region 2 with fail
 generalize ((w.alloc (.cells _ 74)).alloc (.cells _ 74)) = w1 at *
 go_wp2_with fail
 refine (has_any b 6 s.i s.t v s.es i w1 (HF.out w1 HA.out.2.2).1).mono ?_
 rintro e w2 ⟨rfl, hg2⟩
 have H2 := hid_mk (show SB w2 w.heap.size 0 0 (.slice none 0 0) ∧ SB w2 (w.heap.size + 1) i t (.slice none 0 0) ∧ w.grownBy w2 none from ⟨HA.out.1.kept hg2 (by simp), HA.out.2.1.kept hg2 (by simp), grown_trans HA.out.2.2 hg2⟩)
 clear hg2 HA
 rw [show (decide (s.i < i) && decide (i ≤ s.i + s.es.length)) = true from HI.out]
 go_wp2_with fail
 refine (termS_any b 6 s v i w2 (HF.out w2 H2.out.2.2).1 (by omega) (by omega)).mono ?_
 rintro e w3 ⟨rfl, hg3⟩
 rw [← HT.out]
 have H3 := hid_mk (show SB w3 w.heap.size 0 0 (.slice none 0 0) ∧ SB w3 (w.heap.size + 1) i t (.slice none 0 0) ∧ w.grownBy w3 none from ⟨H2.out.1.kept hg3 (by simp), H2.out.2.1.kept hg3 (by simp), grown_trans H2.out.2.2 hg3⟩)
 clear hg3 H2
 go_upto_region 4 with fail
 obtain ⟨z0, z1, z2, zz⟩ := H3.out.1.cells
 obtain ⟨y0, y1, y2, yy⟩ := H3.out.2.1.cells
 go_wp2_with fail
 have HL := hid_mk (SB.laid (i' := i) (t' := t) (v' := .slice none 0 0) H3.out.1)
 have HGL := hid_mk (show w3.grownBy (((w3.setCell ⟨w.heap.size, 0, none⟩ (.int .i64 i)).setCell ⟨w.heap.size, 1, none⟩ (.int .i64 t)).setCell ⟨w.heap.size, 2, none⟩ (.slice none 0 0)) (some w.heap.size) from grown_trans (grown_setCell _ _ _ _) (grown_trans (grown_setCell _ _ _ _) (grown_setCell _ _ _ _)))
 refine bodyPost_ret (ret_state (fn := Tryz.f79) rfl _ _ w.heap.size i t (.slice none 0 0) rfl HL.out rfl) rfl ?_
 exact ⟨rfl, grown_new H3.out.2.2 HGL.out (Nat.le_refl _)⟩

end Go.Proofs.YtlpkphdgadgmiaaGreatDoor.W

namespace Go.Proofs.YtlpkphdgadgmiaaGreatDoor.W
open Go.RowKit Go.Maps
set_option linter.unusedVariables false
set_option linter.unusedSimpArgs false
set_option maxRecDepth 100000

theorem ents_drop (ps : List (Ent × Value)) (k : Nat) : (ps.drop k).flatMap entCells = (ps.flatMap entCells).drop (k * 4) := by
 induction ps generalizing k with
 | nil => simp
 | cons q ps ih =>
  cases k with
  | zero => simp
  | succ k =>
   rw [List.drop_succ_cons, List.flatMap_cons, ih, show (k + 1) * 4 = (entCells q).length + k * 4 by show _ = 4 + k * 4; omega, List.drop_append]
   simp

set_option maxHeartbeats 4000000 in
theorem reb_same (G : Nat → Prop) (b : Nat) (p : Pl) (s : LS) (k : Nat) (t : Int) (w : World) (h : LogAt w G b p s) (hk1 : 1 ≤ k) (hk2 : k ≤ s.es.length) (ht : s.termAt (s.i + k) = t) (hl : s.es.length ≤ 1000000000000) :
  Calls Tryz.prog 79 #[.pointer (some ⟨b, 6, none⟩), .int .i64 (s.i + k), .int .i64 t] w fun e w' => ∃ a c ps, e = .returned (.agg #[.int .i64 (s.i + k), .int .i64 t, .slice a ps.length c]) ∧ EsG w' (fun j => G j ∨ w.heap.size ≤ j) (.slice a ps.length c) ps ∧ ps.map (·.1) = s.es.drop k ∧ w.grownBy w' none := by
 obtain ⟨v, ps, h1, h2, h3⟩ := h.blk
 have hlen : ps.length = s.es.length := by rw [← h3, List.length_map]
 obtain ⟨g, cap, cur, rfl, hcur⟩ : ∃ g cap cur, v = .slice (some ⟨g, 0, none⟩) s.es.length cap ∧ w.heap[g]? = some (.cells cur 51 (0, 0)) ∧ s.es.length ≤ cap ∧ cap ≤ maxLen ∧ cur.size = cap * 4 ∧ cur.toList.take (s.es.length * 4) = ps.flatMap entCells := by
  rcases h2.row.2 with ⟨_, h0⟩ | ⟨g, cap, cur, e, _, hg, r1, r2, r3, r4⟩
  ·omega
  ·rw [hlen] at e r1 r4
   exact ⟨g, cap, cur, e, hg, r1, r2, r3, r4⟩
 have hf : ∀ W, w.grownBy W none → StR W b 6 s.i s.t (.slice (some ⟨g, 0, none⟩) s.es.length cap) s.es ∧ LogB W b p s.i s.t (.slice (some ⟨g, 0, none⟩) s.es.length cap) := fun W hW => ⟨(str_of h1 h2 h3 h.lo h.n).kept hW, h1.kept hW (by simp)⟩
 have HB := hid_mk (And.intro h2 (And.intro h3 hlen))
 have HC := hid_mk hcur
 have hcap := hcur.2.1
 have hcm : cap ≤ 9223372036854775807 := by
  have := hcur.2.2.1
  unfold maxLen at this
  omega
 obtain ⟨A, hA⟩ : ∃ A : Addr, (if cap = k then some (⟨g, 0, none⟩ : Addr) else some ⟨g, k * 4, none⟩) = some A := by
  by_cases h : cap = k
  ·exact ⟨_, by rw [if_pos h]⟩
  ·exact ⟨_, by rw [if_neg h]⟩
 have hdl : (ps.drop k).length = s.es.length - k := by rw [List.length_drop, hlen]
 have HCL := hid_mk (show ∀ W, w.grownBy W none → Calls Tryz.prog 101 #[.slice (some A) (s.es.length - k) (cap - k)] W fun e w' => ∃ v', e = .returned v' ∧ w'.ownsRow W.heap.size 51 4 v' (s.es.length - k) ((ps.drop k).flatMap entCells) ∧ W.grownBy w' none from fun W hW => by
  have := cloneG_any A (cap - k) (ps.drop k) W (fun j u hj => by
   have hj' : j < (s.es.length - k) * 4 := by
    have := (List.getElem?_eq_some_iff.1 hj).1
    rw [entCells_len, hdl] at this
    exact this
   have hcn : ¬ cap = k := by omega
   rw [if_neg hcn] at hA
   cases hA
   have hgW : W.heap[g]? = some (.cells cur 51 (0, 0)) := (hW.block g (Array.getElem?_eq_some_iff.1 hcur.1).1 (by simp)).trans hcur.1
   rw [addr_add, cell_of_row _ _ _ _ _ _ hgW, ← hj, ents_drop, List.getElem?_drop, ← hcur.2.2.2.2, List.getElem?_take, if_pos (by omega)]
   simp) (fun q hq => ((h2.own q (List.mem_of_mem_drop hq)).1.byt).kept hW) (by rw [hdl]; omega)
  rw [hdl] at this
  exact this)
 have HHA := hid_mk hA
 have e1 : s.i + (k : Int) - s.i = (k : Int) := by omega
 have ew1 : IntKind.i64.wrap (k : Int) = k := by rw [IntKind.wrap_i64]; omega
 have HI := hid_mk (show (decide (s.i < s.i + k) && decide (s.i + (k : Int) ≤ s.i + s.es.length)) = true by simp; omega)
 have HT := hid_mk ht
 have hd : (t == t) = true := by simp
 obtain ⟨i, hi⟩ : ∃ i, i = s.i + (k : Int) := ⟨_, rfl⟩
 rw [← hi] at HI HT e1 ⊢
 have hib : s.i ≤ i ∧ i ≤ s.i + s.es.length := by omega
 clear h1 h2 h3 hcur hlen hA ht hi
 have hlo := h.lo
 have hn := h.n
 have HH := hid_mk h
 have HF := hid_mk hf
 clear h hf
 have HA : Hid (SB ((w.alloc (.cells #[.int .i64 0, .int .i64 0, .slice none 0 0] 74)).alloc (.cells #[.int .i64 i, .int .i64 t, .slice none 0 0] 74)) w.heap.size 0 0 (.slice none 0 0) ∧ SB ((w.alloc (.cells #[.int .i64 0, .int .i64 0, .slice none 0 0] 74)).alloc (.cells #[.int .i64 i, .int .i64 t, .slice none 0 0] 74)) (w.heap.size + 1) i t (.slice none 0 0) ∧ w.grownBy ((w.alloc (.cells #[.int .i64 0, .int .i64 0, .slice none 0 0] 74)).alloc (.cells #[.int .i64 i, .int .i64 t, .slice none 0 0] 74)) none) := hid_mk (by
  have s1 : (w.alloc (.cells #[.int .i64 0, .int .i64 0, .slice none 0 0] 74)).heap.size = w.heap.size + 1 := by simp
  have m1 := heap_alloc_new w (.cells #[.int .i64 0, .int .i64 0, .slice none 0 0] 74)
  refine ⟨((World.grownBy_alloc _ _ none).block _ (by rw [s1]; omega) (by simp)).trans m1, ?_, grown_trans (World.grownBy_alloc _ _ _) (World.grownBy_alloc _ _ _)⟩
  rw [← s1]; exact heap_alloc_new _ _)
 go_enter Tryz.func79, Tryz.ntmps79
 go_upto_region 2 with fail
 generalize ((w.alloc (.cells _ 74)).alloc (.cells _ 74)) = w1 at *
 go_wp2_with fail
 refine (has_any b 6 s.i s.t _ s.es i w1 (HF.out w1 HA.out.2.2).1).mono ?_
 rintro e w2 ⟨rfl, hg2⟩
 have H2 := hid_mk (show SB w2 w.heap.size 0 0 (.slice none 0 0) ∧ SB w2 (w.heap.size + 1) i t (.slice none 0 0) ∧ w.grownBy w2 none from ⟨HA.out.1.kept hg2 (by simp), HA.out.2.1.kept hg2 (by simp), grown_trans HA.out.2.2 hg2⟩)
 clear hg2 HA
 rw [HI.out]
 go_wp2_with fail
 refine (termS_any b 6 s _ i w2 (HF.out w2 H2.out.2.2).1 (by omega) (by omega)).mono ?_
 rintro e w3 ⟨rfl, hg3⟩
 rw [HT.out]
 have H3 := hid_mk (show SB w3 w.heap.size 0 0 (.slice none 0 0) ∧ SB w3 (w.heap.size + 1) i t (.slice none 0 0) ∧ w.grownBy w3 none from ⟨H2.out.1.kept hg3 (by simp), H2.out.2.1.kept hg3 (by simp), grown_trans H2.out.2.2 hg3⟩)
 clear hg3 H2
 go_upto_region 3 with fail
 have hA := HHA.out
 refine wp_region_mixL [(0, true), (1, true), (2, true), (3, true), (4, true), (5, true), (6, true), (7, true), (8, true), (9, true), (10, true), (11, false), (12, true)] 13 (at0 w3 (fun W => w3.grownBy W none)) (by kernel_rfl) (by kernel_rfl) rfl (by kernel_rfl) rfl (by kernel_rfl) (shut_at0 (fun m => grown_drewN _ m none)) ⟨1, rfl⟩ ?_
 repeat (refine mix_rd1 rfl rfl (fun K hK => ?_); apply Exists.intro; refine ⟨fun W hW => ?_, ?_⟩; (obtain ⟨c0, c1, c2, c3, c4, c5, c6, c7, c8, _⟩ := (HF.out W (grown_trans H3.out.2.2 hW)).2.cells; go_simp; rfl); (go_simp; refine hK _ _ ?_; clear hK K))
 refine mix_call rfl rfl 101 #[.slice (some A) (s.es.length - k) (cap - k)] (fun W => by go_simp) ?_
 rintro W ⟨m4, rfl⟩
 refine (HCL.out _ (grown_trans H3.out.2.2 (grown_drewN _ m4 none))).mono ?_
 rintro e w4 ⟨v4, rfl, hr4, hg4⟩
 obtain ⟨a4, c4, rfl⟩ := row_shape hr4
 have G4 := hid_mk (show w3.grownBy w4 none from grown_trans (grown_drewN _ m4 none) hg4)
 have R4 := hid_mk (show w4.ownsRow w.heap.size 51 4 (.slice a4 (s.es.length - k) c4) (s.es.length - k) ((ps.drop k).flatMap entCells) from row_base hr4 H3.out.2.2.size)
 clear hr4 hg4
 refine ⟨_, rfl, at0 w4 (fun W => w3.grownBy W none), ⟨0, rfl⟩, shut_at0 (all_kept G4.out), fun _ h => h, ?_⟩
 go_simp
 repeat (refine mix_rd1 rfl rfl (fun K hK => ?_); apply Exists.intro; refine ⟨fun W hW => ?_, ?_⟩; (go_simp; rfl); (go_simp; refine hK _ _ ?_; clear hK K))
 refine mix_nil ?_
 rintro W5 ⟨m5, rfl⟩
 have H5 := hid_mk (show SB (w4.drewN m5) w.heap.size 0 0 (.slice none 0 0) ∧ SB (w4.drewN m5) (w.heap.size + 1) i t (.slice none 0 0) ∧ w.grownBy (w4.drewN m5) none from ⟨H3.out.1.kept (grown_trans G4.out (grown_drewN _ m5 none)) (by simp), H3.out.2.1.kept (grown_trans G4.out (grown_drewN _ m5 none)) (by simp), grown_trans H3.out.2.2 (grown_trans G4.out (grown_drewN _ m5 none))⟩)
 have R5 := hid_mk (show (w4.drewN m5).ownsRow w.heap.size 51 4 (.slice a4 (s.es.length - k) c4) (s.es.length - k) ((ps.drop k).flatMap entCells) from owns_kept R4.out (grown_drewN _ m5 none) (fun _ _ _ => by simp))
 generalize w4.drewN m5 = w5 at *
 obtain ⟨z0, z1, z2, zz⟩ := H5.out.2.1.cells
 refine ⟨w5.setCell ⟨w.heap.size + 1, 2, none⟩ (.slice a4 (s.es.length - k) c4), by go_simp, ?_⟩
 have HG6 := hid_mk (grown_setCell w5 (w.heap.size + 1) 2 (.slice a4 (s.es.length - k) c4))
 have H6 := hid_mk (show SB (w5.setCell ⟨w.heap.size + 1, 2, none⟩ (.slice a4 (s.es.length - k) c4)) w.heap.size 0 0 (.slice none 0 0) ∧ SB (w5.setCell ⟨w.heap.size + 1, 2, none⟩ (.slice a4 (s.es.length - k) c4)) (w.heap.size + 1) i t (.slice a4 (s.es.length - k) c4) ∧ w.grownBy (w5.setCell ⟨w.heap.size + 1, 2, none⟩ (.slice a4 (s.es.length - k) c4)) none from ⟨H5.out.1.kept HG6.out (by simp), H5.out.2.1.list _, grown_new H5.out.2.2 HG6.out (by omega)⟩)
 have R6 := hid_mk (show (w5.setCell ⟨w.heap.size + 1, 2, none⟩ (.slice a4 (s.es.length - k) c4)).ownsRow w.heap.size 51 4 (.slice a4 (s.es.length - k) c4) (s.es.length - k) ((ps.drop k).flatMap entCells) from owns_kept R5.out HG6.out (fun _ _ hh => ne_tag hh H5.out.2.1 (by decide)))
 clear z0 z1 z2 zz
 generalize w5.setCell ⟨w.heap.size + 1, 2, none⟩ _ = w6 at *
 go_simp
 go_upto_region 4 with fail
 obtain ⟨z0, z1, z2, zz⟩ := H6.out.1.cells
 obtain ⟨y0, y1, y2, yy⟩ := H6.out.2.1.cells
 go_wp2_with fail
 have HL := hid_mk (SB.laid (i' := i) (t' := t) (v' := .slice a4 (s.es.length - k) c4) H6.out.1)
 have HGL := hid_mk (show w6.grownBy (((w6.setCell ⟨w.heap.size, 0, none⟩ (.int .i64 i)).setCell ⟨w.heap.size, 1, none⟩ (.int .i64 t)).setCell ⟨w.heap.size, 2, none⟩ (.slice a4 (s.es.length - k) c4)) (some w.heap.size) from grown_trans (grown_setCell _ _ _ _) (grown_trans (grown_setCell _ _ _ _) (grown_setCell _ _ _ _)))
 refine bodyPost_ret (ret_state (fn := Tryz.f79) rfl _ _ w.heap.size i t (.slice a4 (s.es.length - k) c4) rfl HL.out rfl) rfl ?_
 have R7 := owns_kept R6.out HGL.out (fun _ _ hh => ne_tag hh H6.out.1 (by decide))
 have G7 := grown_new H6.out.2.2 HGL.out (Nat.le_refl _)
 have hdl : (ps.drop k).length = s.es.length - k := by rw [List.length_drop, HB.out.2.2]
 refine ⟨a4, c4, ps.drop k, by rw [hdl], ⟨?_, fun j e => .inr ?_, fun q hq => ?_, fun q hq j e => .inl (HB.out.1.ownG q (List.mem_of_mem_drop hq) j e)⟩, ?_, G7⟩
 ·rw [hdl]; exact row_base R7 (Nat.zero_le _)
 ·rw [hdl] at e
  rcases R7.2 with ⟨e2, _⟩ | ⟨g2, cap2, cur2, e2, hb2, _⟩
  ·rw [e2] at e; cases e
  ·rw [e2] at e; cases e; exact hb2
 ·obtain ⟨ho, hd⟩ := HB.out.1.own q (List.mem_of_mem_drop hq)
  exact ⟨ho.kept G7 (.inl rfl), hd⟩
 ·rw [← HB.out.2.1, List.map_drop]

theorem reb_any (G : Nat → Prop) (b : Nat) (p : Pl) (s : LS) (i t : Int) (w : World) (h : LogAt w G b p s) :
  Calls Tryz.prog 79 #[.pointer (some ⟨b, 6, none⟩), .int .i64 i, .int .i64 t] w fun e w' => ∃ a c ps, e = .returned (.agg #[.int .i64 i, .int .i64 t, .slice a ps.length c]) ∧ EsG w' (fun j => G j ∨ w.heap.size ≤ j) (.slice a ps.length c) ps ∧ ps.map (·.1) = (s.rebase i t).es ∧ w.grownBy w' none := by
 unfold LS.rebase
 cases hi : s.hasB i with
 | false =>
  refine (reb_has_no G b p s i t w h hi).mono ?_
  rintro e w' ⟨rfl, hg⟩
  exact ⟨none, 0, [], rfl, EsG.nil _ _, by simp, hg⟩
 | true =>
  by_cases ht : s.termAt i = t
  ·have hb := hi
   unfold LS.hasB at hb
   simp at hb
   have e : i = s.i + ((i - s.i).toNat : Nat) := by omega
   have := reb_same G b p s (i - s.i).toNat t w h (by omega) (by omega) (by rw [← e]; exact ht) h.n
   rw [← e] at this
   simpa [ht] using this
  ·refine (reb_differs G b p s i t w h hi ht).mono ?_
   rintro e w' ⟨rfl, hg⟩
   exact ⟨none, 0, [], rfl, EsG.nil _ _, by simp [ht], hg⟩
end Go.Proofs.YtlpkphdgadgmiaaGreatDoor.W

namespace Go.Proofs.YtlpkphdgadgmiaaGreatDoor.W
open Go.RowKit Go.Maps
set_option linter.unusedVariables false
set_option linter.unusedSimpArgs false
set_option maxRecDepth 100000

def Rc.fine : Rc → Prop
 | .ent x => x.data.length ≤ 140737488355328
 | .cut _ => True
 | .base i _ => i < 281474976710656
theorem log_put {W W' : World} {G H : Nat → Prop} {b : Nat} {p : Pl} {i t i' t' : Int} {v v' : Value} (h : LogB W b p i t v) (hW : W' = ((W.setCell ⟨b, 6, none⟩ (.int .i64 i')).setCell ⟨b, 7, none⟩ (.int .i64 t')).setCell ⟨b, 8, none⟩ v') : LogB W' b p i' t' v' ∧ W.grownBy W' (some b) := by
 subst hW
 refine ⟨?_, grown_trans (grown_setCell _ _ _ _) (grown_trans (grown_setCell _ _ _ _) (grown_setCell _ _ _ _))⟩
 unfold LogB logC at *
 simp [World.setCell, Array.getElem?_modify, h]

set_option maxHeartbeats 4000000 in
theorem take_ent (G H : Nat → Prop) (b : Nat) (p : Pl) (s : LS) (x : Ent) (a : Option Addr) (n c : Nat) (w : World) (h : LogAt w G b p s)
  (hGb : ∀ k, G k → k < w.heap.size) (hGH : ∀ k, G k → H k) (hH : ∀ k, w.heap.size ≤ k → H k) (ho : Own w 0 (.slice a n c) x.data) (hoG : ∀ k, (Value.slice a n c).ownBlock = some k → ¬ G k) (hoH : ∀ k, (Value.slice a n c).ownBlock = some k → H k) (hdl : x.data.length ≤ 140737488355328) (hl : s.es.length + 1 ≤ 1000000000000) :
  Calls Tryz.prog 93 #[.pointer (some ⟨b, 6, none⟩), .agg (recC 1 x (.slice a n c) 0 0)] w fun e w' => e = .returned (.bool (s.takeE x).isSome) ∧ LogAt w' H b p ((s.takeE x).getD s) ∧ V.Keeps G w w' := by
 obtain ⟨bo, hbo⟩ : ∃ bo, bo = (s.takeE x).isSome := ⟨_, rfl⟩
 obtain ⟨s', hs'⟩ : ∃ s', s' = (s.takeE x).getD s := ⟨_, rfl⟩
 rw [← hbo, ← hs']
 have HBO := hid_mk (And.intro hbo hs')
 clear hbo hs'
 have HA : Hid (RB (w.alloc (.cells (recC 1 x (.slice a n c) 0 0) 146)) w.heap.size 1 x (.slice a n c) 0 0 ∧ w.grownBy (w.alloc (.cells (recC 1 x (.slice a n c) 0 0) 146)) none) := hid_mk ⟨heap_alloc_new _ _, World.grownBy_alloc _ _ _⟩
 have HH := hid_mk (And.intro h (And.intro hGb (And.intro hGH hH)))
 have HO := hid_mk (And.intro ho (And.intro hoG hoH))
 clear h hGb hGH hH ho hoG hoH
 unfold recC at *
 go_enter Tryz.func93, Tryz.ntmps93
 go_upto_region 1 with fail
 generalize w.alloc (.cells _ 146) = w1 at *
 obtain ⟨r0, r1, r2, r3, r4, r5, r6, rz⟩ := HA.out.1.all
 go_wp2_with fail
 clear r0 r1 r2 r3 r4 r5 r6 rz
 have hsz := HA.out.2.size
 refine (takeE_any G H b p s x a n c w1 (HH.out.1.kept HA.out.2) (fun k hk => by have := HH.out.2.1 k hk; omega) HH.out.2.2.1 (fun k hk => HH.out.2.2.2 k (by omega)) (HO.out.1.kept HA.out.2 (.inl rfl)) HO.out.2.1 HO.out.2.2 hdl hl).mono ?_
 rw [← HBO.out.2, ← HBO.out.1]
 rintro e w2 ⟨rfl, hl2, hk2⟩
 have H2 := hid_mk (And.intro hl2 (show V.Keeps G w w2 from (V.Keeps.of_none HA.out.2).then hk2))
 clear hl2 hk2
 go_wp2_with fail
 go_ret
 exact ⟨rfl, H2.out.1, H2.out.2⟩

set_option maxHeartbeats 4000000 in
theorem take_cut (G : Nat → Prop) (b : Nat) (p : Pl) (s : LS) (m : Nat) (a : Option Addr) (n c : Nat) (w : World) (h : LogAt w G b p s) :
  Calls Tryz.prog 93 #[.pointer (some ⟨b, 6, none⟩), .agg (recC 2 noE (.slice a n c) m 0)] w fun e w' => e = .returned (.bool (s.hasB m)) ∧ LogAt w' G b p (if s.hasB m then s.cutTo m else s) ∧ V.Keeps G w w' := by
 obtain ⟨bo, hbo⟩ : ∃ bo, bo = s.hasB m := ⟨_, rfl⟩
 obtain ⟨s', hs'⟩ : ∃ s', s' = (if s.hasB m then s.cutTo m else s) := ⟨_, rfl⟩
 rw [← hs', ← hbo]
 have HBO := hid_mk (And.intro hbo hs')
 clear hbo hs'
 have HA : Hid (RB (w.alloc (.cells (recC 2 noE (.slice a n c) m 0) 146)) w.heap.size 2 noE (.slice a n c) m 0 ∧ w.grownBy (w.alloc (.cells (recC 2 noE (.slice a n c) m 0) 146)) none) := hid_mk ⟨heap_alloc_new _ _, World.grownBy_alloc _ _ _⟩
 have HH := hid_mk h
 clear h
 unfold recC at *
 go_enter Tryz.func93, Tryz.ntmps93
 go_upto_region 1 with fail
 generalize w.alloc (.cells _ 146) = w1 at *
 obtain ⟨r0, r1, r2, r3, r4, r5, r6, rz⟩ := HA.out.1.all
 go_wp2_with fail
 clear r0 r1 r2 r3 r4 r5 r6 rz
 refine (cutS_any G b p s m w1 (HH.out.kept HA.out.2)).mono ?_
 rw [← HBO.out.2, ← HBO.out.1]
 rintro e w2 ⟨rfl, hl2, hk2⟩
 have H2 := hid_mk (And.intro hl2 (show V.Keeps G w w2 from (V.Keeps.of_none HA.out.2).then hk2))
 clear hl2 hk2
 go_wp2_with fail
 go_ret
 exact ⟨rfl, H2.out.1, H2.out.2⟩

set_option maxHeartbeats 4000000 in
theorem take_old (G : Nat → Prop) (b : Nat) (p : Pl) (s : LS) (i t : Nat) (a : Option Addr) (n c : Nat) (w : World) (h : LogAt w G b p s) (hi : ¬ s.i < i) :
  Calls Tryz.prog 93 #[.pointer (some ⟨b, 6, none⟩), .agg (recC 3 noE (.slice a n c) i t)] w fun e w' => e = .returned (.bool true) ∧ w.grownBy w' none := by
 have HA : Hid (RB (w.alloc (.cells (recC 3 noE (.slice a n c) i t) 146)) w.heap.size 3 noE (.slice a n c) i t ∧ w.grownBy (w.alloc (.cells (recC 3 noE (.slice a n c) i t) 146)) none) := hid_mk ⟨heap_alloc_new _ _, World.grownBy_alloc _ _ _⟩
 obtain ⟨v, hf⟩ := takeE_facts h
 have HF := hid_mk hf
 clear h hf
 unfold recC at *
 go_enter Tryz.func93, Tryz.ntmps93
 go_upto_region 1 with fail
 generalize w.alloc (.cells _ 146) = w1 at *
 obtain ⟨r0, r1, r2, r3, r4, r5, r6, rz⟩ := HA.out.1.all
 obtain ⟨c0, c1, c2, c3, c4, c5, c6, c7, c8, _⟩ := (HF.out w1 HA.out.2).2.cells
 have hd : decide (s.i < (i : Int)) = false := decide_eq_false hi
 go_upto_region 6 with fail
 go_region
 go_wp2_with fail
 go_ret
 exact ⟨rfl, grown_trans HA.out.2 (grown_drew _ _)⟩

set_option maxHeartbeats 4000000 in
theorem take_base (G H : Nat → Prop) (b : Nat) (p : Pl) (s : LS) (i t : Nat) (a : Option Addr) (n c : Nat) (w : World) (h : LogAt w G b p s) (hi : s.i < i) (hi2 : i < 281474976710656)
  (hGb : ∀ k, G k → k < w.heap.size) (hGH : ∀ k, G k → H k) (hH : ∀ k, w.heap.size ≤ k → H k) :
  Calls Tryz.prog 93 #[.pointer (some ⟨b, 6, none⟩), .agg (recC 3 noE (.slice a n c) i t)] w fun e w' => e = .returned (.bool true) ∧ LogAt w' H b p (s.rebase i t) ∧ V.Keeps G w w' := by
 have HA : Hid (RB (w.alloc (.cells (recC 3 noE (.slice a n c) i t) 146)) w.heap.size 3 noE (.slice a n c) i t ∧ w.grownBy (w.alloc (.cells (recC 3 noE (.slice a n c) i t) 146)) none) := hid_mk ⟨heap_alloc_new _ _, World.grownBy_alloc _ _ _⟩
 obtain ⟨v, hf⟩ := takeE_facts h
 have HF := hid_mk hf
 have HH := hid_mk (And.intro h (And.intro hGb (And.intro hGH hH)))
 clear h hf hGb hGH hH
 unfold recC at *
 go_enter Tryz.func93, Tryz.ntmps93
 go_upto_region 1 with fail
 generalize w.alloc (.cells _ 146) = w1 at *
 obtain ⟨r0, r1, r2, r3, r4, r5, r6, rz⟩ := HA.out.1.all
 obtain ⟨c0, c1, c2, c3, c4, c5, c6, c7, c8, _⟩ := (HF.out w1 HA.out.2).2.cells
 have hd : decide (s.i < (i : Int)) = true := decide_eq_true hi
 go_upto_region 6 with fail
 go_region
 clear c0 c1 c2 c3 c4 c5 c6 c7 c8 r0 r1 r2 r3 r4 r5 r6 rz
 have HA2 := hid_mk (show RB w1.drew w.heap.size 3 noE (.slice a n c) i t ∧ w.grownBy w1.drew none from ⟨HA.out.1.kept (grown_drew _ _), grown_trans HA.out.2 (grown_drew _ _)⟩)
 clear HA
 generalize w1.drew = w2 at *
 obtain ⟨r0, r1, r2, r3, r4, r5, r6, rz⟩ := HA2.out.1.all
 go_upto_region 7 with fail
 go_wp2_with fail
 clear r0 r1 r2 r3 r4 r5 r6 rz
 refine (reb_any G b p s i t w2 (HH.out.1.kept HA2.out.2)).mono ?_
 rintro e w3 ⟨a3, q3, ps3, rfl, he3, hp3, hg3⟩
 have HL3 := hid_mk ((HF.out w3 (grown_trans HA2.out.2 hg3)).2)
 have H3 := hid_mk (And.intro he3 (And.intro hp3 (grown_trans HA2.out.2 hg3)))
 have hz2 := HA2.out.2.size
 have HZ := hid_mk hz2
 clear he3 hp3 hg3 hz2
 obtain ⟨c0, c1, c2, c3, c4, c5, c6, c7, c8, cz⟩ := HL3.out.cells
 go_wp2_with fail
 have HP := hid_mk (log_put (G := G) (H := H) (i' := i) (t' := t) (v' := .slice a3 ps3.length q3) HL3.out rfl)
 go_ret
 have hlen : ((s.rebase i t).es).length ≤ 1000000000000 := by
  have := HH.out.1.n
  unfold LS.rebase
  split
  ·simp; omega
  ·simp
 refine ⟨rfl, ⟨⟨_, ps3, HP.out.1, ?_, H3.out.2.1⟩, HH.out.2.2.1 b HH.out.1.gb, ?_, hlen⟩, ?_⟩
 ·refine (H3.out.1.log HL3.out HP.out.2).wide (fun k hk => ?_)
  rcases hk with hk | hk
  ·exact HH.out.2.2.1 k hk
  ·exact HH.out.2.2.2 k (Nat.le_trans HZ.out hk)
 ·have := HH.out.1.lo
  exact ⟨by show (0 : Int) ≤ (i : Int); omega, by show (i : Int) < _; omega⟩
 ·exact (V.Keeps.of_none H3.out.2.2).then (V.Keeps.one HP.out.2 HH.out.1.gb)

theorem take_any (G H : Nat → Prop) (b B : Nat) (p : Pl) (s : LS) (r : Rc) (kk : Int) (x : Ent) (a : Option Addr) (n c : Nat) (i t : Int) (w : World) (h : LogAt w G b p s) (hr : RcV w B r (recC kk x (.slice a n c) i t)) (hf : r.fine)
  (hGb : ∀ k, G k → k < B) (hB : B ≤ w.heap.size) (hGH : ∀ k, G k → H k) (hH : ∀ k, B ≤ k → H k) (hl : s.es.length + 1 ≤ 1000000000000) :
  Calls Tryz.prog 93 #[.pointer (some ⟨b, 6, none⟩), .agg (recC kk x (.slice a n c) i t)] w fun e w' => e = .returned (.bool (s.takeR r).isSome) ∧ LogAt w' H b p ((s.takeR r).getD s) ∧ V.Keeps G w w' := by
 obtain ⟨dv, e, ho⟩ := hr
 rw [e]
 obtain ⟨a', c', rfl⟩ := ho.len
 have hG' : ∀ k, G k → k < w.heap.size := fun k hk => by have := hGb k hk; omega
 have hH' : ∀ k, w.heap.size ≤ k → H k := fun k hk => hH k (by omega)
 cases r with
 | ent y =>
  have hb : ∀ k, (Value.slice a' (rcD (.ent y)).length c').ownBlock = some k → B ≤ k := fun k hk => by
   rcases ho.2 with ⟨e2, _⟩ | ⟨g2, cap2, cur2, e2, hb2, _⟩
   ·rw [e2] at hk; cases hk
   ·rw [e2] at hk; cases hk; exact hb2
  exact take_ent G H b p s y a' _ c' w h hG' hGH hH' (row_base ho (Nat.zero_le _)) (fun k hk hg => by have := hb k hk; have := hGb k hg; omega) (fun k hk => hH k (hb k hk)) hf hl
 | cut m =>
  refine (take_cut G b p s m a' _ c' w h).mono ?_
  rintro e w' ⟨rfl, hl, hk⟩
  show _ = Ending.returned (.bool (if s.hasB m then some (s.cutTo m) else none).isSome) ∧ LogAt w' H b p ((if s.hasB m then some (s.cutTo m) else none).getD s) ∧ _
  cases hb : s.hasB m with
  | true => rw [hb] at hl; exact ⟨rfl, hl.wide hGH, hk⟩
  | false => rw [hb] at hl; exact ⟨rfl, hl.wide hGH, hk⟩
 | base i t =>
  show Calls Tryz.prog 93 _ w fun e w' => e = Ending.returned (.bool (if s.i < i then some (s.rebase i t) else some s).isSome) ∧ LogAt w' H b p ((if s.i < i then some (s.rebase i t) else some s).getD s) ∧ _
  by_cases hi : s.i < i
  ·rw [if_pos hi]
   exact take_base G H b p s i t a' _ c' w h hi hf hG' hGH hH'
  ·rw [if_neg hi]
   refine (take_old G b p s i t a' _ c' w h hi).mono ?_
   rintro e w' ⟨rfl, hg⟩
   exact ⟨rfl, (h.kept hg).wide hGH, V.Keeps.of_none hg⟩
end Go.Proofs.YtlpkphdgadgmiaaGreatDoor.W
