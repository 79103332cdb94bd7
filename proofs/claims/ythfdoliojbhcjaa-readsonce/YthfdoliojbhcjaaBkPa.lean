/- ReadsOnce: maps of numbers; the pure side. -/
import Derived.Test.YthfdoliojbhcjaaBkOa
import Derived.Maps.OwnOps
namespace Go.Proofs.Ythfdoliojbhcjaa
open Go.RowKit Go.Maps
set_option linter.unusedVariables false
set_option linter.unusedSimpArgs false
set_option maxRecDepth 100000

/-- A map of numbers. -/
structure MapD (w : World) (b n : Nat) (f : Int → Option Int) (sz : Nat) (D : DataW Unit) : Prop where
  own : w.ownsMap Try.prog 3 (plainElem Try.prog 3) b n D
  has : ∀ x, Maps.has D (.int .i64 x) = (f x).isSome
  atk : ∀ x, D.atKey (.int .i64 x) (.lit (.int .i64 0)) = .lit (.int .i64 ((f x).getD 0))
  size : Maps.size D = sz
def MapR (w : World) (b n : Nat) (f : Int → Option Int) (sz : Nat) : Prop := ∃ D, MapD w b n f sz D
theorem map_blk {w : World} {b n : Nat} {D : DataW Unit} (h : w.ownsMap Try.prog 3 (plainElem Try.prog 3) b n D) {k : Nat} {c : Array Value} {t : TypeId} {f : Nat × Nat} (hk : w.heap[k]? = some (.cells c t f)) : b ≠ k := fun e => by
  obtain ⟨es, clock, hb, _⟩ := h
  subst e
  rw [hb] at hk
  cases hk
theorem MapR.kept {w w' : World} {b n : Nat} {f : Int → Option Int} {sz : Nat} {row : Option Nat} (h : MapR w b n f sz) (hg : w.grownBy w' row) (hne : some b ≠ row) : MapR w' b n f sz := by
  obtain ⟨D, h1⟩ := h
  exact ⟨D, h1.own.kept hg hne, h1.has, h1.atk, h1.size⟩
theorem MapR.lt {w : World} {b n : Nat} {f : Int → Option Int} {sz : Nat} (h : MapR w b n f sz) : b < w.heap.size := by
  obtain ⟨D, h1⟩ := h
  exact h1.own.lt
theorem MapR.apart {w : World} {b n : Nat} {f : Int → Option Int} {sz : Nat} (h : MapR w b n f sz) {B q : Nat} {v : Value} {g : Bk} (hb : IsB w B q v g) : ¬ Ofb q v b := fun hf => by
  obtain ⟨D, h1⟩ := h
  rcases hf with rfl | hf
  · exact map_blk h1.own hb.blk rfl
  · obtain ⟨_, c, hc⟩ := own_low hb.row _ hf
    exact map_blk h1.own hc rfl
theorem MapR.keeps {w w' : World} {F : Nat → Prop} {b n : Nat} {f : Int → Option Int} {sz : Nat} (h : MapR w b n f sz) (hk : Keeps F w w') (hn : ¬ F b) : MapR w' b n f sz := by
  obtain ⟨D, h1⟩ := h
  refine ⟨D, ?_, h1.has, h1.atk, h1.size⟩
  obtain ⟨es, clock, hb, rest⟩ := h1.own
  exact ⟨es, clock, (hk.block b (Array.getElem?_eq_some_iff.1 hb).1 hn).trans hb, rest⟩
theorem map_new (w : World) : MapR (w.alloc (.map #[] 0)) w.heap.size 0 (fun _ => none) 0 :=
  ⟨.map [], World.ownsMap_made w Try.prog 3 _, fun x => by simp [Maps.has], fun x => rfl, rfl⟩
def updF (f : Int → Option Int) (x y : Int) : Int → Option Int := fun z => if z = x then some y else f z
def delF (f : Int → Option Int) (x : Int) : Int → Option Int := fun z => if z = x then none else f z
theorem MapD.put {w w' : World} {b n : Nat} {f : Int → Option Int} {sz : Nat} {D : DataW Unit} (h : MapD w b n f sz D) {x y : Int} (hx : f x = none) (ho : w'.ownsMap Try.prog 3 (plainElem Try.prog 3) b (n + 1) (D.put (.int .i64 x) (.lit (.int .i64 y)))) : MapR w' b (n + 1) (updF f x y) (sz + 1) := by
  have hT := h.own.tidy key3
  refine ⟨_, ho, fun z => ?_, fun z => ?_, ?_⟩
  · unfold updF
    by_cases e : z = x
    · subst e; rw [Maps.has_put_same hT.isMap (by trivial), if_pos rfl]; rfl
    · rw [Maps.has_put_other (fun k => e (by injection k)), if_neg e, h.has]
  · unfold updF
    by_cases e : z = x
    · subst e; rw [Maps.atKey_put_same hT.isMap (by trivial), if_pos rfl]; rfl
    · rw [Maps.atKey_put_other (fun k => e (by injection k)), if_neg e, h.atk]
  · rw [Maps.size_put hT, h.has, hx, h.size]; rfl
theorem MapD.del {w w' : World} {b n : Nat} {f : Int → Option Int} {sz : Nat} {D : DataW Unit} (h : MapD w b n f (sz + 1) D) {x y : Int} (hx : f x = some y) (ho : w'.ownsMap Try.prog 3 (plainElem Try.prog 3) b n (D.del (.int .i64 x))) : MapR w' b n (delF f x) sz := by
  have hT := h.own.tidy key3
  refine ⟨_, ho, fun z => ?_, fun z => ?_, ?_⟩
  · unfold delF
    by_cases e : z = x
    · subst e; rw [Maps.has_del_same, if_pos rfl]; rfl
    · rw [Maps.has_del_other (fun k => e (by injection k)), if_neg e, h.has]
  · unfold delF
    by_cases e : z = x
    · subst e; rw [Maps.atKey_del_same, if_pos rfl]; rfl
    · rw [Maps.atKey_del_other (fun k => e (by injection k)), if_neg e, h.atk]
  · have := Maps.size_del (k := .int .i64 x) hT
    rw [h.has, hx, h.size] at this
    simp at this
    omega
theorem key_wf {x : Int} (h0 : 0 ≤ x) (h1 : x < 1000) : (Lit.int .i64 x).wf = true := by
  simp [Lit.wf, IntKind.min, IntKind.max, IntKind.signed, IntKind.bits]
  omega
theorem MapR.look {w : World} {b n : Nat} {f : Int → Option Int} {sz : Nat} (h : MapR w b n f sz) {x : Int} (h0 : 0 ≤ x) (h1 : x < 1000) {y : Int} (hy : f x = some y) : (Instr.lookup 47 (.map (some b)) (.int .i64 x) false).run Try.prog w = .ok (.int .i64 y) w ∧ (Instr.lookup 47 (.map (some b)) (.int .i64 x) true).run Try.prog w = .ok (.tuple #[.int .i64 y, .bool true]) w := by
  obtain ⟨D, hD⟩ := h
  have hz : (zeroValue 3).run Try.prog w = .ok (.int .i64 0) w := Try.zeroValue3 w
  have hk := keyOf_int_mk Try.underlying3 (key_wf h0 h1)
  have hat := hD.atk x
  rw [hy] at hat
  constructor
  · obtain ⟨c, hrun, hc, _⟩ := hD.own.lookup_int key3 Try.underlying47 Try.underlying3 hz hk
    rw [hat] at hc
    injection hc with hc
    injection hc with _ hc
    rw [hrun, ← hc]
    rfl
  · obtain ⟨v, ps, hrun, hv⟩ := hD.own.look_ok key3 Try.underlying47 hz (plainElem_int (H := Unit) Try.underlying3 (a := 0) (by decide)) hk
    rw [hat] at hv
    obtain ⟨c, rfl, hc, _⟩ := plainElem_int_inv Try.underlying3 hv
    have hc' := congrArg Prod.fst hc
    injection hc' with hc'
    injection hc' with _ hc'
    rw [hrun, hD.has, hy, ← hc']
    rfl
/-! ### Reads by their ids -/
def ixF (l : List Rd) (x : Int) : Option Int := (l.find? (fun r => r.id == x)).map Rd.ix
theorem ixF_mem {l : List Rd} {n : Nat} (h : Asc l n) {r : Rd} (hr : r ∈ l) : ixF l r.id = some r.ix := by
  unfold ixF
  suffices hs : ∀ l : List Rd, (ids l).Pairwise (· < ·) → r ∈ l → l.find? (fun q => q.id == r.id) = some r by rw [hs l h.up hr]; rfl
  intro l
  induction l with
  | nil => intro _ h; simp at h
  | cons a l ih =>
    intro hp hm
    obtain ⟨h1, h2⟩ := List.pairwise_cons.1 hp
    rcases List.mem_cons.1 hm with rfl | hm
    · rw [List.find?_cons]; simp
    · have hlt := h1 r.id (List.mem_map.2 ⟨r, hm, rfl⟩)
      rw [List.find?_cons, beq_eq_false_iff_ne.2 (by omega)]
      exact ih h2 hm
theorem ixF_none {l : List Rd} {x : Int} (h : ∀ r ∈ l, r.id ≠ x) : ixF l x = none := by
  unfold ixF
  rw [List.find?_eq_none.2 (fun r hr => by simpa using h r hr)]
  rfl
theorem ixF_add {l : List Rd} {n : Nat} (h : Asc l n) (ix rd : Int) : ixF (l ++ [⟨n, ix, rd⟩]) = updF (ixF l) n ix := by
  funext x
  unfold updF
  by_cases e : x = n
  · rw [if_pos e, e]
    exact ixF_mem (h.add ix rd) (r := ⟨n, ix, rd⟩) (by simp)
  · rw [if_neg e]
    unfold ixF
    rw [List.find?_append]
    have : [(⟨n, ix, rd⟩ : Rd)].find? (fun r => r.id == x) = none := List.find?_eq_none.2 (fun r hr => by
      rw [List.mem_singleton.1 hr]
      simpa using fun e' : (n : Int) = x => e e'.symm)
    rw [this]
    simp
/-- What is left of the ids, when some are done. -/
def lessF (f : Int → Option Int) (d : List Rd) : Int → Option Int := fun x => if x ∈ ids d then none else f x
theorem lessF_nil (f : Int → Option Int) : lessF f [] = f := by funext x; simp [lessF, ids]
theorem lessF_add (f : Int → Option Int) (d : List Rd) (r : Rd) : lessF f (d ++ [r]) = delF (lessF f d) r.id := by
  funext x
  unfold lessF delF ids
  by_cases e : x = r.id
  · simp [e]
  · simp [e]
theorem filt_apart {l : List Rd} {n : Nat} (h : Asc l n) {p : Rd → Bool} {r q : Rd} (hr : r ∈ l.filter p) (hq : q ∈ l.filter (fun r => !p r)) : r.id ≠ q.id := fun e => by
  obtain ⟨h1, h2⟩ := List.mem_filter.1 hr
  obtain ⟨h3, h4⟩ := List.mem_filter.1 hq
  have : r = q := by
    suffices hs : ∀ l : List Rd, (ids l).Pairwise (· < ·) → r ∈ l → q ∈ l → r = q from hs l h.up h1 h3
    intro l
    induction l with
    | nil => intro _ h; simp at h
    | cons a l ih =>
      intro hp m1 m2
      obtain ⟨p1, p2⟩ := List.pairwise_cons.1 hp
      rcases List.mem_cons.1 m1 with e1 | k1
      · rcases List.mem_cons.1 m2 with e2 | k2
        · rw [e1, e2]
        · have := p1 q.id (List.mem_map.2 ⟨q, k2, rfl⟩)
          rw [← e1] at this
          omega
      · rcases List.mem_cons.1 m2 with e2 | k2
        · have := p1 r.id (List.mem_map.2 ⟨r, k1, rfl⟩)
          rw [← e2] at this
          omega
        · exact ih p2 k1 k2
  subst this
  rw [h2] at h4
  cases h4
theorem lessF_all {l : List Rd} {n : Nat} (h : Asc l n) (p : Rd → Bool) : lessF (ixF l) (l.filter p) = ixF (l.filter (fun r => !p r)) := by
  funext x
  unfold lessF
  by_cases hx : x ∈ ids (l.filter p)
  · rw [if_pos hx]
    obtain ⟨r, hr, rfl⟩ := List.mem_map.1 hx
    exact (ixF_none (fun q hq e => filt_apart h hr hq e.symm)).symm
  · rw [if_neg hx]
    by_cases hl : ∃ r ∈ l, r.id = x
    · obtain ⟨r, hr, rfl⟩ := hl
      have hp : p r = false := by
        cases hp : p r with
        | false => rfl
        | true => exact absurd (List.mem_map.2 ⟨r, List.mem_filter.2 ⟨hr, hp⟩, rfl⟩) hx
      rw [ixF_mem h hr]
      exact (ixF_mem (h.filt _) (List.mem_filter.2 ⟨hr, by simp [hp]⟩)).symm
    · rw [ixF_none (fun r hr e => hl ⟨r, hr, e⟩), ixF_none (fun r hr e => hl ⟨r, (List.mem_filter.1 hr).1, e⟩)]
theorem filt_len (l : List Rd) (p : Rd → Bool) : (l.filter p).length + (l.filter (fun r => !p r)).length = l.length := by
  induction l with
  | nil => rfl
  | cons a l ih =>
    rw [List.filter_cons, List.filter_cons]
    cases p a <;> simp <;> omega
/-- Who is left waits for a later round. -/
theorem left_later {S : List Int} {g : Bk} {d r : Rd} (hd : d ∈ doneB S g) (hr : r ∈ (leftB S g).L) : d.rd < r.rd := by
  obtain ⟨_, h2⟩ := List.mem_filter.1 hd
  obtain ⟨_, h4⟩ := List.mem_filter.1 hr
  rcases Int.lt_or_le d.rd r.rd with h | h
  · exact h
  · have : rdyB S g.H r = true := won_sub (thL_sub h) h2
    rw [this] at h4
    cases h4
theorem asc_not_taken {l : List Rd} {n : Nat} (h : Asc l n) {k : Nat} (hk : k < l.length) : l[k].id ∉ ids (l.take k) := fun hm => by
  obtain ⟨r, hr, he⟩ := List.mem_map.1 hm
  obtain ⟨j, hj, rfl⟩ := List.mem_iff_getElem.1 hr
  have hjk : j < k := by simp at hj; omega
  have := (List.pairwise_iff_getElem.1 h.up) j k (by simp [ids]; omega) (by simp [ids]; omega) hjk
  simp [ids] at this
  simp at he
  omega
end Go.Proofs.Ythfdoliojbhcjaa
