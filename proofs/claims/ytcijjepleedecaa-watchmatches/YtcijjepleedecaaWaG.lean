/- watch: rows of servers; who led, in a map. -/
import Derived.Test.YtcijjepleedecaaWaF
import Derived.Maps.OwnSet
import Derived.Maps.OwnOps
namespace Go.Proofs.Ytcijjepleedecaa.W
open Go.RowKit Go.Maps
set_option linter.unusedVariables false
set_option linter.unusedSimpArgs false
set_option maxRecDepth 100000
attribute [local go_sem] Oper.semAt_some


def Sn.ok (s : Sn) : Prop := I64 s.id ∧ I64 s.term ∧ I64 s.b
/-- Servers that can be read. -/
def SeensR (W : World) (v : Value) (ss : List (Sn × Value)) : Prop :=
  (ss = [] ∧ ∃ a cap, v = .slice a 0 cap ∧ (a = none → cap = 0)) ∨ ∃ b off cap, v = .slice (some ⟨b, off, none⟩) ss.length cap ∧ ss.length ≤ cap ∧
    ∀ (i : Nat) (p : Sn × Value), ss[i]? = some p → W.cell? ⟨b, off + i * 7, none⟩ = some (.int .i64 p.1.id) ∧ W.cell? ⟨b, off + i * 7 + 1, none⟩ = some (.int .i64 p.1.term) ∧ W.cell? ⟨b, off + i * 7 + 2, none⟩ = some (.int .i64 p.1.com) ∧ W.cell? ⟨b, off + i * 7 + 3, none⟩ = some (.bool p.1.lead) ∧ W.cell? ⟨b, off + i * 7 + 4, none⟩ = some (.int .i64 p.1.b) ∧ W.cell? ⟨b, off + i * 7 + 5, none⟩ = some (.int .i64 p.1.t) ∧ W.cell? ⟨b, off + i * 7 + 6, none⟩ = some p.2
theorem SeensR.len {W : World} {v : Value} {ss : List (Sn × Value)} (h : SeensR W v ss) : ∃ a cap, v = .slice a ss.length cap := by
  rcases h with ⟨rfl, a, cap, rfl, _⟩ | ⟨b, off, cap, rfl, _⟩
  · exact ⟨_, _, rfl⟩
  · exact ⟨_, _, rfl⟩
theorem SeensR.nil (w : World) : SeensR w (.slice none 0 0) [] := .inl ⟨rfl, none, 0, rfl, fun _ => rfl⟩
theorem SeensR.kept {W W' : World} {v : Value} {ss : List (Sn × Value)} (h : SeensR W v ss) (hg : W.grownBy W' none) : SeensR W' v ss := by
  rcases h with h | ⟨b, off, cap, hv, hl, hc⟩
  · exact .inl h
  · refine .inr ⟨b, off, cap, hv, hl, fun i p hp => ?_⟩
    obtain ⟨h0, h1, h2, h3, h4, h5, h6⟩ := hc i p hp
    exact ⟨hg.cell h0 (by simp), hg.cell h1 (by simp), hg.cell h2 (by simp), hg.cell h3 (by simp), hg.cell h4 (by simp), hg.cell h5 (by simp), hg.cell h6 (by simp)⟩
theorem SeensR.at {W : World} {a : Option Addr} {n cap : Nat} {ss : List (Sn × Value)} (h : SeensR W (.slice a n cap) ss) {i : Nat} {p : Sn × Value} (hp : ss[i]? = some p) : ∃ b off, a = some ⟨b, off, none⟩ ∧
    ∀ W', W.grownBy W' none → W'.cell? ⟨b, off + i * 7, none⟩ = some (.int .i64 p.1.id) ∧ W'.cell? ⟨b, off + i * 7 + 1, none⟩ = some (.int .i64 p.1.term) ∧ W'.cell? ⟨b, off + i * 7 + 2, none⟩ = some (.int .i64 p.1.com) ∧ W'.cell? ⟨b, off + i * 7 + 3, none⟩ = some (.bool p.1.lead) ∧ W'.cell? ⟨b, off + i * 7 + 4, none⟩ = some (.int .i64 p.1.b) ∧ W'.cell? ⟨b, off + i * 7 + 5, none⟩ = some (.int .i64 p.1.t) ∧ W'.cell? ⟨b, off + i * 7 + 6, none⟩ = some p.2 := by
  rcases h with ⟨rfl, _⟩ | ⟨b, off, cap', e, hl, hc⟩
  · simp at hp
  · injection e with e1 e2 e3
    refine ⟨b, off, e1, fun W' hg => ?_⟩
    obtain ⟨h0, h1, h2, h3, h4, h5, h6⟩ := hc i p hp
    exact ⟨hg.cell h0 (by simp), hg.cell h1 (by simp), hg.cell h2 (by simp), hg.cell h3 (by simp), hg.cell h4 (by simp), hg.cell h5 (by simp), hg.cell h6 (by simp)⟩
/-! ### Two in one term -/
def clash2 (r s : Sn) : Bool := s.lead && r.lead && (s.term == r.term) && !(s.id == r.id)
def badL (pre : List Sn) (s : Sn) : Bool := pre.any fun r => clash2 r s
def fineTo (ss : List Sn) (k : Nat) : Prop := ∀ j s, j < k → ss[j]? = some s → badL (ss.take j) s = false
def Lead (ss : List Sn) (z : Int) : Prop := (∃ (k : Nat) (s : Sn), ss[k]? = some s ∧ badL (ss.take k) s = true ∧ fineTo ss k ∧ z = k) ∨ (fineTo ss ss.length ∧ z = -1)
theorem Lead.one {ss : List Sn} {z z' : Int} (h : Lead ss z) (h' : Lead ss z') : z = z' := by
  have key : ∀ {k k' : Nat} {s s' : Sn}, ss[k]? = some s → badL (ss.take k) s = true → fineTo ss k' → ss[k']? = some s' → ¬ k < k' := by
    intro k k' s s' h1 h2 h3 _ hlt
    rw [h3 k s hlt h1] at h2
    cases h2
  rcases h with ⟨k, s, h1, h2, h3, rfl⟩ | ⟨h3, rfl⟩
  · rcases h' with ⟨k', s', h1', h2', h3', rfl⟩ | ⟨h3', rfl⟩
    · have a := key h1 h2 h3' h1'
      have b := key h1' h2' h3 h1
      omega
    · have := h3' k s (List.getElem?_eq_some_iff.1 h1).1 h1
      rw [this] at h2; cases h2
  · rcases h' with ⟨k', s', h1', h2', h3', rfl⟩ | ⟨h3', rfl⟩
    · have := h3 k' s' (List.getElem?_eq_some_iff.1 h1').1 h1'
      rw [this] at h2'; cases h2'
    · rfl
theorem fineTo_succ {ss : List Sn} {k : Nat} {s : Sn} (h : fineTo ss k) (hs : ss[k]? = some s) (hb : badL (ss.take k) s = false) : fineTo ss (k + 1) := fun j s' hj hs' => by
  rcases Nat.lt_or_ge j k with hlt | hge
  · exact h j s' hlt hs'
  · obtain rfl : j = k := by omega
    rw [hs] at hs'
    cases hs'
    exact hb
theorem fineTo_zero (ss : List Sn) : fineTo ss 0 := fun j s hj => by omega
/-- Who led, of the first ones. -/
structure LedI (pre : List Sn) (F : Int → Option Int) : Prop where
  all : ∀ r ∈ pre, r.lead = true → F r.term = some r.id
  of : ∀ t i, F t = some i → ∃ r ∈ pre, r.lead = true ∧ r.term = t ∧ r.id = i
theorem LedI.nil : LedI [] (fun _ => none) := ⟨by simp, by simp⟩
theorem LedI.skip {pre : List Sn} {F : Int → Option Int} (h : LedI pre F) {s : Sn} (hs : s.lead = false) : LedI (pre ++ [s]) F ∧ badL pre s = false := by
  refine ⟨⟨fun r hr hl => ?_, fun t i hF => ?_⟩, ?_⟩
  · rcases List.mem_append.1 hr with hr | hr
    · exact h.all r hr hl
    · obtain rfl : r = s := by simpa using hr
      rw [hs] at hl; cases hl
  · obtain ⟨r, hr, x⟩ := h.of t i hF
    exact ⟨r, by simp [hr], x⟩
  · unfold badL clash2
    rw [List.any_eq_false]
    intro r _
    simp [hs]
theorem LedI.bad {pre : List Sn} {F : Int → Option Int} (h : LedI pre F) {s : Sn} (hs : s.lead = true) : badL pre s = match F s.term with | none => false | some i => !(i == s.id) := by
  cases hF : F s.term with
  | none =>
    unfold badL clash2
    rw [List.any_eq_false]
    intro r hr hc
    simp only [Bool.and_eq_true, beq_iff_eq] at hc
    have := h.all r hr hc.1.1.2
    rw [← hc.1.2, hF] at this
    cases this
  | some i =>
    obtain ⟨r, hr, h1, h2, h3⟩ := h.of _ _ hF
    by_cases he : i = s.id
    · simp only [he, beq_self_eq_true, Bool.not_true]
      unfold badL clash2
      rw [List.any_eq_false]
      intro q hq hc
      simp only [Bool.and_eq_true, beq_iff_eq, Bool.not_eq_true', beq_eq_false_iff_ne] at hc
      have := h.all q hq hc.1.1.2
      rw [← hc.1.2, hF] at this
      cases this
      exact hc.2 he.symm
    · have : (i == s.id) = false := by simpa using he
      simp only [this, Bool.not_false]
      unfold badL clash2
      rw [List.any_eq_true]
      refine ⟨r, hr, ?_⟩
      have e2 : (s.id == r.id) = false := by rw [h3]; simpa using fun e => he e.symm
      simp [hs, h1, h2, e2]
theorem LedI.put {pre : List Sn} {F : Int → Option Int} (h : LedI pre F) {s : Sn} (hs : s.lead = true) (hb : badL pre s = false) : LedI (pre ++ [s]) (fun z => if z = s.term then some s.id else F z) := by
  have hb' := h.bad hs
  rw [hb] at hb'
  refine ⟨fun r hr hl => ?_, fun t i hF => ?_⟩
  · by_cases e : r.term = s.term
    · simp only [e, if_true]
      rcases List.mem_append.1 hr with hr | hr
      · have := h.all r hr hl
        rw [e] at this
        rw [this] at hb'
        simp at hb'
        rw [hb']
      · obtain rfl : r = s := by simpa using hr
        rfl
    · simp only [e, if_false]
      rcases List.mem_append.1 hr with hr | hr
      · exact h.all r hr hl
      · obtain rfl : r = s := by simpa using hr
        exact absurd rfl e
  · by_cases e : t = s.term
    · simp only [e, if_true, Option.some.injEq] at hF
      exact ⟨s, by simp, hs, e.symm, hF⟩
    · simp only [e, if_false] at hF
      obtain ⟨r, hr, x⟩ := h.of t i hF
      exact ⟨r, by simp [hr], x⟩
/-! ### A map of numbers by numbers -/
theorem key3 : Keyed Try.prog 3 := int_keyed Try.underlying3
structure MapD (w : World) (b n : Nat) (F : Int → Option Int) (D : DataW Unit) : Prop where
  own : w.ownsMap Try.prog 3 (plainElem Try.prog 3) b n D
  atk : ∀ x, D.atKey (.int .i64 x) (.lit (.int .i64 0)) = .lit (.int .i64 ((F x).getD 0))
  hs : ∀ x, Maps.has D (.int .i64 x) = (F x).isSome
def MapL (w : World) (b n : Nat) (F : Int → Option Int) : Prop := ∃ D, MapD w b n F D
theorem MapL.kept {w w' : World} {b n : Nat} {F : Int → Option Int} {row : Option Nat} (h : MapL w b n F) (hg : w.grownBy w' row) (hne : some b ≠ row) : MapL w' b n F := by
  obtain ⟨D, h1⟩ := h
  exact ⟨D, h1.own.kept hg hne, h1.atk, h1.hs⟩
theorem map_new (w : World) : MapL (w.alloc (.map #[] 0)) w.heap.size 0 (fun _ => none) :=
  ⟨.map [], World.ownsMap_made w Try.prog 3 _, fun x => by simp; rfl, fun x => by simp; rfl⟩
theorem run_makeMap57 (w : World) : (Instr.makeMap 57 none).run Try.prog w = .ok (.map (some w.heap.size)) (w.alloc (.map #[] 0)) := run_makeMap 57 w
theorem key_wf {x : Int} (h : I64 x) : (Lit.int .i64 x).wf = true := by
  obtain ⟨h0, h1⟩ := h
  simp [Lit.wf, IntKind.min, IntKind.max, IntKind.signed, IntKind.bits]
  omega
theorem MapL.look {w : World} {b n : Nat} {F : Int → Option Int} (h : MapL w b n F) {x : Int} (hx : I64 x) : (Instr.lookup 57 (.map (some b)) (.int .i64 x) true).run Try.prog w = .ok (.tuple #[.int .i64 ((F x).getD 0), .bool (F x).isSome]) w := by
  obtain ⟨D, hD⟩ := h
  have hz : (zeroValue 3).run Try.prog w = .ok (.int .i64 0) w := Try.zeroValue3 w
  have hk := keyOf_int_mk Try.underlying3 (key_wf hx)
  obtain ⟨v, ps, hrun, hv⟩ := hD.own.look_ok key3 Try.underlying57 hz (plainElem_int (H := Unit) Try.underlying3 (a := 0) (by decide)) hk
  rw [hD.atk] at hv
  obtain ⟨c, rfl, hc, _⟩ := plainElem_int_inv Try.underlying3 hv
  have hc' := congrArg Prod.fst hc
  injection hc' with hc'
  injection hc' with _ hc'
  rw [hrun, hD.hs, ← hc']
theorem MapD.put {w w' : World} {b n : Nat} {F : Int → Option Int} {D : DataW Unit} (h : MapD w b n F D) {x y : Int} (ho : w'.ownsMap Try.prog 3 (plainElem Try.prog 3) b (n + 1) (D.put (.int .i64 x) (.lit (.int .i64 y)))) : MapL w' b (n + 1) (fun z => if z = x then some y else F z) := by
  have hT := h.own.tidy key3
  refine ⟨_, ho, fun z => ?_, fun z => ?_⟩
  · by_cases e : z = x
    · subst e; rw [Maps.atKey_put_same hT.isMap (by trivial), if_pos rfl]; rfl
    · rw [Maps.atKey_put_other (fun k => e (by injection k)), h.atk, if_neg e]
  · by_cases e : z = x
    · subst e; rw [Maps.has_put_same hT.isMap (by trivial), if_pos rfl]; rfl
    · rw [Maps.has_put_other (fun k => e (by injection k)), h.hs, if_neg e]
end Go.Proofs.Ytcijjepleedecaa.W
