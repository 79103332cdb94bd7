/- client: a set of numbers in a map; two clients. -/
import Derived.Test.YtgebhomiehadmaaCcT
import Derived.Maps.OwnOps
namespace Go.Proofs.Ytgebhomiehadmaa
open Go.RowKit Go.Maps
set_option linter.unusedVariables false
set_option linter.unusedSimpArgs false
set_option maxRecDepth 100000

theorem key3 : Keyed Try.prog 3 := int_keyed Try.underlying3
structure MapD (w : World) (b n : Nat) (K : List Int) (D : DataW Unit) : Prop where
  own : w.ownsMap Try.prog 3 (plainElem Try.prog 4) b n D
  atk : ∀ x, D.atKey (.int .i64 x) (.lit (.bool false)) = .lit (.bool (decide (x ∈ K)))
  hs : ∀ x, Maps.has D (.int .i64 x) = decide (x ∈ K)
  siz : Maps.size D = K.length
def MapI (w : World) (b n : Nat) (K : List Int) : Prop := ∃ D, MapD w b n K D
theorem map_blk {w : World} {b n : Nat} {k e : TypeId} {D : DataW Unit} (h : w.ownsMap Try.prog k (plainElem Try.prog e) b n D) {q : Nat} {c : Array Value} {t : TypeId} {f : Nat × Nat} (hk : w.heap[q]? = some (.cells c t f)) : b ≠ q := fun e => by
  obtain ⟨es, clock, hb, _⟩ := h
  subst e
  rw [hb] at hk
  cases hk
theorem MapI.kept {w w' : World} {b n : Nat} {K : List Int} {row : Option Nat} (h : MapI w b n K) (hg : w.grownBy w' row) (hne : some b ≠ row) : MapI w' b n K := by
  obtain ⟨D, h1⟩ := h
  exact ⟨D, h1.own.kept hg hne, h1.atk, h1.hs, h1.siz⟩
theorem MapI.keeps {w w' : World} {F : Nat → Prop} {b n : Nat} {K : List Int} (h : MapI w b n K) (hk : Keeps F w w') (hn : ¬ F b) : MapI w' b n K := by
  obtain ⟨D, h1⟩ := h
  refine ⟨D, ?_, h1.atk, h1.hs, h1.siz⟩
  obtain ⟨es, clock, hb, rest⟩ := h1.own
  exact ⟨es, clock, (hk.block b (Array.getElem?_eq_some_iff.1 hb).1 hn).trans hb, rest⟩
theorem map_new (w : World) : MapI (w.alloc (.map #[] 0)) w.heap.size 0 [] :=
  ⟨.map [], World.ownsMap_made w Try.prog 3 _, fun x => by simp; rfl, fun x => by simp; rfl, rfl⟩
def addK (K : List Int) (x : Int) : List Int := if x ∈ K then K else x :: K
theorem mem_addK {K : List Int} {x y : Int} : y ∈ addK K x ↔ y = x ∨ y ∈ K := by
  unfold addK
  split
  · rename_i h
    constructor
    · exact .inr
    · rintro (rfl | h2)
      · exact h
      · exact h2
  · simp
theorem MapD.put {w w' : World} {b n : Nat} {K : List Int} {D : DataW Unit} (h : MapD w b n K D) {x : Int} (ho : w'.ownsMap Try.prog 3 (plainElem Try.prog 4) b (n + 1) (D.put (.int .i64 x) (.lit (.bool true)))) : MapI w' b (n + 1) (addK K x) := by
  have hT := h.own.tidy key3
  refine ⟨_, ho, fun z => ?_, fun z => ?_, ?_⟩
  · by_cases e : z = x
    · subst e; rw [Maps.atKey_put_same hT.isMap (by trivial), decide_eq_true (mem_addK.2 (.inl rfl))]
    · rw [Maps.atKey_put_other (fun k => e (by injection k)), h.atk]
      congr 2
      rw [decide_eq_decide, mem_addK]
      exact ⟨.inr, fun h => h.resolve_left e⟩
  · by_cases e : z = x
    · subst e; rw [Maps.has_put_same hT.isMap (by trivial), decide_eq_true (mem_addK.2 (.inl rfl))]
    · rw [Maps.has_put_other (fun k => e (by injection k)), h.hs, decide_eq_decide, mem_addK]
      exact ⟨.inr, fun h => h.resolve_left e⟩
  · rw [Maps.size_put hT, h.hs, h.siz]
    unfold addK
    by_cases e : x ∈ K
    · simp [e]
    · simp [e]
theorem key_wf {x : Int} (h0 : -9223372036854775808 ≤ x) (h1 : x ≤ 9223372036854775807) : (Lit.int .i64 x).wf = true := by
  simp [Lit.wf, IntKind.min, IntKind.max, IntKind.signed, IntKind.bits]
  omega
theorem MapI.look {w : World} {b n : Nat} {K : List Int} (h : MapI w b n K) {x : Int} (h0 : -9223372036854775808 ≤ x) (h1 : x ≤ 9223372036854775807) : (Instr.lookup 60 (.map (some b)) (.int .i64 x) false).run Try.prog w = .ok (.bool (decide (x ∈ K))) w := by
  obtain ⟨D, hD⟩ := h
  have hz : (zeroValue 4).run Try.prog w = .ok (.bool false) w := Try.zeroValue4 w
  have hk := keyOf_int_mk Try.underlying3 (key_wf h0 h1)
  obtain ⟨v, ps, hrun, hv⟩ := hD.own.lookup key3 Try.underlying60 hz (plainElem_bool (H := Unit) Try.underlying4 false) hk
  rw [hD.atk] at hv
  have hv2 : v = .bool (decide (x ∈ K)) := by
    unfold plainElem at hv
    cases v <;> simp_all [Try.underlying4]
  rw [hrun, hv2]
theorem MapI.len {w : World} {b n : Nat} {K : List Int} (h : MapI w b n K) (ty : TypeId) : (Builtin.len_ #[60] ty #[.map (some b)]).run Try.prog w = .ok (.int .i64 K.length) w := by
  obtain ⟨D, hD⟩ := h
  rw [hD.own.len Try.underlying60 ty, hD.siz]
theorem run_makeMap60 (w : World) : (Instr.makeMap 60 none).run Try.prog w = .ok (.map (some w.heap.size)) (w.alloc (.map #[] 0)) := run_makeMap 60 w
/-! ### Two clients -/
structure Two (w W : World) (b c : Nat) (V U : CV) (g d : Cli) : Prop where
  one : Mine w W b V g
  two : Mine w W c U d
  ap : ∀ k, FtC b V k → ¬ FtC c U k
theorem Two.kept {w W W' : World} {b c : Nat} {V U : CV} {g d : Cli} (h : Two w W b c V U g d) (hg : W.grownBy W' none) : Two w W' b c V U g d := ⟨h.one.kept hg, h.two.kept hg, h.ap⟩
theorem Two.swap {w W : World} {b c : Nat} {V U : CV} {g d : Cli} (h : Two w W b c V U g d) : Two w W c b U V d g := ⟨h.two, h.one, fun k e f => h.ap k f e⟩
theorem Two.left {w W W' : World} {b c : Nat} {V V' U : CV} {g g' d : Cli} (h : Two w W b c V U g d) (hp : CPv W W' w.heap.size b V V' g g') : Two w W' b c V' U g' d :=
  ⟨h.one.cpv hp, ⟨h.two.1.keeps hp.keeps (fun k e f => h.ap k (.inl f) e), Keeps.grown h.two.2 hp.keeps (fun k e => h.one.mut e)⟩, fun k e f => by
    rcases hp.ft k e with e | e
    · exact h.ap k e f
    · have := (h.two.1.ft f).2; omega⟩
theorem Two.right {w W W' : World} {b c : Nat} {V U U' : CV} {g d d' : Cli} (h : Two w W b c V U g d) (hp : CPv W W' w.heap.size c U U' d d') : Two w W' b c V U' g d' := (h.swap.left hp).swap
theorem two_new {w W W' : World} {b c : Nat} {V U : CV} {g d : Cli} (h : Mine w W b V g) (hg : W.grownBy W' none) (h2 : IsC W' W.heap.size c U d) : Two w W' b c V U g d :=
  ⟨h.kept hg, ⟨h2.lower h.2.size, grown_trans h.2 hg⟩, fun k e f => by have h3 := (h.1.ft e).2; have h4 := (h2.ft f).1; omega⟩
theorem IsC.cells {w : World} {B b : Nat} {V : CV} {g : Cli} (h : IsC w B b V g) {k : Nat} (hk : FtC b V k) : ∃ c t, w.heap[k]? = some (.cells c t (0, 0)) := by
  rcases hk with (rfl | e) | e | e | (e | ⟨p, hp, e⟩) | ⟨p, hp, e⟩
  · exact ⟨_, _, h.blk⟩
  · obtain ⟨_, c, hc⟩ := own_low h.row k e; exact ⟨_, _, hc⟩
  · obtain ⟨_, c, hc⟩ := own_low h.sv k e; exact ⟨_, _, hc⟩
  · obtain ⟨_, c, hc⟩ := own_low h.od k e; exact ⟨_, _, hc⟩
  · obtain ⟨_, c, hc⟩ := own_low h.rcs.1 k e; exact ⟨_, _, hc⟩
  · obtain ⟨_, c, hc⟩ := own_low (h.rcs.2 p hp) k e; exact ⟨_, _, hc⟩
  · obtain ⟨_, c, hc⟩ := own_low (h.bts p hp) k e; exact ⟨_, _, hc⟩
theorem Mine.map {w W W' : World} {b : Nat} {V : CV} {g : Cli} (h : Mine w W b V g) {bm n : Nat} {K : List Int} (hm : MapI W bm n K) (hl : w.heap.size ≤ bm) (hg : W.grownBy W' (some bm)) : Mine w W' b V g := by
  have hk : Keeps (fun k => k = bm) W W' := Keeps.one hg rfl
  obtain ⟨D, hD⟩ := hm
  refine ⟨h.1.keeps hk (fun k e e2 => ?_), Keeps.grown h.2 hk (fun k e => by subst e; exact hl)⟩
  obtain ⟨c, t, hc⟩ := h.1.cells e
  exact map_blk hD.own hc e2.symm
theorem Two.map {w W W' : World} {b c : Nat} {V U : CV} {g d : Cli} (h : Two w W b c V U g d) {bm n : Nat} {K : List Int} (hm : MapI W bm n K) (hl : w.heap.size ≤ bm) (hg : W.grownBy W' (some bm)) : Two w W' b c V U g d :=
  ⟨h.one.map hm hl hg, h.two.map hm hl hg, h.ap⟩
theorem owns_map {w W' : World} {B : Nat} {e : TypeId} {size : Nat} {v : Value} {m : Nat} {xs : List Value} (h : w.ownsRow B e size v m xs) {bm n : Nat} {K : List Int} (hm : MapI w bm n K) (hg : w.grownBy W' (some bm)) : W'.ownsRow B e size v m xs :=
  owns_kept h hg (fun q cur hq e1 => by
    obtain ⟨D, hD⟩ := hm
    injection e1 with e1
    exact map_blk hD.own hq e1.symm)
theorem MapI.client {w w' : World} {bm n : Nat} {K : List Int} (h : MapI w bm n K) {B b : Nat} {V V' : CV} {g g' : Cli} (hI : IsC w B b V g) (hp : CPv w w' B b V V' g g') : MapI w' bm n K :=
  h.keeps hp.keeps (fun e => by
    obtain ⟨D, hD⟩ := h
    obtain ⟨c, t, hc⟩ := hI.cells (.inl e)
    exact map_blk hD.own hc rfl)
/-! ### A client that asks at each tick -/
structure ApP (a : Int) (n : Nat) (g : Cli) : Prop where
  id : g.id = a
  pa : g.pa = 1
  st : g.st = 1
  tr : g.tr = n + 1
  ps : 0 ≤ g.ps
  ids : g.out.map Cal.id = (List.range (n + 1)).map fun (j : Nat) => a * 1000000 + ((j : Int) + 1)
theorem apP_start (a : Int) (sv : List Int) : ApP a 0 (doG (newC a 1 sv) ⟨1, 0, 0, []⟩) := by
  have e : doG (newC a 1 sv) ⟨1, 0, 0, []⟩ = begG (newC a 1 sv) ⟨1, 0, 0, []⟩ := rfl
  rw [e]
  exact ⟨rfl, rfl, rfl, rfl, Int.le_refl _, rfl⟩
theorem ApP.tick {a : Int} {n : Nat} {g : Cli} (h : ApP a n g) : ApP a (n + 1) (tickG g) := by
  have e : tickG g = askG { g with ps := g.ps + 1 } (nextP g) := by
    unfold tickG
    rw [if_pos h.st, if_pos (by have h1 := h.pa; have h2 := h.ps; omega)]
  rw [e]
  refine ⟨h.id, h.pa, h.st, ?_, Int.le_refl _, ?_⟩
  · show g.tr + 1 = _
    rw [h.tr]; omega
  · show (g.out ++ [_]).map Cal.id = _
    rw [List.map_append, h.ids, List.range_succ (n := n + 1), List.map_append]
    congr 1
    show [lastI (preG { g with ps := g.ps + 1 } (nextP g))] = _
    unfold lastI preG
    simp only [List.map_cons, List.map_nil]
    rw [h.id, h.tr]
    congr 2
theorem ApP.len {a : Int} {n : Nat} {g : Cli} (h : ApP a n g) : g.out.length = n + 1 := by
  have := congrArg List.length h.ids
  simpa using this
end Go.Proofs.Ytgebhomiehadmaa
