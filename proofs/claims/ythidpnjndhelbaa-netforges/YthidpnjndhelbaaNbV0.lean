/- net: a set of servers in a map; what Next finds. -/
import Derived.Test.YthidpnjndhelbaaNbU
import Derived.Maps.OwnOps
namespace Go.Proofs.Ythidpnjndhelbaa
open Go.RowKit Go.Maps
set_option linter.unusedVariables false
set_option linter.unusedSimpArgs false
set_option maxRecDepth 100000

theorem key3 : Keyed Try.prog 3 := int_keyed Try.underlying3
structure MapD (w : World) (b n : Nat) (S : Int → Bool) (D : DataW Unit) : Prop where
  own : w.ownsMap Try.prog 3 (plainElem Try.prog 4) b n D
  atk : ∀ x, D.atKey (.int .i64 x) (.lit (.bool false)) = .lit (.bool (S x))
def MapB (w : World) (b n : Nat) (S : Int → Bool) : Prop := ∃ D, MapD w b n S D
theorem map_blk {w : World} {b n : Nat} {k e : TypeId} {D : DataW Unit} (h : w.ownsMap Try.prog k (plainElem Try.prog e) b n D) {q : Nat} {c : Array Value} {t : TypeId} {f : Nat × Nat} (hk : w.heap[q]? = some (.cells c t f)) : b ≠ q := fun e => by
  obtain ⟨es, clock, hb, _⟩ := h
  subst e
  rw [hb] at hk
  cases hk
theorem MapB.kept {w w' : World} {b n : Nat} {S : Int → Bool} {row : Option Nat} (h : MapB w b n S) (hg : w.grownBy w' row) (hne : some b ≠ row) : MapB w' b n S := by
  obtain ⟨D, h1⟩ := h
  exact ⟨D, h1.own.kept hg hne, h1.atk⟩
theorem MapB.keeps {w w' : World} {F : Nat → Prop} {b n : Nat} {S : Int → Bool} (h : MapB w b n S) (hk : Keeps F w w') (hn : ¬ F b) : MapB w' b n S := by
  obtain ⟨D, h1⟩ := h
  refine ⟨D, ?_, h1.atk⟩
  obtain ⟨es, clock, hb, rest⟩ := h1.own
  exact ⟨es, clock, (hk.block b (Array.getElem?_eq_some_iff.1 hb).1 hn).trans hb, rest⟩
theorem MapB.apart {w : World} {b n : Nat} {S : Int → Bool} (h : MapB w b n S) {B q : Nat} {v : Value} {g : NetG} (hb : IsN w B q v g) : ¬ MutN q v b := fun hf => by
  obtain ⟨D, h1⟩ := h
  rcases hf with rfl | hf
  · exact map_blk h1.own hb.blk rfl
  · obtain ⟨_, c, hc⟩ := own_low hb.row _ hf
    exact map_blk h1.own hc rfl
theorem MapB.np {w w' : World} {b n : Nat} {S : Int → Bool} (h : MapB w b n S) {B q : Nat} {v v' : Value} {g g' : NetG} (hb : IsN w B q v g) (hp : NPv w w' B q v v' g g') : MapB w' b n S := h.keeps hp.keeps (h.apart hb)
theorem map_new (w : World) : MapB (w.alloc (.map #[] 0)) w.heap.size 0 (fun _ => false) :=
  ⟨.map [], World.ownsMap_made w Try.prog 3 _, fun x => rfl⟩
theorem MapD.put {w w' : World} {b n : Nat} {S : Int → Bool} {D : DataW Unit} (h : MapD w b n S D) {x : Int} (ho : w'.ownsMap Try.prog 3 (plainElem Try.prog 4) b (n + 1) (D.put (.int .i64 x) (.lit (.bool true)))) : MapB w' b (n + 1) (fun z => if z = x then true else S z) := by
  have hT := h.own.tidy key3
  refine ⟨_, ho, fun z => ?_⟩
  by_cases e : z = x
  · subst e; rw [Maps.atKey_put_same hT.isMap (by trivial), if_pos rfl]
  · rw [Maps.atKey_put_other (fun k => e (by injection k)), if_neg e, h.atk]
theorem key_wf {x : Int} (h0 : 0 ≤ x) (h1 : x < 16) : (Lit.int .i64 x).wf = true := by
  simp [Lit.wf, IntKind.min, IntKind.max, IntKind.signed, IntKind.bits]
  omega
theorem MapB.look {w : World} {b n : Nat} {S : Int → Bool} (h : MapB w b n S) {x : Int} (h0 : 0 ≤ x) (h1 : x < 16) : (Instr.lookup 61 (.map (some b)) (.int .i64 x) false).run Try.prog w = .ok (.bool (S x)) w := by
  obtain ⟨D, hD⟩ := h
  have hz : (zeroValue 4).run Try.prog w = .ok (.bool false) w := Try.zeroValue4 w
  have hk := keyOf_int_mk Try.underlying3 (key_wf h0 h1)
  obtain ⟨v, ps, hrun, hv⟩ := hD.own.lookup key3 Try.underlying61 hz (plainElem_bool (H := Unit) Try.underlying4 false) hk
  rw [hD.atk] at hv
  have hv2 : v = .bool (S x) := by
    unfold plainElem at hv
    cases v <;> simp_all [Try.underlying4]
  rw [hrun, hv2]
theorem run_makeMap61 (w : World) : (Instr.makeMap 61 none).run Try.prog w = .ok (.map (some w.heap.size)) (w.alloc (.map #[] 0)) := run_makeMap 61 w
def memB (ids : List Int) (x : Int) : Bool := decide (x ∈ ids)
theorem memB_snoc (l : List Int) (k : Nat) (hk : k < l.length) : (fun z => if z = l[k] then true else memB (l.take k) z) = memB (l.take (k + 1)) := by
  funext z
  have ht : ∀ z, z ∈ l.take (k + 1) ↔ z ∈ l.take k ∨ z = l[k] := fun z => by
    rw [show l.take (k + 1) = l.take k ++ [l[k]] from List.take_succ_eq_append_getElem hk, List.mem_append, List.mem_singleton]
  unfold memB
  by_cases e : z = l[k]
  · rw [if_pos e, decide_eq_true ((ht z).2 (.inr e))]
  · rw [if_neg e, Bool.eq_iff_iff, decide_eq_true_iff, decide_eq_true_iff, ht]
    exact ⟨.inl, fun h => h.resolve_right e⟩
theorem pas_mem (ids : List Int) {a b : Int} (ha : 0 ≤ a ∧ a < 16) (hb : 0 ≤ b ∧ b < 16) : pasB (arF ids) a b = (memB ids a == memB ids b) := by
  unfold pasB arF memB
  rw [show ((a.toNat : Nat) : Int) = a by omega, show ((b.toNat : Nat) : Int) = b by omega]
def pasK (g : NetG) (k : Nat) : Prop := ∃ p, g.L[k]? = some p ∧ pasB g.W p.1.fr p.1.tw = true
theorem nextN_spec (g : NetG) : ∀ (f z : Nat), f = g.L.length - z → (nextN g f z = -1 ∧ ∀ j, z ≤ j → ¬ pasK g j) ∨ ∃ k : Nat, nextN g f z = k ∧ z ≤ k ∧ k < g.L.length ∧ pasK g k ∧ ∀ j, z ≤ j → j < k → ¬ pasK g j
  | 0, z, hf => .inl ⟨rfl, fun j hj ⟨p, hp, _⟩ => by have := (List.getElem?_eq_some_iff.1 hp).1; omega⟩
  | f + 1, z, hf => by
    have hz : z < g.L.length := by omega
    cases hp : pasB g.W g.L[z].1.fr g.L[z].1.tw
    · have e : nextN g (f + 1) z = nextN g f (z + 1) := by
        have := nextN_no hz hp
        rw [hf, this, show g.L.length - (z + 1) = f by omega]
      have hno : ¬ pasK g z := fun ⟨p, hp1, hp2⟩ => by
        rw [List.getElem?_eq_getElem hz] at hp1
        injection hp1 with hp1
        subst hp1
        rw [hp] at hp2
        cases hp2
      rcases nextN_spec g f (z + 1) (by omega) with ⟨h1, h2⟩ | ⟨k, h1, h2, h3, h4, h5⟩
      · refine .inl ⟨by rw [e, h1], fun j hj => ?_⟩
        by_cases hjz : j = z
        · subst hjz; exact hno
        · exact h2 j (by omega)
      · refine .inr ⟨k, by rw [e, h1], by omega, h3, h4, fun j hj hjk => ?_⟩
        by_cases hjz : j = z
        · subst hjz; exact hno
        · exact h5 j (by omega) hjk
    · have e := nextN_yes hz hp
      rw [← hf] at e
      exact .inr ⟨z, e, Nat.le_refl _, hz, ⟨_, List.getElem?_eq_getElem hz, hp⟩, fun j h1 h2 => by omega⟩
theorem nextI_nat (g : NetG) (z : Nat) : nextI g z = nextN g (g.L.length - z) z := by
  unfold nextI
  rw [show (max (z : Int) 0).toNat = z by omega]
theorem pasK_rem {g : NetG} {k j : Nat} (hj : j < k) : pasK (remG g k) j ↔ pasK g j := by
  unfold pasK remG
  simp only
  rw [List.getElem?_eraseIdx_of_lt hj]
theorem Mine.map {w W W' : World} {b : Nat} {v : Value} {g : NetG} (h : Mine w W b v g) {bm n : Nat} {S : Int → Bool} (hm : MapB W bm n S) (hl : w.heap.size ≤ bm) (hg : W.grownBy W' (some bm)) : Mine w W' b v g := by
  have hk : Keeps (fun k => some bm = some k) W W' := Keeps.of_grown hg (fun k e _ => e)
  obtain ⟨D, hD⟩ := hm
  refine ⟨isN_keeps h.1 hk (fun e => ?_) (fun k hk e => ?_) (fun k hk e => ?_), Keeps.grown h.2 hk (fun k e => by injection e with e; subst e; exact hl)⟩
  · have := h.1.blk
    unfold Blk at this
    exact map_blk hD.own this (by injection e)
  · obtain ⟨_, d, hd⟩ := own_low h.1.row k hk
    exact map_blk hD.own hd (by injection e)
  · obtain ⟨p, hp, hb⟩ := hk
    obtain ⟨_, d, hd⟩ := own_low (h.1.bts p hp) k hb
    exact map_blk hD.own hd (by injection e)
/-- What Next found: none, or the first. -/
def NextOk (g : NetG) (z : Int) : Prop := (z = -1 ∧ ∀ j, ¬ pasK g j) ∨ ∃ k : Nat, z = k ∧ k < g.L.length ∧ pasK g k ∧ ∀ j, j < k → ¬ pasK g j
theorem next_start (g : NetG) : NextOk g (nextI g 0) := by
  rw [show nextI g 0 = nextN g (g.L.length - 0) 0 from nextI_nat g 0]
  rcases nextN_spec g _ 0 rfl with ⟨h1, h2⟩ | ⟨k, h1, _, h3, h4, h5⟩
  · exact .inl ⟨h1, fun j => h2 j (Nat.zero_le _)⟩
  · exact .inr ⟨k, h1, h3, h4, fun j hj => h5 j (Nat.zero_le _) hj⟩
theorem next_after {g : NetG} {k : Nat} (h : ∀ j, j < k → ¬ pasK g j) : NextOk (remG g k) (nextI (remG g k) k) := by
  rw [nextI_nat]
  rcases nextN_spec (remG g k) _ k rfl with ⟨h1, h2⟩ | ⟨m, h1, h2, h3, h4, h5⟩
  · refine .inl ⟨h1, fun j => ?_⟩
    by_cases hj : j < k
    · rw [pasK_rem hj]; exact h j hj
    · exact h2 j (by omega)
  · refine .inr ⟨m, h1, h3, h4, fun j hj => ?_⟩
    by_cases hk : j < k
    · rw [pasK_rem hk]; exact h j hk
    · exact h5 j (by omega) hj
theorem pasK_at {g : NetG} {k : Nat} (hk : k < g.L.length) (h : pasK g k) : pasB g.W g.L[k].1.fr g.L[k].1.tw = true := by
  obtain ⟨p, hp, h2⟩ := h
  rw [List.getElem?_eq_getElem hk] at hp
  injection hp with hp
  subst hp
  exact h2
theorem pasK_not {g : NetG} {k : Nat} (hk : k < g.L.length) (h : ¬ pasK g k) : pasB g.W g.L[k].1.fr g.L[k].1.tw = false := by
  cases e : pasB g.W g.L[k].1.fr g.L[k].1.tw with
  | false => rfl
  | true => exact absurd ⟨_, List.getElem?_eq_getElem hk, e⟩ h
theorem take_got {w w6 : World} {B b : Nat} {v : Value} {g : NetG} {k : Nat} {hk : k < g.L.length} {e : Ending} (hp : pasB g.W g.L[k].1.fr g.L[k].1.tw = true)
    (h : (pasB g.W g.L[k].1.fr g.L[k].1.tw = false ∧ e = .returned (.tuple #[.agg #[.int .i64 0, .int .i64 0, .slice none 0 0], .int .i64 31]) ∧ w.grownBy w6 none) ∨ (pasB g.W g.L[k].1.fr g.L[k].1.tw = true ∧ ∃ v', e = .returned (.tuple #[.agg #[.int .i64 g.L[k].1.fr, .int .i64 g.L[k].1.tw, v'], .int .i64 0]) ∧ Own w6 w.heap.size v' g.L[k].1.b ∧ NP w w6 B b v g (remG g k))) :
    ∃ a c, e = .returned (.tuple #[.agg #[.int .i64 g.L[k].1.fr, .int .i64 g.L[k].1.tw, .slice a g.L[k].1.b.length c], .int .i64 0]) ∧ NP w w6 B b v g (remG g k) := by
  rcases h with ⟨h1, _⟩ | ⟨_, v', h2, h4, h3⟩
  · rw [hp] at h1; cases h1
  · obtain ⟨a, c, rfl⟩ := h4.len
    exact ⟨a, c, h2, h3⟩
theorem take_held {w w6 : World} {B b : Nat} {v : Value} {g : NetG} {k : Nat} {hk : k < g.L.length} {e : Ending} (hp : pasB g.W g.L[k].1.fr g.L[k].1.tw = false)
    (h : (pasB g.W g.L[k].1.fr g.L[k].1.tw = false ∧ e = .returned (.tuple #[.agg #[.int .i64 0, .int .i64 0, .slice none 0 0], .int .i64 31]) ∧ w.grownBy w6 none) ∨ (pasB g.W g.L[k].1.fr g.L[k].1.tw = true ∧ ∃ v', e = .returned (.tuple #[.agg #[.int .i64 g.L[k].1.fr, .int .i64 g.L[k].1.tw, v'], .int .i64 0]) ∧ Own w6 w.heap.size v' g.L[k].1.b ∧ NP w w6 B b v g (remG g k))) :
    e = .returned (.tuple #[.agg #[.int .i64 0, .int .i64 0, .slice none 0 0], .int .i64 31]) ∧ w.grownBy w6 none := by
  rcases h with ⟨_, h2⟩ | ⟨h1, _⟩
  · exact h2
  · rw [hp] at h1; cases h1
theorem wall_nil {w : World} {B b : Nat} {v : Value} {g : NetG} (h : IsN w B b v g) : Calls Try.prog 21 #[.pointer (some ⟨b, 0, none⟩), .slice none 0 0] w fun e w' => e = .returned (.int .i64 0) ∧ NP w w' B b v g (wallG g []) :=
  wall_any h (.slice none 0 0) [] (IntsR.nil w) (by simp)
theorem pas_free (a b : Int) : pasB (arF []) a b = true := by simp [pasB, arF]
theorem len_rem {g : NetG} {k : Nat} (hk : k < g.L.length) : (remG g k).L.length + 1 = g.L.length := by
  show (g.L.eraseIdx k).length + 1 = _
  rw [List.length_eraseIdx_of_lt hk]
  omega
theorem within {g : NetG} (h : OkN g) {k : Nat} (hk : k < g.L.length) : (0 ≤ g.L[k].1.fr ∧ g.L[k].1.fr < 16) ∧ (0 ≤ g.L[k].1.tw ∧ g.L[k].1.tw < 16) := by
  have := okL_iff.1 (h.lts _ (List.getElem_mem hk))
  exact ⟨this.1, this.2.1⟩
end Go.Proofs.Ythidpnjndhelbaa
