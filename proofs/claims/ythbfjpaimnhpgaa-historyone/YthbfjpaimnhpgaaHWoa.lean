/- history: texts by numbers in a map; what the numbers of a legal order are. -/
import Derived.Test.YthbfjpaimnhpgaaHKn
import Derived.Maps.OwnSet
import Derived.Maps.StringElems
import Derived.Maps.OwnOps
namespace Go.Proofs.Ythbfjpaimnhpgaa
open Go.RowKit Go.Maps
set_option linter.unusedVariables false
set_option linter.unusedSimpArgs false
set_option maxRecDepth 100000

theorem key3 : Keyed Try.prog 3 := int_keyed Try.underlying3
structure MapD (w : World) (b n : Nat) (F : Int → Option (List UInt8)) (D : DataW Unit) : Prop where
  own : w.ownsMap Try.prog 3 (plainElem Try.prog 9) b n D
  atk : ∀ x, D.atKey (.int .i64 x) (.lit (.string [])) = .lit (.string ((F x).getD []))
  hs : ∀ x, Maps.has D (.int .i64 x) = (F x).isSome
/-- A map of texts by numbers. -/
def MapT (w : World) (b n : Nat) (F : Int → Option (List UInt8)) : Prop := ∃ D, MapD w b n F D
theorem MapT.kept {w w' : World} {b n : Nat} {F : Int → Option (List UInt8)} {row : Option Nat} (h : MapT w b n F) (hg : w.grownBy w' row) (hne : some b ≠ row) : MapT w' b n F := by
  obtain ⟨D, h1⟩ := h
  exact ⟨D, h1.own.kept hg hne, h1.atk, h1.hs⟩
theorem map_new (w : World) : MapT (w.alloc (.map #[] 0)) w.heap.size 0 (fun _ => none) :=
  ⟨.map [], World.ownsMap_made w Try.prog 3 _, fun x => by simp; rfl, fun x => by simp; rfl⟩
theorem run_makeMap53 (w : World) : (Instr.makeMap 53 none).run Try.prog w = .ok (.map (some w.heap.size)) (w.alloc (.map #[] 0)) := run_makeMap 53 w
theorem key_wf {x : Int} (h0 : -9223372036854775808 ≤ x) (h1 : x ≤ 9223372036854775807) : (Lit.int .i64 x).wf = true := by
  simp [Lit.wf, IntKind.min, IntKind.max, IntKind.signed, IntKind.bits]
  omega
theorem MapT.look {w : World} {b n : Nat} {F : Int → Option (List UInt8)} (h : MapT w b n F) {x : Int} (h0 : -9223372036854775808 ≤ x) (h1 : x ≤ 9223372036854775807) : (Instr.lookup 53 (.map (some b)) (.int .i64 x) true).run Try.prog w = .ok (.tuple #[.string ⟨((F x).getD []).toArray⟩, .bool (F x).isSome]) w := by
  obtain ⟨D, hD⟩ := h
  have hz : (zeroValue 9).run Try.prog w = .ok (.string ⟨#[]⟩) w := Try.zeroValue9 w
  have hk := keyOf_int_mk Try.underlying3 (key_wf h0 h1)
  obtain ⟨v, ps, hrun, hv⟩ := hD.own.look_ok key3 Try.underlying53 hz (plainElem_string (H := Unit) Try.underlying9 (s := ⟨#[]⟩) (by decide)) hk
  have ha := hD.atk x
  rw [show DataW.lit (.string (ByteArray.mk #[]).data.toList) = DataW.lit (.string []) from rfl, ha] at hv
  obtain ⟨s, rfl, he, _⟩ := plainElem_string_inv Try.underlying9 hv
  injection he with he _
  injection he with he
  injection he with he
  rw [hrun, hD.hs, he]
theorem MapD.put {w w' : World} {b n : Nat} {F : Int → Option (List UInt8)} {D : DataW Unit} (h : MapD w b n F D) {x : Int} {l : List UInt8} (ho : w'.ownsMap Try.prog 3 (plainElem Try.prog 9) b (n + 1) (D.put (.int .i64 x) (.lit (.string l)))) : MapT w' b (n + 1) (fun z => if z = x then some l else F z) := by
  have hT := h.own.tidy key3
  refine ⟨_, ho, fun z => ?_, fun z => ?_⟩
  · by_cases e : z = x
    · subst e; rw [Maps.atKey_put_same hT.isMap (by trivial), if_pos rfl]; rfl
    · rw [Maps.atKey_put_other (fun k => e (by injection k)), h.atk, if_neg e]
  · by_cases e : z = x
    · subst e; rw [Maps.has_put_same hT.isMap (by trivial), if_pos rfl]; rfl
    · rw [Maps.has_put_other (fun k => e (by injection k)), h.hs, if_neg e]
/-- What the map holds of the first calls. -/
def mapG (l : List Ca) : Nat → Int → Option (List UInt8)
  | 0, _ => none
  | i + 1, z => if l[i]!.an = true ∧ l[i]!.k = 1 ∧ z = l[i]!.nu then some l[i]!.d else mapG l i z
theorem mapG_some {l : List Ca} {z : Int} {d : List UInt8} : ∀ {i : Nat}, mapG l i z = some d → ∃ j, j < i ∧ l[j]!.an = true ∧ l[j]!.k = 1 ∧ z = l[j]!.nu ∧ d = l[j]!.d
  | i + 1, h => by
    simp only [mapG] at h
    split at h
    · rename_i hc
      cases h
      exact ⟨i, by omega, hc.1, hc.2.1, hc.2.2, rfl⟩
    · obtain ⟨j, hj, r⟩ := mapG_some h
      exact ⟨j, by omega, r⟩
theorem OkG.map_none {l : List Ca} {o : List Int} (h : OkG l o) {i : Nat} (hi : i < l.length) (ha : l[i]!.an = true) (hk : l[i]!.k = 1) : mapG l i l[i]!.nu = none := by
  cases hm : mapG l i l[i]!.nu with
  | none => rfl
  | some d =>
    obtain ⟨j, hj, a, k, e, _⟩ := mapG_some hm
    exact absurd e (h.one hi (by omega) (by omega) ha a hk k)
theorem OkG.map_data {l : List Ca} {o : List Int} (h : OkG l o) {j : Nat} (hj : j < l.length) (ha : l[j]!.an = true) (hk : l[j]!.k = 2) {t : Nat} (ht : t < l[j]!.rs.length) {d : List UInt8} {n : Nat} (hn : n ≤ l.length) (hm : mapG l n (l[j]!.fr + t) = some d) : d = l[j]!.rs[t] := by
  obtain ⟨i, hi, a, k, e, rfl⟩ := mapG_some hm
  exact (h.data (by omega) hj a ha k hk ht e).symm
theorem allG_len : ∀ l : List Ca, (allG l).length ≤ l.length
  | [] => by simp [allG]
  | x :: l => by
    have := allG_len l
    rw [allG_cons, List.length_append]
    unfold addsG
    split <;> simp <;> omega
theorem OkG.next_le {l : List Ca} {o : List Int} (h : OkG l o) (p : Nat) : (logAt l o p).next ≤ 2000 := by
  rw [(past_at l o p).next]
  have h1 := allG_len ((rowG l o).take p)
  have h2 : ((rowG l o).take p).length ≤ (rowG l o).length := by rw [List.length_take]; omega
  rw [rowG_len h.ord.1] at h2
  have := h.ord.len
  have := h.right.1
  omega
theorem OkG.put_nu {l : List Ca} {o : List Int} (h : OkG l o) {i : Nat} (hi : i < l.length) (ha : l[i]!.an = true) (hk : l[i]!.k = 1) : 0 ≤ l[i]!.nu ∧ l[i]!.nu ≤ 2000 := by
  obtain ⟨p, hp, _, _, fp⟩ := h.fit hi ha
  have := fits_put fp hk
  have := h.next_le p
  omega
theorem OkG.get_fr {l : List Ca} {o : List Int} (h : OkG l o) {i : Nat} (hi : i < l.length) (ha : l[i]!.an = true) (hk : l[i]!.k = 2) : 0 ≤ l[i]!.fr ∧ l[i]!.fr ≤ 2000 ∧ l[i]!.rs.length ≤ 2000 := by
  obtain ⟨p, hp, _, _, fp⟩ := h.fit hi ha
  obtain ⟨g1, g2, _, _⟩ := fits_get fp hk
  have h2 := h.next_le p
  simp only [hasM, Bool.and_eq_true, decide_eq_true_eq] at g1
  refine ⟨by omega, by omega, ?_⟩
  rw [g2]
  unfold getM
  rw [List.length_take, List.length_drop]
  unfold Mo.next at h2
  omega
end Go.Proofs.Ythbfjpaimnhpgaa
