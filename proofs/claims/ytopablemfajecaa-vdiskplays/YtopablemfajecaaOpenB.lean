/- Slices of bytes and of numbers that came in. -/
import Derived.Test.YtopablemfajecaaOpen
import Derived.Test.YtopablemfajecaaLawA
namespace Go.Proofs.Ytopablemfajecaa
open Go.ChangeShapes Go.WideShapes Go.ChangeAt Go.RowKit
open Go.ChangeMaps (open_string shut_string)
set_option linter.unusedVariables false
set_option linter.unusedSimpArgs false

theorem below_of_grown {w w' : World} (h : w.grownBy w' none) : Below w.heap.size w w' := ⟨h.os, h.tape, h.output, h.size, fun k hk => h.block k hk (by simp)⟩

/-- A slice of bytes that came in. -/
theorem bytes_in {H : Type} {enc : TypeId × Value → H} {W : World} {base : Nat} {held : Bool} {fuel : Nat} {v : Value} {x : DataW H × List MemPlace} (h : DataW.trod enc Try.prog W base (fun _ => true) held fuel 32 [v] = some x) :
    ∃ (a : Option Addr) (cap : Nat) (l : List UInt8), v = .slice a l.length cap ∧ l.length ≤ cap ∧ SrcB W (.slice a l.length cap) l := by
  rcases open_ints Try.underlying32 Try.underlying5 cells5 h with ⟨hcs, _⟩ | ⟨a, len, cap, zs, hcs, _, hl, hm, hz, _, hcell, hwz⟩
  · have hv : v = .slice none 0 0 := by simpa using hcs
    exact ⟨none, 0, [], hv, Nat.le_refl _, .inl ⟨rfl, rfl⟩⟩
  · have hv : v = .slice (some a) len cap := by simpa using hcs
    have hzl : zs.length = cap := by simpa using hz
    have hb : ∀ n ∈ zs, 0 ≤ n ∧ n ≤ 255 := fun n hn => by
      have := bounds_u8 (hwz n hn)
      omega
    refine ⟨some a, cap, (zs.take len).map (fun n => UInt8.ofNat n.toNat), ?_, ?_, ?_⟩
    · rw [hv]; simp; omega
    · simp; omega
    · refine .inr ⟨a, cap, rfl, fun j u hj => ?_⟩
      simp only [u8s, List.map_map, List.getElem?_map] at hj
      rw [List.getElem?_take] at hj
      split at hj
      · rename_i hjl
        have hjz : j < zs.length := by omega
        rw [List.getElem?_eq_getElem hjz] at hj
        simp at hj
        rw [hcell j hjz, ← hj, List.getD_eq_getElem?_getD, List.getElem?_eq_getElem hjz]
        have hr := hb zs[j] (List.getElem_mem hjz)
        simp
        omega
      · simp at hj

/-- A slice of numbers that came in. -/
theorem ints_in {H : Type} {enc : TypeId × Value → H} {W : World} {base : Nat} {held : Bool} {fuel : Nat} {v : Value} {x : DataW H × List MemPlace} (h : DataW.trod enc Try.prog W base (fun _ => true) held fuel 33 [v] = some x) :
    ∃ (l : List Int), SrcI W v l ∧ ∀ g off cap, 0 < l.length → v = .slice (some ⟨g, off, none⟩) l.length cap → g < W.heap.size := by
  rcases open_ints Try.underlying33 Try.underlying3 cells3 h with ⟨hcs, _⟩ | ⟨a, len, cap, zs, hcs, _, hl, hm, hz, _, hcell, hwz⟩
  · have hv : v = .slice none 0 0 := by simpa using hcs
    exact ⟨[], ⟨fun z hz => by simp at hz, by decide, .inl ⟨⟨none, 0, hv⟩, rfl⟩⟩, fun _ _ _ hp => by simp at hp⟩
  · have hv : v = .slice (some a) len cap := by simpa using hcs
    have hzl : zs.length = cap := by simpa using hz
    have hlen : (zs.take len).length = len := by simp; omega
    have hr : ∀ z ∈ zs.take len, -9223372036854775808 ≤ z ∧ z ≤ 9223372036854775807 := fun z hz => by
      have := bounds_i64 (hwz z (List.mem_of_mem_take hz))
      omega
    by_cases h0 : len = 0
    · subst h0
      exact ⟨[], ⟨fun z hz => by simp at hz, by decide, .inl ⟨⟨some a, cap, hv⟩, rfl⟩⟩, fun _ _ _ hp => by simp at hp⟩
    · obtain ⟨b, off, spot⟩ := a
      have hc0 := hcell 0 (by omega)
      have hspot : spot = none := by simpa [Addr.add] using World.cell?_spot hc0
      subst hspot
      have hadd : ∀ j, ((⟨b, off, none⟩ : Addr).add j) = ⟨b, off + j, none⟩ := fun j => by unfold Addr.add; split <;> simp_all
      refine ⟨zs.take len, ⟨hr, by rw [hlen]; unfold maxLen at hm; omega, .inr ⟨b, off, cap, by rw [hlen]; exact hv, fun j z hj => ?_⟩⟩, fun g o c hp e => ?_⟩
      · rw [List.getElem?_take] at hj
        split at hj
        · have hjz : j < zs.length := (List.getElem?_eq_some_iff.1 hj).1
          have := hcell j hjz
          rw [hadd j] at this
          rw [this, List.getD_eq_getElem?_getD, hj]
          rfl
        · cases hj
      · rw [hv] at e
        have hb : b = g := by
          injection e with e1 _ _
          injection e1 with e2
          injection e2
        rw [← hb]
        exact World.block_lt_of_cell? W _ hc0

end Go.Proofs.Ytopablemfajecaa
