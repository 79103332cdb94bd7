/- watch: how ints read that came in. -/
import Derived.Test.YtcijjepleedecaaWaOp
import Derived.Test.YtcijjepleedecaaCfA
import Derived.OpenShut
namespace Go.Proofs.Ytcijjepleedecaa.W
open Go.ChangeShapes Go.WideShapes Go.ChangeAt Go.RowKit Go.Maps
set_option linter.unusedVariables false
set_option linter.unusedSimpArgs false
set_option maxRecDepth 100000
attribute [local go_sem] Oper.semAt_some


theorem bytes3 : Try.prog.bytesOf 3 = 8 := by kernel_rfl
theorem ints_in {H : Type} {enc : TypeId × Value → H} {W : World} {base : Nat} {held : Bool} {fuel : Nat} {v : Value} {x : DataW H × List MemPlace} (h : DataW.trod enc Try.prog W base (fun _ => true) held fuel 43 [v] = some x) :
    ∃ (l : List Int), IntsR W v l ∧ ∀ z ∈ l, (Lit.wf (.int .i64 z) : Prop) := by
  rcases open_ints Try.underlying43 Try.underlying3 cells3 h with ⟨hcs, _⟩ | ⟨a, len, cap, zs, hcs, _, hl, hm, hz, _, hcell, hwz⟩
  · have hv : v = .slice none 0 0 := by simpa using hcs
    rw [hv]
    exact ⟨[], IntsR.nil W, by simp⟩
  · have hv : v = .slice (some a) len cap := by simpa using hcs
    have hzl : zs.length = cap := by simpa using hz
    by_cases h0 : len = 0
    · subst h0
      exact ⟨[], .inl ⟨rfl, some a, cap, hv, by simp⟩, by simp⟩
    · obtain ⟨b, off, spot⟩ := a
      have hc0 := hcell 0 (by omega)
      have hspot : spot = none := by simpa [Addr.add] using World.cell?_spot hc0
      subst hspot
      have hadd : ∀ j, ((⟨b, off, none⟩ : Addr).add j) = ⟨b, off + j, none⟩ := fun j => by unfold Addr.add; split <;> simp_all
      have hlen : (zs.take len).length = len := by simp; omega
      refine ⟨zs.take len, .inr ⟨b, off, cap, by rw [hlen]; exact hv, by rw [hlen]; omega, fun j u hj => ?_⟩, fun z hz => ?_⟩
      · rw [List.getElem?_take] at hj
        split at hj
        · rename_i hjl
          have hjz : j < zs.length := by omega
          have hcj := hcell j hjz
          rw [hadd] at hcj
          rw [hcj, List.getD_eq_getElem?_getD, hj]
          rfl
        · cases hj
      · exact hwz z (List.mem_of_mem_take hz)

theorem nums_in {H : Type} {enc : TypeId × Value → H} {W : World} {base : Nat} {held : Bool} {fuel : Nat} {a : Option Addr} {n cap : Nat} {x : DataW H × List MemPlace} (h : DataW.trod enc Try.prog W base (fun _ => true) held fuel 43 [.slice a n cap] = some x) (hw : ∀ k ∈ x.1.weights Try.prog 43, k ≤ reachBytes) :
    ∃ l : List Int, C.IntsR W (.slice a n cap) l ∧ l.length ≤ 17592186044416 := by
  obtain ⟨l, hl, hz⟩ := ints_in h
  have h1 := slice_reach Try.underlying43 h hw
  rw [bytes3] at h1
  unfold reachBytes at h1
  obtain ⟨a', c', e⟩ := hl.len
  injection e with _ e _
  exact ⟨l, hl, by omega⟩
end Go.Proofs.Ytcijjepleedecaa.W
