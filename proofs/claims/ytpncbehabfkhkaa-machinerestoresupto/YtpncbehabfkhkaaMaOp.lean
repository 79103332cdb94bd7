/- How arguments read: bytes, ints. -/
import Derived.Test.YtpncbehabfkhkaaKa
import Derived.WalkKit
import Derived.ProofKit
import Derived.OpenShut
import Derived.ShutString
import Derived.ChangeOld
import Derived.Below
import Derived.SizedLaws
namespace Go.Proofs.Ytpncbehabfkhkaa.W
open Go.ChangeShapes Go.WideShapes Go.ChangeAt Go.RowKit
open Go.ChangeMaps (open_string shut_string)
set_option linter.unusedVariables false
set_option linter.unusedSimpArgs false

theorem own : ownKnob Try.prog.godebug = none := by kernel_rfl
theorem laidOut : laidOutB Try.prog = true := by kernel_rfl
theorem cells5 : Try.prog.cellsOf 5 = 1 := by kernel_rfl
theorem bytes5 : Try.prog.bytesOf 5 = 1 := by kernel_rfl
/-- A slice of bytes that came in. -/
theorem bytes_in {H : Type} {enc : TypeId × Value → H} {W : World} {base : Nat} {held : Bool} {fuel : Nat} {v : Value} {x : DataW H × List MemPlace} (h : DataW.trod enc Try.prog W base (fun _ => true) held fuel 22 [v] = some x) :
    ∃ (l : List UInt8), Byt W v l := by
  rcases open_ints Try.underlying22 Try.underlying5 cells5 h with ⟨hcs, _⟩ | ⟨a, len, cap, zs, hcs, _, hl, hm, hz, _, hcell, hwz⟩
  · have hv : v = .slice none 0 0 := by simpa using hcs
    rw [hv]
    exact ⟨[], Byt.nil W⟩
  · have hv : v = .slice (some a) len cap := by simpa using hcs
    have hzl : zs.length = cap := by simpa using hz
    have hb : ∀ n ∈ zs, 0 ≤ n ∧ n ≤ 255 := fun n hn => by
      have := bounds_u8 (hwz n hn)
      omega
    by_cases h0 : len = 0
    · subst h0
      exact ⟨[], .inl ⟨rfl, some a, cap, hv, by simp⟩⟩
    · obtain ⟨b, off, spot⟩ := a
      have hc0 := hcell 0 (by omega)
      have hspot : spot = none := by simpa [Addr.add] using World.cell?_spot hc0
      subst hspot
      have hadd : ∀ j, ((⟨b, off, none⟩ : Addr).add j) = ⟨b, off + j, none⟩ := fun j => by unfold Addr.add; split <;> simp_all
      have hlen : ((zs.take len).map (fun n => UInt8.ofNat n.toNat)).length = len := by simp; omega
      refine ⟨(zs.take len).map (fun n => UInt8.ofNat n.toNat), .inr ⟨b, off, cap, by rw [hlen]; exact hv, by rw [hlen]; omega, fun j u hj => ?_⟩⟩
      simp only [List.getElem?_map, List.getElem?_take] at hj
      split at hj
      · rename_i hjl
        have hjz : j < zs.length := by omega
        rw [List.getElem?_eq_getElem hjz] at hj
        simp at hj
        have hcj := hcell j hjz
        rw [hadd] at hcj
        rw [hcj, ← hj, List.getD_eq_getElem?_getD, List.getElem?_eq_getElem hjz]
        have hr := hb zs[j] (List.getElem_mem hjz)
        simp
        omega
      · simp at hj

/-- .. and how long it is. -/
theorem bytes_len {H : Type} {enc : TypeId × Value → H} {W : World} {base : Nat} {held : Bool} {fuel : Nat} {v : Value} {x : DataW H × List MemPlace} (h : DataW.trod enc Try.prog W base (fun _ => true) held fuel 22 [v] = some x)
    (hw : ∀ n ∈ x.1.weights Try.prog 22, n ≤ reachBytes) {l : List UInt8} (hb : Byt W v l) : l.length + 2 ≤ 140737488355328 := by
  obtain ⟨a0, c0, e0⟩ := hb.len
  rcases DataW.trod_slice Try.underlying22 h with ⟨hcs, _⟩ | ⟨a', len, cap', elems, rest, n, _, hcs, hy, _, _, _, hel, _⟩
  · rw [e0] at hcs; simp at hcs; simp [hcs.2.1]
  · rw [e0] at hcs; simp at hcs
    obtain ⟨_, hln, _⟩ := hcs
    have hmem : (elems.length + rest.length) * Try.prog.bytesOf 5 ∈ x.1.weights Try.prog 22 := by
      rw [hy]
      simp [DataW.weights, Try.underlying22]
    have := hw _ hmem
    rw [bytes5] at this
    unfold reachBytes at this
    omega


end Go.Proofs.Ytpncbehabfkhkaa.W
