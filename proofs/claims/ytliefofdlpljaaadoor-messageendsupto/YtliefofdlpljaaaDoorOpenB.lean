/- How arguments read: ints, slices of bytes; what the second form's bound gives. -/
import Derived.Test.YtliefofdlpljaaaDoorRows
import Derived.Test.YtliefofdlpljaaaDoorOpen
import Derived.Test.YtliefofdlpljaaaDoorPut
import Derived.Deep.CondSized
import Derived.JoinedCond
namespace Go.Proofs.YtliefofdlpljaaaDoor
open Go.ChangeShapes Go.WideShapes Go.ChangeAt Go.RowKit
set_option linter.unusedVariables false
set_option linter.unusedSimpArgs false

theorem cells3 : Tryd.prog.cellsOf 3 = 1 := by kernel_rfl
theorem bytes3 : Tryd.prog.bytesOf 3 = 8 := by kernel_rfl
theorem cells22 : Tryd.prog.cellsOf 24 = 1 := by kernel_rfl
theorem bytes22 : Tryd.prog.bytesOf 24 = 24 := by kernel_rfl

/-- A slice of ints that came in. -/
theorem ints_in {H : Type} {enc : TypeId × Value → H} {W : World} {base : Nat} {held : Bool} {fuel : Nat} {v : Value} {x : DataW H × List MemPlace} (h : DataW.trod enc Tryd.prog W base (fun _ => true) held fuel 23 [v] = some x) :
    ∃ (l : List Int), IntsR W v l ∧ ∀ z ∈ l, -9223372036854775808 ≤ z ∧ z ≤ 9223372036854775807 := by
  rcases open_ints Tryd.underlying23 Tryd.underlying3 cells3 h with ⟨hcs, _⟩ | ⟨a, len, cap, zs, hcs, _, hl, hm, hz, _, hcell, hwz⟩
  · have hv : v = .slice none 0 0 := by simpa using hcs
    rw [hv]
    exact ⟨[], IntsR.nil W, by simp⟩
  · have hv : v = .slice (some a) len cap := by simpa using hcs
    have hzl : zs.length = cap := by simpa using hz
    by_cases h0 : len = 0
    · subst h0
      exact ⟨[], .inl ⟨rfl, some a, cap, hv, by simp⟩, by simp⟩
    · obtain ⟨b, off, spot⟩ := a
      have hc0 := hcell 0 (by omega)
      have hspot : spot = none := by simpa [Addr.add] using World.cell?_spot hc0
      subst hspot
      have hadd : ∀ j, ((⟨b, off, none⟩ : Addr).add j) = ⟨b, off + j, none⟩ := fun j => addr_add _ _ _
      have hlen : (zs.take len).length = len := by simp; omega
      refine ⟨zs.take len, .inr ⟨b, off, cap, by rw [hlen]; exact hv, by rw [hlen]; omega, fun j u hj => ?_⟩, fun z hz => ?_⟩
      · rw [List.getElem?_take] at hj
        split at hj
        · rename_i hjl
          have hjz : j < zs.length := by omega
          have hcj := hcell j hjz
          rw [hadd] at hcj
          rw [hcj, List.getD_eq_getElem?_getD, hj]
          rfl
        · cases hj
      · have := hwz z (List.mem_of_mem_take hz)
        simpa [Lit.wf, IntKind.min, IntKind.max, IntKind.signed, IntKind.bits] using this

theorem bulk_pos {H : Type} (d : DataW H) : 1 ≤ Rows.uptoBulk d := by
  cases d with
  | lit l => cases l <;> simp [Rows.uptoBulk]
  | _ => simp [Rows.uptoBulk]
theorem bulk_len {H : Type} (ds : List (DataW H)) : ds.length ≤ Rows.uptoBulkAll ds := by
  induction ds with
  | nil => simp [Rows.uptoBulkAll]
  | cons d ds ih =>
    have := bulk_pos d
    simp [Rows.uptoBulkAll]
    omega
/-- A slice is no longer than its bulk. -/
theorem slice_bulk {H : Type} {enc : TypeId × Value → H} {W : World} {base : Nat} {held : Bool} {fuel t e : Nat} {a : Option Addr} {n cap : Nat} {x : DataW H × List MemPlace} (hu : Tryd.prog.underlying t = some (.slice e)) (h : DataW.trod enc Tryd.prog W base (fun _ => true) held fuel t [.slice a n cap] = some x) : n ≤ Rows.uptoBulk x.1 := by
  rcases DataW.trod_slice hu h with ⟨hcs, _⟩ | ⟨a', len, cap', elems, rest, n, _, hcs, hy, _, _, _, hel, _⟩
  · simp at hcs; simp [hcs.2.1]
  · simp at hcs
    obtain ⟨_, hln, _⟩ := hcs
    rw [hy]
    simp only [Rows.uptoBulk]
    have := bulk_len (elems.map (·.1))
    simp at this
    omega
theorem choose_list {α : Type} (n : Nat) (P : Nat → α → Prop) (h : ∀ i, i < n → ∃ f, P i f) : ∃ fs : List α, fs.length = n ∧ ∀ (i : Nat) f, fs[i]? = some f → P i f := by
  refine ⟨List.ofFn (fun i : Fin n => Classical.choose (h i.val i.isLt)), by simp, fun i f hf => ?_⟩
  rw [List.getElem?_ofFn] at hf
  split at hf
  · rename_i hi
    cases hf
    exact Classical.choose_spec (h i hi)
  · cases hf
theorem flat_bulk {H : Type} (ps : List (Value × List UInt8)) : ∀ (ds : List (DataW H)), ps.length ≤ ds.length → (∀ (i : Nat) p d, ps[i]? = some p → ds[i]? = some d → p.2.length ≤ Rows.uptoBulk d) → (flat ps).length ≤ Rows.uptoBulkAll ds := by
  induction ps with
  | nil => intro ds _ _; simp [flat]
  | cons p ps ih =>
    intro ds hl h
    match ds, hl with
    | d :: ds, hl =>
      have h0 := h 0 p d rfl rfl
      have := ih ds (by simpa using hl) (fun i p d hp hd => h (i + 1) p d (by simpa using hp) (by simpa using hd))
      have e : flat (p :: ps) = p.2 ++ flat ps := by simp [flat]
      rw [e, List.length_append]
      simp only [Rows.uptoBulkAll]
      omega
/-- Slices of bytes that came in. -/
theorem parts_in {H : Type} {enc : TypeId × Value → H} {W : World} {fuel : Nat} {v : Value} {x : DataW H × List MemPlace} (h : DataW.trod enc Tryd.prog W 0 (fun _ => true) true fuel 79 [v] = some x) :
    ∃ ps, Parts W v ps ∧ (flat ps).length ≤ Rows.uptoBulk x.1 := by
  rcases DataW.trod_slice Tryd.underlying79 h with ⟨hcs, _⟩ | ⟨a, len, cap, elems, rest, n, _, hcs, hx, _, hlc, hcm, hel, hel2, _⟩
  · simp at hcs
    exact ⟨[], .inl ⟨rfl, none, 0, hcs, fun _ => rfl⟩, by simp [flat]⟩
  · simp at hcs
    by_cases h0 : len = 0
    · subst h0
      exact ⟨[], .inl ⟨rfl, some a, cap, hcs, by simp⟩, by simp [flat]⟩
    have each : ∀ i, i < len → ∃ p : Value × List UInt8, W.cell? (a.add i) = some p.1 ∧ Byt W p.1 p.2 ∧ ∀ d, (elems.map (·.1))[i]? = some d → p.2.length ≤ Rows.uptoBulk d := fun i hi => by
      have he := hel2 i hi
      rw [cells22] at he
      have hil : i < elems.length := by omega
      rw [List.getElem?_eq_getElem hil] at he
      obtain ⟨cs, hcs2, htr⟩ := Option.bind_eq_some_iff.1 he
      obtain ⟨c0, rfl, hc0⟩ : ∃ c0, cs = [c0] ∧ W.cell? ((a.add (i * 1)).add 0) = some c0 := by
        simp [World.cells?, List.range, List.range.loop, List.mapM_cons, Option.bind_eq_some_iff] at hcs2
        obtain ⟨c0, h1, h2⟩ := hcs2
        exact ⟨c0, h2.symm, by simpa using h1⟩
      obtain ⟨l, hb⟩ := bytes_in htr
      refine ⟨(c0, l), by simpa [Addr.add] using hc0, hb, fun d hd => ?_⟩
      obtain ⟨la, lc, e⟩ := hb.len
      subst e
      have := slice_bulk Tryd.underlying24 htr
      simp [hil] at hd
      rw [← hd]
      exact this
    obtain ⟨p0, hc0, _⟩ := each 0 (by omega)
    obtain ⟨b, off, spot⟩ := a
    have hspot : spot = none := by simpa [Addr.add] using World.cell?_spot hc0
    subst hspot
    have hadd : ∀ o j, ((⟨b, o, none⟩ : Addr).add j) = ⟨b, o + j, none⟩ := fun o j => addr_add _ _ _
    obtain ⟨ps, hl, hps⟩ := choose_list len _ each
    refine ⟨ps, .inr ⟨b, off, cap, by rw [hl]; exact hcs, by omega, fun i p hp => ?_⟩, ?_⟩
    · have := hps i p hp
      rw [hadd] at this
      exact ⟨this.1, this.2.1⟩
    · have := flat_bulk ps (elems.map (·.1)) (by simp; omega) (fun i p d hp hd => (hps i p hp).2.2 d hd)
      rw [hx]
      simp only [Rows.uptoBulk]
      omega

end Go.Proofs.YtliefofdlpljaaaDoor
