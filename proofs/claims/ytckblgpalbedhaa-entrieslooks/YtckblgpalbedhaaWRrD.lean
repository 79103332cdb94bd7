/- A reader: the document's Bytes. -/
import Derived.Test.YtckblgpalbedhaaWRrC
import Derived.Test.YtckblgpalbedhaaWMix
namespace Go.Proofs.Ytckblgpalbedhaa.W
open Go.RowKit Go.Maps
set_option linter.unusedVariables false
set_option linter.unusedSimpArgs false

/-- Two readings of one slice are one. -/
theorem byt_same {w w' : World} {v : Value} {l l' : List UInt8} (h : Byt w v l) (h' : Byt w' v l') (hc : ∀ b off, (∃ u : UInt8, w.cell? ⟨b, off, none⟩ = some (.int .u8 u.toNat)) → ∀ x, w'.cell? ⟨b, off, none⟩ = some x → w.cell? ⟨b, off, none⟩ = some x) : l = l' := by
  obtain ⟨a1, c1, e1⟩ := h.len
  obtain ⟨a2, c2, e2⟩ := h'.len
  rw [e1] at e2
  injection e2 with _ e2 _
  by_cases h0 : 0 < l.length
  · obtain ⟨b, off, cap, e, _, hcl⟩ := h.at h0
    obtain ⟨b', off', cap', e', _, hcl'⟩ := h'.at (by omega)
    rw [e] at e'
    injection e' with e' _ _
    injection e' with e'
    injection e' with e3 e4 _
    subst e3 e4
    apply List.ext_getElem? 
    intro j
    by_cases hj : j < l.length
    · have hj' : j < l'.length := by omega
      have x1 := hcl j l[j] (by simp)
      have x2 := hcl' j l'[j] (by simp)
      have := hc b (off + j) ⟨_, x1⟩ _ x2
      rw [x1] at this
      injection this with this
      injection this with _ this
      rw [List.getElem?_eq_getElem hj, List.getElem?_eq_getElem hj']
      congr 1
      exact UInt8.toNat_inj.1 (by omega)
    · rw [List.getElem?_eq_none (by omega), List.getElem?_eq_none (by omega)]
  · have : l = [] := List.length_eq_zero_iff.1 (by omega)
    have h2 : l' = [] := List.length_eq_zero_iff.1 (by omega)
    rw [this, h2]

/-- Number, told by what lies in the reader. -/
structure RX (w : World) (M N b : Nat) (bv : Value) (B : List UInt8) (k e : Nat) : Prop where
  lo : M ≤ b
  hi : b < N
  blk : w.heap[b]? = some (.cells #[bv, .int .i64 k, .int .i64 e] 93 (0, 0))
  byt : BytIn w M N bv B
  le : k ≤ B.length
  small : B.length ≤ 140737488355328
theorem Rr.open {w : World} {M N b : Nat} {s : St} (h : Rr w M N b s) : ∃ bv B k, RX w M N b bv B k s.e ∧ s.rest = B.drop k := by
  obtain ⟨h1, h2, bv, B, k, hb, hy, hk, hr, hB⟩ := h
  exact ⟨bv, B, k, ⟨h1, h2, hb, hy, hk, hB⟩, hr⟩
theorem RX.shut {w : World} {M N b k e : Nat} {bv : Value} {B : List UInt8} (h : RX w M N b bv B k e) : Rr w M N b ⟨B.drop k, e⟩ := ⟨h.lo, h.hi, bv, B, k, h.blk, h.byt, h.le, rfl, h.small⟩
theorem rx_ne {w : World} {M N b k e : Nat} {bv : Value} {B : List UInt8} (h : RX w M N b bv B k e) : ∀ r, some r = some b → ∀ off, (∃ u : UInt8, w.cell? ⟨r, off, none⟩ = some (.int .u8 u.toNat)) → False := by
  intro r hr off ⟨u, hu⟩
  injection hr with hr
  subst hr
  obtain ⟨a, c, rfl⟩ := h.byt.byt.len
  rw [cell_of_row _ _ _ _ _ _ h.blk] at hu
  match off, hu with
  | 0, hu => simp at hu
  | 1, hu => simp at hu
  | 2, hu => simp at hu
  | n + 3, hu => simp at hu
theorem rnum_x (M N b k : Nat) (bv : Value) (B : List UInt8) (e : Nat) (w : World) (h : RX w M N b bv B k e) :
    Calls Try.prog 60 #[.pointer (some ⟨b, 0, none⟩)] w fun en w' => en = .returned (.int .i64 (readN ⟨B.drop k, e⟩).1) ∧ w.grownBy w' (some b) ∧ ∃ k', k' = k + (B.drop k).length - (readN ⟨B.drop k, e⟩).2.rest.length ∧ B.drop k' = (readN ⟨B.drop k, e⟩).2.rest ∧ RX w' M N b bv B k' (readN ⟨B.drop k, e⟩).2.e := by
  refine (rnum_any M N b _ w h.shut).mono ?_
  rintro en w' ⟨rfl, hr, hg, hc⟩
  refine ⟨rfl, hg, ?_⟩
  obtain ⟨bv', B', k', hx, hrest⟩ := hr.open
  have hbv : bv' = bv := by
    have h1 := (rr_cells hx.blk).1
    have h2 := (rr_cells h.blk).1
    rw [h1, h2] at hc
    injection hc
  subst hbv
  have hB : B = B' := byt_same h.byt.byt hx.byt.byt (fun r off hu x hx' => by
    by_cases hrb : some r = some b
    · exact (rx_ne h r hrb off hu).elim
    · obtain ⟨u, hu⟩ := hu
      have := hg.cell hu hrb
      rw [this] at hx'
      rw [hu]; exact hx')
  subst hB
  have hl := congrArg List.length hrest
  rw [List.length_drop] at hl
  have hle := readN_rest ⟨B.drop k, e⟩
  simp only [List.length_drop] at hle
  refine ⟨k', ?_, hrest.symm, hx⟩
  have := hx.le
  have := h.le
  rw [List.length_drop]
  omega

end Go.Proofs.Ytckblgpalbedhaa.W
