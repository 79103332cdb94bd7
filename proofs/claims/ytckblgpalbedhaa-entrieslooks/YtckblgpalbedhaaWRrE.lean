/- A reader: the document's Bytes. -/
import Derived.Test.YtckblgpalbedhaaWRrD
import Derived.Test.YtckblgpalbedhaaWMixB
import Derived.Deep.DeepCutAuto
namespace Go.Proofs.Ytckblgpalbedhaa.W
open Go.RowKit Go.Maps
set_option linter.unusedVariables false
set_option linter.unusedSimpArgs false

theorem readB_of (s : St) : readB s = if (readN s).2.e ≠ 0 then ([], ⟨s.rest, (readN s).2.e⟩) else if 1048576 < (readN s).1 then ([], ⟨s.rest, 21⟩)
    else if (readN s).2.rest.length < (readN s).1 then ([], ⟨s.rest, 20⟩) else ((readN s).2.rest.take (readN s).1, ⟨(readN s).2.rest.drop (readN s).1, 0⟩) := by
  by_cases he : s.e ≠ 0
  · rw [readB_bad he, readN_bad he, if_pos he]
  · have he0 : s.e = 0 := by omega
    rw [readB_ok he0, readN_ok he0]
    simp only
    unfold bytR
    have hs := numR_size s.rest
    by_cases h1 : (numR s.rest).2.2 ≠ 0
    · rw [if_pos h1, if_pos h1]; rfl
    · rw [if_neg h1, if_neg h1]
      by_cases h2 : 1048576 < (numR s.rest).1
      · rw [if_pos h2, if_pos h2]; rfl
      · rw [if_neg h2, if_neg h2, List.length_drop]
        by_cases h3 : s.rest.length < (numR s.rest).2.1 + (numR s.rest).1
        · rw [if_pos h3, if_pos (by omega)]; rfl
        · rw [if_neg h3, if_neg (by omega)]
          simp only [List.drop_drop]

def BytPost (M N b : Nat) (s : St) (w : World) (e : Ending) (w' : World) : Prop := ∃ v', e = .returned v' ∧ Own w' w.heap.size v' (readB s).1 ∧ Rr w' M N b (readB s).2 ∧ w.grownBy w' (some b)

theorem wrap_id_z (z : Int) (h1 : -9223372036854775808 ≤ z) (h2 : z ≤ 9223372036854775807) : IntKind.i64.wrap z = z := by rw [IntKind.wrap_i64]; omega

/-- What a store into the reader leaves, told by what lies in it. -/
theorem RX.store {w W : World} {M N b k e : Nat} {bv : Value} {B : List UInt8} (h : RX w M N b bv B k e) (hg : w.grownBy W (some b)) (k' e' : Nat) (hW : W.heap[b]? = some (.cells #[bv, .int .i64 k', .int .i64 e'] 93 (0, 0))) (hk : k' ≤ B.length) : RX W M N b bv B k' e' := by
  have := rr_store h.lo h.hi h.blk h.byt h.small hg k' e' hW hk
  refine ⟨h.lo, h.hi, hW, ⟨?_, h.byt.inb⟩, hk, h.small⟩
  obtain ⟨bv2, B2, k2, hx, _⟩ := this.open
  have hbv : bv2 = bv := by
    have h1 := (rr_cells hx.blk).1
    have h2 := (rr_cells hW).1
    rw [h1] at h2; injection h2
  subst hbv
  have hB : B = B2 := byt_same h.byt.byt hx.byt.byt (fun r off hu x hx' => by
    by_cases hrb : some r = some b
    · exact (rx_ne h r hrb off hu).elim
    · obtain ⟨u, hu⟩ := hu
      have := hg.cell hu hrb
      rw [this] at hx'
      rw [hu]; exact hx')
  rw [hB]; exact hx.byt.byt

/-- The ways that fail. -/
theorem byt_fail {w W : World} {M N b k k1 e1 : Nat} {bv : Value} {B : List UInt8} {s : St} (hr : s.rest = B.drop k) (hk : k ≤ B.length) (h : RX W M N b bv B k1 e1) (hg : w.grownBy W (some b)) (er : Nat) (hb : readB s = ([], ⟨s.rest, er⟩)) (W' : World) (hg' : W.grownBy W' (some b)) (hW : W'.heap[b]? = some (.cells #[bv, .int .i64 k, .int .i64 er] 93 (0, 0))) :
    BytPost M N b s w (.returned (.slice none 0 0)) W' := by
  refine ⟨_, rfl, ?_, ?_, grown_trans hg hg'⟩
  · rw [hb]; exact World.ownsRow_nil _ _ _ _
  · rw [hb, hr]; exact (h.store hg' k er hW hk).shut

end Go.Proofs.Ytckblgpalbedhaa.W
