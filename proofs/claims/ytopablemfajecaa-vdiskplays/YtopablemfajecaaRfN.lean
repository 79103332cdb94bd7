/- The document's disk: pick. -/
import Derived.Test.YtopablemfajecaaRfL
namespace Go.Proofs.Ytopablemfajecaa
open Go.RowKit Go.Maps Go.WideMaps Go.WideElems
set_option linter.unusedVariables false
set_option linter.unusedSimpArgs false
set_option maxRecDepth 100000

theorem thrice_mod (c n : Int) (hn : 0 ≤ n) (hn' : n ≤ 2000000000000) : (c.tmod (n + 1) + n + 1) % (n + 1) = c % (n + 1) ∧ -(n + 1) ≤ c.tmod (n + 1) ∧ c.tmod (n + 1) < n + 1 := by
  obtain ⟨q, hq⟩ : ∃ q, q = n + 1 := ⟨_, rfl⟩
  rw [← hq, show c.tmod q + n + 1 = c.tmod q + q by omega]
  have he := emod_of c q (by omega)
  have h0 := Int.emod_nonneg c (b := q) (by omega)
  have h1 := Int.emod_lt_of_pos c (b := q) (by omega)
  have hb : -q ≤ c.tmod q ∧ c.tmod q < q := by
    by_cases hc : c.tmod q < 0
    · rw [if_pos hc] at he; omega
    · rw [if_neg hc] at he; omega
  refine ⟨?_, hb⟩
  by_cases hc : c.tmod q < 0
  · rw [if_pos hc] at he
    rw [he]
    exact Int.emod_eq_of_lt (by omega) (by omega)
  · rw [if_neg hc] at he
    rw [Int.add_emod_right, he]
    exact Int.emod_eq_of_lt (by omega) (by omega)
set_option maxHeartbeats 2000000 in
theorem rpick_any (v : Value) (cs : List Int) (i n : Nat) (w : World) (hs : SrcI w v cs) (hi : i ≤ 2000000000000) (hn : n ≤ 2000000000000) : Calls Try.prog 62 #[v, .int .i64 i, .int .i64 n] w fun e w' => e = .returned (.int .i64 (pick cs i n)) ∧ w' = w := by
  obtain ⟨hrange, hlen, hv⟩ := hs
  by_cases hlt : i < cs.length
  · rcases hv with ⟨_, rfl⟩ | ⟨g, off, cap, rfl, hcell⟩
    · simp at hlt
    · obtain ⟨z, hz⟩ : ∃ z, cs[i]? = some z := ⟨_, List.getElem?_eq_getElem hlt⟩
      have c0 := hcell i z hz
      obtain ⟨hz1, hz2⟩ := hrange z (List.mem_of_getElem? hz)
      obtain ⟨t1, t2, t3⟩ := thrice_mod z n (by omega) (by omega)
      have HP : Hid ((pick cs i n : Int) = z % ((n : Int) + 1)) := by
        have h0 := Int.emod_nonneg z (b := (n : Int) + 1) (by omega)
        have : (pick cs i n : Int) = z % ((n : Int) + 1) := by
          simp only [pick, hz]
          omega
        exact hid_mk this
      have HT := hid_mk t1
      have hlI : ¬ (cs.length : Int) ≤ (i : Int) := by omega
      have hlI' : (i : Int) < (cs.length : Int) := by omega
      have hn0 : ((n : Int) + 1 == 0) = false := by simp; omega
      have hcl : cs.length ≤ 9223372036854775807 := hlen
      clear hcell hrange hz t1 hlen
      go_enter Try.func62, Try.ntmps62
      go_wp2_with fail
      go_ret
      rw [HT.out, ← HP.out]
      exact ⟨rfl, rfl⟩
  · have HP := hid_mk (show pick cs i n = 0 by simp [pick, List.getElem?_eq_none (show cs.length ≤ i by omega)])
    have hlI : (cs.length : Int) ≤ (i : Int) := by omega
    obtain ⟨a, c, rfl⟩ : ∃ a c, v = .slice a cs.length c := by
      rcases hv with ⟨⟨a, c, rfl⟩, rfl⟩ | ⟨g, off, cap, rfl, _⟩
      · exact ⟨a, c, rfl⟩
      · exact ⟨_, _, rfl⟩
    clear hv hrange
    go_enter Try.func62, Try.ntmps62
    go_wp2_with fail
    go_ret
    rw [HP.out]
    exact ⟨rfl, rfl⟩

end Go.Proofs.Ytopablemfajecaa
