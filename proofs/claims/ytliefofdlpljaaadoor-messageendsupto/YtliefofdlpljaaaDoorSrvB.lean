/- Lists of servers, put and got: the program's and the document's; Ints. -/
import Derived.Test.YtliefofdlpljaaaDoorSrv
namespace Go.Proofs.YtliefofdlpljaaaDoor
open Go.RowKit Go.Maps
set_option linter.unusedVariables false
set_option linter.unusedSimpArgs false

set_option maxHeartbeats 1000000 in
theorem srvBytes_in (b off cap : Nat) (l : List Int) (w : World) (hc : ∀ (j : Nat) x, l[j]? = some x → w.cell? ⟨b, off + j, none⟩ = some (.int .i64 x)) (hr : rightS l = true) :
    Calls Tryd.prog 29 #[.slice (some ⟨b, off, none⟩) l.length cap] w fun e w' => ∃ v', e = .returned v' ∧ Own w' w.heap.size v' (srvB l) ∧ w.grownBy w' none := by
  have HC := hid_mk hc
  have HM := hid_mk (rightS_mem hr)
  have h7 : l.length ≤ 7 := (rightS_mem hr).2.1
  clear hc hr
  go_enter Tryd.func29, Tryd.ntmps29
  go_wp2_with fail
  refine (rnumber_any l.length w (by omega)).mono ?_
  rintro e w1 ⟨v1, rfl, ho1, hg1⟩
  obtain ⟨a1, c1, rfl⟩ := ho1.len
  have hb7 := numB_le (n := l.length) (by omega)
  have H1 := hid_mk (And.intro ho1 hg1)
  clear ho1 hg1
  generalize hn1 : (numB l.length).length = n1 at *
  have HN1 := hid_mk hn1
  clear hn1
  go_wp2_with fail
  go_loopg [3, 4] l.length (fun g bv iv W => ∃ (i n : Nat) (a : Option Addr) (c : Nat), i ≤ l.length ∧ g = l.length - i ∧ iv = .int .i64 i ∧ bv = .slice a n c ∧ n ≤ 7 + 7 * i ∧ Hid (Own W w.heap.size bv (numB l.length ++ numsB ((l.take i).map Int.toNat)) ∧ w.grownBy W none ∧ n = (numB l.length ++ numsB ((l.take i).map Int.toNat)).length))
  case atStart => exact ⟨0, n1, a1, c1, Nat.zero_le _, rfl, rfl, rfl, by omega, hid_mk ⟨by simpa [numsB] using H1.out.1, H1.out.2, by rw [← HN1.out]; simp [numsB]⟩⟩
  case round =>
    obtain ⟨i, n, a, c, hi, hgk, rfl, rfl, hn, H⟩ := hrel
    by_cases hlt : i < l.length
    · have hcell := H.out.2.1.cell (HC.out i l[i] (by simp [hlt])) (by simp)
      have hx := HM.out.2.2 l[i] (by simp)
      have HT := hid_mk (show numB l.length ++ numsB ((l.take (i + 1)).map Int.toNat) = (numB l.length ++ numsB ((l.take i).map Int.toNat)) ++ numB l[i].toNat by
        rw [List.take_succ_eq_append_getElem hlt, List.map_append, numsB_append]; simp [numsB])
      have hiI : (i : Int) < (l.length : Int) := by omega
      generalize l[i] = x at *
      obtain ⟨y, rfl⟩ : ∃ y : Nat, x = y := ⟨x.toNat, by omega⟩
      rw [Int.toNat_natCast] at HT
      have hy7 := numB_le (n := y) (by omega)
      go_wp2_with fail
      refine (rnumber_any y wr (by omega)).mono ?_
      rintro e w2 ⟨v2, rfl, ho2, hg2⟩
      obtain ⟨a2, c2, rfl⟩ := ho2.len
      have H2 := hid_mk (And.intro ho2 hg2)
      clear ho2 hg2
      generalize hn2 : (numB y).length = n2 at *
      have HN2 := hid_mk hn2
      clear hn2
      go_wp2_with (at_builtin; refine wpList_append_new w _ rfl (.tmp 14) (.tmp 19) rfl (grown_trans H.out.2.1 H2.out.2) (.slice a n c) _ rfl (H.out.1.kept H2.out.2 (.inl rfl)) (numB y) _ rfl H2.out.1.byt (by rw [← H.out.2.2, HN2.out]; omega) ?_; intro a3 c3 w3 P3; rw [← H.out.2.2, HN2.out] at P3 ⊢)
      go_roundg (l.length - (i + 1))
      case measure => omega
      case rel => exact ⟨i + 1, n + n2, a3, c3, by omega, rfl, by go_num, rfl, by omega, hid_mk ⟨by rw [HT.out]; exact P3.out.1, P3.out.2.1, by rw [HT.out, List.length_append, ← H.out.2.2, HN2.out]⟩⟩
    · have hil : i = l.length := by omega
      subst hil
      go_wp2_with fail
      go_ret
      have := H.out
      rw [List.take_length] at this
      exact ⟨_, rfl, this.1, this.2.1⟩

end Go.Proofs.YtliefofdlpljaaaDoor
