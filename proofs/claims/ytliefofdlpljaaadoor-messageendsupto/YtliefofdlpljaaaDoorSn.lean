/- Same and Ints where they answer no. -/
import Derived.Test.YtliefofdlpljaaaDoorEnt
import Derived.Deep.LoopGhost
namespace Go.Proofs.YtliefofdlpljaaaDoor
open Go.RowKit Go.Maps
set_option linter.unusedVariables false
set_option linter.unusedSimpArgs false

theorem bytes_ne {a b : List UInt8} (h : a ≠ b) : ((⟨a.toArray⟩ : ByteArray).toList == (⟨b.toArray⟩ : ByteArray).toList) = false := by
  rw [ByteArray.toList_eq, ByteArray.toList_eq]
  simpa using h

set_option maxHeartbeats 1000000 in
theorem same_no (x y : Ent) (dv dv' : Value) (w : World) (h : Byt w dv x.data) (h' : Byt w dv' y.data) (hne : x ≠ y) :
    Calls Tryd.prog 31 #[entV x dv, entV y dv'] w fun e w' => e = .returned (.bool false) ∧ w.grownBy w' none := by
  obtain ⟨av, cv, rfl⟩ := h.len
  obtain ⟨av', cv', rfl⟩ := h'.len
  have G : ∀ o o', w.grownBy ((w.alloc o).alloc o') none := fun o o' => grown_trans (World.grownBy_alloc _ _ _) (World.grownBy_alloc _ _ _)
  have t1 := fun o o' => (h.kept (G o o')).text
  have t2 := fun o o' => (h'.kept (G o o')).text
  have HG := hid_mk G
  have HNE : Hid (x.term ≠ y.term ∨ x.index ≠ y.index ∨ x.kind ≠ y.kind ∨ x.data ≠ y.data) := hid_mk (by
    by_cases h1 : x.term = y.term
    · by_cases h2 : x.index = y.index
      · by_cases h3 : x.kind = y.kind
        · by_cases h4 : x.data = y.data
          · exact absurd (by obtain ⟨_, _, _, _⟩ := x; obtain ⟨_, _, _, _⟩ := y; simp_all) hne
          · exact .inr (.inr (.inr h4))
        · exact .inr (.inr (.inl h3))
      · exact .inr (.inl h2)
    · exact .inl h1)
  have HD := hid_mk (fun (e : x.data ≠ y.data) => bytes_ne e)
  clear h h' G hne
  unfold entV
  generalize x.data.length = n at *
  generalize y.data.length = n' at *
  generalize (⟨x.data.toArray⟩ : ByteArray) = s1 at *
  generalize (⟨y.data.toArray⟩ : ByteArray) = s2 at *
  have HD' := hid_mk (show x.term ≠ y.term ∨ x.index ≠ y.index ∨ x.kind ≠ y.kind ∨ (s1.toList == s2.toList) = false from HNE.out.imp id (Or.imp id (Or.imp id HD.out)))
  clear HNE HD
  generalize x.term = a0 at *
  generalize y.term = b0 at *
  generalize x.index = a1 at *
  generalize y.index = b1 at *
  generalize x.kind = a2 at *
  generalize y.kind = b2 at *
  by_cases e0 : a0 = b0
  · subst e0
    by_cases e1 : a1 = b1
    · subst e1
      by_cases e2 : a2 = b2
      · subst e2
        have e3 : (s1.toList == s2.toList) = false := by
          rcases HD'.out with h | h | h | h
          · exact absurd rfl h
          · exact absurd rfl h
          · exact absurd rfl h
          · exact h
        clear HD'
        go_enter Tryd.func31, Tryd.ntmps31
        go_wp2
        go_ret
        exact ⟨by first | rfl | (rw [← e3]; rfl), HG.out _ _⟩
      · clear HD'
        go_enter Tryd.func31, Tryd.ntmps31
        go_wp2
        go_ret
        exact ⟨rfl, HG.out _ _⟩
    · clear HD'
      go_enter Tryd.func31, Tryd.ntmps31
      go_wp2
      go_ret
      exact ⟨rfl, HG.out _ _⟩
  · clear HD'
    go_enter Tryd.func31, Tryd.ntmps31
    go_wp2
    go_ret
    exact ⟨rfl, HG.out _ _⟩

theorem first_ne : ∀ (l l' : List Int), l.length = l'.length → l ≠ l' → ∃ k, ∃ (h : k < l.length) (h' : k < l'.length), l[k] ≠ l'[k] ∧ ∀ i (hi : i < k), l[i]'(by omega) = l'[i]'(by omega)
  | [], [], _, h => absurd rfl h
  | a :: l, b :: l', hl, h => by
    by_cases e : a = b
    · subst e
      obtain ⟨k, h1, h2, h3, h4⟩ := first_ne l l' (by simpa using hl) (fun e => h (by rw [e]))
      refine ⟨k + 1, by simpa using h1, by simpa using h2, by simpa using h3, fun i hi => ?_⟩
      cases i with
      | zero => rfl
      | succ i => simpa using h4 i (by omega)
    · exact ⟨0, by simp, by simp, by simpa using e, fun i hi => absurd hi (by omega)⟩

set_option maxHeartbeats 1000000 in
theorem ints_no (v v' : Value) (l l' : List Int) (w : World) (h : IntsR w v l) (h' : IntsR w v' l') (hl : l.length ≤ 140737488355328) (hl' : l'.length ≤ 140737488355328) (hne : l ≠ l') : Calls Tryd.prog 30 #[v, v'] w fun e w' => e = .returned (.bool false) ∧ ∃ m, w' = w.drewN m := by
  by_cases h0 : l.length = l'.length
  · obtain ⟨k, hk, hk', hd, hs⟩ := first_ne l l' h0 hne
    obtain ⟨b, off, cap, rfl, _, hc⟩ := h.at (by omega)
    obtain ⟨b', off', cap', rfl, _, hc'⟩ := h'.at (by omega)
    have HC := hid_mk (And.intro hc hc')
    have HS := hid_mk (And.intro hd hs)
    clear hc hc' h h' hd hs
    rw [← h0]
    have H0 := hid_mk h0
    clear h0
    go_enter Tryd.func30, Tryd.ntmps30
    go_wp2
    go_loopg [5] k (fun g iv W => ∃ i : Nat, i ≤ k ∧ g = k - i ∧ iv = .int .i64 i ∧ ∃ m, W = w.drewN m)
    case atStart => exact ⟨0, Nat.zero_le _, rfl, rfl, 0, rfl⟩
    case round =>
      obtain ⟨i, hi, hgk, rfl, m, rfl⟩ := hrel
      have hil : i < l.length := by omega
      have hil' : i < l'.length := by omega
      have x1 := HC.out.1 i l[i] (by simp [hil])
      have x2 := HC.out.2 i l'[i] (by simp [hil'])
      have hiI : (i : Int) < (l.length : Int) := by omega
      have hiI0 : (0 : Int) ≤ (i : Int) := by omega
      by_cases hlt : i < k
      · rw [← HS.out.2 i hlt] at x2
        generalize l[i] = x at *
        go_wp2
        go_quiet (fail)
        go_wp2
        go_roundg (k - (i + 1))
        case measure => omega
        case rel => exact ⟨i + 1, by omega, rfl, by go_num, _, by first | rfl | (rw [World.drewN_drewN])⟩
      · have hik : i = k := by omega
        subst hik
        have hd := HS.out.1
        clear HS
        generalize l[i] = x at *
        generalize l'[i] = y at *
        go_wp2
        go_quiet (fail)
        go_wp2
        go_ret
        exact ⟨rfl, _, by first | rfl | (rw [World.drewN_drewN])⟩
  · obtain ⟨a, c, rfl⟩ := h.len
    obtain ⟨a', c', rfl⟩ := h'.len
    clear h h' hne
    generalize l.length = n at *
    generalize l'.length = n' at *
    have h0I : ¬ (n : Int) = n' := by omega
    go_enter Tryd.func30, Tryd.ntmps30
    go_wp2
    go_ret
    exact ⟨rfl, 0, rfl⟩

end Go.Proofs.YtliefofdlpljaaaDoor
