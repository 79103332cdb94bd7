/- ReadsOrder: the pure side; Ints. -/
import Derived.Test.YthfdoliojbhcjaaBkMa
import Derived.Test.YthfdoliojbhcjaaBkOp
namespace Go.Proofs.Ythfdoliojbhcjaa
open Go.RowKit Go.Maps
set_option linter.unusedVariables false
set_option linter.unusedSimpArgs false
set_option maxRecDepth 100000

theorem rem_lit (n : Int) (s : Nat) (h1 : 1 ≤ s) (h2 : s ≤ 1000) : wrap64 (n.tmod s + s) = n.tmod s + s ∧ (n.tmod s + s).tmod s = (rst n s : Int) := by
  have hb := tmod_bd n h1 h2
  exact ⟨by unfold wrap64; omega, twice_rem n s h1⟩
theorem ints_same (v u : Value) (l : List Int) (w : World) (h : IntsR w v l) (k : IntsR w u l) (hl : l.length ≤ 17592186044416) : Calls Try.prog 18 #[v, u] w fun e w' => e = .returned (.bool true) ∧ w.grownBy w' none := by
  obtain ⟨a1, c1, rfl⟩ := h.len
  obtain ⟨a2, c2, rfl⟩ := k.len
  have HH := hid_mk (And.intro h k)
  clear h k
  go_enter Try.func18, Try.ntmps18
  go_wp2
  go_loopg [5] l.length (fun g iv W => ∃ k m : Nat, k ≤ l.length ∧ g = l.length - k ∧ iv = .int .i64 k ∧ W = w.drewN m)
  case atStart => exact ⟨0, 0, Nat.zero_le _, rfl, rfl, rfl⟩
  case round =>
    obtain ⟨k, m, hk, hgk, rfl, rfl⟩ := hrel
    by_cases hlt : k < l.length
    · have hlt' : (k : Int) < l.length := by omega
      obtain ⟨b, off, cap, e, hc⟩ := HH.out.1.get k hlt
      injection e with e1 e2 e3
      subst e1
      clear e2 e3
      obtain ⟨b2, off2, cap2, e, hc2⟩ := HH.out.2.get k hlt
      injection e with e1 e2 e3
      subst e1
      clear e2 e3
      generalize l[k] = x at *
      go_wp2
      go_quiet (fail)
      go_wp2
      go_roundg (l.length - (k + 1))
      case measure => omega
      case rel => exact ⟨k + 1, _, by omega, rfl, by go_num, by first | rfl | (rw [World.drewN_drewN])⟩
    · have hlt' : ¬ (k : Int) < l.length := by omega
      go_wp2
      go_ret
      exact ⟨rfl, grown_drewN _ _ none⟩
/-- Reads in the order in which they were asked. -/
structure Asc (l : List Rd) (n : Nat) : Prop where
  up : (ids l).Pairwise (· < ·)
  below : ∀ r ∈ l, 0 ≤ r.id ∧ r.id < n
  few : l.length ≤ n
theorem Asc.more {l : List Rd} {n : Nat} (h : Asc l n) : Asc l (n + 1) := ⟨h.up, fun r hr => by have := h.below r hr; omega, by have := h.few; omega⟩
theorem Asc.add {l : List Rd} {n : Nat} (h : Asc l n) (ix rd : Int) : Asc (l ++ [⟨n, ix, rd⟩]) (n + 1) := by
  refine ⟨?_, fun r hr => ?_, by have := h.few; simp; omega⟩
  · unfold ids
    rw [List.map_append]
    refine List.pairwise_append.2 ⟨h.up, by simp, fun a ha b hb => ?_⟩
    simp at hb
    subst hb
    obtain ⟨r, hr, rfl⟩ := List.mem_map.1 ha
    exact (h.below r hr).2
  · rcases List.mem_append.1 hr with hr | hr
    · have := h.below r hr; omega
    · rw [List.mem_singleton.1 hr]
      simp
      omega
theorem Asc.filt {l : List Rd} {n : Nat} (h : Asc l n) (p : Rd → Bool) : Asc (l.filter p) n :=
  ⟨h.up.sublist (List.filter_sublist.map Rd.id), fun r hr => h.below r (List.mem_filter.1 hr).1, Nat.le_trans (List.length_filter_le _ _) h.few⟩
theorem Asc.at {l : List Rd} {n : Nat} (h : Asc l n) {k : Nat} (hk : k + 1 < l.length) : l[k].id < l[k + 1].id := by
  have := (List.pairwise_iff_getElem.1 h.up) k (k + 1) (by simp [ids]; omega) (by simp [ids]; omega) (by omega)
  simpa [ids] using this
theorem Asc.new {l : List Rd} {n : Nat} (h : Asc l n) (g : Bk) (hg : g.L = l) (hn : n < 100) (ix rd : Int) (h0 : 0 ≤ ix) (h1 : 0 ≤ rd) : askE g n ix rd = 0 := by
  unfold askE
  rw [if_neg (by omega), hg, if_neg, if_neg]
  · have := h.few; omega
  · intro hany
    obtain ⟨r, hr, he⟩ := List.any_eq_true.1 hany
    have := h.below r hr
    have : r.id = n := by simpa using he
    omega
end Go.Proofs.Ythfdoliojbhcjaa
