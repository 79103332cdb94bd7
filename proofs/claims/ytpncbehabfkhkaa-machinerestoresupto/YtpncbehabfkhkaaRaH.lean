/- lists; Lent, Stays. -/
import Derived.Test.YtpncbehabfkhkaaRaG
namespace Go.Proofs.Ytpncbehabfkhkaa.W
open Go.RowKit Go.Maps Go.WideMaps Go.WideElems
set_option linter.unusedVariables false
set_option linter.unusedSimpArgs false
set_option maxRecDepth 100000

theorem lists_same (a a' : Option Addr) (c c' n : Nat) (l l' : List (Value × List UInt8)) (w : World) (h : Parts w (.slice a n c) l) (h' : Parts w (.slice a' n c') l') (hn : n = l.length) (hn' : n = l'.length) (hs : l.map Prod.snd = l'.map Prod.snd) (hl : n ≤ 1000000000000) : Calls Try.prog 42 #[.slice a n c, .slice a' n c'] w fun e w' => e = .returned (.bool true) ∧ ∃ m, w' = w.drewN m := by
  have HP := hid_mk (And.intro h (And.intro h' (And.intro hn (And.intro hn' hs))))
  clear h h' hn hn' hs
  go_enter Try.func42, Try.ntmps42
  go_wp2_with fail
  go_loopg [5] n (fun g iv W => ∃ i : Nat, i ≤ n ∧ g = n - i ∧ iv = .int .i64 i ∧ ∃ m, W = w.drewN m)
  case atStart => exact ⟨0, Nat.zero_le _, rfl, rfl, 0, rfl⟩
  case round =>
    obtain ⟨i, hi, hgk, rfl, m, rfl⟩ := hrel
    by_cases hlt : i < n
    · obtain ⟨b, off, pa, pc, rfl, -, -, -, x1, y1⟩ := HP.out.1.get i (by have := HP.out.2.2.1; omega)
      obtain ⟨b', off', pa', pc', rfl, -, -, -, x2, y2⟩ := HP.out.2.1.get i (by have := HP.out.2.2.2.1; omega)
      have he : l'[i]'(by have := HP.out.2.2.2.1; omega) = l'[i]'(by have := HP.out.2.2.2.1; omega) := rfl
      have hxy : (l[i]'(by have := HP.out.2.2.1; omega)).2 = (l'[i]'(by have := HP.out.2.2.2.1; omega)).2 := by
        have h1 := congrArg (fun z => z[i]?) HP.out.2.2.2.2
        have l1 : i < l.length := by have := HP.out.2.2.1; omega
        have l2 : i < l'.length := by have := HP.out.2.2.2.1; omega
        simp [l1, l2] at h1
        exact h1
      rw [← hxy] at x2 y2
      generalize (l[i]'(by have := HP.out.2.2.1; omega)).2 = x at *
      have t1 := fun k => byt_drewN y1 k
      have t2 := fun k => byt_drewN y2 k
      have hiI : (i : Int) < (n : Int) := by omega
      have hiI0 : (0 : Int) ≤ (i : Int) := by omega
      clear y1 y2 he hxy
      go_wp2_with fail
      go_quiet (fail)
      go_wp2_with fail
      go_roundg (n - (i + 1))
      case measure => omega
      case rel => exact ⟨i + 1, by omega, rfl, by go_num, _, by first | rfl | (rw [World.drewN_drewN])⟩
    · have hil : i = n := by omega
      subst hil
      have hnl : ¬ ((i : Int) < (i : Int)) := by omega
      go_wp2_with fail
      go_ret
      exact ⟨rfl, m, rfl⟩

set_option maxHeartbeats 1000000 in
theorem lent_any (v : Value) (l : List UInt8) (w : World) (h : Byt w v l) (hl : l.length + 2 ≤ 140737488355328) :
    Calls Try.prog 9 #[v] w fun e w' => ∃ g cap, e = .returned (.slice (some ⟨g, 0, none⟩) l.length cap) ∧ Own w' w.heap.size (.slice (some ⟨g, 0, none⟩) (l.length + 2) cap) (l ++ [201, 202]) ∧ w.grownBy w' none := by
  obtain ⟨av, capv, rfl⟩ := h.len
  have HB := hid_mk h
  have HO := hid_mk (own_empty w)
  clear h
  go_enter Try.func9, Try.ntmps9
  go_wp2_with (first
    | (at_builtin; refine wpList_append_new w _ rfl (.tmp 4) (.tmp 5) rfl (World.grownBy_alloc _ _ _) (.slice (some ⟨w.heap.size, 0, none⟩) 0 0) [] rfl HO.out l _ rfl (HB.out.kept (World.grownBy_alloc _ _ _)) (by simp; omega) ?_; intro a1 c1 w1 O1; simp only [List.length_nil, Nat.zero_add, List.nil_append] at O1 ⊢)
    | (at_builtin; refine wpList_append_at w _ (l.length + 2) rfl (.tmp 7) (.tmp 8) rfl (grown_trans O1.out.2.1 (World.grownBy_alloc _ _ _)) (.slice a1 l.length c1) l rfl (O1.out.1.kept (World.grownBy_alloc _ _ none) (.inl rfl)) [201, 202] _ rfl (byt_marks w1) rfl (by omega) hl ?_; intro g2 c2 w2 L2 O2))
  go_ret
  exact ⟨g2, c2, rfl, O2.out.1, O2.out.2.1⟩
set_option maxHeartbeats 2000000 in
theorem stays_any (B g cap : Nat) (l : List UInt8) (v : Value) (w : World) (h : Own w B (.slice (some ⟨g, 0, none⟩) (l.length + 2) cap) (l ++ [201, 202])) (hv : Byt w v l) (hl : l.length + 2 ≤ 140737488355328) :
    Calls Try.prog 17 #[.slice (some ⟨g, 0, none⟩) l.length cap, v] w fun e w' => e = .returned (.bool true) ∧ ∃ m, w' = w.drewN m := by
  obtain ⟨hb, c1, c2, hcap⟩ := lent_byt h
  obtain ⟨av, capv, rfl⟩ := hv.len
  have t1 := byt_drewN hb
  have t2 := byt_drewN hv
  clear h hb hv
  generalize l.length = n at *
  go_enter Try.func17, Try.ntmps17
  go_wp2
  go_quiet (fail)
  go_wp2
  go_ret
  exact ⟨rfl, _, rfl⟩


end Go.Proofs.Ytpncbehabfkhkaa.W
