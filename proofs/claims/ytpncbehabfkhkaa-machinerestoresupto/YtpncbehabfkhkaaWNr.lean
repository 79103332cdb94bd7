/- The document's Number. -/
import Derived.Test.YtpncbehabfkhkaaKa
namespace Go.Proofs.Ytpncbehabfkhkaa.W
open Go.RowKit Go.Maps
set_option linter.unusedVariables false
set_option linter.unusedSimpArgs false
set_option maxRecDepth 100000


set_option maxHeartbeats 1000000 in
theorem rnumber_any (n : Nat) (w : World) (hn : n < 281474976710656) : Calls Try.prog 38 #[.int .i64 n] w fun e w' => ∃ v', e = .returned v' ∧ Own w' w.heap.size v' (numB n) ∧ w.grownBy w' none := by
  have h6 := digs_len 6 n (by simpa using hn)
  have HD := hid_mk h6
  clear h6
  go_enter Try.func38, Try.ntmps38
  go_wp2
  go_loopw [0, 3] (fun nv lv wr => ∃ (m k : Nat) (a : Option Addr) (c : Nat), nv = .int .i64 m ∧ lv = .slice a k c ∧ m ≤ n ∧ k ≤ 6 ∧ Hid (∃ d, Own wr w.heap.size lv d ∧ k = d.length ∧ d ++ digs m = digs n ∧ w.grownBy wr none)) (fun nv _ _ => (intOf nv).toNat)
  case atStart => exact ⟨n, 0, none, 0, rfl, rfl, Nat.le_refl _, by omega, hid_mk ⟨[], World.ownsRow_nil _ _ _ _, rfl, rfl, grown_refl _ _⟩⟩
  case round =>
    obtain ⟨m, k, a, c, rfl, rfl, hm, hk, Q⟩ := hrel
    obtain ⟨d, q⟩ := Q.out
    have Q := hid_mk q
    clear q
    by_cases h0 : m = 0
    · subst h0
      have HE := hid_mk (show d = digs n by have := Q.out.2.2.1; rw [digs_zero, List.append_nil] at this; exact this)
      have HK := hid_mk (own_new wr [UInt8.ofNat k] #[.int .u8 k] (by simp [u8s]; omega) (by unfold maxLen; simp))
      go_wp2_with (at_builtin; refine wpList_append_at w _ (k + 1) rfl (.tmp 16) (.tmp 17) rfl (grown_trans Q.out.2.2.2 (World.grownBy_alloc _ _ _)) (.slice (some ⟨wr.heap.size, 0, none⟩) 1 1) [UInt8.ofNat k] rfl (HK.out.base Q.out.2.2.2.size) d _ rfl ((Q.out.1.byt).kept (World.grownBy_alloc _ _ _)) (by have := Q.out.2.1; simp; omega) (by omega) (by omega) ?_; intro g1 c1 w2 L1 P1)
      go_ret
      refine ⟨_, rfl, ?_, P1.out.2.1⟩
      have := P1.out.1
      have e1 : [UInt8.ofNat k] ++ d = numB n := by rw [Q.out.2.1, HE.out]; rfl
      rw [e1] at this
      exact this
    · have hp : 0 < m := by omega
      have HU := hid_mk (fun W => byt_one W (UInt8.ofNat m) ((m : Int) % 256) (low8 m _ (by omega)))
      have HK6 := hid_mk (show k + 1 ≤ 6 by
        have h3 := congrArg List.length Q.out.2.2.1
        rw [List.length_append, digs_len_pos h0] at h3
        have := HD.out
        have := Q.out.2.1
        omega)
      go_wp2_with (at_builtin; refine wpList_append_at w _ (k + 1) rfl (.tmp 6) (.tmp 9) rfl (grown_trans Q.out.2.2.2 (World.grownBy_alloc _ _ _)) (.slice a k c) d rfl (Q.out.1.kept (World.grownBy_alloc _ _ none) (.inl rfl)) [UInt8.ofNat m] _ rfl (HU.out _) (by rw [← Q.out.2.1]; rfl) (by omega) (by omega) ?_; intro g3 c3 w3 L3 P3)
      go_roundw
      case rel =>
        refine ⟨m / 256, k + 1, _, c3, by go_num, rfl, by omega, HK6.out, hid_mk ⟨_, P3.out.1, by rw [List.length_append, ← Q.out.2.1]; rfl, ?_, P3.out.2.1⟩⟩
        rw [← Q.out.2.2.1, digs_pos h0]; simp
      case measure => simp [intOf]; omega


end Go.Proofs.Ytpncbehabfkhkaa.W
