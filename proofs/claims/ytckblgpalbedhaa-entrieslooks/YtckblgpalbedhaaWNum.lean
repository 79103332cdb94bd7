/- Numbers as bytes: the program's and the document's. -/
import Derived.Test.YtckblgpalbedhaaWBase
namespace Go.Proofs.Ytckblgpalbedhaa.W
open Go.RowKit Go.Maps
set_option linter.unusedVariables false
set_option linter.unusedSimpArgs false

theorem digs_len_pos {m : Nat} (h : m ≠ 0) : (digs m).length = (digs (m / 256)).length + 1 := by rw [digs_pos h]; simp

theorem width_any (n : Nat) (w : World) (hn : n < 9223372036854775808) : Calls Try.prog 64 #[.int .i64 n] w fun e w' => e = .returned (.int .i64 (digs n).length) ∧ w' = w := by
  go_enter Try.func64, Try.ntmps64
  go_wp2
  go_loop [0, 3] (fun a b => ∃ (m k : Nat), a = .int .i64 m ∧ b = .int .i64 k ∧ m ≤ n ∧ k + m ≤ n ∧ Hid (k + (digs m).length = (digs n).length)) (fun a b => (intOf a).toNat)
  case atStart => exact ⟨n, 0, rfl, rfl, Nat.le_refl _, by omega, hid_mk (by omega)⟩
  case round =>
    obtain ⟨m, k, rfl, rfl, hm, hk, H⟩ := hrel
    by_cases h0 : m = 0
    · subst h0
      go_wp2
      go_ret
      have := H.out
      rw [digs_zero] at this
      exact ⟨ret_int (by simp at this; omega), rfl⟩
    · have hp : 0 < m := by omega
      go_wp2
      go_round
      case rel => exact ⟨m / 256, k + 1, by go_num, by go_num, by omega, by omega, hid_mk (by have := H.out; rw [digs_len_pos h0] at this; omega)⟩
      case measure => simp [intOf]; omega

/-- A slice of ints that can be read. -/
def IntsR (w : World) (v : Value) (l : List Int) : Prop :=
  (l = [] ∧ ∃ a cap, v = .slice a 0 cap ∧ (a = none → cap = 0)) ∨ ∃ b off cap, v = .slice (some ⟨b, off, none⟩) l.length cap ∧ l.length ≤ cap ∧ ∀ (j : Nat) x, l[j]? = some x → w.cell? ⟨b, off + j, none⟩ = some (.int .i64 x)
theorem IntsR.len {w : World} {v : Value} {l : List Int} (h : IntsR w v l) : ∃ a cap, v = .slice a l.length cap := by
  rcases h with ⟨rfl, a, cap, rfl, _⟩ | ⟨b, off, cap, rfl, _⟩
  · exact ⟨_, _, rfl⟩
  · exact ⟨_, _, rfl⟩
theorem IntsR.kept {w w' : World} {v : Value} {l : List Int} (h : IntsR w v l) (hg : w.grownBy w' none) : IntsR w' v l := by
  rcases h with h | ⟨b, off, cap, hv, hl, hc⟩
  · exact .inl h
  · exact .inr ⟨b, off, cap, hv, hl, fun j u hj => hg.cell (hc j u hj) (by simp)⟩
theorem IntsR.nil (w : World) : IntsR w (.slice none 0 0) [] := .inl ⟨rfl, none, 0, rfl, fun _ => rfl⟩
theorem IntsR.at {w : World} {v : Value} {l : List Int} (h : IntsR w v l) (h0 : 0 < l.length) : ∃ b off cap, v = .slice (some ⟨b, off, none⟩) l.length cap ∧ l.length ≤ cap ∧ ∀ (j : Nat) x, l[j]? = some x → w.cell? ⟨b, off + j, none⟩ = some (.int .i64 x) := by
  rcases h with ⟨rfl, _⟩ | h
  · simp at h0
  · exact h
theorem ints_new (w : World) (l : List Int) (t : TypeId) (cs : Array Value) (hcs : cs = (l.map (fun x => Value.int .i64 x)).toArray) : IntsR (w.alloc (.cells cs t)) (.slice (some ⟨w.heap.size, 0, none⟩) l.length l.length) l := by
  refine .inr ⟨w.heap.size, 0, l.length, rfl, Nat.le_refl _, fun j x hj => ?_⟩
  rw [cell_of_row _ _ _ _ _ _ (heap_alloc_new w _), hcs]
  simp [hj]
theorem byt_one (w : World) (u : UInt8) (z : Int) (hz : z = u.toNat) : Byt (w.alloc (.cells #[.int .u8 z] 5)) (.slice (some ⟨w.heap.size, 0, none⟩) 1 1) [u] := by
  refine .inr ⟨w.heap.size, 0, 1, rfl, Nat.le_refl _, fun j x hj => ?_⟩
  rw [cell_of_row _ _ _ _ _ _ (heap_alloc_new w _), hz]
  match j, hj with
  | 0, hj => simp at hj; subst hj; rfl

theorem numsB_len (l : List Nat) (h : ∀ n ∈ l, n < 281474976710656) : (numsB l).length ≤ 7 * l.length := by
  induction l with
  | nil => simp [numsB]
  | cons n l ih =>
    have := ih (fun m hm => h m (by simp [hm]))
    have h7 := numB_le (h n (by simp))
    rw [numsB_cons, List.length_append, List.length_cons]
    omega
theorem low8 (m : Nat) (z : Int) (hz : z = ((m % 256 : Nat) : Int)) : z = ((UInt8.ofNat m).toNat : Int) := by rw [hz]; simp

set_option maxHeartbeats 1000000 in
theorem numbers_in (b off cap : Nat) (l : List Nat) (w : World) (hc : ∀ (j : Nat) x, (l.map Int.ofNat)[j]? = some x → w.cell? ⟨b, off + j, none⟩ = some (.int .i64 x)) (hl : l.length ≤ 100) (hn : ∀ n ∈ l, n < 281474976710656) :
    Calls Try.prog 58 #[.slice (some ⟨b, off, none⟩) l.length cap] w fun e w' => ∃ v', e = .returned v' ∧ Own w' w.heap.size v' (numsB l) ∧ w.grownBy w' none := by
  have HC := hid_mk hc
  have HN := hid_mk hn
  clear hc hn
  go_enter Try.func58, Try.ntmps58
  go_wp2
  go_loopw [3, 8] (fun bv iv wr => ∃ (i n : Nat) (a : Option Addr) (c : Nat), i ≤ l.length ∧ iv = .int .i64 i ∧ bv = .slice a n c ∧ n ≤ 7 * i ∧ Hid (Own wr w.heap.size bv (numsB (l.take i)) ∧ w.grownBy wr none ∧ n = (numsB (l.take i)).length)) (fun _ iv _ => l.length - (intOf iv).toNat)
  case atStart => exact ⟨0, 0, none, 0, Nat.zero_le _, rfl, rfl, by omega, hid_mk ⟨World.ownsRow_nil _ _ _ _, grown_refl _ _, rfl⟩⟩
  case round =>
    obtain ⟨i, n, a, c, hi, rfl, rfl, hn7, H⟩ := hrel
    by_cases hlt : i < l.length
    · have hcell := H.out.2.1.cell (HC.out i (l[i] : Nat) (by simp [hlt])) (by simp)
      have hx := HN.out l[i] (by simp)
      have HT := hid_mk (show numsB (l.take (i + 1)) = numsB (l.take i) ++ numB l[i] by rw [List.take_succ_eq_append_getElem hlt, numsB_append]; simp [numsB])
      generalize l[i] = x at *
      have hk6 := digs_len 6 x (by simpa using hx)
      have HB := hid_mk (show (numsB (l.take (i + 1))).length ≤ 7 * (i + 1) by
        have := numsB_len (l.take (i + 1)) (fun m hm => HN.out m (List.mem_of_mem_take hm))
        simp only [List.length_take] at this
        omega)
      go_wp2_with fail
      refine (width_any x wr (by omega)).mono ?_
      rintro e w1 ⟨rfl, rfl⟩
      have HU := hid_mk (byt_one w1 (UInt8.ofNat (digs x).length) (digs x).length (by simp; omega))
      have HD := hid_mk (show UInt8.ofNat (digs x).length :: digs x = numB x from rfl)
      generalize UInt8.ofNat (digs x).length = u at *
      generalize (digs x).length = k at *
      have hn700 : n ≤ 700 := by omega
      go_wp2_with (at_builtin; refine wpList_append_at w _ (n + 1) rfl (.tmp 12) (.tmp 16) rfl (grown_trans H.out.2.1 (World.grownBy_alloc _ _ _)) (.slice a n c) (numsB (l.take i)) rfl (H.out.1.kept (World.grownBy_alloc _ _ none) (.inl rfl)) [u] _ rfl HU.out (by rw [← H.out.2.2]; rfl) (by omega) (by omega) ?_; intro g1 c1 w2 L1 P1)
      have Q1 : Hid (∃ d, Own w2 w.heap.size (.slice (some ⟨g1, 0, none⟩) (n + 1) c1) d ∧ n + 1 = d.length ∧ d ++ digs x = numsB (l.take (i + 1)) ∧ w.grownBy w2 none) :=
        hid_mk ⟨_, P1.out.1, by rw [List.length_append, ← H.out.2.2]; rfl, by rw [HT.out, ← HD.out]; simp, P1.out.2.1⟩
      clear P1 HU HD H
      go_loopw [3, 5] (fun bv nv wr => ∃ (m n g c : Nat), nv = .int .i64 m ∧ bv = .slice (some ⟨g, 0, none⟩) n c ∧ m ≤ x ∧ n ≤ 1000 ∧ Hid (∃ d, Own wr w.heap.size bv d ∧ n = d.length ∧ d ++ digs m = numsB (l.take (i + 1)) ∧ w.grownBy wr none)) (fun _ nv _ => (intOf nv).toNat)
      case atStart => exact ⟨x, n + 1, g1, c1, rfl, rfl, Nat.le_refl _, by omega, Q1⟩
      case round =>
        obtain ⟨m, n2, g2, c2, rfl, rfl, hm, hn2, Q2⟩ := hrel
        by_cases h0 : m = 0
        · subst h0
          go_wp2
          go_roundw
          case rel =>
            obtain ⟨d, h1, h2, h3, h4⟩ := Q2.out
            rw [digs_zero, List.append_nil] at h3
            subst h3
            exact ⟨i + 1, n2, some ⟨g2, 0, none⟩, c2, by omega, by go_num, rfl, by have := HB.out; omega, hid_mk ⟨h1, h4, h2⟩⟩
          case measure => simp [intOf]; omega
        · have hp : 0 < m := by omega
          obtain ⟨d, q3⟩ := Q2.out
          have Q3 := hid_mk q3
          clear Q2 q3
          have HU := hid_mk (fun W => byt_one W (UInt8.ofNat m) ((m : Int) % 256) (low8 m _ (by omega)))
          go_wp2_with (at_builtin; refine wpList_append_at w _ (n2 + 1) rfl (.tmp 22) (.tmp 25) rfl (grown_trans Q3.out.2.2.2 (World.grownBy_alloc _ _ _)) (.slice (some ⟨g2, 0, none⟩) n2 c2) d rfl (Q3.out.1.kept (World.grownBy_alloc _ _ none) (.inl rfl)) [UInt8.ofNat m] _ rfl (HU.out _) (by rw [← Q3.out.2.1]; rfl) (by omega) (by omega) ?_; intro g3 c3 w3 L3 P3)
          go_roundw
          case rel =>
            have hlen : n2 + 1 ≤ 1000 := by
              have h3 := congrArg List.length Q3.out.2.2.1
              rw [List.length_append, digs_len_pos h0] at h3
              have := HB.out
              have := Q3.out.2.1
              omega
            refine ⟨m / 256, n2 + 1, g3, c3, by go_num, rfl, by omega, hlen, hid_mk ⟨_, P3.out.1, by rw [List.length_append, ← Q3.out.2.1]; rfl, ?_, P3.out.2.1⟩⟩
            rw [← Q3.out.2.2.1, digs_pos h0]; simp
          case measure => simp [intOf]; omega
    · have hil : i = l.length := by omega
      subst hil
      go_wp2
      go_ret
      have := H.out
      rw [List.take_length] at this
      exact ⟨_, rfl, this.1, this.2.1⟩

theorem numbers_any (v : Value) (l : List Nat) (w : World) (h : IntsR w v (l.map Int.ofNat)) (hl : l.length ≤ 100) (hn : ∀ n ∈ l, n < 281474976710656) :
    Calls Try.prog 58 #[v] w fun e w' => ∃ v', e = .returned v' ∧ Own w' w.heap.size v' (numsB l) ∧ w.grownBy w' none := by
  rcases h with ⟨h0, a, cap, rfl, _⟩ | ⟨b, off, cap, rfl, _, hc⟩
  · obtain rfl : l = [] := by simpa using h0
    clear hl hn h0
    go_enter Try.func58, Try.ntmps58
    go_wp2
    go_loopw [3, 8] (fun bv iv wr => iv = .int .i64 0 ∧ bv = .slice none 0 0 ∧ wr = w) (fun _ _ _ => 0)
    case atStart => exact ⟨rfl, rfl, rfl⟩
    case round =>
      obtain ⟨rfl, rfl, rfl⟩ := hrel
      go_wp2
      go_ret
      exact ⟨_, rfl, World.ownsRow_nil _ _ _ _, grown_refl _ _⟩
  · rw [List.length_map]
    exact numbers_in b off cap l w hc hl hn

end Go.Proofs.Ytckblgpalbedhaa.W
