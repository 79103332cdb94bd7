/- Slices of bytes cut, numbers of four bytes, sizes. -/
import Derived.Test.YtpikocpbgnhooaaGreatDoorFBase
import Derived.Lib.BufferRead
namespace Go.Proofs.YtpikocpbgnhooaaGreatDoor.F
open Go.RowKit Go.Maps
set_option linter.unusedVariables false
set_option linter.unusedSimpArgs false
set_option maxRecDepth 100000

theorem elem22 : Tryz.prog.elem 24 = 5 := by kernel_rfl
theorem under22 : Tryz.prog.underlying 24 = some (.slice (Tryz.prog.elem 24)) := by rw [elem22]; exact Tryz.underlying24

/-- A part of what can be read can be read. -/
theorem Byt.part {w : World} {a : Option Addr} {l : List UInt8} {cap : Nat} (h : Byt w (.slice a l.length cap) l) (i j : Nat) (hij : i ≤ j) (hj : j ≤ l.length) : Byt w (sliced a i j cap 1) ((l.take j).drop i) := by
  rcases h with ⟨rfl, a', cap', e, hn⟩ | ⟨b, off, cap', e, hl, hc⟩
  · cases e
    have hj0 : j = 0 := by simpa using hj
    subst hj0
    have hi0 : i = 0 := by omega
    subst hi0
    refine .inl ⟨by simp, ?_⟩
    unfold sliced
    refine ⟨_, _, rfl, ?_⟩
    split
    · simpa using hn
    · intro hm; cases a <;> simp_all
  · cases e
    unfold sliced
    by_cases hm : cap = i
    · have : l.length = i := by omega
      subst hm
      have hji : j = cap := by omega
      subst hji
      refine .inl ⟨?_, ?_⟩
      · simp
      · exact ⟨some ⟨b, off, none⟩, 0, by simp, by simp⟩
    · rw [if_neg hm]
      refine .inr ⟨b, off + i, cap - i, ?_, ?_, fun k u hk => ?_⟩
      · simp [Addr.add]; omega
      · simp; omega
      · rw [List.getElem?_drop, List.getElem?_take] at hk
        split at hk
        · have := hc (i + k) u hk
          rw [Nat.add_assoc]; exact this
        · cases hk

theorem sliced_slice (a : Option Addr) (i j cap : Nat) : ∃ a' cap', sliced a i j cap 1 = .slice a' (j - i) cap' := ⟨_, _, rfl⟩

theorem Byt.lh {w : World} {v : Value} {l : List UInt8} (h : Byt w v l) (i j : Nat) (hij : i ≤ j) (hj : j ≤ l.length) :
    ∃ a' cap', (∀ w', (Instr.slice 24 v (some (.int .i64 i)) (some (.int .i64 j)) none).run Tryz.prog w' = .ok (.slice a' (j - i) cap') w') ∧ Byt w (.slice a' (j - i) cap') ((l.take j).drop i) := by
  have hcap : ∀ a cap, v = .slice a l.length cap → l.length ≤ cap := fun a cap e => by
    rcases h with ⟨rfl, a', cap', e', hn⟩ | ⟨b, off, cap', e', hl, hc⟩
    · simp
    · rw [e] at e'; cases e'; exact hl
  obtain ⟨a, cap, rfl⟩ := h.len
  have hlc := hcap a cap rfl
  obtain ⟨a', cap', e⟩ := sliced_slice a i j cap
  have hp := h.part i j hij hj
  rw [e] at hp
  refine ⟨a', cap', fun w' => ?_, hp⟩
  rw [run_slice_lh w' 24 a l.length cap under22 .i64 .i64 i j (by omega) (by omega) (by omega), elem22, Tryz.sizeOf5 w']
  simp only [Result.andThen, Int.toNat_natCast]
  rw [e]
theorem Byt.l {w : World} {v : Value} {l : List UInt8} (h : Byt w v l) (i : Nat) (hi : i ≤ l.length) :
    ∃ a' cap', (∀ w', (Instr.slice 24 v (some (.int .i64 i)) none none).run Tryz.prog w' = .ok (.slice a' (l.length - i) cap') w') ∧ Byt w (.slice a' (l.length - i) cap') (l.drop i) := by
  obtain ⟨a, cap, rfl⟩ := h.len
  obtain ⟨a', cap', e⟩ := sliced_slice a i l.length cap
  have hp := h.part i l.length hi (Nat.le_refl _)
  rw [e, List.take_length] at hp
  refine ⟨a', cap', fun w' => ?_, hp⟩
  rw [run_slice_l w' 24 a l.length cap under22 .i64 i (by omega) (by omega), elem22, Tryz.sizeOf5 w']
  simp only [Result.andThen, Int.toNat_natCast]
  rw [e]
theorem Byt.h {w : World} {v : Value} {l : List UInt8} (h : Byt w v l) (j : Nat) (hj : j ≤ l.length) :
    ∃ a' cap', (∀ w', (Instr.slice 24 v none (some (.int .i64 j)) none).run Tryz.prog w' = .ok (.slice a' j cap') w') ∧ Byt w (.slice a' j cap') (l.take j) := by
  have hcap : ∀ a cap, v = .slice a l.length cap → l.length ≤ cap := fun a cap e => by
    rcases h with ⟨rfl, a', cap', e', hn⟩ | ⟨b, off, cap', e', hl, hc⟩
    · simp
    · rw [e] at e'; cases e'; exact hl
  obtain ⟨a, cap, rfl⟩ := h.len
  have hlc := hcap a cap rfl
  obtain ⟨a', cap', e⟩ := sliced_slice a 0 j cap
  have hp := h.part 0 j (Nat.zero_le _) hj
  rw [e] at hp
  refine ⟨a', cap', fun w' => ?_, by simpa using hp⟩
  rw [run_slice_h w' 24 a l.length cap under22 .i64 j (by omega) (by omega), elem22, Tryz.sizeOf5 w']
  simp only [Result.andThen, Int.toNat_natCast]
  rw [e]; simp

/-- The address of what is not empty. -/
theorem Byt.at {w : World} {v : Value} {l : List UInt8} (h : Byt w v l) (h0 : 0 < l.length) : ∃ b off cap, v = .slice (some ⟨b, off, none⟩) l.length cap ∧ l.length ≤ cap ∧ ∀ (j : Nat) u, l[j]? = some u → w.cell? ⟨b, off + j, none⟩ = some (.int .u8 u.toNat) := by
  rcases h with ⟨rfl, _⟩ | h
  · simp at h0
  · exact h

theorem Byt.text {w : World} {v : Value} {l : List UInt8} (h : Byt w v l) : (convert 24 9 v).run Tryz.prog w = .ok (.string ⟨l.toArray⟩) w := by
  rcases h with ⟨rfl, a, cap, rfl, hn⟩ | ⟨b, off, cap, rfl, _, hc⟩
  · cases a with
    | none => obtain rfl := hn rfl; exact Lib.run_convert_nil_bytes w 24 9 5 0 Tryz.underlying24 Tryz.underlying5 Tryz.underlying9
    | some a => exact run_convert_bytes_back w 24 9 5 a cap [] Tryz.underlying24 Tryz.underlying5 Tryz.underlying9 (fun j hj => by simp at hj)
  · refine run_convert_bytes_back w 24 9 5 ⟨b, off, none⟩ cap l Tryz.underlying24 Tryz.underlying5 Tryz.underlying9 (fun j hj => ?_)
    have := hc j l[j] (by simp)
    rw [← this]; congr 1; unfold Addr.add; split <;> simp_all

/-! ### Sizes and numbers -/
def sizeZ (n : Int) : Int := if n < 0 ∨ 65536 < n then 0 else n + 9
theorem size_any (n : Int) (w : World) : Calls Tryz.prog 62 #[.int .i64 n] w fun e w' => e = .returned (.int .i64 (sizeZ n)) ∧ w' = w := by
  by_cases h : n < 0 ∨ 65536 < n
  · have HS := hid_mk (show sizeZ n = 0 from if_pos h)
    rcases h with h | h
    · go_enter Tryz.func62, Tryz.ntmps62
      go_wp2
      go_ret
      exact ⟨ret_int HS.out.symm, rfl⟩
    · have h0 : ¬ n < 0 := by omega
      go_enter Tryz.func62, Tryz.ntmps62
      go_wp2
      go_ret
      exact ⟨ret_int HS.out.symm, rfl⟩
  · have HS := hid_mk (show sizeZ n = n + 9 from if_neg h)
    have h1 : ¬ n < 0 := by omega
    have h2 : ¬ 65536 < n := by omega
    clear h
    go_enter Tryz.func62, Tryz.ntmps62
    go_wp2
    go_ret
    exact ⟨ret_int (by rw [HS.out]; omega), rfl⟩
theorem or_add (n u : Nat) (i : Nat) (hn : n < 2 ^ i) (hi : i ≤ 24) (hu : u < 256) : bits .or .u32 (n : Int) ((u * 2 ^ i : Nat) : Int) = ((n + u * 2 ^ i : Nat) : Int) := by
  have h2 : u * 2 ^ i ≤ 255 * 2 ^ i := Nat.mul_le_mul_right _ (by omega)
  have h3 : 2 ^ i ≤ 2 ^ 24 := Nat.pow_le_pow_right (by decide) hi
  have hb : n + u * 2 ^ i < 2 ^ 32 := by
    have : 2 ^ 24 = 16777216 := by decide
    have : 2 ^ 32 = 4294967296 := by decide
    omega
  have e1 : n = (BitVec.ofNat 32 n).toNat := by simp; omega
  have e2 : u * 2 ^ i = (BitVec.ofNat 32 (u * 2 ^ i)).toNat := by simp; omega
  rw [show (n : Int) = ((BitVec.ofNat 32 n).toNat : Int) by rw [← e1], show ((u * 2 ^ i : Nat) : Int) = ((BitVec.ofNat 32 (u * 2 ^ i)).toNat : Int) by rw [← e2], bits_or32]
  rw [BitVec.toNat_or, ← e1, ← e2]
  rw [Nat.or_comm, Nat.mul_comm u, ← Nat.two_pow_add_eq_or_of_lt hn, Nat.add_comm]

theorem or_at0 (u : UInt8) : bits .or .u32 0 ((u.toNat : Int) % 4294967296) = (u.toNat : Int) := by
  have := or_add 0 u.toNat 0 (by decide) (by decide) u.toNat_lt
  have h := u.toNat_lt
  simp at this
  rw [show ((u.toNat : Int) % 4294967296) = u.toNat by omega]
  exact this
theorem or_at (n : Nat) (u : UInt8) (i : Nat) (hn : n < 2 ^ i) (hi : i ≤ 24) (c : Int) (hc : c = ((u.toNat * 2 ^ i : Nat) : Int)) : bits .or .u32 (n : Int) c = ((n + u.toNat * 2 ^ i : Nat) : Int) := by
  rw [hc]; exact or_add n u.toNat i hn hi u.toNat_lt

set_option maxHeartbeats 1000000 in
theorem number_any (v : Value) (l : List UInt8) (w : World) (h : Byt w v l) (hl : 4 ≤ l.length) : Calls Tryz.prog 92 #[v] w fun e w' => e = .returned (.int .u32 (num4 l)) ∧ w' = w := by
  obtain ⟨b, off, cap, rfl, hlc, hc⟩ := h.at (by omega)
  match l, hl with
  | u0 :: u1 :: u2 :: u3 :: r, hl =>
    have c0 : w.cell? ⟨b, off, none⟩ = _ := hc 0 u0 rfl
    have c1 := hc 1 u1 rfl
    have c2 := hc 2 u2 rfl
    have c3 := hc 3 u3 rfl
    have HN := hid_mk (show num4 (u0 :: u1 :: u2 :: u3 :: r) = u0.toNat + 256 * u1.toNat + 65536 * u2.toNat + 16777216 * u3.toNat from rfl)
    have hlen : 4 ≤ (u0 :: u1 :: u2 :: u3 :: r).length := by simp
    generalize (u0 :: u1 :: u2 :: u3 :: r).length = L at *
    generalize num4 (u0 :: u1 :: u2 :: u3 :: r) = N at *
    have b0 := u0.toNat_lt
    have b1 := u1.toNat_lt
    have b2 := u2.toNat_lt
    have b3 := u3.toNat_lt
    clear hc hlc
    go_enter Tryz.func92, Tryz.ntmps92
    go_wp2
    go_loop [3, 5] (fun s i => ∃ (j n : Nat), j ≤ 4 ∧ i = .int .i64 j ∧ s = .int .u32 n ∧ Hid (n = (if 0 < j then u0.toNat else 0) + (if 1 < j then 256 * u1.toNat else 0) + (if 2 < j then 65536 * u2.toNat else 0) + (if 3 < j then 16777216 * u3.toNat else 0))) (fun s i => 4 - (intOf i).toNat)
    case atStart => exact ⟨0, 0, by omega, rfl, rfl, hid_mk (by simp)⟩
    case round =>
      obtain ⟨j, n, hj, rfl, rfl, hn⟩ := hrel
      have hn' := hn.out
      have hjs : j = 0 ∨ j = 1 ∨ j = 2 ∨ j = 3 ∨ j = 4 := by omega
      rcases hjs with rfl | rfl | rfl | rfl | rfl
      · simp at hn'
        have HX := hid_mk (or_at n u0 0 (by omega) (by decide) (u0.toNat : Int) (by simp))
        have HN' := hid_mk hn'
        clear hn hn'
        go_wp2
        refine ⟨⟨1, n + u0.toNat * 2 ^ 0, by omega, rfl, congrArg _ HX.out, hid_mk ?_⟩, by decide⟩
        have := HN'.out
        simp; omega
      · simp at hn'
        have HX := hid_mk (or_at n u1 8 (by omega) (by decide) ((u1.toNat : Int) * 256) (by simp))
        have HN' := hid_mk hn'
        clear hn hn'
        go_wp2
        refine ⟨⟨2, n + u1.toNat * 2 ^ 8, by omega, rfl, congrArg _ HX.out, hid_mk ?_⟩, by decide⟩
        have := HN'.out
        simp; omega
      · simp at hn'
        have HX := hid_mk (or_at n u2 16 (by omega) (by decide) ((u2.toNat : Int) * 65536) (by simp))
        have HN' := hid_mk hn'
        clear hn hn'
        go_wp2
        refine ⟨⟨3, n + u2.toNat * 2 ^ 16, by omega, rfl, congrArg _ HX.out, hid_mk ?_⟩, by decide⟩
        have := HN'.out
        simp; omega
      · simp at hn'
        have HX := hid_mk (or_at n u3 24 (by omega) (by decide) ((u3.toNat : Int) * 16777216) (by simp))
        have HN' := hid_mk hn'
        clear hn hn'
        go_wp2
        refine ⟨⟨4, n + u3.toNat * 2 ^ 24, by omega, rfl, congrArg _ HX.out, hid_mk ?_⟩, by decide⟩
        have := HN'.out
        simp; omega
      · have HE := hid_mk (show (n : Int) = N by rw [HN.out, hn.out]; simp)
        clear hn hn'
        go_wp2
        go_ret
        exact ⟨ret_int HE.out, rfl⟩

theorem rnumber_any (v : Value) (l : List UInt8) (w : World) (h : Byt w v l) (hl : 4 ≤ l.length) : Calls Tryz.prog 73 #[v] w fun e w' => e = .returned (.int .u32 (num4 l)) ∧ w.grownBy w' none := by
  obtain ⟨b, off, cap, rfl, hlc, hc⟩ := h.at (by omega)
  match l, hl with
  | u0 :: u1 :: u2 :: u3 :: r, hl =>
    have c0 : w.cell? ⟨b, off, none⟩ = _ := hc 0 u0 rfl
    have c1 := hc 1 u1 rfl
    have c2 := hc 2 u2 rfl
    have c3 := hc 3 u3 rfl
    have HN := hid_mk (show num4 (u0 :: u1 :: u2 :: u3 :: r) = u0.toNat + 256 * u1.toNat + 65536 * u2.toNat + 16777216 * u3.toNat from rfl)
    have hlen : 4 ≤ (u0 :: u1 :: u2 :: u3 :: r).length := by simp
    generalize (u0 :: u1 :: u2 :: u3 :: r).length = L at *
    generalize num4 (u0 :: u1 :: u2 :: u3 :: r) = N at *
    have b0 := u0.toNat_lt
    have b1 := u1.toNat_lt
    have b2 := u2.toNat_lt
    have b3 := u3.toNat_lt
    clear hc hlc h
    go_enter Tryz.func73, Tryz.ntmps73
    go_wp2
    go_quiet (fail)
    go_wp2
    go_ret
    have E1 := or_at u0.toNat u1 8 (by omega) (by decide) ((u1.toNat : Int) * 256) (by simp)
    have E2 := or_at (u0.toNat + u1.toNat * 2 ^ 8) u2 16 (by omega) (by decide) ((u2.toNat : Int) * 65536) (by simp)
    have E3 := or_at (u0.toNat + u1.toNat * 2 ^ 8 + u2.toNat * 2 ^ 16) u3 24 (by omega) (by decide) ((u3.toNat : Int) * 16777216) (by simp)
    refine ⟨ret_int ?_, grown_drewN _ _ none⟩
    rw [E1, E2, E3, HN.out]
    congr 1
    omega

end Go.Proofs.YtpikocpbgnhooaaGreatDoor.F
