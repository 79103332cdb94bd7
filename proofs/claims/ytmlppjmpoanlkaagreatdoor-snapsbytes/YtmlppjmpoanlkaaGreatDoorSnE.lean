/- snaps: Same, Name. -/
import Derived.Test.YtmlppjmpoanlkaaGreatDoorKg
namespace Go.Proofs.YtmlppjmpoanlkaaGreatDoor.W
open Go.RowKit Go.Maps Go.Shelf
set_option linter.unusedVariables false
set_option linter.unusedSimpArgs false
set_option maxRecDepth 100000

/-! ### Ints -/
set_option maxHeartbeats 1000000 in
theorem ints_same (v v' : Value) (l : List Int) (w : World) (h : IntsR w v l) (h' : IntsR w v' l) (hl : l.length ≤ 140737488355328) : Calls Tryz.prog 49 #[v, v'] w fun e w' => e = .returned (.bool true) ∧ ∃ m, w' = w.drewN m := by
  by_cases h0 : l.length = 0
  · obtain ⟨a, c, rfl⟩ := h.len
    obtain ⟨a', c', rfl⟩ := h'.len
    clear h h'
    generalize l.length = n at *
    subst h0
    go_enter Tryz.func49, Tryz.ntmps49
    go_wp2
    go_loopg [5] 0 (fun g iv W => iv = .int .i64 0 ∧ W = w)
    case atStart => exact ⟨rfl, rfl⟩
    case round =>
      obtain ⟨rfl, rfl⟩ := hrel
      go_wp2
      go_ret
      exact ⟨rfl, 0, rfl⟩
  · obtain ⟨b, off, cap, rfl, _, hc⟩ := h.at (by omega)
    obtain ⟨b', off', cap', rfl, _, hc'⟩ := h'.at (by omega)
    have HC := hid_mk (And.intro hc hc')
    clear hc hc' h h'
    go_enter Tryz.func49, Tryz.ntmps49
    go_wp2
    go_loopg [5] l.length (fun g iv W => ∃ i : Nat, i ≤ l.length ∧ g = l.length - i ∧ iv = .int .i64 i ∧ ∃ m, W = w.drewN m)
    case atStart => exact ⟨0, Nat.zero_le _, rfl, rfl, 0, rfl⟩
    case round =>
      obtain ⟨i, hi, hgk, rfl, m, rfl⟩ := hrel
      by_cases hlt : i < l.length
      · have x1 := HC.out.1 i l[i] (by simp [hlt])
        have x2 := HC.out.2 i l[i] (by simp [hlt])
        have hiI : (i : Int) < (l.length : Int) := by omega
        have hiI0 : (0 : Int) ≤ (i : Int) := by omega
        generalize l[i] = x at *
        go_wp2
        go_quiet (fail)
        go_wp2
        go_roundg (l.length - (i + 1))
        case measure => omega
        case rel => exact ⟨i + 1, by omega, rfl, by go_num, _, by first | rfl | (rw [World.drewN_drewN])⟩
      · have hil : i = l.length := by omega
        subst hil
        go_wp2
        go_ret
        exact ⟨rfl, m, rfl⟩

set_option maxHeartbeats 2000000 in
theorem same_yes (x : Snap) (sv dv sv' dv' : Value) (w : World) (h : SnapAt w sv dv x) (h' : SnapAt w sv' dv' x) (hl : x.s.length ≤ 140737488355328) : Calls Tryz.prog 14 #[snapV x sv dv, snapV x sv' dv'] w fun e w' => e = .returned (.bool true) ∧ w.grownBy w' none := by
  obtain ⟨sa, sc, rfl⟩ := h.s.len
  obtain ⟨da, dc, rfl⟩ := h.d.len
  obtain ⟨sa', sc', rfl⟩ := h'.s.len
  obtain ⟨da', dc', rfl⟩ := h'.d.len
  have g1 := World.grownBy_alloc w (.cells #[.int .i64 x.i, .int .i64 x.t, .slice sa x.s.length sc, .slice da x.d.length dc] 27) none
  have g2 := World.grownBy_alloc (w.alloc (.cells #[.int .i64 x.i, .int .i64 x.t, .slice sa x.s.length sc, .slice da x.d.length dc] 27)) (.cells #[.int .i64 x.i, .int .i64 x.t, .slice sa' x.s.length sc', .slice da' x.d.length dc'] 25) none
  have b1 := V.Blk.kept (heap_alloc_new w (.cells #[.int .i64 x.i, .int .i64 x.t, .slice sa x.s.length sc, .slice da x.d.length dc] 27)) g2 (by simp)
  have b2 := heap_alloc_new (w.alloc (.cells #[.int .i64 x.i, .int .i64 x.t, .slice sa x.s.length sc, .slice da x.d.length dc] 27)) (.cells #[.int .i64 x.i, .int .i64 x.t, .slice sa' x.s.length sc', .slice da' x.d.length dc'] 25)
  simp only [World.size_alloc] at b2
  have HX := hid_mk (And.intro (h.kept (grown_trans g1 g2)) (h'.kept (grown_trans g1 g2)))
  have HB := hid_mk (And.intro b1 (And.intro (show V.Blk _ (w.heap.size + 1) #[.int .i64 x.i, .int .i64 x.t, .slice sa' x.s.length sc', .slice da' x.d.length dc'] 25 from b2) (grown_trans g1 g2)))
  clear h h' g1 g2 b1 b2
  unfold snapV
  go_enter Tryz.func14, Tryz.ntmps14
  go_wp2_with fail
  generalize ((w.alloc (.cells #[.int .i64 x.i, .int .i64 x.t, .slice sa x.s.length sc, .slice da x.d.length dc] 27)).alloc (.cells #[.int .i64 x.i, .int .i64 x.t, .slice sa' x.s.length sc', .slice da' x.d.length dc'] 25)) = w0 at *
  refine (ints_same _ _ x.s w0 HX.out.1.s HX.out.2.s hl).mono ?_
  rintro e w1 ⟨rfl, m1, rfl⟩
  have hg1 := grown_drewN w0 m1 none
  generalize w0.drewN m1 = w1 at *
  have H1 := hid_mk (show V.Blk w1 w.heap.size #[.int .i64 x.i, .int .i64 x.t, .slice sa x.s.length sc, .slice da x.d.length dc] 27 ∧ V.Blk w1 (w.heap.size + 1) #[.int .i64 x.i, .int .i64 x.t, .slice sa' x.s.length sc', .slice da' x.d.length dc'] 25 ∧ w.grownBy w1 none from ⟨V.Blk.kept HB.out.1 hg1 (by simp), V.Blk.kept HB.out.2.1 hg1 (by simp), grown_trans HB.out.2.2 hg1⟩)
  have t1 := (HX.out.1.d.kept hg1).text
  have t2 := (HX.out.2.d.kept hg1).text
  clear hg1
  have p3 : w1.cell? ⟨w.heap.size, 3, none⟩ = some (.slice da x.d.length dc) := by rw [H1.out.1.cell]; rfl
  have p4 : w1.cell? ⟨w.heap.size + 1, 3, none⟩ = some (.slice da' x.d.length dc') := by rw [H1.out.2.1.cell]; rfl
  go_wp2_with fail
  go_ret
  exact ⟨rfl, H1.out.2.2⟩
set_option maxHeartbeats 1000000 in
theorem same_no (x y : Snap) (a1 a2 a3 a4 : Option Addr) (n1 n2 n3 n4 c1 c2 c3 c4 : Nat) (w : World) (hi : x.i ≠ y.i) : Calls Tryz.prog 14 #[.agg #[.int .i64 x.i, .int .i64 x.t, .slice a1 n1 c1, .slice a2 n2 c2], .agg #[.int .i64 y.i, .int .i64 y.t, .slice a3 n3 c3, .slice a4 n4 c4]] w fun e w' => e = .returned (.bool false) ∧ w.grownBy w' none := by
  have g1 := World.grownBy_alloc w (.cells #[.int .i64 x.i, .int .i64 x.t, .slice a1 n1 c1, .slice a2 n2 c2] 27) none
  have g2 := World.grownBy_alloc (w.alloc (.cells #[.int .i64 x.i, .int .i64 x.t, .slice a1 n1 c1, .slice a2 n2 c2] 27)) (.cells #[.int .i64 y.i, .int .i64 y.t, .slice a3 n3 c3, .slice a4 n4 c4] 25) none
  have HG := hid_mk (grown_trans g1 g2)
  clear g1 g2
  go_enter Tryz.func14, Tryz.ntmps14
  go_wp2_with fail
  go_ret
  exact ⟨rfl, HG.out⟩

theorem own_byt1 (w : World) (u : UInt8) : Byt (w.alloc (.cells #[.int .u8 u.toNat] 5)) (.slice (some ⟨w.heap.size, 0, none⟩) 1 1) [u] :=
  Own.byt (B := 0) ⟨rfl, .inr ⟨w.heap.size, 1, #[.int .u8 u.toNat], rfl, Nat.zero_le _, heap_alloc_new _ _, Nat.le_refl _, by unfold maxLen; omega, rfl, rfl⟩⟩
theorem digN_front : ∀ n i, digN (n + 1) i = UInt8.ofNat (48 + i / 10 ^ n % 10) :: digN n i
  | 0, i => by simp [digN]
  | n + 1, i => by
    rw [digN, digN_front n (i / 10), digN, Nat.div_div_eq_div_mul, ← Nat.pow_succ']
    rfl
set_option maxHeartbeats 1000000 in
theorem name_doc (i : Nat) (w : World) (hi : i < 10000000000000) : Calls Tryz.prog 26 #[.int .i64 i] w fun e w' => e = .returned (.string (nmS i)) ∧ w.grownBy w' none := by
  go_enter Tryz.func26, Tryz.ntmps26
  go_wp2_with fail
  go_loopg [0, 3, 4] 13 (fun g iv sv kv W => ∃ k : Nat, k ≤ 13 ∧ g = 13 - k ∧ kv = .int .i64 k ∧ iv = .int .i64 (i / 10 ^ k : Nat) ∧ sv = .string ⟨(digN k i).toArray⟩ ∧ Hid (w.grownBy W none))
  case atStart => exact ⟨0, by omega, rfl, rfl, by simp, rfl, hid_mk (grown_refl _ _)⟩
  case round =>
    obtain ⟨k, hk, hgk, rfl, rfl, rfl, G1⟩ := hrel
    rename World => w1
    have hle : i / 10 ^ k ≤ i := Nat.div_le_self _ _
    have HQ : Hid (i / 10 ^ k / 10 = i / 10 ^ (k + 1)) := hid_mk (by rw [Nat.div_div_eq_div_mul, ← Nat.pow_succ])
    by_cases hk2 : k < 13
    · obtain ⟨q, hq⟩ : ∃ q, q = i / 10 ^ k := ⟨_, rfl⟩
      rw [← hq]
      have HF := hid_mk (digN_front k i)
      rw [← hq] at HF HQ hle
      clear hq
      have hl13 : (digN k i).length ≤ 13 := by rw [digN_len]; omega
      generalize digN k i = l at *
      have tx := (own_byt1 w1 (UInt8.ofNat (48 + q % 10))).text
      have HE : Hid (((UInt8.ofNat (48 + q % 10)).toNat : Int) = 48 + (q : Int) % 10) := hid_mk (by rw [UInt8.toNat_ofNat']; omega)
      rw [HE.out] at tx
      have G2 := hid_mk (World.grownBy_alloc w1 (.cells #[.int .u8 (48 + (q : Int) % 10)] 5) none)
      generalize UInt8.ofNat (48 + q % 10) = u at *
      go_wp2_with fail
      go_roundg (13 - (k + 1))
      case measure => omega
      case rel =>
        refine ⟨k + 1, by omega, rfl, by go_num, ?_, ?_, hid_mk (grown_trans G1.out G2.out)⟩
        · rw [← HQ.out]; first | rfl | (congr 1; omega)
        · rw [HF.out]; first | rfl | (congr 1; apply ByteArray.ext; simp [ByteArray.data_append])
    · obtain rfl : k = 13 := by omega
      have hl13 : (digN 13 i).length ≤ 13 := by rw [digN_len]; omega
      have HN : Hid (nmS i = ⟨(preL ++ digN 13 i).toArray⟩) := hid_mk rfl
      generalize digN 13 i = l at *
      clear HQ hle
      go_wp2_with fail
      go_ret
      refine ⟨?_, G1.out⟩
      rw [HN.out]
      congr 2
      first | done | (apply ByteArray.ext; simp [preL, ByteArray.data_append])

end Go.Proofs.YtmlppjmpoanlkaaGreatDoor.W
