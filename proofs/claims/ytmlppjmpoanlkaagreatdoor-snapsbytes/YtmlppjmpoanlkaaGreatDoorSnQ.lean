/- snaps: removeUnfinished, write. -/
import Derived.Test.YtmlppjmpoanlkaaGreatDoorSnO
namespace Go.Proofs.YtmlppjmpoanlkaaGreatDoor.W
open Go.RowKit Go.Maps Go.Shelf
set_option linter.unusedVariables false
set_option linter.unusedSimpArgs false
set_option maxRecDepth 100000

/-- The steps of a Save of the bytes l, at an index. -/
def stepW (l : List UInt8) (i : Nat) (k : Nat) (m : V.Mem) (n : Int) (m' : V.Mem) : Prop :=
  match k with
  | 0 => ∃ n0, V.RemoveSpec nmU m n0 m' ∧ n = if n0 = 3 then 0 else n0
  | 1 => V.CreateSpec nmU m n m'
  | 2 => V.AppendSpec nmU l m n m'
  | 3 => V.SyncSpec nmU m n m'
  | 4 => V.RenameSpec nmU (nmS i) m n m'
  | _ => V.SyncDirSpec m n m'
def ChainW (l : List UInt8) (i : Nat) : Nat → V.Mem → V.Mem → Prop
  | 0, m, m' => m' = m
  | k + 1, m, m' => ∃ m1, ChainW l i k m m1 ∧ stepW l i k m1 0 m'
theorem chainW_add {l : List UInt8} {i k : Nat} {m m1 m' : V.Mem} (h : ChainW l i k m m1) (s : stepW l i k m1 0 m') : ChainW l i (k + 1) m m' := ⟨m1, h, s⟩
/-- It came to an end ahead of the step K, or not. -/
def PartW (l : List UInt8) (i K : Nat) (m : V.Mem) (n : Int) (m' : V.Mem) : Prop := (n = 0 ∧ ChainW l i K m m') ∨ (n ≠ 0 ∧ ∃ k m1, k < K ∧ ChainW l i k m m1 ∧ stepW l i k m1 n m')

theorem removeU_any (N b : Nat) (Z : Nat → Prop) (m : V.Mem) (w : World) (h : V.IsDisk w Z N b m) (hN : N < 1099511627776) (l : List UInt8) (i : Nat) :
    Calls Tryz.prog 58 #[.pointer (some ⟨b, 0, none⟩)] w (V.Post Z N b w (stepW l i 0 m)) := by
  have HC := hid_mk (V.remove_any N b Z m nmU w h hN size_U)
  unfold nmU at HC
  clear h
  go_enter Tryz.func58, Tryz.ntmps58
  go_wp2_with fail
  refine HC.out.mono ?_
  rintro e w1 ⟨n, m', rfl, S, D, K⟩
  have H1 := hid_mk (And.intro S (And.intro D K))
  clear S D K HC
  by_cases hn : n = 3
  · subst hn
    go_wp2_with fail
    go_ret
    exact ⟨0, m', rfl, ⟨3, H1.out.1, rfl⟩, H1.out.2.1, H1.out.2.2⟩
  · have hb : (n != 3) = true := by simp [hn]
    go_wp2_with fail
    go_ret
    exact ⟨n, m', rfl, ⟨n, H1.out.1, by rw [if_neg hn]⟩, H1.out.2.1, H1.out.2.2⟩

/-- Elder blocks of a set, and all newer ones. -/
def ZB (Z : Nat → Prop) (A : Nat) (k : Nat) : Prop := (Z k ∧ k < A) ∨ A ≤ k
theorem zb_up {Z : Nat → Prop} {A A' : Nat} (hA : A ≤ A') {X : World} {M b : Nat} {m : V.Mem} (h : V.IsDisk X (fun k => ZB Z A k ∨ A' ≤ k) M b m) : V.IsDisk X (ZB Z A) M b m := h.monoF (fun k hk => by
  rcases hk with hk | hk
  · exact hk
  · exact .inr (by omega))
theorem zb_wide {Z : Nat → Prop} {A k : Nat} (h : ZB Z A k) : Z k ∨ A ≤ k := h.imp (fun h => h.1) id
theorem zb_keeps {Z : Nat → Prop} {w X : World} (hk : V.Keeps (ZB Z w.heap.size) w X) : V.Keeps Z w X := ⟨hk.os, hk.tape, hk.output, hk.size, fun k h1 h2 => hk.block k h1 (fun h => by
  rcases h with h | h
  · exact h2 h.1
  · omega)⟩

set_option maxHeartbeats 2000000 in
theorem write_any (N b : Nat) (Z : Nat → Prop) (m : V.Mem) (l : List UInt8) (i : Nat) (v : Value) (w : World) (h : V.IsDisk w Z N b m) (hN : N + 4 < 1099511627776) (hl : l.length ≤ 140737488355328) (hv : ∀ w', V.Keeps Z w w' → V.SrcB w' v l) :
    Calls Tryz.prog 53 #[.pointer (some ⟨b, 0, none⟩), v] w fun e w' => ∃ n m', e = .returned (.int .i64 n) ∧ PartW l i 4 m n m' ∧ V.IsDisk w' (fun k => Z k ∨ w.heap.size ≤ k) (N + 4) b m' ∧ V.Keeps Z w w' := by
  obtain ⟨a, c, rfl⟩ := (hv w (V.Keeps.refl _ _)).len
  have HD := hid_mk h.bound
  have HV := hid_mk hv
  clear h hv
  go_enter Tryz.func53, Tryz.ntmps53
  go_wp2_with fail
  refine (removeU_any N b (ZB Z w.heap.size) m w (HD.out.monoF (fun k hk => .inl hk)) (by omega) l i).mono ?_
  rintro e w1 ⟨n1, m1, rfl, S1, D1, K1⟩
  have H1 := hid_mk (And.intro S1 (And.intro (zb_up (Nat.le_refl _) D1) K1))
  clear S1 D1 K1 HD
  by_cases h1 : n1 = 0
  · subst h1
    have C1 := hid_mk (chainW_add (show ChainW l i 0 m m from rfl) H1.out.1)
    have G1 := hid_mk (show w.heap.size ≤ w1.heap.size from H1.out.2.2.size)
    go_wp2_with fail
    refine (V.create_any (N + 1) b _ m1 nmU w1 H1.out.2.1 (by omega) size_U).mono ?_
    rintro e w2 ⟨n2, m2, rfl, S2, D2, K2⟩
    have H2 := hid_mk (show V.CreateSpec nmU m1 n2 m2 ∧ V.IsDisk w2 (ZB Z w.heap.size) (N + 2) b m2 ∧ V.Keeps (ZB Z w.heap.size) w w2 from ⟨S2, zb_up G1.out D2, H1.out.2.2.then K2⟩)
    clear S2 D2 K2 H1
    by_cases h2 : n2 = 0
    · subst h2
      have C2 := hid_mk (chainW_add C1.out (show stepW l i 1 m1 0 m2 from H2.out.1))
      have G2 := hid_mk (show w.heap.size ≤ w2.heap.size from H2.out.2.2.size)
      go_wp2_with fail
      refine (V.append_any (N + 2) b _ m2 nmU l _ w2 H2.out.2.1 (by omega) size_U hl (HV.out w2 (zb_keeps H2.out.2.2))).mono ?_
      rintro e w3 ⟨n3, m3, rfl, S3, D3, K3⟩
      have H3 := hid_mk (show V.AppendSpec nmU l m2 n3 m3 ∧ V.IsDisk w3 (ZB Z w.heap.size) (N + 3) b m3 ∧ V.Keeps (ZB Z w.heap.size) w w3 from ⟨S3, zb_up G2.out D3, H2.out.2.2.then K3⟩)
      clear S3 D3 K3 H2
      by_cases h3 : n3 = 0
      · subst h3
        have C3 := hid_mk (chainW_add C2.out (show stepW l i 2 m2 0 m3 from H3.out.1))
        have G3 := hid_mk (show w.heap.size ≤ w3.heap.size from H3.out.2.2.size)
        go_wp2_with fail
        refine (V.sync_any (N + 3) b _ m3 nmU w3 H3.out.2.1 size_U).mono ?_
        rintro e w4 ⟨n4, m4, rfl, S4, D4, K4⟩
        have H4 := hid_mk (show V.SyncSpec nmU m3 n4 m4 ∧ V.IsDisk w4 (ZB Z w.heap.size) (N + 4) b m4 ∧ V.Keeps (ZB Z w.heap.size) w w4 from ⟨S4, zb_up G3.out D4, H3.out.2.2.then K4⟩)
        clear S4 D4 K4 H3
        go_wp2_with fail
        go_ret
        refine ⟨n4, m4, rfl, ?_, H4.out.2.1.monoF (fun k hk => zb_wide hk), zb_keeps H4.out.2.2⟩
        by_cases h4 : n4 = 0
        · subst h4
          exact .inl ⟨rfl, chainW_add C3.out (show stepW l i 3 m3 0 m4 from H4.out.1)⟩
        · exact .inr ⟨h4, 3, m3, by omega, C3.out, H4.out.1⟩
      · have hb : (n3 != 0) = true := by simp [h3]
        go_wp2_with fail
        go_ret
        exact ⟨n3, m3, rfl, .inr ⟨h3, 2, m2, by omega, C2.out, H3.out.1⟩, (H3.out.2.1.monoF (fun k hk => zb_wide hk)).monoN (by omega), zb_keeps H3.out.2.2⟩
    · have hb : (n2 != 0) = true := by simp [h2]
      go_wp2_with fail
      go_ret
      exact ⟨n2, m2, rfl, .inr ⟨h2, 1, m1, by omega, C1.out, H2.out.1⟩, (H2.out.2.1.monoF (fun k hk => zb_wide hk)).monoN (by omega), zb_keeps H2.out.2.2⟩
  · have hb : (n1 != 0) = true := by simp [h1]
    go_wp2_with fail
    go_ret
    exact ⟨n1, m1, rfl, .inr ⟨h1, 0, m, by omega, rfl, H1.out.1⟩, (H1.out.2.1.monoF (fun k hk => zb_wide hk)).monoN (by omega), zb_keeps H1.out.2.2⟩

end Go.Proofs.YtmlppjmpoanlkaaGreatDoor.W
