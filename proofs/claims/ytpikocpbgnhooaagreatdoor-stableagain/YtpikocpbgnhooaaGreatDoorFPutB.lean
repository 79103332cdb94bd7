/- Put: the program's. -/
import Derived.Test.YtpikocpbgnhooaaGreatDoorFPut
namespace Go.Proofs.YtpikocpbgnhooaaGreatDoor.F
open Go.RowKit Go.Maps
set_option linter.unusedVariables false
set_option linter.unusedSimpArgs false
set_option maxRecDepth 100000

theorem below_of_grown {w w' : World} (h : w.grownBy w' none) : Below w.heap.size w w' := ⟨h.os, h.tape, h.output, h.size, fun k hk => h.block k hk (by simp)⟩
theorem grown_of_below {w w' : World} (h : Below w.heap.size w w') : w.grownBy w' none := ⟨h.os, h.tape, h.output, h.size, fun k hk _ => h.block k hk⟩

theorem made_bytes (n : Nat) (w : World) (hn : n ≤ 65545) : ∃ w1, (Instr.makeSlice 24 (.int .i64 n) (.int .i64 n)).run Tryz.prog w = .ok (.slice (some ⟨w.heap.size, 0, none⟩) n n) w1 ∧ BlkB w1 w.heap.size (List.replicate n 0) ∧ w.grownBy w1 none := by
  obtain ⟨i, hi, hz, hsize, hby⟩ := info_parts info5
  obtain ⟨w1, hrun, hown, hg⟩ := run_makeSlice_full (P := Tryz.prog) w 0 24 5 i (.int .u8 0) 1 Tryz.underlying24 hi hz hsize .i64 .i64 n (by omega) (by rw [hby]; omega) (by unfold maxLen; omega) (Nat.zero_le _)
  refine ⟨w1, hrun, ?_, hg⟩
  rcases hown.2 with ⟨e, _⟩ | ⟨g, cap, cur, e, _, hh, h1, h2, h3, h4⟩
  · cases e
  · cases e
    unfold BlkB
    rw [hh]
    have : cur.toList = u8s (List.replicate n 0) := by
      rw [List.take_of_length_le (by simp [h3])] at h4
      rw [h4]
      have hz1 : Value.cells (.int .u8 0) = #[.int .u8 0] := rfl
      rw [hz1, toList_madeCells_one]
      simp [u8s]
    rw [← this]

theorem put_kind (kind : Int) (v : Value) (w : World) (h : kind < 0 ∨ 255 < kind) : Calls Tryz.prog 24 #[.int .i64 kind, v] w fun e w' => e = .returned (.tuple #[.slice none 0 0, .int .i64 1]) ∧ w' = w := by
  rcases h with h | h
  · go_enter Tryz.func24, Tryz.ntmps24
    go_wp2
    go_ret2
    exact ⟨rfl, rfl⟩
  · have h0 : ¬ kind < 0 := by omega
    go_enter Tryz.func24, Tryz.ntmps24
    go_wp2
    go_ret2
    exact ⟨rfl, rfl⟩
theorem put_size (kind : Int) (a : Option Addr) (n cap : Nat) (w : World) (h1 : 0 ≤ kind) (h2 : kind ≤ 255) (h : 65536 < n) : Calls Tryz.prog 24 #[.int .i64 kind, .slice a n cap] w fun e w' => e = .returned (.tuple #[.slice none 0 0, .int .i64 6]) ∧ w' = w := by
  have h0 : ¬ kind < 0 := by omega
  have h0' : ¬ 255 < kind := by omega
  go_enter Tryz.func24, Tryz.ntmps24
  go_wp2
  go_ret2
  exact ⟨rfl, rfl⟩

theorem splice_put (k : UInt8) (d : List UInt8) : splice ((List.replicate (d.length + 9) 0).set 8 k) 9 d = List.replicate 8 0 ++ k :: d := by
  have e : List.replicate (d.length + 9) (0 : UInt8) = List.replicate 8 0 ++ (0 :: List.replicate d.length 0) := by
    rw [show d.length + 9 = 8 + (d.length + 1) by omega, ← List.replicate_append_replicate]; rfl
  rw [e, List.set_append_right _ _ (by simp)]
  simp [splice]
  omega
theorem u8s_splice (l d : List UInt8) (o : Nat) : splice (u8s l) o (u8s d) = u8s (splice l o d) := by
  simp [splice, u8s, List.map_take, List.map_drop]

theorem min_len (d : List UInt8) : (u8s d).length = Nat.min d.length d.length := by rw [u8s_len]; exact (Nat.min_self _).symm
theorem byt_src {w : World} {a : Option Addr} {n cap : Nat} {d : List UInt8} (h : Byt w (.slice a n cap) d) (h0 : 0 < (u8s d).length) : ∃ ad, a = some ad ∧ ∀ j v, (u8s d)[j]? = some v → w.cell? (ad.add j) = some v := by
  obtain ⟨b, off, cap', e, _, hc⟩ := h.at (by simpa [u8s] using h0)
  cases e
  refine ⟨_, rfl, fun j v hj => ?_⟩
  simp only [u8s, List.getElem?_map, Option.map_eq_some_iff] at hj
  obtain ⟨c, hc', rfl⟩ := hj
  rw [← hc j c hc']; congr 1; unfold Addr.add; split <;> simp_all

/-- b[9:] of a row. -/
theorem from9 (g m n : Nat) (hn : n = m + 9) : ∃ da c, (∀ w', (Instr.slice 24 (.slice (some ⟨g, 0, none⟩) n n) (some (.int .i64 9)) none none).run Tryz.prog w' = .ok (.slice da m c) w') ∧ (0 < m → da = some ⟨g, 9, none⟩) := by
  subst hn
  refine ⟨if m + 9 = 9 then some ⟨g, 0, none⟩ else some ⟨g, 9, none⟩, m, fun w' => ?_, fun h => if_neg (by omega)⟩
  rw [run_slice_l w' 24 (some ⟨g, 0, none⟩) (m + 9) (m + 9) under22 .i64 9 (by omega) (by omega), elem22, Tryz.sizeOf5 w']
  simp [Result.andThen, sliced, Addr.add]

theorem putNumbers_n (g bn n a b : Nat) (L : List UInt8) (w : World) (hn : L.length = n) (h : BlkB w g L) (hL : 8 ≤ n) (hbn : w.heap[bn]? = some (.cells #[.int .u32 a, .int .u32 b] 101 (0, 0))) (hl : n ≤ 140737488355328) (ha : a < 4294967296) (hb : b < 4294967296) :
    Calls Tryz.prog 63 #[.slice (some ⟨g, 0, none⟩) n n, .slice (some ⟨bn, 0, none⟩) 2 2] w fun e w' => e = .returned (.tuple #[]) ∧ BlkB w' g (nums a b ++ L.drop 8) ∧ w.grownBy w' (some g) := by
  subst hn
  exact putNumbers_any g bn L.length a b L w h hL hbn hl ha hb

set_option maxHeartbeats 1000000 in
theorem put_ok (kind : Int) (v : Value) (d : List UInt8) (w : World) (h1 : 0 ≤ kind) (h2 : kind ≤ 255) (h : Byt w v d) (hd : d.length ≤ 65536) (ht : Tab w) :
    Calls Tryz.prog 24 #[.int .i64 kind, v] w fun e w' => ∃ g, e = .returned (.tuple #[.slice (some ⟨g, 0, none⟩) (d.length + 9) (d.length + 9), .int .i64 0]) ∧ BlkB w' g (putB (UInt8.ofNat kind.toNat) d) ∧ w.heap.size ≤ g ∧ w.grownBy w' none := by
  obtain ⟨av, capv, rfl⟩ := h.len
  have h0 : ¬ kind < 0 := by omega
  have h0' : ¬ 255 < kind := by omega
  obtain ⟨n, hn⟩ : ∃ n, n = d.length + 9 := ⟨_, rfl⟩
  have hsz : sizeZ (d.length : Int) = (n : Int) := by unfold sizeZ; rw [if_neg (by omega)]; omega
  obtain ⟨w1, hmk, hb1, hg1⟩ := made_bytes n w (by omega)
  have c8 := hb1.cell 8 0 (by rw [List.getElem?_replicate, if_pos (by omega)])
  have f8 := hb1.frozen 8
  have hk : kind = ((UInt8.ofNat kind.toNat).toNat : Int) := by simp; omega
  have B2 := hid_mk (hb1.set 8 (UInt8.ofNat kind.toNat) kind hk)
  generalize UInt8.ofNat kind.toNat = k at *
  have G2 := hid_mk (grown_new hg1 (grown_setCell w1 w.heap.size 8 (.int .u8 kind)) (Nat.le_refl _))
  obtain ⟨da, dc, hs9, hda⟩ := from9 w.heap.size d.length n hn
  have hn8 : 9 ≤ n := by omega
  have hn9 : n ≤ 65545 := by omega
  have HB := hid_mk h
  have HT := hid_mk ht
  have HDA := hid_mk hda
  have HK := hid_mk hk
  have HN := hid_mk hn
  have HSP := hid_mk (splice_put k d)
  have hcrc := crcB_lt (k :: d)
  clear hb1 hg1 h ht hda hk hn
  go_enter Tryz.func24, Tryz.ntmps24
  go_wp2_with (first
    | (go_at_call 62; refine (size_any _ _).mono ?_; rintro e wx ⟨rfl, rfl⟩)
    | (refine wpList_copy_splice rfl (.tmp 25) (.tmp 26) 24 24 rfl 5 Tryz.underlying24 (by kernel_rfl) da av d.length dc d.length capv rfl rfl wx.heap.size 9 (u8s ((List.replicate n 0).set 8 k)) 5 B2.out (u8s d) (min_len d) (fun h0 => ⟨HDA.out (by simpa [u8s] using h0), byt_src (HB.out.kept G2.out) h0⟩) (by have := HN.out; simp [u8s]; omega) (u8s_one d) wx.heap.size wx (below_of_grown G2.out) (Nat.le_refl _) ?_; intro w3 H3 hbel3; have G3 := hid_mk (grown_of_below hbel3); clear hbel3; have B3 : Hid (BlkB w3 wx.heap.size (List.replicate 8 0 ++ k :: d)) := hid_mk (by have := H3.out; rw [u8s_splice, HN.out, HSP.out] at this; exact this); clear H3))
  have Y8 : Byt w3 (.slice (some ⟨wx.heap.size, 8, none⟩) (n - 8) (n - 8)) (k :: d) := by
    have hn := HN.out
    refine .inr ⟨wx.heap.size, 8, n - 8, by simp; omega, by simp; omega, fun j u hj => B3.out.cell (8 + j) u ?_⟩
    rw [List.getElem?_append_right (by simp), ← hj]; simp
  refine (crc_any _ (k :: d) _ Y8 (by simp; omega) (HT.out.kept G3.out)).mono ?_
  rintro e w4 ⟨rfl, rfl⟩
  have HC := hid_mk hcrc
  clear Y8 hcrc
  obtain ⟨c, hc⟩ : ∃ c, c = (crcB (k :: d)).toNat := ⟨_, rfl⟩
  rw [← hc]
  rw [← hc] at HC
  have HCE := hid_mk hc
  clear hc
  go_wp2_with fail
  refine (putNumbers_n wx.heap.size w4.heap.size n d.length c (List.replicate 8 0 ++ k :: d) _ (by have := HN.out; simp; omega) (B3.out.kept (World.grownBy_alloc _ _ _)) (by omega) (heap_alloc_new _ _) (by omega) (by omega) HC.out).mono ?_
  rintro e w5 ⟨rfl, hb5, hg5⟩
  have H5 := hid_mk (And.intro hb5 hg5)
  clear hb5 hg5
  go_wp2
  go_ret2
  refine ⟨wx.heap.size, by rw [HN.out]; rfl, ?_, Nat.le_refl _, ?_⟩
  · have := H5.out.1
    rw [HCE.out] at this
    simpa [nums, putB] using this
  · exact grown_new (grown_trans G3.out (World.grownBy_alloc _ _ _)) H5.out.2 (Nat.le_refl _)

end Go.Proofs.YtpikocpbgnhooaaGreatDoor.F
