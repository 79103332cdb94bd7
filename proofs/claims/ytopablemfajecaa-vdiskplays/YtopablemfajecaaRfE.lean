/- The document's disk: done, power, pick. -/
import Derived.Test.YtopablemfajecaaRfM
import Derived.Test.YtopablemfajecaaRfD
import Derived.Test.YtopablemfajecaaSorted
import Derived.Deep.Cut
namespace Go.Proofs.Ytopablemfajecaa
open Go.RowKit Go.Maps Go.WideMaps Go.WideElems
set_option linter.unusedVariables false
set_option linter.unusedSimpArgs false
set_option maxRecDepth 100000

def rdone (dir : List (ByteArray × Nat)) (c : Chg) : List (ByteArray × Nat) :=
  if c.kind = 0 then rwith dir (c.name, c.file) else if c.kind = 1 then rwith (rwithout (rwithout dir c.name) c.to) (c.to, c.file) else rwithout dir c.name
theorem rwithout_len (dir : List (ByteArray × Nat)) (s : ByteArray) : (rwithout dir s).length ≤ dir.length := List.length_filter_le _ _
theorem rwith_len (dir : List (ByteArray × Nat)) (p : ByteArray × Nat) : (rwith dir p).length = dir.length + 1 := by
  have : dir.takeWhile (lessN p.1) ++ dir.dropWhile (lessN p.1) = dir := List.takeWhile_append_dropWhile
  have h := congrArg List.length this
  rw [List.length_append] at h
  unfold rwith
  rw [List.length_append, List.length_append, List.length_singleton]
  omega
theorem rdone_len (dir : List (ByteArray × Nat)) (c : Chg) : (rdone dir c).length ≤ dir.length + 1 := by
  unfold rdone
  split
  · rw [rwith_len]; exact Nat.le_refl _
  · split
    · rw [rwith_len]
      have := rwithout_len (rwithout dir c.name) c.to
      have := rwithout_len dir c.name
      omega
    · have := rwithout_len dir c.name
      omega
/-- A change of the document's, as it is handed over. -/
def chgV (c : Chg) : Value := .agg #[.int .i64 c.kind, .string c.name, .string c.to, .int .i64 c.file]

set_option maxHeartbeats 2000000 in
theorem done_any (v : Value) (dir : List (ByteArray × Nat)) (c : Chg) (w : World) (h : NmR w v dir) (hl : dir.length ≤ 2000000000000) : Calls Try.prog 63 #[v, chgV c] w fun e w' => ∃ v', e = .returned v' ∧ NmO w' w.heap.size v' (rdone dir c) ∧ w.grownBy w' none := by
  obtain ⟨a, cp, rfl⟩ := h.len
  have HN := hid_mk h
  clear h
  obtain ⟨kd, s, t, fi⟩ := c
  unfold chgV
  have HA : Hid (Blk (w.alloc (.cells #[.int .i64 kd, .string s, .string t, .int .i64 fi] 89)) w.heap.size #[.int .i64 kd, .string s, .string t, .int .i64 fi] 89 ∧ w.grownBy (w.alloc (.cells #[.int .i64 kd, .string s, .string t, .int .i64 fi] 89)) none) := hid_mk ⟨heap_alloc_new _ _, World.grownBy_alloc _ _ _⟩
  go_enter Try.func63, Try.ntmps63
  go_upto_region 1 with fail
  generalize (w.alloc (.cells #[.int .i64 kd, .string s, .string t, .int .i64 fi] 89)) = w0 at *
  have HC : ∀ W1, w0.grownBy W1 none → W1.cell? ⟨w.heap.size, 0, none⟩ = some (.int .i64 kd) ∧ W1.cell? ⟨w.heap.size, 1, none⟩ = some (.string s) ∧ W1.cell? ⟨w.heap.size, 2, none⟩ = some (.string t) ∧ W1.cell? ⟨w.heap.size, 3, none⟩ = some (.int .i64 fi) := fun W1 hW => by
    have hb := HA.out.1.kept hW (by simp)
    exact ⟨by rw [hb.cell]; rfl, by rw [hb.cell]; rfl, by rw [hb.cell]; rfl, by rw [hb.cell]; rfl⟩
  obtain ⟨c0, c1, c2, c3⟩ := HC w0 (grown_refl _ _)
  by_cases h0 : kd = 0
  · subst h0
    have HE := hid_mk (show rdone dir ⟨0, s, t, fi⟩ = rwith dir (s, fi) from rfl)
    go_wp2_with fail
    refine (with_any _ dir s fi w0 (HN.out.kept HA.out.2) (by omega)).mono ?_
    rintro e w1 ⟨v1, rfl, ho, hg⟩
    have H1 := hid_mk (And.intro ho hg)
    clear ho hg
    go_wp2_with fail
    go_ret
    refine ⟨_, rfl, ?_, grown_trans HA.out.2 H1.out.2⟩
    rw [HE.out]
    exact row_base H1.out.1 HA.out.2.size
  · have h0I : ((kd : Int) == 0) = false := by simp [h0]
    by_cases h1 : kd = 1
    · subst h1
      have HE := hid_mk (show rdone dir ⟨1, s, t, fi⟩ = rwith (rwithout (rwithout dir s) t) (t, fi) from rfl)
      go_wp2_with fail
      refine wp_region_mix [(0, true), (1, true), (2, true), (4, true), (5, true), (7, true), (8, true), (9, true), (10, true), (11, true), (3, false), (6, false), (12, false), (13, true)] (at0 w0 (fun W0 => w0.grownBy W0 none)) (by kernel_rfl) (by kernel_rfl) rfl (by kernel_rfl) (shut_at0 (fun m => grown_drewN _ m none)) ⟨1, rfl⟩ ?_
      clear c0 c1 c2 c3
      repeat (first
        | (refine mix_rd1 rfl rfl (fun K hK => ?_); apply Exists.intro; refine ⟨fun W0 hW => ?_, ?_⟩; (obtain ⟨f0, f1, f2, f3⟩ := HC W0 hW; go_simp; rfl); (go_simp; refine hK _ _ ?_; clear hK K)))
      refine mix_call rfl rfl 70 #[.slice a dir.length cp, .string s] (fun W0 => by go_simp) ?_
      rintro W0 ⟨m1, rfl⟩
      refine (without_any _ dir s (w0.drewN m1) (HN.out.kept (grown_trans HA.out.2 (grown_drewN _ _ none))) (by omega)).mono ?_
      rintro e w1 ⟨v1, rfl, ho1, hg1⟩
      have G1 := hid_mk (grown_trans (grown_drewN w0 m1 none) hg1)
      have H1 := hid_mk ho1.nmr
      obtain ⟨a1, k1, rfl⟩ := ho1.len
      clear ho1 hg1
      refine ⟨_, rfl, at0 w1 (fun W0 => w0.grownBy W0 none), ⟨0, rfl⟩, shut_at0 (fun m => grown_trans G1.out (grown_drewN _ m none)), fun _ h => h, ?_⟩
      refine mix_call rfl rfl 70 #[.slice a1 (rwithout dir s).length k1, .string t] (fun W0 => by go_simp) ?_
      rintro W0 ⟨m2, rfl⟩
      have hl1 := rwithout_len dir s
      refine (without_any _ (rwithout dir s) t (w1.drewN m2) (H1.out.kept (grown_drewN _ _ none)) (by omega)).mono ?_
      rintro e w2 ⟨v2, rfl, ho2, hg2⟩
      have G2 := hid_mk (grown_trans G1.out (grown_trans (grown_drewN w1 m2 none) hg2))
      have H2 := hid_mk ho2.nmr
      obtain ⟨a2, k2, rfl⟩ := ho2.len
      clear ho2 hg2
      refine ⟨_, rfl, at0 w2 (fun W0 => w0.grownBy W0 none), ⟨0, rfl⟩, shut_at0 (fun m => grown_trans G2.out (grown_drewN _ m none)), fun _ h => h, ?_⟩
      refine mix_call rfl rfl 69 #[.slice a2 (rwithout (rwithout dir s) t).length k2, .agg #[.string t, .int .i64 fi]] (fun W0 => by go_simp) ?_
      rintro W0 ⟨m3, rfl⟩
      have hl2 := rwithout_len (rwithout dir s) t
      refine (with_any _ _ t fi (w2.drewN m3) (H2.out.kept (grown_drewN _ _ none)) (by omega)).mono ?_
      rintro e w3 ⟨v3, rfl, ho3, hg3⟩
      have G3 := hid_mk (grown_trans G2.out (grown_trans (grown_drewN w2 m3 none) hg3))
      have H3 := hid_mk (row_base ho3 (show w.heap.size ≤ (w2.drewN m3).heap.size from (grown_trans HA.out.2 (grown_trans G2.out (grown_drewN w2 m3 none))).size))
      clear ho3 hg3
      refine ⟨_, rfl, at0 w3 (fun W0 => w0.grownBy W0 none), ⟨0, rfl⟩, shut_at0 (fun m => grown_trans G3.out (grown_drewN _ m none)), fun _ h => h, ?_⟩
      repeat (first
        | (refine mix_rd1 rfl rfl (fun K hK => ?_); apply Exists.intro; refine ⟨fun W0 hW => ?_, ?_⟩; (go_simp; rfl); (go_simp; refine hK _ _ ?_; clear hK K)))
      refine mix_nil ?_
      rintro W0 ⟨m4, rfl⟩
      go_wp2_with fail
      go_ret
      refine ⟨_, rfl, ?_, grown_trans HA.out.2 (grown_trans G3.out (grown_drewN _ _ none))⟩
      rw [HE.out]
      exact NmO.kept H3.out (grown_drewN _ _ none) (noTag_none _ _)
    · have h1I : ((kd : Int) == 1) = false := by simp; omega
      have HE := hid_mk (show rdone dir ⟨kd, s, t, fi⟩ = rwithout dir s by unfold rdone; rw [if_neg h0, if_neg h1])
      go_wp2_with fail
      refine (without_any _ dir s w0 (HN.out.kept HA.out.2) (by omega)).mono ?_
      rintro e w1 ⟨v1, rfl, ho, hg⟩
      have H1 := hid_mk (And.intro ho hg)
      clear ho hg
      go_wp2_with fail
      go_ret
      refine ⟨_, rfl, ?_, grown_trans HA.out.2 H1.out.2⟩
      rw [HE.out]
      exact row_base H1.out.1 HA.out.2.size

end Go.Proofs.Ytopablemfajecaa
