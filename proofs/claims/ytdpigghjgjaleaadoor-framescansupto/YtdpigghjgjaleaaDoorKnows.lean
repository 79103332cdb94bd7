/- knows. -/
import Derived.Test.YtdpigghjgjaleaaDoorScanB
namespace Go.Proofs.YtdpigghjgjaleaaDoor
open Go.RowKit Go.Maps
set_option linter.unusedVariables false
set_option linter.unusedSimpArgs false

theorem cellsOf_get (s : List Fr) : ∀ (i : Nat) (f : Fr), s[i]? = some f → (cellsOf s)[2 * i]? = some (.int .i64 f.k.toNat) ∧ (cellsOf s)[2 * i + 1]? = some f.dv := by
  induction s with
  | nil => intro i f h; simp at h
  | cons g s ih =>
    intro i f h
    match i with
    | 0 => simp at h; subst h; simp [cellsOf]
    | i + 1 =>
      have := ih i f (by simpa using h)
      have e : cellsOf (g :: s) = .int .i64 g.k.toNat :: g.dv :: cellsOf s := by simp [cellsOf]
      rw [e, show 2 * (i + 1) = 2 * i + 1 + 1 by omega]
      simpa using this

theorem Row.at {W : World} {n₀ : Nat} {lv : Value} {s : List Fr} (h : Row W n₀ lv s) (h0 : 0 < s.length) : ∃ gr cap, lv = .slice (some ⟨gr, 0, none⟩) s.length cap ∧ s.length ≤ cap ∧
    ∀ (i : Nat) (f : Fr), s[i]? = some f → W.cell? ⟨gr, 2 * i, none⟩ = some (.int .i64 f.k.toNat) ∧ W.cell? ⟨gr, 2 * i + 1, none⟩ = some f.dv := by
  rcases h.1.2 with ⟨_, h0'⟩ | ⟨g, cap, cur, hv, hb, hg, h1, h2, h3, h4⟩
  · omega
  · refine ⟨g, cap, hv, h1, fun i f hf => ?_⟩
    have hi : i < s.length := (List.getElem?_eq_some_iff.1 hf).1
    obtain ⟨a, b⟩ := cellsOf_get s i f hf
    rw [← h4, List.getElem?_take, if_pos (by omega)] at a b
    rw [cell_of_row _ _ _ _ _ _ hg, cell_of_row _ _ _ _ _ _ hg]
    exact ⟨by simpa using a, by simpa using b⟩

theorem told_row (fs : List (UInt8 × List UInt8)) (hf : ∀ f ∈ fs, f.2.length ≤ 65536) {s : List Fr} (h : Told (rowB fs) s) : s.map Fr.pr = fs ∧ endOf s = (rowB fs).length := by
  unfold Told at h
  rw [scanB_row_all fs hf] at h
  simp only [Prod.mk.injEq] at h
  exact ⟨h.1.symm, h.2.symm⟩
theorem rowB_one (k : UInt8) (d : List UInt8) : rowB [(k, d)] = putB k d := by simp [rowB]

set_option maxHeartbeats 2000000 in
theorem knows_any (w : World) (ht : Tab w) : Calls Tryd.prog 13 #[] w fun e w' => e = .returned (.bool true) ∧ w.grownBy w' none := by
  have HT := hid_mk ht
  clear ht
  go_enter Tryd.func13, Tryd.ntmps13
  go_wp2_with fail
  refine (put_ok 1 (.slice none 0 0) [] w (by decide) (by decide) (Byt.nil w) (by decide) HT.out).mono ?_
  rintro e w1 ⟨g, rfl, hb1, hg1, hgr1⟩
  have hb1' : BlkB w1 g (putB 1 []) := hb1
  have hlen : (putB 1 []).length = 9 := by rw [putB_len]; rfl
  have hby := hb1'.byt
  rw [hlen] at hby
  have H1 := hid_mk (And.intro hgr1 (And.intro hby hb1'))
  clear hb1 hb1' hgr1 hg1 hby
  simp only [List.length_nil, Nat.zero_add]
  go_wp2_with fail
  refine (scan_any (.slice (some ⟨g, 0, none⟩) 9 9) (putB 1 []) w1 H1.out.2.1 (HT.out.kept H1.out.1) (by rw [hlen]; decide)).mono ?_
  rintro e w2 ⟨s, lv, hT, rfl, hrow, hg2⟩
  rw [← rowB_one] at hT
  obtain ⟨hs, he⟩ := told_row [(1, [])] (by simp) hT
  rw [rowB_one, hlen] at he
  obtain ⟨f, rfl⟩ : ∃ f, s = [f] := by
    have := congrArg List.length hs
    exact List.length_eq_one_iff.1 (by simpa using this)
  have hfk : f.k = 1 := by simp [Fr.pr] at hs; exact hs.1
  obtain ⟨gr, cap, rfl, hcap, hc⟩ := hrow.at (by simp)
  have c0 : w2.cell? ⟨gr, 0, none⟩ = some (.int .i64 1) := by have := (hc 0 f rfl).1; rw [hfk] at this; exact this
  have c8 : w2.cell? ⟨g, 8, none⟩ = some (.int .u8 1) := hg2.cell (H1.out.2.2.cell 8 1 (by rfl)) (by simp)
  rw [he, hlen]
  have H2 := hid_mk (And.intro hg2 hrow)
  clear hc hrow hg2 hT hs he
  simp only [List.length_cons, List.length_nil, Nat.zero_add]
  have hcrc : ((crcB []).toNat : Int) = 0 := by decide
  go_wp2_with (first
    | (go_at_call 16; refine (num_any _ _).mono ?_; rintro e wx ⟨rfl, rfl⟩)
    | (go_at_call 10; refine (crc_any _ [] _ (Byt.nil _) (by simp) ((HT.out.kept H1.out.1).kept H2.out.1)).mono ?_; rintro e wy ⟨rfl, rfl⟩))
  go_ret
  exact ⟨rfl, grown_trans H1.out.1 H2.out.1⟩

end Go.Proofs.YtdpigghjgjaleaaDoor
