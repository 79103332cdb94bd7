/- client: New. -/
import Derived.Test.YtgebhomiehadmaaCfC
namespace Go.Proofs.Ytgebhomiehadmaa
open Go.RowKit Go.Maps
set_option linter.unusedVariables false
set_option linter.unusedSimpArgs false
set_option maxRecDepth 100000

set_option maxHeartbeats 1000000 in
theorem cloneI_any (v : Value) (l : List Int) (w : World) (h : IntsR w v l) (hl : l.length ≤ 17592186044416) : Calls Try.prog 27 #[v] w fun e w' => ∃ v', e = .returned v' ∧ OwnI w' w.heap.size v' l ∧ w.grownBy w' none := by
  obtain ⟨av, capv, rfl⟩ := h.len
  cases av with
  | none =>
    obtain ⟨rfl, rfl⟩ : l = [] ∧ capv = 0 := by
      rcases h with ⟨rfl, a', cap', e, hn⟩ | ⟨b, off, cap', e, _⟩
      · cases e; exact ⟨rfl, hn rfl⟩
      · cases e
    have hq := fun w => Lib.run_eql_slice_nil (P := Try.prog) w 22 3 none 0 0 0 0 Try.underlying22
    clear h
    go_enter Try.func27, Try.ntmps27
    go_wp2
    go_ret
    exact ⟨_, rfl, World.ownsRow_nil _ _ _ _, grown_refl _ _⟩
  | some a =>
    have hq := fun w => Lib.run_eql_slice_nil (P := Try.prog) w 22 3 (some a) l.length capv 0 0 Try.underlying22
    have HB := hid_mk h
    clear h
    go_enter Try.func27, Try.ntmps27
    go_wp2_with (at_builtin; refine wp_copyi (grown_refl w none) HB.out hl rfl (.tmp 5) (.tmp 6) rfl rfl rfl ?_; intro a1 c1 w1 O1)
    go_ret
    exact ⟨_, rfl, O1.out.1, O1.out.2⟩
/-- May a client be so? -/
def newB (id pa : Int) (sv : List Int) : Bool := (decide (1 ≤ id) && decide (id ≤ 1000)) && (rtB sv && (decide (1 ≤ pa) && decide (pa ≤ 1000)))
def newV (vs : Value) : CV := ⟨vs, .slice none 0 0, .slice none 0 0, .slice none 0 0, [], []⟩
theorem new_ft {b : Nat} {vs : Value} {k : Nat} (h : FtC b (newV vs) k) : k = b ∨ vs.ownBlock = some k := by
  rcases h with (h | h) | h | h | (h | ⟨p, hp, _⟩) | ⟨p, hp, _⟩
  · exact .inl h
  · cases h
  · exact .inr h
  · cases h
  · cases h
  · cases hp
  · cases hp
set_option maxHeartbeats 1000000 in
theorem new_any (id pa : Int) (v : Value) (l : List Int) (w : World) (h : IntsR w v l) (hl : l.length ≤ 17592186044416) : Calls Try.prog 9 #[.int .i64 id, v, .int .i64 pa] w fun e w' => (newB id pa l = false ∧ e = .returned (.tuple #[.pointer none, .int .i64 1]) ∧ w.grownBy w' none) ∨
    (newB id pa l = true ∧ ∃ b vs, e = .returned (.tuple #[.pointer (some ⟨b, 0, none⟩), .int .i64 0]) ∧ IsC w' w.heap.size b (newV vs) (newC id pa l) ∧ w.grownBy w' none) := by
  have HW := hid_mk (fun (n a b : Int) (W : World) => within_any n a b W)
  have HR := hid_mk (fun (W : World) (hW : w.grownBy W none) => right_any v l W hl (h.kept hW))
  have HI := hid_mk h
  obtain ⟨va, vc, hv⟩ := h.len
  subst hv
  clear h
  unfold newB
  cases h1 : (decide (1 ≤ id) && decide (id ≤ 1000))
  · have H1 := hid_mk h1
    clear h1
    go_enter Try.func9, Try.ntmps9
    go_wp2_with (first | (go_at_call 25; refine (HW.out _ _ _ _).mono ?_; rintro e w' ⟨rfl, hw⟩; rw [hw]; clear hw; rw [H1.out]))
    go_ret2
    exact .inl ⟨rfl, rfl, grown_refl _ _⟩
  · have H1 := hid_mk h1
    have hid := h1
    clear h1
    cases h2 : rtB l
    · have HB := hid_mk h2
      clear h2 hid
      go_enter Try.func9, Try.ntmps9
      go_wp2_with (first | (go_at_call 25; refine (HW.out _ _ _ _).mono ?_; rintro e w' ⟨rfl, hw⟩; rw [hw]; clear hw; rw [H1.out]) | (go_at_call 26; refine (HR.out _ (grown_refl _ _)).mono ?_; rintro e w2 ⟨rfl, hg⟩; have H2 := hid_mk hg; clear hg; rw [HB.out]))
      go_ret2
      exact .inl ⟨rfl, rfl, H2.out⟩
    · have HB := hid_mk h2
      have hrt := h2
      clear h2
      cases h3 : (decide (1 ≤ pa) && decide (pa ≤ 1000))
      · have H3 := hid_mk h3
        clear h3 hid hrt
        go_enter Try.func9, Try.ntmps9
        go_wp2_with (first | (go_at_call 25; refine (HW.out _ _ _ _).mono ?_; rintro e w' ⟨rfl, hw⟩; rw [hw]; clear hw; first | rw [H1.out] | rw [H3.out]) | (go_at_call 26; refine (HR.out _ (grown_refl _ _)).mono ?_; rintro e w2 ⟨rfl, hg⟩; have H2 := hid_mk hg; clear hg; rw [HB.out]))
        go_ret2
        exact .inl ⟨rfl, rfl, H2.out⟩
      · have H3 := hid_mk h3
        simp only [Bool.and_eq_true, decide_eq_true_eq] at hid h3
        have HO := hid_mk (okC_new hid.1 hid.2 h3.1 h3.2 (rtB_iff.1 hrt).1 (rtB_iff.1 hrt).2.1)
        clear h3 hid hrt
        go_enter Try.func9, Try.ntmps9
        go_wp2_with (first | (go_at_call 25; refine (HW.out _ _ _ _).mono ?_; rintro e w' ⟨rfl, hw⟩; rw [hw]; clear hw; first | rw [H1.out] | rw [H3.out]) | (go_at_call 26; refine (HR.out _ (grown_refl _ _)).mono ?_; rintro e w2 ⟨rfl, hg⟩; have H2 := hid_mk hg; clear hg; rw [HB.out]) | (go_at_call 27; refine (cloneI_any _ l _ (HI.out.kept H2.out) hl).mono ?_; rintro e w3 ⟨vs, rfl, ho, hg⟩; have H4 := hid_mk (And.intro ho (And.intro (grown_trans H2.out hg) H2.out.size)); obtain ⟨sa, sc, hsc⟩ := ho.len; subst hsc; clear ho hg))
        go_ret2
        have gA := World.grownBy_alloc w3 (.cells (cliL (newC id pa l) (newV (.slice sa l.length sc))).toArray 58) none
        refine .inr ⟨rfl, w3.heap.size, .slice sa l.length sc, rfl, ⟨blk_alloc w3 _ _, owns_low (H4.out.1.kept gA) H4.out.2.2, World.ownsRow_nil _ _ _ _, World.ownsRow_nil _ _ _ _, BtK.nil _ _, OwnRec.nil _ _, rfl, rfl, H4.out.2.1.size, HO.out⟩, grown_trans H4.out.2.1 gA⟩
end Go.Proofs.Ytgebhomiehadmaa
