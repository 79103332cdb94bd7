/- VdiskNil: the walk. -/
import Derived.Test.YtopablemfajecaaKnows
namespace Go.Proofs.Ytopablemfajecaa
open Go.RowKit Go.Maps Go.WideMaps Go.WideElems
set_option linter.unusedVariables false
set_option linter.unusedSimpArgs false

theorem new_zero (w : World) : (w.alloc (.cells #[.int .i64 0, .bool false, .int .i64 0, .map none, .map none, .slice none 0 0] 54)).cell? ⟨w.heap.size, 3, none⟩ = some (.map none) := by
  have h : Blk (w.alloc (.cells #[.int .i64 0, .bool false, .int .i64 0, .map none, .map none, .slice none 0 0] 54)) w.heap.size _ 54 := heap_alloc_new w _
  rw [h.cell 3]
  rfl

set_option maxRecDepth 100000 in
set_option maxHeartbeats 4000000 in
theorem nil_any (kd n : Int) (s t : ByteArray) (a1 a2 : Option Addr) (l1 c1 l2 c2 : Nat) (w : World) (ht : t.size ≤ maxLen) :
    Calls Try.prog 4 #[.agg #[.int .i64 kd, .string s, .string t, .slice a1 l1 c1, .int .i64 n, .slice a2 l2 c2]] w fun e w' => e = .returned (.bool true) ∧ w.grownBy w' none := by
  have hb0 : Blk (w.alloc (.cells #[.int .i64 kd, .string s, .string t, .slice a1 l1 c1, .int .i64 n, .slice a2 l2 c2] 35)) w.heap.size #[.int .i64 kd, .string s, .string t, .slice a1 l1 c1, .int .i64 n, .slice a2 l2 c2] 35 := heap_alloc_new w _
  have HB0 := hid_mk hb0
  clear hb0
  go_enter Try.func4, Try.ntmps4
  go_wp2_with fail
  go_loopw [3, 4] (fun d i wr => Hid (∃ k : Nat, k ≤ 2 ∧ i = .int .i64 k ∧ ((k = 0 ∧ d = .pointer none) ∨ (1 ≤ k ∧ ∃ zb, d = .pointer (some ⟨zb, 0, none⟩) ∧ wr.cell? ⟨zb, 3, none⟩ = some (.map none))) ∧ Hid (Blk wr w.heap.size #[.int .i64 kd, .string s, .string t, .slice a1 l1 c1, .int .i64 n, .slice a2 l2 c2] 35 ∧ w.grownBy wr none))) (fun _ i _ => 2 - (intOf i).toNat)
  case atStart => exact ⟨0, by omega, rfl, .inl ⟨rfl, rfl⟩, HB0.out, World.grownBy_alloc _ _ _⟩
  case round =>
    obtain ⟨k, hk, rfl, hd, HW⟩ := hrel.out
    clear hrel
    have hb := HW.out.1
    have o1 := hb.cell 1
    have o2 := hb.cell 2
    have o3 := hb.cell 3
    have o4 := hb.cell 4
    have o5 := hb.cell 5
    simp at o1 o2 o3 o4 o5
    rcases hd with ⟨rfl, rfl⟩ | ⟨h1, zb, rfl, hz⟩
    · go_wp2_with (first
            | (go_at_call 14; refine (read_nil s _).mono ?_; rintro e wn ⟨rfl, rfl⟩)
            | (go_at_call 15; refine (cut_nil n _).mono ?_; rintro e wn ⟨rfl, rfl⟩)
            | (go_at_call 16; refine (crash_nil (.slice a2 l2 c2) _).mono ?_; rintro e wn ⟨rfl, rfl⟩)
            | (go_at_call 17; refine (list_nil _).mono ?_; rintro e wn ⟨rfl, rfl⟩)
            | (go_at_call 18; refine (used_nil _).mono ?_; rintro e wn ⟨rfl, rfl⟩)
            | (go_at_call 19; refine (down_nil _).mono ?_; rintro e wn ⟨rfl, rfl⟩)
            | (go_at_call 11; refine (num_any _ _).mono ?_; rintro e wn ⟨rfl, rfl⟩)
            | (go_at_call 20; refine (create_nil s _).mono ?_; rintro e w2 ⟨rfl, hg2⟩; have hb2 := hb.kept hg2 (by simp); have p1 := hb2.cell 1; have p2 := hb2.cell 2; have p3 := hb2.cell 3; simp at p1 p2 p3; have HG2 := hid_mk hg2; clear hg2)
            | (go_at_call 21; refine (append_nil s (.slice a1 l1 c1) _).mono ?_; rintro e wn ⟨rfl, rfl⟩)
            | (go_at_call 22; refine (sync_nil s _).mono ?_; rintro e wn ⟨rfl, rfl⟩)
            | (go_at_call 23; refine (syncdir_nil _).mono ?_; rintro e wn ⟨rfl, rfl⟩)
            | (go_at_call 24; refine (rename_nil s t _ ht).mono ?_; rintro e w3 ⟨rfl, hg3⟩; have hb3 := hb2.kept hg3 (by simp); have q1 := hb3.cell 1; simp at q1; have HG3 := hid_mk hg3; clear hg3)
            | (go_at_call 25; refine (remove_nil s _).mono ?_; rintro e w4 ⟨rfl, hg4⟩; have HG4 := hid_mk hg4; clear hg4))
      go_roundw
      case rel =>
        refine ⟨1, by omega, by go_num, .inr ⟨by omega, _, rfl, ?_⟩, ?_, ?_⟩
        · exact new_zero _
        · exact (hb3.kept HG4.out (by simp)).kept (World.grownBy_alloc _ _ none) (by simp)
        · exact grown_trans (grown_trans (grown_trans (grown_trans HW.out.2 HG2.out) HG3.out) HG4.out) (World.grownBy_alloc _ _ none)
      case measure => simp [intOf]
    · by_cases hk1 : k = 1
      · subst hk1
        go_wp2_with (first
            | (go_at_call 14; refine (read_zero zb s _ hz).mono ?_; rintro e wn ⟨rfl, rfl⟩)
            | (go_at_call 15; refine (cut_zero zb n _ hz).mono ?_; rintro e wn ⟨rfl, rfl⟩)
            | (go_at_call 16; refine (crash_zero zb (.slice a2 l2 c2) _ hz).mono ?_; rintro e wn ⟨rfl, rfl⟩)
            | (go_at_call 17; refine (list_zero zb _ hz).mono ?_; rintro e wn ⟨rfl, rfl⟩)
            | (go_at_call 18; refine (used_zero zb _ hz).mono ?_; rintro e wn ⟨rfl, rfl⟩)
            | (go_at_call 19; refine (down_zero zb _ hz).mono ?_; rintro e wn ⟨rfl, rfl⟩)
            | (go_at_call 11; refine (num_any _ _).mono ?_; rintro e wn ⟨rfl, rfl⟩)
            | (go_at_call 20; refine (create_zero zb s _ hz).mono ?_; rintro e w2 ⟨rfl, hg2⟩; have hb2 := hb.kept hg2 (by simp); have hz2 := hg2.cell hz (by simp); have p1 := hb2.cell 1; have p2 := hb2.cell 2; have p3 := hb2.cell 3; simp at p1 p2 p3; have HG2 := hid_mk hg2; clear hg2)
            | (go_at_call 21; refine (append_zero zb s (.slice a1 l1 c1) _ hz2).mono ?_; rintro e wn ⟨rfl, rfl⟩)
            | (go_at_call 22; refine (sync_zero zb s _ hz2).mono ?_; rintro e wn ⟨rfl, rfl⟩)
            | (go_at_call 23; refine (syncdir_zero zb _ hz2).mono ?_; rintro e wn ⟨rfl, rfl⟩)
            | (go_at_call 24; refine (rename_zero zb s t _ hz2 ht).mono ?_; rintro e w3 ⟨rfl, hg3⟩; have hb3 := hb2.kept hg3 (by simp); have hz3 := hg3.cell hz2 (by simp); have q1 := hb3.cell 1; simp at q1; have HG3 := hid_mk hg3; clear hg3)
            | (go_at_call 25; refine (remove_zero zb s _ hz3).mono ?_; rintro e w4 ⟨rfl, hg4⟩; have HG4 := hid_mk hg4; clear hg4))
        go_roundw
        case rel =>
          refine ⟨2, by omega, by go_num, .inr ⟨by omega, _, rfl, ?_⟩, ?_, ?_⟩
          · exact new_zero _
          · exact (hb3.kept HG4.out (by simp)).kept (World.grownBy_alloc _ _ none) (by simp)
          · exact grown_trans (grown_trans (grown_trans (grown_trans HW.out.2 HG2.out) HG3.out) HG4.out) (World.grownBy_alloc _ _ none)
        case measure => simp [intOf]
      · have hk2 : k = 2 := by omega
        subst hk2
        go_wp2_with (go_at_call 12; refine (knows_any _).mono ?_; rintro e w5 ⟨rfl, hg5⟩)
        go_ret
        exact ⟨rfl, grown_trans HW.out.2 hg5⟩

end Go.Proofs.Ytopablemfajecaa
