/- first: the frame with which bytes begin. -/
import Derived.Test.YtpikocpbgnhooaaGreatDoorKc
import Derived.Laws.ResultCell
namespace Go.Proofs.YtpikocpbgnhooaaGreatDoor.F
open Go.RowKit Go.Maps
set_option linter.unusedVariables false
set_option linter.unusedSimpArgs false
set_option maxRecDepth 100000

def noFrame : Value := .tuple #[.agg #[.int .i64 0, .slice none 0 0], .int .i64 0]

theorem load45 (w : World) (b : Nat) (c0 c1 : Value) (h0 : w.cell? ⟨b, 0, none⟩ = some c0) (h1 : w.cell? ⟨b, 1, none⟩ = some c1) : (loadVar 62 ⟨b, 0, none⟩).run Tryz.prog w = .ok (.agg #[c0, c1]) w := by
  simp [loadVar, go_sem, h0, h1]
theorem ret28 (tmps : Array Value) (w : World) (b : Nat) (c0 c1 : Value) (hp : tmps.getD 2 undef = .pointer (some ⟨b, 0, none⟩)) (h0 : w.cell? ⟨b, 0, none⟩ = some c0) (h1 : w.cell? ⟨b, 1, none⟩ = some c1) :
    (results Tryz.f86 tmps).run Tryz.prog w = .ok (.tuple #[.agg #[c0, c1], tmps.getD 3 undef]) w := by
  have ha : (asAddr (.pointer (some ⟨b, 0, none⟩))).run Tryz.prog w = .ok ⟨b, 0, none⟩ w := by simp [asAddr]
  rw [results_cell_tmp (p := 2) (u := 3) (ty := 62) rfl, hp, ha]
  simp only [Result.andThen]
  rw [load45 w b c0 c1 h0 h1]
theorem blk45 (w : World) (c0 c1 : Value) : (w.alloc (.cells #[c0, c1] 62)).cell? ⟨w.heap.size, 0, none⟩ = some c0 ∧ (w.alloc (.cells #[c0, c1] 62)).cell? ⟨w.heap.size, 1, none⟩ = some c1 := by
  have := heap_alloc_new w (.cells #[c0, c1] 62)
  constructor <;> rw [cell_of_row _ _ _ _ _ _ this] <;> rfl

set_option maxHeartbeats 1000000 in
theorem first_short (a : Option Addr) (n cap : Nat) (w : World) (hn : n < 9) : Calls Tryz.prog 86 #[.slice a n cap] w fun e w' => e = .returned noFrame ∧ w.grownBy w' none := by
  go_enter Tryz.func86, Tryz.ntmps86
  go_wp2
  obtain ⟨c0, c1⟩ := blk45 w (.int .i64 0) (.slice none 0 0)
  exact bodyPost_ret (ret28 _ _ _ _ _ rfl c0 c1) rfl ⟨rfl, World.grownBy_alloc _ _ _⟩

set_option maxHeartbeats 1000000 in
theorem first_len (v : Value) (l : List UInt8) (w : World) (h : Byt w v l) (hn : 9 ≤ l.length) (hN : 65536 < num4 l ∨ l.length < num4 l + 9) : Calls Tryz.prog 86 #[v] w fun e w' => e = .returned noFrame ∧ w.grownBy w' none := by
  obtain ⟨av, capv, rfl⟩ := h.len
  have HB := hid_mk h
  have hlt := num4_lt l
  have hn' : ¬ ((l.length : Int) < 9) := by omega
  have hz : sizeZ (num4 l : Int) = 0 ∨ (sizeZ (num4 l : Int) = (num4 l : Int) + 9 ∧ (l.length : Int) < (num4 l : Int) + 9) := by
    unfold sizeZ
    by_cases hN1 : 65536 < num4 l
    · left; rw [if_pos (by omega)]
    · right; rw [if_neg (by omega)]; omega
  clear h hN
  have hh := heap_alloc_new w (.cells #[.int .i64 0, .slice none 0 0] 62)
  obtain ⟨c0, c1⟩ := blk45 w (.int .i64 0) (.slice none 0 0)
  have HX := hid_mk (And.intro c0 c1)
  have HG := hid_mk (World.grownBy_alloc w (.cells #[.int .i64 0, .slice none 0 0] 62) none)
  clear hh c0 c1
  rcases hz with hz | ⟨hz, hz2⟩
  · go_enter Tryz.func86, Tryz.ntmps86
    go_wp2_with (first
      | (go_at_call 92; refine (number_any _ l _ (HB.out.kept HG.out) (by omega)).mono ?_; rintro e wx ⟨rfl, rfl⟩)
      | (go_at_call 62; refine (size_any _ _).mono ?_; rintro e wx ⟨rfl, rfl⟩))
    exact bodyPost_ret (ret28 _ _ _ _ _ rfl HX.out.1 HX.out.2) rfl ⟨rfl, HG.out⟩
  · go_enter Tryz.func86, Tryz.ntmps86
    go_wp2_with (first
      | (go_at_call 92; refine (number_any _ l _ (HB.out.kept HG.out) (by omega)).mono ?_; rintro e wx ⟨rfl, rfl⟩)
      | (go_at_call 62; refine (size_any _ _).mono ?_; rintro e wx ⟨rfl, rfl⟩))
    exact bodyPost_ret (ret28 _ _ _ _ _ rfl HX.out.1 HX.out.2) rfl ⟨rfl, HG.out⟩

theorem Own.kept_low {w w' : World} {B r : Nat} {v : Value} {l : List UInt8} (h : Own w B v l) (hg : w.grownBy w' (some r)) (hr : r < B) : Own w' B v l := by
  refine h.kept hg (.inr ?_)
  rcases h.2 with ⟨rfl, _⟩ | ⟨g, cap, cur, rfl, hb, _⟩
  · simp [Value.ownBlock]
  · simp [Value.ownBlock]; omega
theorem grown_drew (w : World) (row : Option Nat) : w.grownBy w.drew row := ⟨rfl, rfl, rfl, Nat.le_refl _, fun _ _ _ => rfl⟩
theorem row45 {W : World} {b : Nat} {x y : Value} (hb : W.heap[b]? = some (.cells #[x, y] 62 (0, 0))) : W.cell? ⟨b, 0, none⟩ = some x ∧ W.cell? ⟨b, 1, none⟩ = some y ∧ W.frozen? ⟨b, 0, none⟩ = false ∧ W.frozen? ⟨b, 1, none⟩ = false := by
  refine ⟨by rw [cell_of_row _ _ _ _ _ _ hb]; rfl, by rw [cell_of_row _ _ _ _ _ _ hb]; rfl, by simp [World.frozen?, hb], by simp [World.frozen?, hb]⟩

theorem set45 {w W : World} {b : Nat} {x y : Value} (hb : W.heap[b]? = some (.cells #[x, y] 62 (0, 0))) (hg : w.grownBy W none) (hbw : w.heap.size ≤ b) (c0 c1 : Value) :
    ((W.setCell ⟨b, 0, none⟩ c0).setCell ⟨b, 1, none⟩ c1).cell? ⟨b, 0, none⟩ = some c0 ∧ ((W.setCell ⟨b, 0, none⟩ c0).setCell ⟨b, 1, none⟩ c1).cell? ⟨b, 1, none⟩ = some c1 ∧ w.grownBy ((W.setCell ⟨b, 0, none⟩ c0).setCell ⟨b, 1, none⟩ c1) none ∧ W.grownBy ((W.setCell ⟨b, 0, none⟩ c0).setCell ⟨b, 1, none⟩ c1) (some b) := by
  have h1 : ((W.setCell ⟨b, 0, none⟩ c0).setCell ⟨b, 1, none⟩ c1).heap[b]? = some (.cells #[c0, c1] 62 (0, 0)) := by
    simp [World.setCell, Array.getElem?_modify, hb]
  refine ⟨by rw [cell_of_row _ _ _ _ _ _ h1]; rfl, by rw [cell_of_row _ _ _ _ _ _ h1]; rfl, ?_, grown_trans (grown_setCell _ _ _ _) (grown_setCell _ _ _ _)⟩
  exact grown_new (grown_new hg (grown_setCell _ _ _ _) hbw) (grown_setCell _ _ _ _) hbw

set_option maxHeartbeats 1000000 in
theorem first_sum (v : Value) (l : List UInt8) (w : World) (h : Byt w v l) (ht : Tab w) (hl : l.length ≤ 140737488355328) (hn : 9 ≤ l.length) (hN : num4 l ≤ 65536) (hN2 : num4 l + 9 ≤ l.length) (hs : num4 (l.drop 4) ≠ (crcB ((l.take (num4 l + 9)).drop 8)).toNat) :
    Calls Tryz.prog 86 #[v] w fun e w' => e = .returned noFrame ∧ w.grownBy w' none := by
  have hlt := num4_lt l
  obtain ⟨S, hS⟩ : ∃ S, S = num4 l + 9 := ⟨_, rfl⟩
  rw [← hS] at hs hN2
  have hn' : ¬ ((l.length : Int) < 9) := by omega
  have hz : sizeZ (num4 l : Int) = (S : Int) := by unfold sizeZ; rw [if_neg (by omega)]; omega
  have hS0 : ((S : Int) == 0) = false := by simp; omega
  have hS1 : ¬ (l.length < S) := by omega
  obtain ⟨a4, c4, e4, y4⟩ := h.l 4 (by omega)
  obtain ⟨a8, c8, e8, y8⟩ := h.lh 8 S (by omega) hN2
  have q4 : ∀ w', (Instr.slice 24 v (some (.int .i64 4)) none none).run Tryz.prog w' = .ok (.slice a4 (l.length - 4) c4) w' := e4
  have q8 : ∀ w', (Instr.slice 24 v (some (.int .i64 8)) (some (.int .i64 S)) none).run Tryz.prog w' = .ok (.slice a8 (S - 8) c8) w' := e8
  have hl8 : ((l.take S).drop 8).length ≤ 140737488355328 := by simp; omega
  have hl4 : 4 ≤ (l.drop 4).length := by simp; omega
  obtain ⟨av, capv, rfl⟩ := h.len
  have hne : ¬ ((num4 (l.drop 4) : Int) = ((crcB ((l.take S).drop 8)).toNat : Int)) := by omega
  have HB := hid_mk h
  have HT := hid_mk ht
  have Y := hid_mk (And.intro y4 (And.intro y8 (And.intro hl4 hl8)))
  obtain ⟨c0, c1⟩ := blk45 w (.int .i64 0) (.slice none 0 0)
  have HX := hid_mk (And.intro c0 c1)
  have HG := hid_mk (World.grownBy_alloc w (.cells #[.int .i64 0, .slice none 0 0] 62) none)
  clear h ht y4 y8 e4 e8 hN hS c0 c1 hs hl4 hl8
  go_enter Tryz.func86, Tryz.ntmps86
  go_wp2_with (first
    | (go_at_call 92; refine (number_any _ l _ (HB.out.kept HG.out) (by omega)).mono ?_; rintro e wx ⟨rfl, rfl⟩)
    | (go_at_call 62; refine (size_any _ _).mono ?_; rintro e wx ⟨rfl, rfl⟩))
  go_quiet ((first
    | (go_at_call 92; exact Calls.quiet_of_same (number_any _ (l.drop 4) _ ((Y.out.1.kept HG.out).kept (grown_drewN _ _ none)) Y.out.2.2.1))
    | (go_at_call 64; exact Calls.quiet_of_same (crc_any _ ((l.take S).drop 8) _ ((Y.out.2.1.kept HG.out).kept (grown_drewN _ _ none)) Y.out.2.2.2 ((HT.out.kept HG.out).kept (grown_drewN _ _ none))))))
  go_wp2
  obtain ⟨s0, s1, s2, _⟩ := set45 (w := w) (W := ((w.alloc (.cells #[.int .i64 0, .slice none 0 0] 62)).drewN nq)) (b := w.heap.size) (heap_alloc_new _ _) (grown_trans HG.out (grown_drewN _ _ none)) (Nat.le_refl _) (.int .i64 0) (.slice none 0 0)
  exact bodyPost_ret (ret28 _ _ _ _ _ rfl s0 s1) rfl ⟨rfl, s2⟩

set_option maxHeartbeats 2000000 in
theorem first_ok (v : Value) (l : List UInt8) (w : World) (h : Byt w v l) (ht : Tab w) (hl : l.length ≤ 140737488355328) (hn : 9 ≤ l.length) (hN : num4 l ≤ 65536) (hN2 : num4 l + 9 ≤ l.length) (hs : num4 (l.drop 4) = (crcB ((l.take (num4 l + 9)).drop 8)).toNat) :
    Calls Tryz.prog 86 #[v] w fun e w' => ∃ dv, e = .returned (.tuple #[.agg #[.int .i64 (l.getD 8 0).toNat, dv], .int .i64 ((num4 l + 9 : Nat) : Int)]) ∧ Own w' w.heap.size dv ((l.take (num4 l + 9)).drop 9) ∧ w.grownBy w' none := by
  have hlt := num4_lt l
  obtain ⟨S, hS⟩ : ∃ S, S = num4 l + 9 := ⟨_, rfl⟩
  rw [← hS] at hs hN2 ⊢
  have hn' : ¬ ((l.length : Int) < 9) := by omega
  have hz : sizeZ (num4 l : Int) = (S : Int) := by unfold sizeZ; rw [if_neg (by omega)]; omega
  have hS0 : ((S : Int) == 0) = false := by simp; omega
  have hS1 : ¬ (l.length < S) := by omega
  obtain ⟨a4, c4, e4, y4⟩ := h.l 4 (by omega)
  obtain ⟨a8, c8, e8, y8⟩ := h.lh 8 S (by omega) hN2
  obtain ⟨a9, c9, e9, y9⟩ := h.lh 9 S (by omega) hN2
  have q4 : ∀ w', (Instr.slice 24 v (some (.int .i64 4)) none none).run Tryz.prog w' = .ok (.slice a4 (l.length - 4) c4) w' := e4
  have q8 : ∀ w', (Instr.slice 24 v (some (.int .i64 8)) (some (.int .i64 S)) none).run Tryz.prog w' = .ok (.slice a8 (S - 8) c8) w' := e8
  have q9 : ∀ w', (Instr.slice 24 v (some (.int .i64 9)) (some (.int .i64 S)) none).run Tryz.prog w' = .ok (.slice a9 (S - 9) c9) w' := e9
  have hl8 : ((l.take S).drop 8).length ≤ 140737488355328 := by simp; omega
  have hl9 : ((l.take S).drop 9).length ≤ 140737488355328 := by simp; omega
  have hl4 : 4 ≤ (l.drop 4).length := by simp; omega
  have hne : (num4 (l.drop 4) : Int) = ((crcB ((l.take S).drop 8)).toNat : Int) := by omega
  obtain ⟨b, off, capv, rfl, hcv, hcc⟩ := h.at (by omega)
  have hk : l[8]? = some (l.getD 8 0) := by rw [List.getD_eq_getElem?_getD, List.getElem?_eq_getElem (by omega)]; rfl
  have hb8 := Byt.kept h (World.grownBy_alloc w (.cells #[.int .i64 0, .slice none 0 0] 62) none)
  have H8 : Hid (∀ nq, ((w.alloc (.cells #[.int .i64 0, .slice none 0 0] 62)).drewN nq).cell? ⟨b, off + 8, none⟩ = some (.int .u8 (l.getD 8 0).toNat)) := hid_mk fun nq =>
    (World.grownBy.cell (grown_trans (World.grownBy_alloc w (.cells #[.int .i64 0, .slice none 0 0] 62) none) (grown_drewN _ nq none)) (hcc 8 _ hk) (by simp))
  have hku := (l.getD 8 0).toNat_lt
  generalize l.getD 8 0 = k at *
  have hwr : IntKind.i64.wrap (k.toNat : Int) = (k.toNat : Int) := by rw [IntKind.wrap_i64]; omega
  have HB := hid_mk h
  have HT := hid_mk ht
  have Y := hid_mk (And.intro y4 (And.intro y8 (And.intro hl4 hl8)))
  have Y9 := hid_mk (And.intro y9 hl9)
  have HG := hid_mk (World.grownBy_alloc w (.cells #[.int .i64 0, .slice none 0 0] 62) none)
  clear h ht y4 y8 e4 e8 y9 e9 hN hS hs hl4 hl8 hl9 hcc hk hb8
  go_enter Tryz.func86, Tryz.ntmps86
  go_wp2_with (first
    | (go_at_call 92; refine (number_any _ l _ (HB.out.kept HG.out) (by omega)).mono ?_; rintro e wx ⟨rfl, rfl⟩)
    | (go_at_call 62; refine (size_any _ _).mono ?_; rintro e wx ⟨rfl, rfl⟩))
  go_quiet ((first
    | (go_at_call 92; exact Calls.quiet_of_same (number_any _ (l.drop 4) _ ((Y.out.1.kept HG.out).kept (grown_drewN _ _ none)) Y.out.2.2.1))
    | (go_at_call 64; exact Calls.quiet_of_same (crc_any _ ((l.take S).drop 8) _ ((Y.out.2.1.kept HG.out).kept (grown_drewN _ _ none)) Y.out.2.2.2 ((HT.out.kept HG.out).kept (grown_drewN _ _ none))))))
  have h8 := H8.out nq
  have hA : Hid (((w.alloc (.cells #[.int .i64 0, .slice none 0 0] 62)).drewN nq).heap[w.heap.size]? = some (.cells #[.int .i64 0, .slice none 0 0] 62 (0, 0))) := hid_mk (heap_alloc_new _ _)
  have hAg := hid_mk (grown_trans HG.out (grown_drewN _ nq none))
  generalize (w.alloc (.cells #[.int .i64 0, .slice none 0 0] 62)).drewN nq = W at *
  go_wp2
  go_region_with (go_at_call 61; refine (clone_any _ ((l.take S).drop 9) _ (Y9.out.1.kept (grown_trans hAg.out (grown_drew W none))) Y9.out.2).mono ?_; rintro e w1 ⟨dv, rfl, ho1, hg1⟩; obtain ⟨ad, cd, rfl⟩ := ho1.len; have H1 := hid_mk (And.intro ho1 (And.intro (grown_trans (grown_drew W none) hg1) ((hg1.block w.heap.size (Array.getElem?_eq_some_iff.1 hA.out).1 (by simp)).trans hA.out))); have h8' := (grown_trans (grown_drew W none) hg1).cell h8 (by simp); obtain ⟨r0, r1, r2, r3⟩ := row45 H1.out.2.2; clear ho1 hg1)
  all_goals go_wp2
  all_goals
    obtain ⟨s0, s1, s2, s3⟩ := set45 (w := w) (W := w1) (b := w.heap.size) H1.out.2.2 (grown_trans hAg.out H1.out.2.1) (Nat.le_refl _) (.int .i64 k.toNat) (.slice ad (S - 9) cd)
    have hlo : w.heap.size < W.drew.heap.size := (Array.getElem?_eq_some_iff.1 hA.out).1
    have o1 := (H1.out.1.kept_low s3 hlo).base (Nat.le_of_lt hlo)
    have hl9 : (List.drop 9 (List.take S l)).length = S - 9 := by simp; omega
    rw [hl9] at o1
    exact bodyPost_ret (ret28 _ _ _ _ _ rfl s0 s1) rfl ⟨.slice ad (S - 9) cd, rfl, o1, s2⟩

/-- first: at every row of bytes. -/
def FirstPost (l : List UInt8) (w : World) (e : Ending) (w' : World) : Prop :=
  w.grownBy w' none ∧ ((firstB l = none ∧ e = .returned noFrame) ∨ ∃ k d dv, firstB l = some (k, d) ∧ e = .returned (.tuple #[.agg #[.int .i64 (UInt8.toNat k), dv], .int .i64 ((d.length + 9 : Nat) : Int)]) ∧ Own w' w.heap.size dv d)
theorem first_any (v : Value) (l : List UInt8) (w : World) (h : Byt w v l) (ht : Tab w) (hl : l.length ≤ 140737488355328) : Calls Tryz.prog 86 #[v] w (FirstPost l w) := by
  have none_of : ¬ firstOk l → firstB l = none := fun hn => by unfold firstB; rw [if_neg hn]
  by_cases h9 : 9 ≤ l.length
  · by_cases hN : num4 l ≤ 65536 ∧ num4 l + 9 ≤ l.length
    · by_cases hs : num4 (l.drop 4) = (crcB ((l.take (num4 l + 9)).drop 8)).toNat
      · refine (first_ok v l w h ht hl h9 hN.1 hN.2 hs).mono ?_
        rintro e w' ⟨dv, rfl, ho, hg⟩
        have hd : ((l.take (num4 l + 9)).drop 9).length = num4 l := by simp; omega
        exact ⟨hg, .inr ⟨_, _, dv, by unfold firstB; rw [if_pos ⟨h9, hN.1, hN.2, hs⟩], by rw [hd], ho⟩⟩
      · refine (first_sum v l w h ht hl h9 hN.1 hN.2 hs).mono ?_
        rintro e w' ⟨rfl, hg⟩
        exact ⟨hg, .inl ⟨none_of (fun hk => hs hk.2.2.2), rfl⟩⟩
    · refine (first_len v l w h h9 (by omega)).mono ?_
      rintro e w' ⟨rfl, hg⟩
      exact ⟨hg, .inl ⟨none_of (fun hk => hN ⟨hk.2.1, hk.2.2.1⟩), rfl⟩⟩
  · obtain ⟨a, cap, rfl⟩ := h.len
    refine (first_short a l.length cap w (by omega)).mono ?_
    rintro e w' ⟨rfl, hg⟩
    exact ⟨hg, .inl ⟨none_of (fun hk => h9 hk.1), rfl⟩⟩

end Go.Proofs.YtpikocpbgnhooaaGreatDoor.F
