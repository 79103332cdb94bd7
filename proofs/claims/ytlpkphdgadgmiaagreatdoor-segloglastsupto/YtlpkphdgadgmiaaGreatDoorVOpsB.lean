import Derived.Test.YtlpkphdgadgmiaaGreatDoorVOps
namespace Go.Proofs.YtlpkphdgadgmiaaGreatDoor.V
set_option maxRecDepth 100000
open Go.RowKit Go.Maps Go.WideMaps Go.WideElems
set_option linter.unusedVariables false
set_option linter.unusedSimpArgs false

theorem fresh_any (w : World) : Calls Tryz.prog 57 #[] w fun e w' => e = .returned (.agg #[.int .i64 (-1), .bool false]) ∧ w.grownBy w' none := by
  go_enter Tryz.func57, Tryz.ntmps57
  go_wp2
  exact bodyPost_ret (v := .agg #[.int .i64 (-1), .bool false]) (by simp [results, Tryz.results57, go_sem]) rfl ⟨rfl, World.grownBy_alloc _ _ _⟩

theorem new_ok (q : Int) (w : World) (h1 : 1 ≤ q) (h2 : q ≤ 1048576) : Calls Tryz.prog 42 #[.int .i64 q] w fun e w' => ∃ b bn bs, e = .returned (.tuple #[.pointer (some ⟨b, 0, none⟩), .int .i64 0]) ∧
    IsDisk w' (fun k => w.heap.size ≤ k) 0 b { fuse := -1, gone := false, quota := q, bn := bn, bs := bs, names := .map [], synced := .map [], chv := .slice none 0 0, chs := [], files := fun _ => none } ∧ w.grownBy w' none := by
  have hmm := @run_makeMap Tryz.prog
  have h1' : ¬ q < 1 := by omega
  have h2' : ¬ q > 1048576 := by omega
  go_enter Tryz.func42, Tryz.ntmps42
  go_wp2_with (go_at_call 57; refine (fresh_any _).mono ?_; rintro e w1 ⟨rfl, hg1⟩)
  go_ret2
  have d1 : IsDir (((w1.alloc (.map #[] 0)).alloc (.map #[] 0)).alloc (.cells #[.int .i64 (-1), .bool false, .int .i64 q, .map (some w1.heap.size), .map (some (w1.heap.size + 1)), .slice none 0 0] 70)) w1.heap.size 0 (.map []) :=
    ((World.ownsMap_made w1 Tryz.prog 9 ptrR).alloc _).alloc _
  have d2 : IsDir (((w1.alloc (.map #[] 0)).alloc (.map #[] 0)).alloc (.cells #[.int .i64 (-1), .bool false, .int .i64 q, .map (some w1.heap.size), .map (some (w1.heap.size + 1)), .slice none 0 0] 70)) (w1.heap.size + 1) 0 (.map []) := by
    have := (World.ownsMap_made (w1.alloc (.map #[] 0)) Tryz.prog 9 ptrR).alloc (.cells #[.int .i64 (-1), .bool false, .int .i64 q, .map (some w1.heap.size), .map (some (w1.heap.size + 1)), .slice none 0 0] 70)
    simpa [IsDir] using this
  have d3 : Dsk (((w1.alloc (.map #[] 0)).alloc (.map #[] 0)).alloc (.cells #[.int .i64 (-1), .bool false, .int .i64 q, .map (some w1.heap.size), .map (some (w1.heap.size + 1)), .slice none 0 0] 70)) (w1.heap.size + 1 + 1) (-1) false q w1.heap.size (w1.heap.size + 1) (.slice none 0 0) := by
    have := heap_alloc_new ((w1.alloc (.map #[] 0)).alloc (.map #[] 0)) (.cells #[.int .i64 (-1), .bool false, .int .i64 q, .map (some w1.heap.size), .map (some (w1.heap.size + 1)), .slice none 0 0] 70)
    simpa [Dsk, Blk] using this
  have hsz := hg1.size
  refine ⟨w1.heap.size + 1 + 1, w1.heap.size, w1.heap.size + 1, rfl, ⟨d3, ?_, ?_⟩, ?_⟩
  · show w.heap.size ≤ _; omega
  · exact { fN := hsz, fS := (by show w.heap.size ≤ w1.heap.size + 1; omega), fuseLo := Int.le_refl _, fuseHi := (by show (-1 : Int) ≤ 9223372036854775807; decide), quotaLo := h1, quotaHi := h2, names := d1, synced := d2, ne := by simp, gN := fun p hp => (by simp [entriesOf] at hp), gS := fun p hp => (by simp [entriesOf] at hp), gC := fun c hc => (by simp at hc),
            file := fun f x hx => (by simp at hx), apart := fun f g x y k hx => (by simp at hx), row := World.ownsRow_nil _ _ _ _, rowF := fun k hk => (by simp [Value.ownBlock] at hk), chg := fun c hc => (by simp at hc), szS := by simp [Maps.size] }
  · exact grown_trans (grown_trans (grown_trans hg1 (World.grownBy_alloc _ _ none)) (World.grownBy_alloc _ _ none)) (World.grownBy_alloc _ _ none)

theorem cut_ok (N b : Nat) (F : Nat → Prop) (m : Mem) (n : Int) (w : World) (h : IsDisk w F N b m) (hn : n ≤ 9223372036854775807) :
    Calls Tryz.prog 34 #[.pointer (some ⟨b, 0, none⟩), .int .i64 n] w fun e w' => e = .returned (.tuple #[]) ∧ IsDisk w' F N b { m with fuse := max n (-1) } ∧ Keeps F w w' := by
  have hd := h.dsk
  have hr := h.rest
  have hB := h.fB
  have c3 := hd.cells.2.2.2.1
  go_enter Tryz.func34, Tryz.ntmps34
  go_wp2_with (first | (go_at_call 51; refine (made_ptr b (some m.bn) _ c3).mono ?_; rintro e w' ⟨rfl, rfl⟩) | (go_at_call 82; refine (setFuse_any b n _ _ _ _ _ _ _ hd).mono ?_; rintro e w1 ⟨rfl, hd1, hg1⟩))
  go_end0
  exact ⟨rfl, ⟨hd1, hB, (hr.kept_disk hd hg1 (by decide) (by decide) (by decide) (by decide) (by decide)).power _ _ (by omega) (by omega)⟩, Keeps.of_grown hg1 (fun k e _ => by cases e; exact hB)⟩

def lenOf (files : Nat → Option FileG) (f : Nat) : Nat := match files f with | some x => x.data.length | none => 0

theorem row_len {w : World} {v : Value} {n : Nat} {xs : List Value} {e : TypeId} (h : w.ownsRow 0 e 1 v n xs) : ∃ a cap, v = .slice a n cap := by
  rcases h.2 with ⟨rfl, rfl⟩ | ⟨g, cap, cur, rfl, _⟩
  · exact ⟨_, _, rfl⟩
  · exact ⟨_, _, rfl⟩

theorem Rest.lens {w : World} {F : Nat → Prop} {N : Nat} {m : Mem} (h : Rest w F N m) (f : Nat) : lenOf m.files f ≤ 1048576 := by
  unfold lenOf
  cases hx : m.files f with
  | none => simp
  | some x => exact (h.file f x hx).2.2.2.2.2

theorem total_le (D : DataW Unit) (ln : Nat → Nat) (h : ∀ f, ln f ≤ 1048576) : total D ln ≤ Maps.size D * 1048576 := by
  have hl : ∀ d, lenAt ln d ≤ 1048576 := by
    intro d
    unfold lenAt
    split
    · split
      · exact h _
      · omega
    · omega
  have : ∀ es : List (Lit × DataW Unit), (es.map (fun p => lenAt ln p.2)).sum ≤ es.length * 1048576 := by
    intro es
    induction es with
    | nil => simp
    | cons p r ih => have := hl p.2; simp; omega
  unfold total
  cases D with
  | map es => exact this es
  | _ => simp [entriesOf]

theorem Rest.total_bound {w : World} {F : Nat → Prop} {N : Nat} {m : Mem} (h : Rest w F N m) (hN : N < 1099511627776) : total m.names (lenOf m.files) ≤ 1152921504606846976 := by
  have h1 := total_le m.names (lenOf m.files) (fun f => h.lens f)
  have h2 : Maps.size m.names ≤ N := World.ownsMap.size_le h.names
  have h3 : Maps.size m.names * 1048576 ≤ 1099511627776 * 1048576 := Nat.mul_le_mul_right _ (by omega)
  omega

theorem used_names (N : Nat) (F : Nat → Prop) (m : Mem) (w : World) (hr : Rest w F N m) (hN : N < 1099511627776) :
    Calls Tryz.prog 60 #[.map (some m.bn)] w fun e w' => e = .returned (.int .i64 (total m.names (lenOf m.files))) ∧ w.grownBy w' none := by
  refine used_any m.bn N m.names (lenOf m.files) w hr.names (fun kl f hf => ?_) hr.gN.noNil (Nat.le_trans (hr.total_bound hN) (by decide))
  obtain ⟨x, hx⟩ := hr.gN.at hf
  obtain ⟨_, hb, hrow, _⟩ := hr.file f x hx
  obtain ⟨a, cap, hv⟩ := row_len hrow
  have := hb.cell 0
  refine ⟨a, cap, ?_⟩
  simp [lenOf, hx]
  simpa [hv] using this

end Go.Proofs.YtlpkphdgadgmiaaGreatDoor.V
