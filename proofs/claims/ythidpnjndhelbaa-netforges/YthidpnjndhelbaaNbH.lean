/- net: which letters pass a wall. -/
import Derived.Test.YthidpnjndhelbaaNbG
namespace Go.Proofs.Ythidpnjndhelbaa
open Go.RowKit Go.Maps
set_option linter.unusedVariables false
set_option linter.unusedSimpArgs false
set_option maxRecDepth 100000

theorem plain4 : Try.prog.plainKey 4 = true := by kernel_rfl
theorem cells4 : Try.prog.cellsOf 4 = 1 := by kernel_rfl
theorem q4 (w : World) (x y : Bool) : (Op.equalIn 9999 4 (.bool x) (.bool y)).run Try.prog w = .ok (x == y) w := run_equalIn_bool (P := Try.prog) w 9998 4 x y Try.underlying4
theorem p4 {xs : Array Value} {off : Nat} {v : Value} (w : World) (h : xs[off]? = some v) : (part 4 xs off).run Try.prog w = .ok v w := run_part_plain w plain4 h
theorem eqItems4 (f g : Nat → Bool) (w : World) : ∀ is : List Nat, (∀ i ∈ is, i < 16) → (Op.eqItems 9999 4 1 (bools (mk16 f)).toArray (bools (mk16 g)).toArray is).run Try.prog w = .ok (is.all fun i => f i == g i) w
  | [], _ => by simp [Op.eqItems]
  | i :: is, h => by
    have hi := h i (by simp)
    have pa := p4 (off := i) w (mk16_at f i hi)
    have pb := p4 (off := i) w (mk16_at g i hi)
    have ih := eqItems4 f g w is (fun j hj => h j (by simp [hj]))
    have ite1 : ∀ (b : Bool) (x y : Sem Bool), (if (!b) = true then x else y).run Try.prog w = if b then y.run Try.prog w else x.run Try.prog w := fun b x y => by cases b <;> rfl
    simp only [Op.eqItems, Nat.mul_one, Sem.run_bind, pa, pb, Result.andThen_ok, q4, ite1, ih, Sem.run_pure, List.all_cons]
    cases f i == g i <;> rfl
def sameB (f g : Nat → Bool) : Bool := (List.range 16).all fun i => f i == g i
theorem sameB_iff {f g : Nat → Bool} : sameB f g = true ↔ ∀ i, i < 16 → f i = g i := by
  unfold sameB
  simp [List.all_eq_true]
theorem eq51 (f g : Nat → Bool) (w : World) : (Op.equalIn 10000 51 (.agg (bools (mk16 f)).toArray) (.agg (bools (mk16 g)).toArray)).run Try.prog w = .ok (sameB f g) w := by
  obtain ⟨i0, hi, _⟩ := info_parts info4
  rw [show (10000 : Nat) = 9999 + 1 from rfl, run_equalIn_array w 9999 _ _ Try.underlying51 hi, cells4]
  exact eqItems4 f g w _ (fun i h => by simpa using h)
theorem range_kept {w w' : World} {b o : Nat} {cs : List Value} {row : Option Nat} (h : w.rangeAt b o cs) (hg : w.grownBy w' row) (hne : some b ≠ row) : w'.rangeAt b o cs := fun j v hj => hg.cell (h j v hj) hne
theorem load51 {w : World} {b o : Nat} {f : Nat → Bool} (h : w.rangeAt b o (bools (mk16 f))) : (Instr.loadAt 51 (.pointer (some ⟨b, o, none⟩))).run Try.prog w = .ok (.agg (bools (mk16 f)).toArray) w :=
  run_loadAt_mid w b o 51 _ _ h Try.underlying51 rfl (by rw [info51]; simp [bools])
theorem store51 {w : World} {b o : Nat} (f : Nat → Bool) (h : w.there b o 16) : (Instr.storeAt 51 (.pointer (some ⟨b, o, none⟩)) (.agg (bools (mk16 f)).toArray)).run Try.prog w = .ok () (w.setCells b o (bools (mk16 f))) :=
  run_storeAt_mid w b o 51 _ (by rw [mk16_size]; exact h) (by rw [info51, mk16_size]) (mk16_one f)
abbrev zeroA : Array Value := #[.bool false, .bool false, .bool false, .bool false, .bool false, .bool false, .bool false, .bool false, .bool false, .bool false, .bool false, .bool false, .bool false, .bool false, .bool false, .bool false]
/-- A new array that is written whole. -/
structure New51 (w : World) (A : Array Value) : Prop where
  there : (w.alloc (.cells zeroA 51)).there w.heap.size 0 A.size
  range : ((w.alloc (.cells zeroA 51)).setCells w.heap.size 0 A.toList).rangeAt w.heap.size 0 A.toList
  grown : w.grownBy ((w.alloc (.cells zeroA 51)).setCells w.heap.size 0 A.toList) none
theorem new51 (w : World) (A : Array Value) (hA : A.size = 16) : New51 w A := by
  have ht : (w.alloc (.cells zeroA 51)).there w.heap.size 0 16 := there_blk (blk_alloc w _ _) 16 (Nat.le_refl _)
  exact ⟨by rw [hA]; exact ht, World.rangeAt_setCells_same _ _ _ _ (by rw [Array.length_toList, hA]; exact ht), grown_new (World.grownBy_alloc _ _ none) (grown_setCells _ _ _ _) (Nat.le_refl _)⟩
theorem loadA {w : World} {b o : Nat} {A : Array Value} (hA : A.size = 16) (h : w.rangeAt b o A.toList) : (Instr.loadAt 51 (.pointer (some ⟨b, o, none⟩))).run Try.prog w = .ok (.agg A) w := by
  have := run_loadAt_mid (P := Try.prog) w b o 51 A.toList _ h Try.underlying51 rfl (by rw [info51, Array.length_toList, hA])
  simpa using this
/-- A load of a wall, under a guard that holds, too. -/
theorem wp_load51 {ops : Array Oper} {rest : List Oper} {op : Oper} {a : Act} {w : World} {Q : Exit → Act → World → Prop} (hw : Region.wanted op (yielded ops a.tmps) = true) (x : Operand) (ho : op.op = .load 51 x)
    (b o : Nat) (hx : a.eval x = .pointer (some ⟨b, o, none⟩)) (A : Array Value) (hA : A.size = 16) (hc : w.rangeAt b o A.toList) (h : wpList Try.prog ops Q rest (a.put op.dst (.agg A)) w) : wpList Try.prog ops Q (op :: rest) a w := by
  refine wpList_step fun K hK => ?_
  rw [if_pos hw]
  have := loadA hA hc
  exact wp_load_mid 51 x ho b o hx A.toList _ hc Try.underlying51 rfl (by rw [info51, Array.length_toList, hA]) (hK _ _ h)
/-- Does a letter pass? -/
def pasB (f : Nat → Bool) (a b : Int) : Bool := f a.toNat == f b.toNat
theorem pas_none (f : Nat → Bool) (a b : Int) (ha : 0 ≤ a ∧ a < 16) (hb : 0 ≤ b ∧ b < 16) : sameB (fun i => arF [a, b] i && f i) (fun _ => false) = (!f a.toNat && !f b.toNat) := by
  rw [Bool.eq_iff_iff]
  simp only [sameB_iff, Bool.and_eq_true, Bool.not_eq_true']
  constructor
  · intro h
    refine ⟨?_, ?_⟩
    · have := h a.toNat (by omega)
      simpa [arF, show ((a.toNat : Nat) : Int) = a by omega] using this
    · have := h b.toNat (by omega)
      simpa [arF, show ((b.toNat : Nat) : Int) = b by omega] using this
  · rintro ⟨h1, h2⟩ i hi
    unfold arF
    by_cases e : (i : Int) = a
    · rw [show i = a.toNat by omega, h1]; simp
    · by_cases e2 : (i : Int) = b
      · rw [show i = b.toNat by omega, h2]; simp
      · simp [e, e2]
theorem pas_all (f : Nat → Bool) (a b : Int) (ha : 0 ≤ a ∧ a < 16) (hb : 0 ≤ b ∧ b < 16) : sameB (fun i => arF [a, b] i && f i) (arF [a, b]) = (f a.toNat && f b.toNat) := by
  rw [Bool.eq_iff_iff]
  simp only [sameB_iff, Bool.and_eq_true]
  constructor
  · intro h
    refine ⟨?_, ?_⟩
    · have := h a.toNat (by omega)
      simpa [arF, show ((a.toNat : Nat) : Int) = a by omega] using this
    · have := h b.toNat (by omega)
      simpa [arF, show ((b.toNat : Nat) : Int) = b by omega] using this
  · rintro ⟨h1, h2⟩ i hi
    unfold arF
    by_cases e : (i : Int) = a
    · rw [show i = a.toNat by omega, h1]; simp
    · by_cases e2 : (i : Int) = b
      · rw [show i = b.toNat by omega, h2]; simp
      · simp [e, e2]
theorem two_mem {a b : Int} (ha : 0 ≤ a ∧ a < 16) (hb : 0 ≤ b ∧ b < 16) : ∀ x ∈ [a, b], 0 ≤ x ∧ x < 16 := fun x hx => by
  simp at hx
  rcases hx with rfl | rfl
  · exact ha
  · exact hb
theorem inside_gen {f g : Nat → Bool} {A B : Array Value} (hA : A = (bools (mk16 f)).toArray) (hB : B = (bools (mk16 g)).toArray) (w : World) : Calls Try.prog 49 #[.agg A, .agg B] w fun e w' => ∃ C, e = .returned (.agg C) ∧ C = (bools (mk16 fun i => g i && f i)).toArray ∧ w.grownBy w' none := by
  subst hA
  subst hB
  refine (inside_any f g w).mono ?_
  rintro e w' ⟨rfl, hg⟩
  exact ⟨_, rfl, rfl, hg⟩
theorem eqA {f g : Nat → Bool} {A B : Array Value} (hA : A = (bools (mk16 f)).toArray) (hB : B = (bools (mk16 g)).toArray) (w : World) : (Op.equalIn 10000 51 (.agg A) (.agg B)).run Try.prog w = .ok (sameB f g) w := by
  subst hA
  subst hB
  exact eq51 f g w
set_option maxHeartbeats 2000000 in
theorem passes_any {f : Nat → Bool} {AF : Array Value} (hAF : AF = (bools (mk16 f)).toArray) (fr tw : Int) (v : Value) (w : World) (ha : 0 ≤ fr ∧ fr < 16) (hb : 0 ≤ tw ∧ tw < 16) : Calls Try.prog 36 #[.agg AF, .agg #[.int .i64 fr, .int .i64 tw, v]] w fun e w' => e = .returned (.bool (pasB f fr tw)) ∧ w.grownBy w' none := by
  have HA := hid_mk (And.intro ha hb)
  have hsF : AF.size = 16 := by rw [hAF]; exact mk16_size _
  have HAF := hid_mk hAF
  clear ha hb hAF
  go_enter Try.func36, Try.ntmps36
  go_upto_region 1 with fail
  have HW := hid_mk (And.intro (blk_alloc2 w AF #[.int .i64 fr, .int .i64 tw, v] 51 39) (ga2 w (.cells AF 51) (.cells #[.int .i64 fr, .int .i64 tw, v] 39)))
  obtain ⟨b0, b1, b2, bf⟩ := blk3 HW.out.1.2
  generalize ((w.alloc (.cells AF 51)).alloc (.cells #[.int .i64 fr, .int .i64 tw, v] 39)) = w1 at *
  go_wp2_with fail
  refine (around_any _ _ [fr, tw] _ (ints_new w1 [fr, tw] 3 _ rfl) (two_mem HA.out.1 HA.out.2) (by simp)).mono ?_
  rintro e w2 ⟨rfl, hg⟩
  have HG2 := hid_mk (grown_trans HW.out.2 (grown_trans (World.grownBy_alloc w1 _ none) hg))
  have R0 := hid_mk (range_kept (range_kept (range_blk HW.out.1.1) (World.grownBy_alloc w1 (.cells #[.int .i64 fr, .int .i64 tw] 3) none) (by simp)) hg (by simp))
  clear hg b0 b1 b2 bf HW
  obtain ⟨AE, hAE⟩ : ∃ A, A = (bools (mk16 (arF [fr, tw]))).toArray := ⟨_, rfl⟩
  rw [← hAE]
  have hsE : AE.size = 16 := by rw [hAE]; exact mk16_size _
  have HOE := hid_mk (show (AE.all fun x => x.oneCell') = true by rw [hAE]; exact mk16_one _)
  have HAE := hid_mk hAE
  clear hAE
  have HS := hid_mk (new51 w2 AE hsE)
  go_upto_region 2 with (refine wpList_store_mid rfl 51 (.tmp 5) (.tmp 12) rfl w2.heap.size 0 AE rfl rfl HS.out.there (by rw [hsE]; exact info51) HOE.out ?_)
  have H3 := hid_mk (show (((w2.alloc (.cells zeroA 51)).setCells w2.heap.size 0 AE.toList).rangeAt w.heap.size 0 AF.toList) ∧ (((w2.alloc (.cells zeroA 51)).setCells w2.heap.size 0 AE.toList).rangeAt w2.heap.size 0 AE.toList) ∧ w.grownBy ((w2.alloc (.cells zeroA 51)).setCells w2.heap.size 0 AE.toList) none from ⟨range_kept R0.out HS.out.grown (by simp), HS.out.range, grown_trans HG2.out HS.out.grown⟩)
  generalize hw3 : ((w2.alloc (.cells zeroA 51)).setCells w2.heap.size 0 AE.toList) = w3 at *
  clear hw3 R0 HS HG2
  generalize w2.heap.size = n2 at *
  go_wp2_with (first | (refine wp_load51 rfl (.tmp 2) rfl w.heap.size 0 rfl AF hsF H3.out.1 ?_) | (refine wp_load51 rfl (.tmp 5) rfl n2 0 rfl AE hsE H3.out.2.1 ?_))
  refine (inside_gen HAF.out HAE.out w3).mono ?_
  rintro e w4 ⟨C, rfl, hC, hg⟩
  have hsC : C.size = 16 := by rw [hC]; exact mk16_size _
  have HOC := hid_mk (show (C.all fun x => x.oneCell') = true by rw [hC]; exact mk16_one _)
  obtain ⟨z1, hz1⟩ : ∃ z, z = sameB (fun i => arF [fr, tw] i && f i) (fun _ => false) := ⟨_, rfl⟩
  obtain ⟨z2, hz2⟩ : ∃ z, z = sameB (fun i => arF [fr, tw] i && f i) (arF [fr, tw]) := ⟨_, rfl⟩
  have hq1 := fun W => eqA hC zero16.symm W
  have hq2 := fun W => eqA hC HAE.out W
  rw [← hz1] at hq1
  rw [← hz2] at hq2
  have HZ := hid_mk (show (z1 || z2) = pasB f fr tw by
    rw [hz1, hz2, pas_none f fr tw HA.out.1 HA.out.2, pas_all f fr tw HA.out.1 HA.out.2]
    unfold pasB
    cases f fr.toNat <;> cases f tw.toNat <;> rfl)
  clear hC hz1 hz2
  have H4 := hid_mk (And.intro (range_kept H3.out.2.1 hg (by simp)) (grown_trans H3.out.2.2 hg))
  clear hg H3
  have HS := hid_mk (new51 w4 C hsC)
  go_upto_region 3 with (refine wpList_store_mid rfl 51 (.tmp 6) (.tmp 15) rfl w4.heap.size 0 C rfl rfl HS.out.there (by rw [hsC]; exact info51) HOC.out ?_)
  have H5 := hid_mk (show (((w4.alloc (.cells zeroA 51)).setCells w4.heap.size 0 C.toList).rangeAt n2 0 AE.toList) ∧ w.grownBy ((w4.alloc (.cells zeroA 51)).setCells w4.heap.size 0 C.toList) none from ⟨range_kept H4.out.1 HS.out.grown (by simp), grown_trans H4.out.2 HS.out.grown⟩)
  have HR := hid_mk HS.out.range
  generalize hw3 : ((w4.alloc (.cells zeroA 51)).setCells w4.heap.size 0 C.toList) = w5 at *
  clear hw3 HS H4
  generalize w4.heap.size = n4 at *
  cases z1
  · go_wp2_with (first | (refine wp_load51 rfl (.tmp 6) rfl n4 0 rfl C hsC HR.out ?_) | (refine wp_load51 rfl (.tmp 5) rfl n2 0 rfl AE hsE H5.out.1 ?_))
    go_ret
    exact ⟨ret_bool (by rw [← HZ.out]; rfl), H5.out.2⟩
  · go_wp2_with (first | (refine wp_load51 rfl (.tmp 6) rfl n4 0 rfl C hsC HR.out ?_) | (refine wp_load51 rfl (.tmp 5) rfl n2 0 rfl AE hsE H5.out.1 ?_))
    go_ret
    exact ⟨ret_bool (by rw [← HZ.out]; rfl), H5.out.2⟩
end Go.Proofs.Ythidpnjndhelbaa
