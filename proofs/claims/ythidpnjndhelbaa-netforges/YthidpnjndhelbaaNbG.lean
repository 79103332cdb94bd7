/- net: walls: around, inside, passes. -/
import Derived.Test.YthidpnjndhelbaaNbF
import Derived.ChangeKeysEq
namespace Go.Proofs.Ythidpnjndhelbaa
open Go.RowKit Go.Maps
set_option linter.unusedVariables false
set_option linter.unusedSimpArgs false
set_option maxRecDepth 100000

theorem mk16_at (f : Nat → Bool) (j : Nat) (hj : j < 16) : (bools (mk16 f)).toArray[j]? = some (.bool (f j)) := by
  simp [bools, hj]
theorem mk16_size (f : Nat → Bool) : (bools (mk16 f)).toArray.size = 16 := by simp [bools]
theorem mk16_ext {f g : Nat → Bool} (h : ∀ i, i < 16 → f i = g i) : mk16 f = mk16 g := List.map_congr_left (fun i hi => h i (by simpa using hi))
theorem mk16_set (f : Nat → Bool) (k : Nat) (x : Bool) : (bools (mk16 f)).toArray.setIfInBounds k (.bool x) = (bools (mk16 fun i => if i = k then x else f i)).toArray := by
  apply Array.ext'
  simp only [bools, Array.toList_setIfInBounds]
  apply List.ext_getElem?
  intro i
  rw [List.getElem?_set]
  by_cases hi : i < 16
  · by_cases hk : k = i
    · subst hk; simp [hi]
    · rw [if_neg hk]
      simp [hi, Ne.symm hk]
  · by_cases hk : k = i
    · subst hk; simp [hi]
    · rw [if_neg hk]; simp [hi]
theorem mk16_one (f : Nat → Bool) : ((bools (mk16 f)).toArray.all fun x => x.oneCell') = true := by
  simp [bools, Value.oneCell']
theorem info51 : (Try.prog.info? 51).map (·.size) = some 16 := by kernel_rfl
theorem info4 : (Try.prog.info? 4).map (fun i => (i.zero, i.size, i.bytes)) = some (some (.bool false), 1, 1) := by kernel_rfl
theorem range_blk {w : World} {b : Nat} {cs : Array Value} {t : TypeId} (h : Blk w b cs t) : w.rangeAt b 0 cs.toList := fun j v hj => by
  rw [Nat.zero_add, h.cell]
  simpa using hj
theorem there_blk {w : World} {b : Nat} {cs : Array Value} {t : TypeId} (h : Blk w b cs t) (n : Nat) (hn : n ≤ cs.size) : w.there b 0 n := fun j hj => by
  refine ⟨by rw [Nat.zero_add, h.cell]; simp; omega, h.frozen _⟩
theorem grown_setCells (b : Nat) : ∀ (vs : List Value) (o : Nat) (w : World), w.grownBy (w.setCells b o vs) (some b)
  | [], _, w => grown_refl w _
  | v :: r, o, w => grown_trans (grown_setCell w b o v) (grown_setCells b r (o + 1) _)
theorem ret_cell51 {fn : Func} {t : Tmp} (h : fn.results = #[.cell t 51]) (tmps : Array Value) (w : World) (b : Nat) (A : Array Value) (ht : tmps.getD t undef = .pointer (some ⟨b, 0, none⟩)) (hA : A.size = 16) (hr : w.rangeAt b 0 A.toList) : (results fn tmps).run Try.prog w = .ok (.agg A) w := by
  have := run_loadVar_mid (P := Try.prog) w b 0 51 A.toList _ hr Try.underlying51 rfl (by rw [Array.length_toList, hA]; exact info51)
  have ht' : tmps[t]?.getD undef = .pointer (some ⟨b, 0, none⟩) := by rw [← ht]; simp
  simp [results, h, asAddr, Result.andThen, ht', this]
def arF (ids : List Int) (i : Nat) : Bool := decide ((i : Int) ∈ ids)
theorem arF_snoc (l : List Int) (n k : Nat) (hn : n < l.length) (hk : l[n] = (k : Int)) : (fun i => if i = k then true else arF (l.take n) i) = arF (l.take (n + 1)) := by
  funext i
  unfold arF
  rw [List.take_succ_eq_append_getElem hn]
  by_cases hi : i = k
  · subst hi; rw [if_pos rfl, hk]; simp
  · rw [if_neg hi, hk]
    have : ((i : Int) ∈ List.take n l ++ [(k : Int)]) ↔ ((i : Int) ∈ List.take n l) := by
      simp; intro h; omega
    simp only [this]
theorem zero16 : (bools (mk16 fun _ => false)).toArray = #[.bool false, .bool false, .bool false, .bool false, .bool false, .bool false, .bool false, .bool false, .bool false, .bool false, .bool false, .bool false, .bool false, .bool false, .bool false, .bool false] := rfl
set_option maxHeartbeats 2000000 in
theorem around_any (a : Option Addr) (c : Nat) (ids : List Int) (w : World) (h : IntsR w (.slice a ids.length c) ids) (hi : ∀ x ∈ ids, 0 ≤ x ∧ x < 16) (hl : ids.length ≤ 17592186044416) : Calls Try.prog 43 #[.slice a ids.length c] w fun e w' => e = .returned (.agg (bools (mk16 (arF ids))).toArray) ∧ w.grownBy w' none := by
  have HI := hid_mk (And.intro h hi)
  clear h hi
  go_enter Try.func43, Try.ntmps43
  go_upto_region 2 with fail
  rw [← zero16]
  have H1 := hid_mk (And.intro (blk_alloc2 w (bools (mk16 fun _ => false)).toArray (bools (mk16 fun _ => false)).toArray 51 51) (ga2 w (.cells (bools (mk16 fun _ => false)).toArray 51) (.cells (bools (mk16 fun _ => false)).toArray 51)))
  have hn : Hid (w.heap.size ≤ w.heap.size) := hid_mk (Nat.le_refl _)
  generalize ((w.alloc (.cells (bools (mk16 fun _ => false)).toArray 51)).alloc (.cells (bools (mk16 fun _ => false)).toArray 51)) = w1 at *
  go_wp2_with fail
  go_loopg [5, 8] ids.length (fun g xv iv W => ∃ k : Nat, k ≤ ids.length ∧ g = ids.length - k ∧ iv = .int .i64 k ∧ Hid (Blk W w.heap.size (bools (mk16 fun _ => false)).toArray 51 ∧ Blk W (w.heap.size + 1) (bools (mk16 (arF (ids.take k)))).toArray 51 ∧ w.grownBy W none))
  case atStart => exact ⟨0, Nat.zero_le _, rfl, rfl, hid_mk ⟨H1.out.1.1, by
    have e : mk16 (arF (ids.take 0)) = mk16 (fun _ => false) := mk16_ext (fun i _ => by simp [arF])
    rw [e]; exact H1.out.1.2, H1.out.2⟩⟩
  case round =>
    obtain ⟨k, hk, hgk, rfl, HL⟩ := hrel
    rename World => W
    clear H1
    by_cases hlt : k < ids.length
    · have hlt' : (k : Int) < ids.length := by omega
      obtain ⟨b, off, cap, e, hc⟩ := (HI.out.1.kept HL.out.2.2).get k hlt
      injection e with e1 e2 e3
      subst e1
      clear e2 e3
      have hx := HI.out.2 ids[k] (List.getElem_mem hlt)
      obtain ⟨x, hxx⟩ : ∃ x : Nat, ids[k] = x := ⟨ids[k].toNat, by omega⟩
      have HX := hid_mk hxx
      rw [hxx] at hc hx
      have hx16 : (x : Int) < 16 := hx.2
      have hz := Blk.frozen HL.out.2.1 x
      have hcx : W.cell? ⟨w.heap.size + 1, x, none⟩ = some (.bool (arF (ids.take k) x)) := by rw [Blk.cell HL.out.2.1]; exact mk16_at _ x (by omega)
      clear hx hxx
      go_wp2_with fail
      go_roundg (ids.length - (k + 1))
      case measure => omega
      case rel =>
        refine ⟨k + 1, by omega, rfl, by go_num, hid_mk ⟨HL.out.1.set' (by omega) _ _, ?_, set_new HL.out.2.2 (by omega) _ _⟩⟩
        have := HL.out.2.1.set x (.bool true)
        rw [mk16_set, arF_snoc ids k x hlt HX.out] at this
        exact this
    · obtain rfl : k = ids.length := by omega
      clear hlt
      have HK := hid_mk (show Blk W (w.heap.size + 1) (bools (mk16 (arF ids))).toArray 51 by have := HL.out.2.1; rwa [List.take_length] at this)
      have hsz := mk16_size (arF ids)
      have ho := mk16_one (arF ids)
      obtain ⟨A, hA⟩ : ∃ A, A = (bools (mk16 (arF ids))).toArray := ⟨_, rfl⟩
      rw [← hA] at hsz HK ho
      have HA := hid_mk hA
      clear hA
      have HO := hid_mk ho
      clear ho
      go_upto_region 7 with fail
      refine wp_region_lit ?_
      refine wpList_load_mid rfl 51 (.tmp 3) rfl (w.heap.size + 1) 0 rfl A.toList _ (range_blk HK.out) Try.underlying51 rfl (by rw [Array.length_toList, hsz]; exact info51) ?_
      refine wpList_store_mid rfl 51 (.tmp 2) (.tmp 15) rfl w.heap.size 0 A rfl rfl (there_blk HL.out.1 _ (by rw [hsz, mk16_size]; exact Nat.le_refl _)) (by rw [hsz]; exact info51) HO.out ?_
      have HR := hid_mk (World.rangeAt_setCells_same W w.heap.size 0 A.toList (by rw [Array.length_toList]; exact there_blk HL.out.1 _ (by rw [hsz, mk16_size]; exact Nat.le_refl _)))
      have HG := hid_mk (grown_new HL.out.2.2 (grown_setCells w.heap.size A.toList 0 W) (Nat.le_refl _))
      generalize W.setCells w.heap.size 0 A.toList = w3 at *
      go_wp2_with fail
      exact bodyPost_ret (ret_cell51 rfl _ _ w.heap.size A rfl hsz HR.out) rfl ⟨by rw [HA.out], HG.out⟩
theorem blk_alloc3 (w : World) (cs ds es : Array Value) (t u x : TypeId) : Blk (((w.alloc (.cells cs t)).alloc (.cells ds u)).alloc (.cells es x)) w.heap.size cs t ∧ Blk (((w.alloc (.cells cs t)).alloc (.cells ds u)).alloc (.cells es x)) (w.heap.size + 1) ds u ∧ Blk (((w.alloc (.cells cs t)).alloc (.cells ds u)).alloc (.cells es x)) (w.heap.size + 2) es x :=
  ⟨(blk_alloc2 w cs ds t u).1.kept (World.grownBy_alloc _ _ none) (by simp), (blk_alloc2 w cs ds t u).2.kept (World.grownBy_alloc _ _ none) (by simp), by have := blk_alloc ((w.alloc (.cells cs t)).alloc (.cells ds u)) es x; simpa using this⟩
theorem ga3 (w : World) (o p q : Obj) : w.grownBy (((w.alloc o).alloc p).alloc q) none := ga (ga2 w o p) q
def inF (f g : Nat → Bool) (k i : Nat) : Bool := if i < k then g i && f i else g i
theorem inF_next (f g : Nat → Bool) (k : Nat) : (fun i => if i = k then (g k && f k) else inF f g k i) = inF f g (k + 1) := by
  funext i
  unfold inF
  by_cases hi : i = k
  · subst hi; rw [if_pos rfl, if_pos (by omega)]
  · rw [if_neg hi]
    by_cases h : i < k
    · rw [if_pos h, if_pos (by omega)]
    · rw [if_neg h, if_neg (by omega)]
set_option maxHeartbeats 2000000 in
theorem inside_any (f g : Nat → Bool) (w : World) : Calls Try.prog 49 #[.agg (bools (mk16 f)).toArray, .agg (bools (mk16 g)).toArray] w fun e w' => e = .returned (.agg (bools (mk16 fun i => g i && f i)).toArray) ∧ w.grownBy w' none := by
  have HF := hid_mk (And.intro (mk16_at f) (mk16_size f))
  have HGG := hid_mk (And.intro (mk16_at g) (mk16_size g))
  obtain ⟨AF, hAF⟩ : ∃ A, A = (bools (mk16 f)).toArray := ⟨_, rfl⟩
  obtain ⟨AG, hAG⟩ : ∃ A, A = (bools (mk16 g)).toArray := ⟨_, rfl⟩
  rw [← hAF, ← hAG]
  have HA := hid_mk (And.intro hAF hAG)
  clear hAF hAG
  go_enter Try.func49, Try.ntmps49
  go_upto_region 1 with fail
  rw [← zero16]
  have H1 := hid_mk (And.intro (blk_alloc3 w AF AG (bools (mk16 fun _ => false)).toArray 51 51 51) (ga3 w (.cells AF 51) (.cells AG 51) (.cells (bools (mk16 fun _ => false)).toArray 51)))
  generalize (((w.alloc (.cells AF 51)).alloc (.cells AG 51)).alloc (.cells (bools (mk16 fun _ => false)).toArray 51)) = w1 at *
  go_wp2_with fail
  go_loopg [5, 6] 16 (fun gg xv iv W => ∃ k : Nat, k ≤ 16 ∧ gg = 16 - k ∧ iv = .int .i64 k ∧ Hid (Blk W w.heap.size (bools (mk16 f)).toArray 51 ∧ Blk W (w.heap.size + 1) (bools (mk16 (inF f g k))).toArray 51 ∧ Blk W (w.heap.size + 2) (bools (mk16 fun _ => false)).toArray 51 ∧ w.grownBy W none))
  case atStart => exact ⟨0, Nat.zero_le _, rfl, rfl, hid_mk ⟨by rw [← HA.out.1]; exact H1.out.1.1, by
    have e : mk16 (inF f g 0) = mk16 g := mk16_ext (fun i _ => by simp [inF])
    rw [e, ← HA.out.2]; exact H1.out.1.2.1, H1.out.1.2.2, H1.out.2⟩⟩
  case round =>
    obtain ⟨k, hk, hgk, rfl, HL⟩ := hrel
    rename World => W
    clear H1
    by_cases hlt : k < 16
    · have hlt' : (k : Int) < 16 := by omega
      have c0 : W.cell? ⟨w.heap.size, k, none⟩ = some (.bool (f k)) := by rw [Blk.cell HL.out.1]; exact mk16_at _ k hlt
      have c1 : W.cell? ⟨w.heap.size + 1, k, none⟩ = some (.bool (g k)) := by rw [Blk.cell HL.out.2.1, mk16_at _ k hlt]; simp [inF]
      have hz := Blk.frozen HL.out.2.1 k
      have HN : Hid (Blk (W.setCell ⟨w.heap.size + 1, k, none⟩ (.bool (g k && f k))) (w.heap.size + 1) (bools (mk16 (inF f g (k + 1)))).toArray 51) := hid_mk (by
        have := HL.out.2.1.set k (.bool (g k && f k))
        rw [mk16_set, inF_next] at this
        exact this)
      cases hgk : g k
      · rw [hgk] at HN c1
        clear hgk
        generalize f k = fk at *
        go_wp2_with fail
        go_roundg (16 - (k + 1))
        case measure => omega
        case rel => exact ⟨k + 1, by omega, rfl, by go_num, hid_mk ⟨HL.out.1.set' (by omega) _ _, HN.out, HL.out.2.2.1.set' (by omega) _ _, set_new HL.out.2.2.2 (by omega) _ _⟩⟩
      · rw [hgk, Bool.true_and] at HN
        rw [hgk] at c1
        clear hgk
        generalize f k = fk at *
        go_wp2_with fail
        go_roundg (16 - (k + 1))
        case measure => omega
        case rel => exact ⟨k + 1, by omega, rfl, by go_num, hid_mk ⟨HL.out.1.set' (by omega) _ _, HN.out, HL.out.2.2.1.set' (by omega) _ _, set_new HL.out.2.2.2 (by omega) _ _⟩⟩
    · obtain rfl : k = 16 := by omega
      clear hlt
      have e : mk16 (inF f g 16) = mk16 (fun i => g i && f i) := mk16_ext (fun i hi => by unfold inF; rw [if_pos hi])
      have HK := hid_mk (show Blk W (w.heap.size + 1) (bools (mk16 fun i => g i && f i)).toArray 51 by have := HL.out.2.1; rwa [e] at this)
      clear e
      have hsz := mk16_size (fun i => g i && f i)
      have ho := mk16_one (fun i => g i && f i)
      obtain ⟨A, hA⟩ : ∃ A, A = (bools (mk16 fun i => g i && f i)).toArray := ⟨_, rfl⟩
      rw [← hA] at hsz HK ho
      have HA2 := hid_mk hA
      clear hA
      have HO := hid_mk ho
      clear ho
      go_upto_region 6 with fail
      refine wp_region_lit ?_
      refine wpList_load_mid rfl 51 (.tmp 3) rfl (w.heap.size + 1) 0 rfl A.toList _ (range_blk HK.out) Try.underlying51 rfl (by rw [Array.length_toList, hsz]; exact info51) ?_
      refine wpList_store_mid rfl 51 (.tmp 4) (.tmp 20) rfl (w.heap.size + 2) 0 A rfl rfl (there_blk HL.out.2.2.1 _ (by rw [hsz, mk16_size]; exact Nat.le_refl _)) (by rw [hsz]; exact info51) HO.out ?_
      have HR := hid_mk (World.rangeAt_setCells_same W (w.heap.size + 2) 0 A.toList (by rw [Array.length_toList]; exact there_blk HL.out.2.2.1 _ (by rw [hsz, mk16_size]; exact Nat.le_refl _)))
      have HG := hid_mk (grown_new HL.out.2.2.2 (grown_setCells (w.heap.size + 2) A.toList 0 W) (by omega))
      generalize W.setCells (w.heap.size + 2) 0 A.toList = w3 at *
      go_wp2_with fail
      exact bodyPost_ret (ret_cell51 rfl _ _ (w.heap.size + 2) A rfl hsz HR.out) rfl ⟨by rw [HA2.out], HG.out⟩
end Go.Proofs.Ythidpnjndhelbaa
