/- vote: once, countIn. -/
import Derived.Test.YthfdoliojbhcjaaVD
namespace Go.Proofs.Ythfdoliojbhcjaa
open Go.RowKit Go.Maps
set_option linter.unusedVariables false
set_option linter.unusedSimpArgs false
set_option maxRecDepth 100000

theorem run_makeMap_hint (n : Int) (w : World) : (Instr.makeMap 83 (some (.int .i64 n))).run Try.prog w = .ok (.map (some w.heap.size)) (w.alloc (.map #[] 0)) := by
  simp [Instr.makeMap, run_underlying Try.underlying83, asInt, asIntOf, Result.andThen]
theorem once_any (v : Value) (l : List Int) (w : World) (h : IntsR w v l) (hw : ∀ x ∈ l, Wf x) (hl : l.length ≤ 17592186044416) : Calls Try.prog 45 #[v] w fun e w' => ∃ b, e = .returned (.map (some b)) ∧ SetR w' b l ∧ w.heap.size ≤ b ∧ w.grownBy w' none := by
  obtain ⟨a, c, rfl⟩ := h.len
  have HI := hid_mk h
  have HW := hid_mk hw
  have hmm := run_makeMap_hint
  clear h hw
  go_enter Try.func45, Try.ntmps45
  go_wp2
  go_loopg [11] l.length (fun g iv W => ∃ k : Nat, k ≤ l.length ∧ g = l.length - k ∧ iv = .int .i64 k ∧ Hid (SetR W w.heap.size (l.take k) ∧ w.grownBy W none))
  case atStart => exact ⟨0, Nat.zero_le _, rfl, rfl, hid_mk ⟨set_new w, World.grownBy_alloc _ _ none⟩⟩
  case round =>
    obtain ⟨k, hk, hgk, rfl, H⟩ := hrel
    rename World => W
    by_cases hlt : k < l.length
    · have hlt' : (k : Int) < l.length := by omega
      obtain ⟨b, off, cap, e, hc⟩ := (HI.out.kept H.out.2).get k hlt
      injection e with e1 e2 e3
      subst e1
      clear e2 e3
      obtain ⟨D, hD⟩ := H.out.1
      have hD1 : W.ownsMap Try.prog 3 unitElem w.heap.size k D := by have := hD.1; rwa [List.length_take, Nat.min_eq_left hk] at this
      have HD := hid_mk hD
      have hkey := keyOf_int_mk Try.underlying3 (HW.out l[k] (List.getElem_mem hlt))
      generalize hx : l[k] = x at *
      have HX := hid_mk hx
      clear hD hx
      go_wp2_with (at_mapUpdate; refine wpList_mapUpdate_in _ rfl _ _ _ 83 rfl 3 98 key3 Try.underlying83 _ w.heap.size k D rfl hD1 (by unfold maxLen; omega) _ _ _ rfl rfl hkey _ [] unitElem_mk ?_; intro w1 hown1 hturn1)
      go_roundg (l.length - (k + 1))
      case measure => omega
      case rel =>
        refine ⟨k + 1, by omega, rfl, by go_num, hid_mk ⟨?_, grown_new H.out.2 hturn1.grown (Nat.le_refl _)⟩⟩
        rw [show l.take (k + 1) = l.take k ++ [x] by rw [List.take_add_one, List.getElem?_eq_getElem hlt, HX.out]; rfl]
        exact set_put (hD1.tidy key3) HD.out.2.1 HD.out.2.2 (by rw [List.length_take, Nat.min_eq_left hk]; exact hown1)
    · have hlt' : ¬ (k : Int) < l.length := by omega
      go_wp2
      go_ret
      exact ⟨_, rfl, by have := H.out.1; rwa [List.take_of_length_le (by omega)] at this, Nat.le_refl _, H.out.2⟩

/-! ### countIn -/
/-- Of these, how many are still to come, and count. -/
def rem (L : List Int) (left : Lit → Bool) (y : List Int) : Nat := (L.filter (fun x => left (.int .i64 x) && decide (x ∈ y))).length
theorem filter_strike : ∀ (L : List Int), L.Nodup → ∀ (x : Int), x ∈ L → ∀ (p : Int → Bool), p x = true → (L.filter p).length = (L.filter (fun z => p z && !decide (z = x))).length + 1
  | [], _, x, h, _, _ => by simp at h
  | a :: L, hn, x, h, p, hp => by
    obtain ⟨h1, h2⟩ := List.nodup_cons.1 hn
    by_cases e : a = x
    · subst e
      rw [List.filter_cons, if_pos hp, List.filter_cons, if_neg (by simp)]
      have : L.filter (fun z => p z && !decide (z = a)) = L.filter p := List.filter_congr (fun z hz => by
        have : z ≠ a := fun e => h1 (e ▸ hz)
        simp [this])
      rw [this]; rfl
    · have hx : x ∈ L := by rcases List.mem_cons.1 h with h | h; exact absurd h.symm e; exact h
      have ih := filter_strike L h2 x hx p hp
      rw [List.filter_cons, List.filter_cons]
      by_cases ha : p a = true
      · rw [if_pos ha, if_pos (by simp [ha, e]), List.length_cons, List.length_cons, ih]
      · rw [if_neg ha, if_neg (by simp [ha]), ih]
theorem same_lit (a b : Int) : (Lit.int .i64 a).sameKey (.int .i64 b) = decide (a = b) := by
  by_cases h : a = b
  · subst h; rw [WideAt.sameKey_self (by trivial)]; simp
  · rw [Maps.sameKey_ne (fun e => h (by injection e))]; simp [h]
theorem rem_in {L : List Int} {left : Lit → Bool} {y : List Int} {x : Int} (hn : L.Nodup) (hx : x ∈ L) (hl : left (.int .i64 x) = true) (hy : x ∈ y) : rem L left y = rem L (fun z => left z && !z.sameKey (.int .i64 x)) y + 1 := by
  unfold rem
  rw [filter_strike L hn x hx _ (by simp [hl, hy])]
  congr 2
  refine List.filter_congr (fun z _ => ?_)
  simp only [same_lit]
  cases left (.int .i64 z) <;> cases decide (z ∈ y) <;> simp
theorem rem_out {L : List Int} {left : Lit → Bool} {y : List Int} {x : Int} (hy : ¬ x ∈ y) : rem L left y = rem L (fun z => left z && !z.sameKey (.int .i64 x)) y := by
  unfold rem
  congr 1
  refine List.filter_congr (fun z _ => ?_)
  simp only [same_lit]
  by_cases e : z = x
  · subst e; simp [hy]
  · simp [e]
theorem rem_none {L : List Int} {left : Lit → Bool} {y : List Int} (h : ∀ kl, left kl = false) : rem L left y = 0 := by
  unfold rem
  rw [List.length_eq_zero_iff, List.filter_eq_nil_iff]
  intro a _
  simp [h]
theorem rem_all {l y : List Int} {left : Lit → Bool} (h : ∀ x, left (.int .i64 x) = decide (x ∈ l)) : rem (dd l) left y = cnt l y := by
  unfold rem cnt
  congr 1
  refine List.filter_congr (fun z hz => ?_)
  rw [h z]
  simp [(mem_dd l z).1 hz]
theorem zero55 (w : World) : (zeroValue 98).run Try.prog w = .ok (.agg #[]) w := by
  have : (Try.prog.info? 98).map (fun i => i.zero) = some (some (.agg #[])) := by kernel_rfl
  cases hi : Try.prog.info? 98 with
  | none => rw [hi] at this; cases this
  | some i => rw [hi] at this; simp at this; simp [zeroValue, typeInfo, hi, this]
set_option maxHeartbeats 1000000 in
theorem countIn_any (b c : Nat) (l y : List Int) (w : World) (hb : SetR w b l) (hc : SetR w c y) (hl : l.length ≤ 17592186044416) : Calls Try.prog 46 #[.map (some b), .map (some c)] w fun e w' => e = .returned (.int .i64 (cnt l y)) ∧ w.grownBy w' none := by
  obtain ⟨D, hD1, hD2, hD3⟩ := hb
  obtain ⟨E, hE1, hE2, hE3⟩ := hc
  have hclt := hE1.lt
  have HE := hid_mk (And.intro hE1 (And.intro hE2 hclt))
  have HD2 := hid_mk hD2
  have hcl : Hid (cnt l y ≤ 17592186044416) := hid_mk (Nat.le_trans (cnt_le l y) (Nat.le_trans (dd_len l) hl))
  clear hE1 hE2 hE3 hD2 hD3 hclt
  go_enter Try.func46, Try.ntmps46
  go_wp2_with (at_range; refine wpList_range_own _ rfl _ 83 rfl 3 98 key3 Try.underlying83 _ b l.length D rfl hD1 ?_; intro w0 hrg0 hg0 hs0)
  go_frame
  have invK : ∀ key kl, keyOf Try.prog 3 key = some kl → ∃ x : Int, key = .int .i64 x := fun key kl h => by obtain ⟨x, h1, _⟩ := Maps.keyOf_int_inv Try.underlying3 h; exact ⟨x, h1⟩
  have invV : ∀ (v : Value) (z : DataW Unit × List MemPlace), unitElem v = some z → ∃ u : Unit, v = .agg #[] := fun v z h => ⟨(), (unitElem_inv h).1⟩
  have HK := hid_mk (And.intro invK invV)
  have HS := hid_mk (show rem (dd l) (has D) y = cnt l y from rem_all HD2.out)
  clear invK invV
  go_loopg [5] (size D) (fun g nv W => ∃ (n cn : Nat) (left : Lit → Bool), nv = .int .i64 n ∧ g = cn ∧ Hid (W.ranges Try.prog 3 unitElem b w.heap.size l.length D left cn ∧ n + rem (dd l) left y = cnt l y ∧ (∀ kl, left kl = true → has D kl = true) ∧ w.grownBy W none))
  case atStart => exact ⟨0, _, _, rfl, rfl, hid_mk ⟨hrg0, by rw [HS.out]; omega, fun _ h => h, hg0⟩⟩
  case round =>
    obtain ⟨n, cn, left, rfl, hgk, H⟩ := hrel
    clear hrg0 hg0 hs0 w0
    rename World => W
    go_wp2_with (at_next; refine wpList_next_ranges _ rfl _ rfl 3 key3 unitElem (fun x : Int => Value.int .i64 x) (fun _ : Unit => Value.agg #[]) HK.out.1 HK.out.2 b w.heap.size l.length D left cn rfl H.out.1 (fun hc0 hl0 => ?_) (fun x u kl z w1 cn1 hk1 hl1 hv1 hat1 hrg1 hlt1 hg1 hs1 hen1 => ?_))
    · have he := H.out.2.1
      rw [rem_none hl0] at he
      go_ret
      exact ⟨ret_int (by omega), H.out.2.2.2⟩
    · obtain ⟨x', e1, e2, hwx⟩ := Maps.keyOf_int_inv Try.underlying3 hk1
      obtain rfl : x = x' := by injection e1
      subst e2
      clear e1
      have hg2 : w.grownBy w1 none := grown_new H.out.2.2.2 hg1 (Nat.le_refl _)
      have hE := HE.out.1.kept hg2 (by simp)
      have hxl : x ∈ dd l := (mem_dd l x).2 (by have := H.out.2.2.1 _ hl1; rw [HD2.out] at this; simpa using this)
      have hlook : (Instr.lookup 83 (.map (some c)) (.int .i64 x) true).run Try.prog w1 = .ok (.tuple #[.agg #[], .bool (decide (x ∈ y))]) w1 := by
        obtain ⟨v, ps, hrun, hv⟩ := hE.look_ok key3 Try.underlying83 (zero55 w1) unitElem_mk hk1
        obtain ⟨rfl, _⟩ := unitElem_inv hv
        rw [hrun, HE.out.2.1]
      have HR := hid_mk (And.intro hrg1 (And.intro hg2 (And.intro hxl hl1)))
      have hgk' : cn1 < gk := by omega
      have hn : n ≤ 17592186044416 := by have := H.out.2.1; have := hcl.out; omega
      clear hrg1 hg2 hxl hl1 hE hg1 hs1 hat1 hv1 hlt1 hgk
      rw [hlook]
      clear hlook
      by_cases hy : x ∈ y
      · rw [show decide (x ∈ y) = true from decide_eq_true hy]
        go_wp2
        go_roundg cn1
        case measure => omega
        case rel =>
          refine ⟨n + 1, cn1, _, by go_num, rfl, hid_mk ⟨HR.out.1.alloc _, ?_, fun kl h => H.out.2.2.1 kl (by simp at h; exact h.1), ga HR.out.2.1 _⟩⟩
          have := H.out.2.1
          rw [rem_in (dd_nodup l) HR.out.2.2.1 HR.out.2.2.2 hy] at this
          omega
      · rw [show decide (x ∈ y) = false from decide_eq_false hy]
        go_wp2
        go_roundg cn1
        case measure => omega
        case rel =>
          refine ⟨n, cn1, _, rfl, rfl, hid_mk ⟨HR.out.1.alloc _, ?_, fun kl h => H.out.2.2.1 kl (by simp at h; exact h.1), ga HR.out.2.1 _⟩⟩
          have := H.out.2.1
          rw [rem_out hy] at this
          exact this
end Go.Proofs.Ythfdoliojbhcjaa
