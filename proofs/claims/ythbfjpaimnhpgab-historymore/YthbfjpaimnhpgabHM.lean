/- history: a row of one's own that may lie at an offset of its block; the model in memory; Start, Next, has, put. -/
import Derived.Test.YthbfjpaimnhpgabHR
import Derived.ArgAppend
import Derived.Lib.SliceRun
namespace Go.Proofs.Ythbfjpaimnhpgab
open Go.RowKit Go.Maps
set_option linter.unusedVariables false
set_option linter.unusedSimpArgs false
set_option maxRecDepth 100000

def RowO (w : World) (e : TypeId) (v : Value) (n : Nat) (xs : List Value) : Prop :=
  xs.length = n ∧ ((v = .slice none 0 0 ∧ n = 0) ∨ ∃ g off cap cur, v = .slice (some ⟨g, off, none⟩) n cap ∧ w.heap[g]? = some (.cells cur e (0, 0)) ∧ n ≤ cap ∧ off + cap ≤ cur.size ∧ ∀ (j : Nat) u, xs[j]? = some u → cur[off + j]? = some u)
theorem RowO.of_own {w : World} {B : Nat} {e : TypeId} {v : Value} {n : Nat} {xs : List Value} (h : w.ownsRow B e 1 v n xs) : RowO w e v n xs := by
  refine ⟨by simpa using h.1, ?_⟩
  rcases h.2 with h0 | ⟨g, cap, cur, hv, _, hg, hnc, hcm, hcs, ht⟩
  · exact .inl h0
  · refine .inr ⟨g, 0, cap, cur, hv, hg, hnc, by omega, fun j u hj => ?_⟩
    rw [Nat.mul_one] at ht
    rw [← ht, List.getElem?_take] at hj
    split at hj
    · simpa using hj
    · cases hj
theorem RowO.nil (w : World) (e : TypeId) : RowO w e (.slice none 0 0) 0 [] := ⟨rfl, .inl ⟨rfl, rfl⟩⟩
theorem RowO.kept {W W' : World} {e : TypeId} {v : Value} {n : Nat} {xs : List Value} {row : Option Nat} (h : RowO W e v n xs) (hg : W.grownBy W' row) (hr : ∀ g cur, W.heap[g]? = some (.cells cur e (0, 0)) → some g ≠ row) : RowO W' e v n xs := by
  refine ⟨h.1, ?_⟩
  rcases h.2 with hn | ⟨g, off, cap, cur, hv, hh, rest⟩
  · exact .inl hn
  · exact .inr ⟨g, off, cap, cur, hv, (hg.block g (Array.getElem?_eq_some_iff.1 hh).1 (hr g cur hh)).trans hh, rest⟩
theorem RowO.shape {W : World} {e : TypeId} {v : Value} {n : Nat} {xs : List Value} (h : RowO W e v n xs) : ∃ a c, v = .slice a n c := by
  rcases h.2 with ⟨rfl, rfl⟩ | ⟨g, off, cap, cur, rfl, _⟩
  · exact ⟨_, _, rfl⟩
  · exact ⟨_, _, rfl⟩
theorem RowO.low {W : World} {e : TypeId} {v : Value} {n : Nat} {xs : List Value} (h : RowO W e v n xs) : ∀ r, v.ownBlock = some r → 0 ≤ r ∧ ∃ c, W.heap[r]? = some (.cells c e (0, 0)) := by
  rcases h.2 with ⟨rfl, _⟩ | ⟨g, off, cap, cur, rfl, hg, _⟩
  · intro r e; cases e
  · intro r e; cases e; exact ⟨Nat.zero_le _, _, hg⟩
theorem RowO.tag {W : World} {e : TypeId} {v : Value} {n : Nat} {xs : List Value} (h : RowO W e v n xs) {b : Nat} {c : Array Value} {t : TypeId} {f : Nat × Nat} (hb : W.heap[b]? = some (.cells c t f)) (ht : t ≠ e) : some b ≠ v.ownBlock := by
  rcases h.2 with ⟨rfl, _⟩ | ⟨g, off, cap, cur, rfl, hg, _⟩
  · simp [Value.ownBlock]
  · intro e1
    injection e1 with e1
    subst e1
    rw [hg] at hb
    cases hb
    exact ht rfl
theorem grown_setCells (b : Nat) : ∀ (vs : List Value) (o : Nat) (w : World), w.grownBy (w.setCells b o vs) (some b)
  | [], _, w => grown_refl _ _
  | v :: vs, o, w => grown_trans (grown_setCell w b o v) (grown_setCells b vs (o + 1) _)
/-- append(v, x), where v is a row of one's own: in its block, or in a new one. -/
theorem run_append_o {P : Program} (w : World) (t ty e : TypeId) (i : TypeInfo) (z : Value) (bytes : Nat) (ht : P.underlying t = some (.slice e)) (hi : P.info? e = some i) (hz : i.zero = some z) (hsize : i.size = 1) (hby : i.bytes = bytes) (hzs : z.cells.size = 1)
    (v : Value) (n : Nat) (xs : List Value) (h : RowO w e v n xs) (a : Addr) (c : Nat) (x : Value) (hx : w.cell? (a.add 0) = some x) (h1 : x.oneCell' = true) (h63 : n + 1 ≤ maxLen) (hb : (n + 1) * bytes ≤ 140737488355328) :
    ∃ v' w', (Builtin.append_ #[t, t] ty #[v, .slice (some a) 1 c]).run P w = .ok v' w' ∧ RowO w' e v' (n + 1) (xs ++ [x]) ∧ w.grownBy w' v.ownBlock ∧ (v'.ownBlock = v.ownBlock ∨ ∀ k, v'.ownBlock = some k → w.heap.size ≤ k) := by
  have hnews : ∀ (j : Nat) u, [x][j]? = some u → w.cell? (a.add j) = some u := fun j u hj => by
    cases j with
    | zero => simp at hj; subst hj; exact hx
    | succ j => simp at hj
  rcases h.2 with ⟨rfl, rfl⟩ | ⟨g, off, cap, cur, rfl, hg, hnc, hcs, hel⟩
  · have hxs : xs = [] := List.eq_nil_of_length_eq_zero h.1
    subst hxs
    obtain ⟨v', w', hr, h2, h3, h4, h5⟩ := run_append_own_at (P := P) w 0 t ty e i z 1 bytes ht hi hz hsize hby hzs (by decide) (.slice none 0 0) 0 [] (World.ownsRow_nil _ _ _ _) a 1 c [x] rfl hnews (by simp [h1]) h63 hb (Nat.zero_le _)
    refine ⟨v', w', hr, RowO.of_own h2, h3, ?_⟩
    rcases h5 with h5 | h5
    · exact .inl h5
    · exact .inr (fun k hk => by rw [h5] at hk; cases hk; exact Nat.le_refl _)
  · have hcell : ∀ j, j < cur.size → w.cell? ⟨g, j, none⟩ = cur[j]? := fun j hj => by simp [World.cell?, hg]
    by_cases hroom : n + 1 ≤ cap
    · have hr := run_append_room_cells (P := P) w t ty e i ht hi g off n cap a 1 c [x] (by simp [hsize]) hnews (by simp [h1]) hroom (fun j hj => by
        simp at hj; subst hj
        rw [hsize, hcell _ (by omega), Array.getElem?_eq_getElem (by omega)]; rfl) (fun j hj => by simp [World.frozen?, hg])
      rw [hsize, Nat.mul_one] at hr
      refine ⟨_, _, hr, ⟨by simp [h.1], .inr ⟨g, off, cap, cur.setIfInBounds (off + n) x, rfl, ?_, hroom, by simpa using hcs, fun j u hj => ?_⟩⟩, grown_setCells _ _ _ _, .inl rfl⟩
      · show (w.setCell ⟨g, off + n, none⟩ x).heap[g]? = _
        simp [World.setCell, Array.getElem?_modify, hg]
      · by_cases hjn : j < n
        · rw [List.getElem?_append_left (by rw [h.1]; exact hjn)] at hj
          rw [Array.getElem?_setIfInBounds_ne (by omega)]
          exact hel j u hj
        · have hj2 : j = n := by
            have := (List.getElem?_eq_some_iff.1 hj).1
            simp [h.1] at this
            omega
          subst hj2
          rw [List.getElem?_append_right (by rw [h.1]; exact Nat.le_refl _), h.1] at hj
          simp at hj
          subst hj
          rw [Array.getElem?_setIfInBounds_self_of_lt (by omega)]
    · obtain ⟨v', w', hr, h2, h3⟩ := run_append_arg_grows (P := P) w t ty e i z 1 bytes ht hi hz hsize hby hzs (by decide) ⟨g, off, none⟩ n cap xs (by simp [h.1]) (fun j u hj => by
        have : j < xs.length := (List.getElem?_eq_some_iff.1 hj).1
        have hadd : ((⟨g, off, none⟩ : Addr).add j) = ⟨g, off + j, none⟩ := by unfold Addr.add; split <;> simp_all
        rw [hadd, hcell _ (by rw [h.1] at this; omega)]
        exact hel j u hj) a 1 c [x] rfl hnews (by omega) h63 hb
      exact ⟨v', w', hr, RowO.of_own h2, grown_any h3 _, .inr (fun k hk => (own_low h2 k hk).1)⟩

/-- A model: a block with its start and its records. -/
structure IsM (w : World) (b : Nat) (vm : Value) (R : List RV) (s : Nat) : Prop where
  blk : Blk w b #[.int .i64 s, vm] 59
  row : RowO w 24 vm R.length (R.map (·.2))
  fit : s + R.length ≤ 5864062014805
/-- Where it lies. -/
def MF (b : Nat) (vm : Value) (k : Nat) : Prop := k = b ∨ vm.ownBlock = some k
theorem RowO.lt {W : World} {e : TypeId} {v : Value} {n : Nat} {xs : List Value} (h : RowO W e v n xs) {k : Nat} (hk : v.ownBlock = some k) : k < W.heap.size := by
  obtain ⟨_, c, hc⟩ := h.low k hk
  exact (Array.getElem?_eq_some_iff.1 hc).1
theorem RowO.keeps {W W' : World} {F : Nat → Prop} {e : TypeId} {v : Value} {n : Nat} {xs : List Value} (h : RowO W e v n xs) (hk : Keeps F W W') (hr : ∀ g, v.ownBlock = some g → ¬ F g) : RowO W' e v n xs := by
  refine ⟨h.1, ?_⟩
  rcases h.2 with hn | ⟨g, off, cap, cur, hv, hh, rest⟩
  · exact .inl hn
  · exact .inr ⟨g, off, cap, cur, hv, (hk.block g (Array.getElem?_eq_some_iff.1 hh).1 (hr g (by rw [hv]; rfl))).trans hh, rest⟩
theorem RowO.grown {W W' : World} {e : TypeId} {v : Value} {n : Nat} {xs : List Value} (h : RowO W e v n xs) (hg : W.grownBy W' none) : RowO W' e v n xs := h.kept hg (fun _ _ _ => by simp)
theorem IsM.grown {w w' : World} {b : Nat} {vm : Value} {R : List RV} {s : Nat} (h : IsM w b vm R s) (hg : w.grownBy w' none) : IsM w' b vm R s := ⟨h.blk.kept hg (by simp), h.row.grown hg, h.fit⟩
theorem IsM.keeps {w w' : World} {F : Nat → Prop} {b : Nat} {vm : Value} {R : List RV} {s : Nat} (h : IsM w b vm R s) (hk : Keeps F w w') (hn : ∀ k, MF b vm k → ¬ F k) : IsM w' b vm R s :=
  ⟨h.blk.keeps hk (hn b (.inl rfl)), h.row.keeps hk (fun g e => hn g (.inr e)), h.fit⟩
theorem IsM.lt {w : World} {b : Nat} {vm : Value} {R : List RV} {s : Nat} (h : IsM w b vm R s) {k : Nat} (hk : MF b vm k) : k < w.heap.size := by
  rcases hk with rfl | hk
  · exact h.blk.lt
  · exact h.row.lt hk
theorem IsM.cells {w : World} {b : Nat} {vm : Value} {R : List RV} {s : Nat} (h : IsM w b vm R s) : w.cell? ⟨b, 0, none⟩ = some (.int .i64 s) ∧ w.cell? ⟨b, 1, none⟩ = some vm ∧ ∀ i, w.frozen? ⟨b, i, none⟩ = false := ⟨h.blk.cell 0, h.blk.cell 1, h.blk.frozen⟩
/-- Behind a call. -/
structure MP (w w' : World) (b : Nat) (vm vm' : Value) : Prop where
  keeps : Keeps (MF b vm) w w'
  new : ∀ k, MF b vm' k → MF b vm k ∨ w.heap.size ≤ k
theorem MP.of_grown {w w' : World} {b : Nat} {vm : Value} (h : w.grownBy w' none) : MP w w' b vm vm := ⟨Keeps.of_none h, fun _ e => .inl e⟩
theorem rd0 {e : Ending} {w w' : World} {v : Value} (h : e = .returned v ∧ w' = w) : e = .returned v ∧ ∃ m, w' = w.drewN m := ⟨h.1, 0, h.2⟩
theorem mod_new (w : World) : Calls Try.prog 20 #[] w fun e w' => e = .returned (.pointer (some ⟨w.heap.size, 0, none⟩)) ∧ IsM w' w.heap.size (.slice none 0 0) [] 0 ∧ w.grownBy w' none := by
  have HB := hid_mk (blk_alloc w #[.int .i64 0, .slice none 0 0] 59)
  have HG := hid_mk (World.grownBy_alloc w (.cells #[.int .i64 0, .slice none 0 0] 59) none)
  go_enter Try.func20, Try.ntmps20
  go_wp2
  go_ret
  exact ⟨rfl, ⟨HB.out, RowO.nil _ _, by simp⟩, HG.out⟩
theorem next_any {w : World} {b : Nat} {vm : Value} {R : List RV} {s : Nat} (h : IsM w b vm R s) : Calls Try.prog 34 #[.pointer (some ⟨b, 0, none⟩)] w fun e w' => e = .returned (.int .i64 ((s + R.length : Nat) : Int)) ∧ ∃ m, w' = w.drewN m := by
  obtain ⟨c0, c1, cf⟩ := h.cells
  have hf := h.fit
  obtain ⟨a, c, rfl⟩ := h.row.shape
  clear h
  go_enter Try.func34, Try.ntmps34
  go_upto_region 3 with fail
  go_quiet (fail)
  go_wp2
  go_ret
  exact ⟨ret_int (by omega), _, rfl⟩
theorem next_no (w : World) : Calls Try.prog 34 #[.pointer none] w fun e w' => e = .returned (.int .i64 0) ∧ w' = w := by
  go_enter Try.func34, Try.ntmps34
  go_wp2
  go_ret
  exact ⟨rfl, rfl⟩
theorem has_any {w : World} {b : Nat} {vm : Value} {R : List RV} {s : Nat} (h : IsM w b vm R s) (fr : Int) : Calls Try.prog 33 #[.pointer (some ⟨b, 0, none⟩), .int .i64 fr] w fun e w' => e = .returned (.bool (hasM ⟨s, R.map (·.1)⟩ fr)) ∧ ∃ m, w' = w.drewN m := by
  obtain ⟨c0, c1, cf⟩ := h.cells
  have HN := hid_mk (next_any h)
  have hn : (Mo.next ⟨s, R.map (·.1)⟩) = s + R.length := by simp [Mo.next]
  unfold hasM
  rw [hn]
  clear h hn
  generalize s + R.length = n at *
  by_cases h1 : (s : Int) ≤ fr
  · go_enter Try.func33, Try.ntmps33
    go_wp2_with (go_at_call 34; refine HN.out.mono ?_; rintro e w' ⟨rfl, m, rfl⟩)
    go_ret
    exact ⟨ret_bool (by simp [h1]), m, rfl⟩
  · go_enter Try.func33, Try.ntmps33
    go_wp2_with fail
    go_ret
    exact ⟨ret_bool (by simp [h1]; omega), 0, rfl⟩
theorem has_no (fr : Int) (w : World) : Calls Try.prog 33 #[.pointer none, .int .i64 fr] w fun e w' => e = .returned (.bool false) ∧ w' = w := by
  go_enter Try.func33, Try.ntmps33
  go_wp2
  go_ret
  exact ⟨rfl, rfl⟩
end Go.Proofs.Ythbfjpaimnhpgab
