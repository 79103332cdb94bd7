/- The document's disk: without, with, done. -/
import Derived.Test.YtopablemfajecaaRfA
namespace Go.Proofs.Ytopablemfajecaa
open Go.RowKit Go.Maps Go.WideMaps Go.WideElems
set_option linter.unusedVariables false
set_option linter.unusedSimpArgs false
set_option maxRecDepth 100000

theorem info94 : (Try.prog.info? 94).map (fun i => (i.zero, i.size, i.bytes)) = some (some (.agg #[.string ByteArray.empty, .int .i64 0]), 2, 24) := by kernel_rfl
/-- Another name. -/
def other (s : ByteArray) (p : ByteArray × Nat) : Bool := !(p.1.toList == s.toList)
def rwithout (dir : List (ByteArray × Nat)) (s : ByteArray) : List (ByteArray × Nat) := dir.filter (other s)
theorem cell_two_new (w : World) (x y : Value) (t : TypeId) : ∀ j u, [x, y][j]? = some u → (w.alloc (.cells #[x, y] t)).cell? ((⟨w.heap.size, 0, none⟩ : Addr).add j) = some u := by
  intro j u hj
  have hadd : ((⟨w.heap.size, 0, none⟩ : Addr).add j) = ⟨w.heap.size, j, none⟩ := by unfold Addr.add; split <;> simp_all
  rw [hadd]
  have hb := heap_alloc_new w (.cells #[x, y] t)
  simp only [World.cell?, hb]
  match j, hj with
  | 0, hj => simpa using hj
  | 1, hj => simpa using hj

theorem grown_new {w w1 w2 : World} {r : Nat} (h : w.grownBy w1 none) (k : w1.grownBy w2 (some r)) (hr : w.heap.size ≤ r) : w.grownBy w2 none :=
  ⟨k.os.trans h.os, k.tape.trans h.tape, k.output.trans h.output, Nat.le_trans h.size k.size, fun i hi _ => (k.block i (Nat.lt_of_lt_of_le hi h.size) (by simp; omega)).trans (h.block i hi (by simp))⟩
theorem row_low {w : World} {B : Nat} {e : TypeId} {size : Nat} {v : Value} {n : Nat} {xs : List Value} (h : w.ownsRow B e size v n xs) {r : Nat} (hr : v.ownBlock = some r) : B ≤ r := by
  rcases h.2 with ⟨rfl, _⟩ | ⟨g, cap, cur, rfl, hb, _⟩
  · cases hr
  · cases hr; exact hb
/-- An own row that was appended to: what has turned is new. -/
theorem grown_row {w w1 w2 : World} {e : TypeId} {size : Nat} {v : Value} {n : Nat} {xs : List Value} (hg : w.grownBy w1 none) (ho : w1.ownsRow w.heap.size e size v n xs) (k : w1.grownBy w2 v.ownBlock) : w.grownBy w2 none := by
  cases hv : v.ownBlock with
  | none => rw [hv] at k; exact grown_trans hg k
  | some r => rw [hv] at k; exact grown_new hg k (row_low ho hv)
theorem rows_shape {w : World} {B : Nat} {e : TypeId} {size : Nat} {v : Value} {n : Nat} {xs : List Value} (h : w.ownsRow B e size v n xs) : ∃ a c, v = .slice a n c := by
  rcases h.2 with ⟨rfl, rfl⟩ | ⟨g, cap, cur, rfl, _⟩
  · exact ⟨_, _, rfl⟩
  · exact ⟨_, _, rfl⟩
set_option maxHeartbeats 2000000 in
theorem without_any (v : Value) (dir : List (ByteArray × Nat)) (s : ByteArray) (w : World) (h : NmR w v dir) (hl : dir.length ≤ 2000000000001) : Calls Try.prog 70 #[v, .string s] w fun e w' => ∃ v', e = .returned v' ∧ NmO w' w.heap.size v' (rwithout dir s) ∧ w.grownBy w' none := by
  obtain ⟨a, c, rfl⟩ := h.len
  obtain ⟨i0, hi, hz0, hz1, hz2⟩ := info_parts info94
  have HN := hid_mk h
  clear h
  go_enter Try.func70, Try.ntmps70
  go_wp2
  go_loopw [5, 6] (fun ov iv W1 => ∃ (k n : Nat) (oa : Option Addr) (oc : Nat), k ≤ dir.length ∧ iv = .int .i64 k ∧ ov = .slice oa n oc ∧ n ≤ k ∧ Hid (n = (rwithout (dir.take k) s).length ∧ NmO W1 w.heap.size (.slice oa n oc) (rwithout (dir.take k) s) ∧ w.grownBy W1 none)) (fun _ iv _ => dir.length - (intOf iv).toNat)
  case atStart => exact ⟨0, 0, none, 0, Nat.zero_le _, rfl, rfl, Nat.le_refl _, hid_mk ⟨by simp [rwithout], by simp [rwithout]; exact World.ownsRow_nil _ _ _ _, grown_refl _ _⟩⟩
  case round =>
    obtain ⟨k, n, oa, oc, hk, rfl, rfl, hnk, H⟩ := hrel
    by_cases hlt : k < dir.length
    · have hlI : (k : Int) < (dir.length : Int) := by omega
      obtain ⟨b, off, cap, e, hc, hcell⟩ := HN.out.at (by omega)
      injection e with e1 e2 e3
      subst e1
      subst e3
      have hp : dir[k]? = some dir[k] := List.getElem?_eq_getElem hlt
      have HTK := hid_mk (show dir.take (k + 1) = dir.take k ++ [dir[k]] from List.take_succ_eq_append_getElem hlt)
      have c0 := H.out.2.2.cell (hcell k _ hp).1 (by simp)
      have c1 := H.out.2.2.cell (hcell k _ hp).2 (by simp)
      generalize dir[k] = p at *
      clear hp hcell e2
      obtain ⟨s', fi⟩ := p
      by_cases hps : s' = s
      · subst hps
        go_wp2_with fail
        refine ⟨⟨k + 1, n, oa, oc, by omega, by simp, rfl, by omega, hid_mk ?_⟩, by simp [intOf]; omega⟩
        have e : rwithout (dir.take (k + 1)) s' = rwithout (dir.take k) s' := by rw [HTK.out]; simp [rwithout, other]
        rw [e]
        exact H.out
      · have hb1 : (s'.toList == s.toList) = false := ne_text hps
        have HO : Hid ((wr.alloc (.cells #[.string s', .int .i64 fi] 94)).ownsRow w.heap.size 94 2 (.slice oa n oc) n (nmCells (rwithout (dir.take k) s)) ∧ w.grownBy (wr.alloc (.cells #[.string s', .int .i64 fi] 94)) none) := hid_mk (by
          have ho : wr.ownsRow w.heap.size 94 2 (.slice oa n oc) (rwithout (dir.take k) s).length (nmCells (rwithout (dir.take k) s)) := H.out.2.1
          rw [← H.out.1] at ho
          exact ⟨ho.alloc _, grown_trans H.out.2.2 (World.grownBy_alloc _ _ none)⟩)
        have HS := hid_mk (show w.heap.size ≤ (wr.alloc (.cells #[.string s', .int .i64 fi] 94)).heap.size from HO.out.2.size)
        go_wp2_with (at_builtin; refine wpList_append_own _ rfl (.tmp 20) (.tmp 25) 64 rfl w.heap.size 94 i0 (.agg #[.string ByteArray.empty, .int .i64 0]) 2 24 Try.underlying64 hi hz0 hz1 hz2 rfl (by decide) (.slice oa n oc) n _ rfl HO.out.1 ⟨wr.heap.size, 0, none⟩ 1 1 [.string s', .int .i64 fi] rfl rfl (cell_two_new _ _ _ _) (by simp [Value.oneCell']) (by unfold maxLen; omega) (by omega) HS.out ?_; intro v' w3 hown3 hgrow3 _; obtain ⟨g', cap', rfl⟩ := rows_shape hown3; have H3 := hid_mk (And.intro hown3 hgrow3); clear hown3 hgrow3)
        refine ⟨⟨k + 1, n + 1, g', cap', by omega, by simp, rfl, by omega, hid_mk ?_⟩, by simp [intOf]; omega⟩
        have e : rwithout (dir.take (k + 1)) s = rwithout (dir.take k) s ++ [(s', fi)] := by rw [HTK.out]; simp [rwithout, other, hb1]
        rw [e, List.length_append]
        refine ⟨by rw [← H.out.1]; rfl, ?_, grown_row HO.out.2 HO.out.1 H3.out.2⟩
        unfold NmO
        rw [List.length_append, ← H.out.1, nmCells_app]
        exact H3.out.1
    · have hlI : ¬ (k : Int) < (dir.length : Int) := by omega
      have HE := hid_mk (show rwithout (dir.take k) s = rwithout dir s by rw [List.take_of_length_le (by omega)])
      go_wp2_with fail
      go_ret
      refine ⟨_, rfl, ?_, H.out.2.2⟩
      rw [← HE.out]
      exact H.out.2.1

end Go.Proofs.Ytopablemfajecaa
