/- watch: WatchLeaders. -/
import Derived.Test.YtcijjepleedecaaWaJ
namespace Go.Proofs.Ytcijjepleedecaa.W
open Go.RowKit Go.Maps
set_option linter.unusedVariables false
set_option linter.unusedSimpArgs false
set_option maxRecDepth 100000
attribute [local go_sem] Oper.semAt_some


def seenL (p : Sn × Value) : List Value := [.int .i64 p.1.id, .int .i64 p.1.term, .int .i64 p.1.com, .bool p.1.lead, .int .i64 p.1.b, .int .i64 p.1.t, p.2]
theorem seenL_at (es : List (Sn × Value)) : ∀ (j i : Nat) (p : Sn × Value), es[j]? = some p → i < 7 → (es.flatMap seenL)[j * 7 + i]? = (seenL p)[i]? := by
  induction es with
  | nil => intro j i p h; simp at h
  | cons q es ih =>
    intro j i p h hi
    rw [List.flatMap_cons]
    match j, h with
    | 0, h =>
      simp at h
      subst h
      rw [Nat.zero_mul, Nat.zero_add, List.getElem?_append_left (by simpa [seenL] using hi)]
    | j + 1, h =>
      rw [List.getElem?_append_right (by simp [seenL]; omega)]
      have := ih j i p (by simpa using h) hi
      rw [← this]
      congr 1
      simp [seenL]
      omega
/-- Servers of one's own, in a row. -/
structure SO (w W : World) (v : Value) (es : List (Sn × Value)) : Prop where
  row : W.ownsRow w.heap.size 28 7 v es.length (es.flatMap seenL)
  gr : w.grownBy W none
theorem SO.kept {w W W' : World} {v : Value} {es : List (Sn × Value)} (h : SO w W v es) (hg : W.grownBy W' none) : SO w W' v es :=
  ⟨owns_kept h.row hg (fun _ _ _ => by simp), grown_trans h.gr hg⟩
theorem SO.nil {w W : World} (h : w.grownBy W none) : SO w W (.slice none 0 0) [] := ⟨World.ownsRow_nil _ _ _ _, h⟩
theorem SO.reads {w W : World} {v : Value} {es : List (Sn × Value)} (h : SO w W v es) : SeensR W v es := by
  rcases h.row.2 with ⟨rfl, h0⟩ | ⟨g, cap, cur, rfl, hb, hg, h1, h2, h3, h4⟩
  · obtain rfl : es = [] := List.length_eq_zero_iff.1 h0
    exact SeensR.nil _
  · refine .inr ⟨g, 0, cap, by simp, by simpa using h1, fun j p hp => ?_⟩
    have hl : j < es.length := (List.getElem?_eq_some_iff.1 hp).1
    have key : ∀ i, i < 7 → W.cell? ⟨g, 0 + j * 7 + i, none⟩ = (seenL p)[i]? := fun i hi => by
      rw [← seenL_at es j i p hp hi, cell_of_row _ _ _ _ _ _ hg, ← h4, List.getElem?_take, if_pos (by omega), Nat.zero_add]
      simp
    refine ⟨?_, ?_, ?_, ?_, ?_, ?_, ?_⟩
    · have := key 0 (by omega); simpa [seenL] using this
    · have := key 1 (by omega); simpa [seenL] using this
    · have := key 2 (by omega); simpa [seenL] using this
    · have := key 3 (by omega); simpa [seenL] using this
    · have := key 4 (by omega); simpa [seenL] using this
    · have := key 5 (by omega); simpa [seenL] using this
    · have := key 6 (by omega); simpa [seenL] using this
theorem info28 : (Try.prog.info? 28).map (fun i => (i.zero, i.size, i.bytes)) = some (some (.agg #[.int .i64 0, .int .i64 0, .int .i64 0, .bool false, .int .i64 0, .int .i64 0, .slice none 0 0]), 7, 72) := by kernel_rfl
theorem cell_seven_new (w : World) (x0 x1 x2 x3 x4 x5 x6 : Value) (t : TypeId) : ∀ j u, [x0, x1, x2, x3, x4, x5, x6][j]? = some u → (w.alloc (.cells #[x0, x1, x2, x3, x4, x5, x6] t)).cell? ((⟨w.heap.size, 0, none⟩ : Addr).add j) = some u := by
  intro j u hj
  rw [addr_add, Nat.zero_add, cell_of_row _ _ _ _ _ _ (heap_alloc_new w (.cells #[x0, x1, x2, x3, x4, x5, x6] t))]
  match j, hj with
  | 0, hj => simpa using hj
  | 1, hj => simpa using hj
  | 2, hj => simpa using hj
  | 3, hj => simpa using hj
  | 4, hj => simpa using hj
  | 5, hj => simpa using hj
  | 6, hj => simpa using hj
theorem run_append_seen {w W : World} {v : Value} {es : List (Sn × Value)} (h : SO w W v es) (s : Sn) (xa : Option Addr) (xn xc : Nat) (hl : (es.length + 1) * 72 ≤ 140737488355328) {o : Oper} {a : Act} (sv y : Operand)
    (hop : o.op = .call { callee := .builtin .append, args := #[sv, y], argTypes := #[23, 23] }) (hs : a.eval sv = v) (hy : a.eval y = .slice (some ⟨W.heap.size, 0, none⟩) 1 1) :
    ∃ a' c' W', (execOp a.eval o).run Try.prog (W.alloc (.cells #[.int .i64 s.id, .int .i64 s.term, .int .i64 s.com, .bool s.lead, .int .i64 s.b, .int .i64 s.t, .slice xa xn xc] 28)) = .ok (.value (.slice a' (es.length + 1) c')) W' ∧ SO w W' (.slice a' (es.length + 1) c') (es ++ [(s, .slice xa xn xc)]) := by
  obtain ⟨i0, hi, hz0, hz1, hz2⟩ := info_parts info28
  have hg := World.grownBy_alloc W (.cells #[.int .i64 s.id, .int .i64 s.term, .int .i64 s.com, .bool s.lead, .int .i64 s.b, .int .i64 s.t, .slice xa xn xc] 28) none
  have hE := h.kept hg
  have hone : ∀ u ∈ seenL (s, .slice xa xn xc), u.oneCell' = true := fun u hu => by
    simp [seenL] at hu
    rcases hu with rfl | rfl | rfl | rfl | rfl | rfl | rfl <;> rfl
  obtain ⟨v', w', hrun, r1, r2, _, _⟩ := run_append_own_at (P := Try.prog) (W.alloc (.cells #[.int .i64 s.id, .int .i64 s.term, .int .i64 s.com, .bool s.lead, .int .i64 s.b, .int .i64 s.t, .slice xa xn xc] 28)) w.heap.size 23 o.type 28 i0 (.agg #[.int .i64 0, .int .i64 0, .int .i64 0, .bool false, .int .i64 0, .int .i64 0, .slice none 0 0]) 7 72 Try.underlying23 hi hz0 hz1 hz2 rfl (by decide) v es.length (es.flatMap seenL) hE.row ⟨W.heap.size, 0, none⟩ 1 1 (seenL (s, .slice xa xn xc)) rfl (cell_seven_new _ _ _ _ _ _ _ _ _) hone (by unfold maxLen; omega) hl hE.gr.size
  obtain ⟨a', c', rfl⟩ := row_shape r1
  refine ⟨a', c', w', by simp [execOp, hop, resolve, invoke, builtin, hs, hy, hrun, Result.andThen], ⟨?_, grown_row hE.gr hE.row r2⟩⟩
  rw [List.length_append, List.flatMap_append]; simpa using r1
theorem wpList_append_seen {w W : World} {v : Value} {es : List (Sn × Value)} (h : SO w W v es) (s : Sn) (xa : Option Addr) (xn xc : Nat) (hl : (es.length + 1) * 72 ≤ 140737488355328) {ops : Array Oper} {rest : List Oper} {o : Oper} {a : Act} {Q : Exit → Act → World → Prop}
    (hgd : o.guard = none) (sv y : Operand) (hop : o.op = .call { callee := .builtin .append, args := #[sv, y], argTypes := #[23, 23] }) (hs : a.eval sv = v) (hy : a.eval y = .slice (some ⟨W.heap.size, 0, none⟩) 1 1)
    (hK : ∀ a' c' W', SO w W' (.slice a' (es.length + 1) c') (es ++ [(s, .slice xa xn xc)]) → wpList Try.prog ops Q rest (a.put o.dst (.slice a' (es.length + 1) c')) W') :
    wpList Try.prog ops Q (o :: rest) a (W.alloc (.cells #[.int .i64 s.id, .int .i64 s.term, .int .i64 s.com, .bool s.lead, .int .i64 s.b, .int .i64 s.t, .slice xa xn xc] 28)) := by
  obtain ⟨a', c', W', hrun, h1⟩ := run_append_seen h s xa xn xc hl (o := o) (a := a) sv y hop hs hy
  refine wpList_plain hgd fun K hK' => ?_
  unfold Oper.wp
  rw [hrun]
  exact hK' _ _ (hK a' c' W' h1)

set_option maxHeartbeats 4000000 in
theorem leadersLaw_any (v : Value) (ss : List (Sn × Value)) (w : World) (h : SeensR w v ss) (hok : ∀ p ∈ ss, p.1.ok ∧ EntsR w p.2 p.1.es ∧ p.1.es.length * 48 ≤ 140737488355328) (hlen : ss.length * 72 ≤ 140737488355328) :
    Calls Try.prog 3 #[v] w fun e w' => e = .returned (.bool true) ∧ w.grownBy w' none := by
  obtain ⟨a, c, rfl⟩ := h.len
  have HE := hid_mk (And.intro h hok)
  clear h hok
  go_enter Try.func3, Try.ntmps3
  go_wp2_with fail
  go_loopw [3, 4] (fun xv iv wr => ∃ (k : Nat) (xa : Option Addr) (xc : Nat) (ps : List (Sn × Value)), k ≤ ss.length ∧ xv = .slice xa ps.length xc ∧ iv = .int .i64 k ∧ Hid (SO w wr (.slice xa ps.length xc) ps ∧ ps.map (·.1) = (ss.map (·.1)).take k ∧ ps.length = k ∧ ∀ p ∈ ps, p.1.ok ∧ ∃ a n c, p.2 = .slice a n c)) (fun _ iv _ => ss.length - (intOf iv).toNat)
  case atStart => exact ⟨0, none, 0, [], Nat.zero_le _, rfl, rfl, hid_mk ⟨SO.nil (grown_refl _ _), rfl, rfl, by simp⟩⟩
  case round =>
    obtain ⟨k, xa, xc, ps, hk, rfl, rfl, H⟩ := hrel
    rename World => wr
    by_cases hlt : k < ss.length
    · have hlt' : (k : Int) < ss.length := by omega
      have hk4 : (k : Int) < 20000000000000 := by omega
      obtain ⟨p, hp⟩ : ∃ p, ss[k]? = some p := ⟨ss[k], List.getElem?_eq_getElem hlt⟩
      obtain ⟨b, off, rfl, hcs⟩ := HE.out.1.at hp
      obtain ⟨hpo, hpe, hpl⟩ := HE.out.2 p (List.mem_of_getElem? hp)
      obtain ⟨q0, q1, q2, q3, q4, q5, q6⟩ := hcs wr H.out.1.gr
      obtain ⟨ea, ec, hes⟩ := hpe.len
      rw [hes] at hpe q6
      have HP := hid_mk (And.intro hp (And.intro hpo (And.intro hpe hpl)))
      have HSV : Hid (∀ lv, seenV p.1 lv = .agg #[.int .i64 p.1.id, .int .i64 p.1.term, .int .i64 p.1.com, .bool p.1.lead, .int .i64 p.1.b, .int .i64 p.1.t, lv]) := hid_mk fun _ => rfl
      clear hp hcs hpo hpe hpl hes
      go_wp2_with fail
      rw [← HSV.out]
      refine (own_any p.1 _ wr (HP.out.2.2.1.kept H.out.1.gr) HP.out.2.2.2).mono ?_
      rintro e w1 ⟨lv', rfl, hr', hg⟩
      obtain ⟨a1, c1, rfl⟩ := hr'.len
      have H1 := hid_mk (H.out.1.kept hg)
      clear hr' hg q0 q1 q2 q3 q4 q5 q6
      rw [HSV.out]
      go_wp2_with (at_builtin; refine wpList_append_seen H1.out p.1 a1 p.1.es.length c1 (by have := H.out.2.2.1; omega) rfl (.tmp 11) (.tmp 17) rfl rfl rfl ?_; intro a4 c4 Y4 heo4; have H4 := hid_mk heo4; clear heo4)
      go_roundw
      case rel =>
        refine ⟨k + 1, a4, c4, ps ++ [(p.1, .slice a1 p.1.es.length c1)], by omega, by simp, by first | rfl | (congr 1; done) | (congr 1; omega), hid_mk ⟨by simpa using H4.out, ?_, by simp [H.out.2.2.1], fun q hq => ?_⟩⟩
        · rw [List.map_append, H.out.2.1, List.take_add_one, List.getElem?_map, HP.out.1]; rfl
        · rcases List.mem_append.1 hq with hq | hq
          · exact H.out.2.2.2 q hq
          · obtain rfl : q = _ := List.mem_singleton.1 hq
            exact ⟨HP.out.2.1, _, _, _, rfl⟩
      case measure => simp [intOf]; omega
    · have hlt' : ¬ (k : Int) < ss.length := by omega
      have hke : k = ss.length := by omega
      have HM := hid_mk (show ps.map (·.1) = ss.map (·.1) from by rw [H.out.2.1, hke, ← List.length_map (f := (·.1)), List.take_length])
      go_wp2_with fail
      refine (leaders_any _ ps wr H.out.1.reads H.out.2.2.2 (by have := H.out.2.2.1; omega)).mono ?_
      rintro e w1 ⟨z, rfl, hz, hg⟩
      rw [HM.out] at hz
      have H1 := hid_mk (And.intro hz (grown_trans H.out.1.gr hg))
      clear hz hg
      go_wp2_with fail
      refine (rleaders_any _ ss w1 (HE.out.1.kept H1.out.2) (by omega)).mono ?_
      rintro e w2 ⟨z', rfl, hz, hg⟩
      obtain rfl := hz.one H1.out.1
      have H2 := hid_mk (grown_trans H1.out.2 hg)
      clear hz hg
      go_wp2_with fail
      refine (knows_any w2).mono ?_
      rintro e w3 ⟨rfl, hg⟩
      have H3 := hid_mk (grown_trans H2.out hg)
      clear hg
      go_wp2_with fail
      go_ret
      exact ⟨rfl, H3.out⟩
end Go.Proofs.Ytcijjepleedecaa.W
