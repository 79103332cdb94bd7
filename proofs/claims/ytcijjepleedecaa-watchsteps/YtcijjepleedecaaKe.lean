/- watch: rows of servers; who led, in a map. -/
import Derived.Test.YtcijjepleedecaaWaF
import Derived.Maps.OwnSet
import Derived.Maps.OwnOps
namespace Go.Proofs.Ytcijjepleedecaa.W
open Go.RowKit Go.Maps
set_option linter.unusedVariables false
set_option linter.unusedSimpArgs false
set_option maxRecDepth 100000
attribute [local go_sem] Oper.semAt_some


def Sn.ok (s : Sn) : Prop := I64 s.id ∧ I64 s.term ∧ I64 s.b
/-- Servers that can be read. -/
def SeensR (W : World) (v : Value) (ss : List (Sn × Value)) : Prop :=
  (ss = [] ∧ ∃ a cap, v = .slice a 0 cap ∧ (a = none → cap = 0)) ∨ ∃ b off cap, v = .slice (some ⟨b, off, none⟩) ss.length cap ∧ ss.length ≤ cap ∧
    ∀ (i : Nat) (p : Sn × Value), ss[i]? = some p → W.cell? ⟨b, off + i * 7, none⟩ = some (.int .i64 p.1.id) ∧ W.cell? ⟨b, off + i * 7 + 1, none⟩ = some (.int .i64 p.1.term) ∧ W.cell? ⟨b, off + i * 7 + 2, none⟩ = some (.int .i64 p.1.com) ∧ W.cell? ⟨b, off + i * 7 + 3, none⟩ = some (.bool p.1.lead) ∧ W.cell? ⟨b, off + i * 7 + 4, none⟩ = some (.int .i64 p.1.b) ∧ W.cell? ⟨b, off + i * 7 + 5, none⟩ = some (.int .i64 p.1.t) ∧ W.cell? ⟨b, off + i * 7 + 6, none⟩ = some p.2
theorem SeensR.len {W : World} {v : Value} {ss : List (Sn × Value)} (h : SeensR W v ss) : ∃ a cap, v = .slice a ss.length cap := by
  rcases h with ⟨rfl, a, cap, rfl, _⟩ | ⟨b, off, cap, rfl, _⟩
  · exact ⟨_, _, rfl⟩
  · exact ⟨_, _, rfl⟩
theorem SeensR.nil (w : World) : SeensR w (.slice none 0 0) [] := .inl ⟨rfl, none, 0, rfl, fun _ => rfl⟩
theorem SeensR.kept {W W' : World} {v : Value} {ss : List (Sn × Value)} (h : SeensR W v ss) (hg : W.grownBy W' none) : SeensR W' v ss := by
  rcases h with h | ⟨b, off, cap, hv, hl, hc⟩
  · exact .inl h
  · refine .inr ⟨b, off, cap, hv, hl, fun i p hp => ?_⟩
    obtain ⟨h0, h1, h2, h3, h4, h5, h6⟩ := hc i p hp
    exact ⟨hg.cell h0 (by simp), hg.cell h1 (by simp), hg.cell h2 (by simp), hg.cell h3 (by simp), hg.cell h4 (by simp), hg.cell h5 (by simp), hg.cell h6 (by simp)⟩
theorem SeensR.at {W : World} {a : Option Addr} {n cap : Nat} {ss : List (Sn × Value)} (h : SeensR W (.slice a n cap) ss) {i : Nat} {p : Sn × Value} (hp : ss[i]? = some p) : ∃ b off, a = some ⟨b, off, none⟩ ∧
    ∀ W', W.grownBy W' none → W'.cell? ⟨b, off + i * 7, none⟩ = some (.int .i64 p.1.id) ∧ W'.cell? ⟨b, off + i * 7 + 1, none⟩ = some (.int .i64 p.1.term) ∧ W'.cell? ⟨b, off + i * 7 + 2, none⟩ = some (.int .i64 p.1.com) ∧ W'.cell? ⟨b, off + i * 7 + 3, none⟩ = some (.bool p.1.lead) ∧ W'.cell? ⟨b, off + i * 7 + 4, none⟩ = some (.int .i64 p.1.b) ∧ W'.cell? ⟨b, off + i * 7 + 5, none⟩ = some (.int .i64 p.1.t) ∧ W'.cell? ⟨b, off + i * 7 + 6, none⟩ = some p.2 := by
  rcases h with ⟨rfl, _⟩ | ⟨b, off, cap', e, hl, hc⟩
  · simp at hp
  · injection e with e1 e2 e3
    refine ⟨b, off, e1, fun W' hg => ?_⟩
    obtain ⟨h0, h1, h2, h3, h4, h5, h6⟩ := hc i p hp
    exact ⟨hg.cell h0 (by simp), hg.cell h1 (by simp), hg.cell h2 (by simp), hg.cell h3 (by simp), hg.cell h4 (by simp), hg.cell h5 (by simp), hg.cell h6 (by simp)⟩
/-! ### Two in one term -/
def clash2 (r s : Sn) : Bool := s.lead && r.lead && (s.term == r.term) && !(s.id == r.id)
def badL (pre : List Sn) (s : Sn) : Bool := pre.any fun r => clash2 r s
def fineTo (ss : List Sn) (k : Nat) : Prop := ∀ j s, j < k → ss[j]? = some s → badL (ss.take j) s = false
def Lead (ss : List Sn) (z : Int) : Prop := (∃ (k : Nat) (s : Sn), ss[k]? = some s ∧ badL (ss.take k) s = true ∧ fineTo ss k ∧ z = k) ∨ (fineTo ss ss.length ∧ z = -1)
theorem Lead.one {ss : List Sn} {z z' : Int} (h : Lead ss z) (h' : Lead ss z') : z = z' := by
  have key : ∀ {k k' : Nat} {s s' : Sn}, ss[k]? = some s → badL (ss.take k) s = true → fineTo ss k' → ss[k']? = some s' → ¬ k < k' := by
    intro k k' s s' h1 h2 h3 _ hlt
    rw [h3 k s hlt h1] at h2
    cases h2
  rcases h with ⟨k, s, h1, h2, h3, rfl⟩ | ⟨h3, rfl⟩
  · rcases h' with ⟨k', s', h1', h2', h3', rfl⟩ | ⟨h3', rfl⟩
    · have a := key h1 h2 h3' h1'
      have b := key h1' h2' h3 h1
      omega
    · have := h3' k s (List.getElem?_eq_some_iff.1 h1).1 h1
      rw [this] at h2; cases h2
  · rcases h' with ⟨k', s', h1', h2', h3', rfl⟩ | ⟨h3', rfl⟩
    · have := h3 k' s' (List.getElem?_eq_some_iff.1 h1').1 h1'
      rw [this] at h2'; cases h2'
    · rfl
theorem fineTo_succ {ss : List Sn} {k : Nat} {s : Sn} (h : fineTo ss k) (hs : ss[k]? = some s) (hb : badL (ss.take k) s = false) : fineTo ss (k + 1) := fun j s' hj hs' => by
  rcases Nat.lt_or_ge j k with hlt | hge
  · exact h j s' hlt hs'
  · obtain rfl : j = k := by omega
    rw [hs] at hs'
    cases hs'
    exact hb
theorem fineTo_zero (ss : List Sn) : fineTo ss 0 := fun j s hj => by omega
/-- Who led, of the first ones. -/
structure LedI (pre : List Sn) (F : Int → Option Int) : Prop where
  all : ∀ r ∈ pre, r.lead = true → F r.term = some r.id
  of : ∀ t i, F t = some i → ∃ r ∈ pre, r.lead = true ∧ r.term = t ∧ r.id = i
theorem LedI.nil : LedI [] (fun _ => none) := ⟨by simp, by simp⟩
theorem LedI.skip {pre : List Sn} {F : Int → Option Int} (h : LedI pre F) {s : Sn} (hs : s.lead = false) : LedI (pre ++ [s]) F ∧ badL pre s = false := by
  refine ⟨⟨fun r hr hl => ?_, fun t i hF => ?_⟩, ?_⟩
  · rcases List.mem_append.1 hr with hr | hr
    · exact h.all r hr hl
    · obtain rfl : r = s := by simpa using hr
      rw [hs] at hl; cases hl
  · obtain ⟨r, hr, x⟩ := h.of t i hF
    exact ⟨r, by simp [hr], x⟩
  · unfold badL clash2
    rw [List.any_eq_false]
    intro r _
    simp [hs]
theorem LedI.bad {pre : List Sn} {F : Int → Option Int} (h : LedI pre F) {s : Sn} (hs : s.lead = true) : badL pre s = match F s.term with | none => false | some i => !(i == s.id) := by
  cases hF : F s.term with
  | none =>
    unfold badL clash2
    rw [List.any_eq_false]
    intro r hr hc
    simp only [Bool.and_eq_true, beq_iff_eq] at hc
    have := h.all r hr hc.1.1.2
    rw [← hc.1.2, hF] at this
    cases this
  | some i =>
    obtain ⟨r, hr, h1, h2, h3⟩ := h.of _ _ hF
    by_cases he : i = s.id
    · simp only [he, beq_self_eq_true, Bool.not_true]
      unfold badL clash2
      rw [List.any_eq_false]
      intro q hq hc
      simp only [Bool.and_eq_true, beq_iff_eq, Bool.not_eq_true', beq_eq_false_iff_ne] at hc
      have := h.all q hq hc.1.1.2
      rw [← hc.1.2, hF] at this
      cases this
      exact hc.2 he.symm
    · have : (i == s.id) = false := by simpa using he
      simp only [this, Bool.not_false]
      unfold badL clash2
      rw [List.any_eq_true]
      refine ⟨r, hr, ?_⟩
      have e2 : (s.id == r.id) = false := by rw [h3]; simpa using fun e => he e.symm
      simp [hs, h1, h2, e2]
theorem LedI.put {pre : List Sn} {F : Int → Option Int} (h : LedI pre F) {s : Sn} (hs : s.lead = true) (hb : badL pre s = false) : LedI (pre ++ [s]) (fun z => if z = s.term then some s.id else F z) := by
  have hb' := h.bad hs
  rw [hb] at hb'
  refine ⟨fun r hr hl => ?_, fun t i hF => ?_⟩
  · by_cases e : r.term = s.term
    · simp only [e, if_true]
      rcases List.mem_append.1 hr with hr | hr
      · have := h.all r hr hl
        rw [e] at this
        rw [this] at hb'
        simp at hb'
        rw [hb']
      · obtain rfl : r = s := by simpa using hr
        rfl
    · simp only [e, if_false]
      rcases List.mem_append.1 hr with hr | hr
      · exact h.all r hr hl
      · obtain rfl : r = s := by simpa using hr
        exact absurd rfl e
  · by_cases e : t = s.term
    · simp only [e, if_true, Option.some.injEq] at hF
      exact ⟨s, by simp, hs, e.symm, hF⟩
    · simp only [e, if_false] at hF
      obtain ⟨r, hr, x⟩ := h.of t i hF
      exact ⟨r, by simp [hr], x⟩
/-! ### A map of numbers by numbers -/
theorem key3 : Keyed Try.prog 3 := int_keyed Try.underlying3
structure MapD (w : World) (b n : Nat) (F : Int → Option Int) (D : DataW Unit) : Prop where
  own : w.ownsMap Try.prog 3 (plainElem Try.prog 3) b n D
  atk : ∀ x, D.atKey (.int .i64 x) (.lit (.int .i64 0)) = .lit (.int .i64 ((F x).getD 0))
  hs : ∀ x, Maps.has D (.int .i64 x) = (F x).isSome
def MapL (w : World) (b n : Nat) (F : Int → Option Int) : Prop := ∃ D, MapD w b n F D
theorem MapL.kept {w w' : World} {b n : Nat} {F : Int → Option Int} {row : Option Nat} (h : MapL w b n F) (hg : w.grownBy w' row) (hne : some b ≠ row) : MapL w' b n F := by
  obtain ⟨D, h1⟩ := h
  exact ⟨D, h1.own.kept hg hne, h1.atk, h1.hs⟩
theorem map_new (w : World) : MapL (w.alloc (.map #[] 0)) w.heap.size 0 (fun _ => none) :=
  ⟨.map [], World.ownsMap_made w Try.prog 3 _, fun x => by simp; rfl, fun x => by simp; rfl⟩
theorem run_makeMap57 (w : World) : (Instr.makeMap 57 none).run Try.prog w = .ok (.map (some w.heap.size)) (w.alloc (.map #[] 0)) := run_makeMap 57 w
theorem key_wf {x : Int} (h : I64 x) : (Lit.int .i64 x).wf = true := by
  obtain ⟨h0, h1⟩ := h
  simp [Lit.wf, IntKind.min, IntKind.max, IntKind.signed, IntKind.bits]
  omega
theorem MapL.look {w : World} {b n : Nat} {F : Int → Option Int} (h : MapL w b n F) {x : Int} (hx : I64 x) : (Instr.lookup 57 (.map (some b)) (.int .i64 x) true).run Try.prog w = .ok (.tuple #[.int .i64 ((F x).getD 0), .bool (F x).isSome]) w := by
  obtain ⟨D, hD⟩ := h
  have hz : (zeroValue 3).run Try.prog w = .ok (.int .i64 0) w := Try.zeroValue3 w
  have hk := keyOf_int_mk Try.underlying3 (key_wf hx)
  obtain ⟨v, ps, hrun, hv⟩ := hD.own.look_ok key3 Try.underlying57 hz (plainElem_int (H := Unit) Try.underlying3 (a := 0) (by decide)) hk
  rw [hD.atk] at hv
  obtain ⟨c, rfl, hc, _⟩ := plainElem_int_inv Try.underlying3 hv
  have hc' := congrArg Prod.fst hc
  injection hc' with hc'
  injection hc' with _ hc'
  rw [hrun, hD.hs, ← hc']
theorem MapD.put {w w' : World} {b n : Nat} {F : Int → Option Int} {D : DataW Unit} (h : MapD w b n F D) {x y : Int} (ho : w'.ownsMap Try.prog 3 (plainElem Try.prog 3) b (n + 1) (D.put (.int .i64 x) (.lit (.int .i64 y)))) : MapL w' b (n + 1) (fun z => if z = x then some y else F z) := by
  have hT := h.own.tidy key3
  refine ⟨_, ho, fun z => ?_, fun z => ?_⟩
  · by_cases e : z = x
    · subst e; rw [Maps.atKey_put_same hT.isMap (by trivial), if_pos rfl]; rfl
    · rw [Maps.atKey_put_other (fun k => e (by injection k)), h.atk, if_neg e]
  · by_cases e : z = x
    · subst e; rw [Maps.has_put_same hT.isMap (by trivial), if_pos rfl]; rfl
    · rw [Maps.has_put_other (fun k => e (by injection k)), h.hs, if_neg e]
end Go.Proofs.Ytcijjepleedecaa.W

/- watch: Leaders. -/
namespace Go.Proofs.Ytcijjepleedecaa.W
open Go.RowKit Go.Maps
set_option linter.unusedVariables false
set_option linter.unusedSimpArgs false
set_option maxRecDepth 100000
attribute [local go_sem] Oper.semAt_some


theorem map_take {α β : Type} (f : α → β) (l : List α) (k : Nat) : (l.take k).map f = (l.map f).take k := by rw [List.map_take]

set_option maxHeartbeats 4000000 in
theorem leaders_any (v : Value) (ss : List (Sn × Value)) (w : World) (h : SeensR w v ss) (hok : ∀ p ∈ ss, p.1.ok ∧ ∃ a n c, p.2 = .slice a n c) (hlen : ss.length ≤ 10000000000000) :
    Calls Try.prog 10 #[v] w fun e w' => ∃ z, e = .returned (.int .i64 z) ∧ Lead (ss.map (·.1)) z ∧ w.grownBy w' none := by
  obtain ⟨a, c, rfl⟩ := h.len
  obtain ⟨L, hL⟩ : ∃ L, L = ss.map (·.1) := ⟨_, rfl⟩
  have hLl : L.length = ss.length := by rw [hL, List.length_map]
  have HE := hid_mk (And.intro h (And.intro hok (And.intro hL hLl)))
  clear h hok hLl
  rw [← hL]
  clear hL
  have hmk := run_makeMap57 w
  have HM := hid_mk (show MapL (w.alloc (.map #[] 0)) w.heap.size 0 (fun _ => none) ∧ w.grownBy (w.alloc (.map #[] 0)) none from ⟨map_new w, World.grownBy_alloc _ _ none⟩)
  go_enter Try.func10, Try.ntmps10
  go_wp2_with fail
  generalize w.alloc (.map #[] 0) = w1 at *
  obtain ⟨m, hm⟩ : ∃ m, m = w.heap.size := ⟨_, rfl⟩
  rw [← hm] at HM ⊢
  have HMM := hid_mk (show w.heap.size ≤ m by omega)
  clear hm hmk
  go_loopw [11] (fun iv wr => ∃ (k : Nat) (F : Int → Option Int), k ≤ ss.length ∧ iv = .int .i64 k ∧ Hid (w.grownBy wr none ∧ (∃ n, n ≤ k ∧ MapL wr m n F) ∧ LedI (L.take k) F ∧ fineTo L k)) (fun iv _ => ss.length - (intOf iv).toNat)
  case atStart => exact ⟨0, fun _ => none, Nat.zero_le _, rfl, hid_mk ⟨HM.out.2, ⟨0, Nat.le_refl _, HM.out.1⟩, LedI.nil, fineTo_zero L⟩⟩
  case round =>
    obtain ⟨k, F, hk, rfl, H⟩ := hrel
    rename World => wr
    by_cases hlt : k < ss.length
    · have hlt' : (k : Int) < ss.length := by omega
      have hk4 : (k : Int) < 20000000000000 := by omega
      obtain ⟨p, hp⟩ : ∃ p, ss[k]? = some p := ⟨ss[k], List.getElem?_eq_getElem hlt⟩
      obtain ⟨b, off, rfl, hcs⟩ := (HE.out.1.kept H.out.1).at hp
      obtain ⟨q0, q1, q2, q3, q4, q5, q6⟩ := hcs wr (grown_refl wr none)
      obtain ⟨hpk, xa, xn, xc, hx⟩ := HE.out.2.1 p (List.mem_of_getElem? hp)
      have hLk : L[k]? = some p.1 := by rw [HE.out.2.2.1, List.getElem?_map, hp]; rfl
      have hLt : L.take (k + 1) = L.take k ++ [p.1] := by rw [List.take_add_one, hLk]; rfl
      have HP := hid_mk (And.intro hp (And.intro hpk (And.intro hLk hLt)))
      clear hp hcs hpk hLk hLt
      rw [hx] at q6
      clear hx
      obtain ⟨n, hnk, hml⟩ := H.out.2.1
      have HML := hid_mk hml
      clear hml
      have ga := World.grownBy_alloc wr (.cells #[.int .i64 p.1.id, .int .i64 p.1.term, .int .i64 p.1.com, .bool p.1.lead, .int .i64 p.1.b, .int .i64 p.1.t, .slice xa xn xc] 28) none
      have HW := hid_mk (show w.grownBy (wr.alloc (.cells #[.int .i64 p.1.id, .int .i64 p.1.term, .int .i64 p.1.com, .bool p.1.lead, .int .i64 p.1.b, .int .i64 p.1.t, .slice xa xn xc] 28)) none ∧ MapL (wr.alloc (.cells #[.int .i64 p.1.id, .int .i64 p.1.term, .int .i64 p.1.com, .bool p.1.lead, .int .i64 p.1.b, .int .i64 p.1.t, .slice xa xn xc] 28)) m n F from ⟨grown_trans H.out.1 ga, HML.out.kept ga (by simp)⟩)
      clear ga
      rcases Bool.eq_false_or_eq_true p.1.lead with hld | hld
      rotate_left
      · obtain ⟨hs1, hs2⟩ := H.out.2.2.1.skip hld
        have HS := hid_mk (show LedI (L.take (k + 1)) F ∧ fineTo L (k + 1) from ⟨by rw [HP.out.2.2.2]; exact hs1, fineTo_succ H.out.2.2.2 HP.out.2.2.1 hs2⟩)
        clear hs1 hs2
        rw [hld] at q3 HW
        go_wp2_with fail
        go_roundw
        case rel => exact ⟨k + 1, F, by omega, by first | rfl | (congr 1; done) | (congr 1; omega), hid_mk ⟨HW.out.1, ⟨n, by omega, HW.out.2⟩, HS.out.1, HS.out.2⟩⟩
        case measure => simp [intOf]; omega
      · have hbd := H.out.2.2.1.bad hld
        rw [hld] at q3 HW
        have hlook := HW.out.2.look HP.out.2.1.2.1
        have hlm : n < maxLen := by unfold maxLen; omega
        obtain ⟨D, hD⟩ := HW.out.2
        have HD := hid_mk hD
        have HLM := hid_mk hlm
        clear hD hlm
        have hne : ∀ W', (wr.alloc (.cells #[.int .i64 p.1.id, .int .i64 p.1.term, .int .i64 p.1.com, .bool true, .int .i64 p.1.b, .int .i64 p.1.t, .slice xa xn xc] 28)).grownBy W' (some m) → w.grownBy W' none := fun W' hg => grown_new HW.out.1 hg HMM.out
        have HNE := hid_mk hne
        clear hne
        cases hF : F p.1.term with
        | none =>
          rw [hF] at hlook hbd
          simp only [Option.getD_none, Option.isSome_none] at hlook
          have HB := hid_mk (show badL (L.take k) p.1 = false from hbd)
          have HPU := hid_mk (H.out.2.2.1.put hld hbd)
          clear hbd hF
          go_wp2_with (at_mapUpdate; refine wpList_mapUpdate_own _ rfl _ _ _ 57 rfl 3 3 key3 Try.underlying57 _ m n D rfl HD.out.own HLM.out _ _ (.int .i64 p.1.term) rfl rfl (keyOf_int_mk Try.underlying3 (key_wf HP.out.2.1.2.1)) _ [] (plainElem_int Try.underlying3 (key_wf HP.out.2.1.1)) ?_; intro w9 hown9 hgrow9)
          go_roundw
          case rel => exact ⟨k + 1, _, by omega, by first | rfl | (congr 1; done) | (congr 1; omega), hid_mk ⟨HNE.out _ hgrow9, ⟨n + 1, by omega, HD.out.put hown9⟩, by rw [HP.out.2.2.2]; exact HPU.out, fineTo_succ H.out.2.2.2 HP.out.2.2.1 HB.out⟩⟩
          case measure => simp [intOf]; omega
        | some i =>
          rw [hF] at hlook hbd
          simp only [Option.getD_some, Option.isSome_some] at hlook
          simp only at hbd
          rcases Bool.eq_false_or_eq_true (i != p.1.id) with he | he
          · have HB := hid_mk (show badL (L.take k) p.1 = true from by rw [hbd]; exact he)
            clear hbd hF
            go_wp2_with fail
            go_ret
            exact ⟨k, rfl, .inl ⟨k, p.1, HP.out.2.2.1, HB.out, H.out.2.2.2, rfl⟩, HW.out.1⟩
          · have HB := hid_mk (show badL (L.take k) p.1 = false from by rw [hbd]; exact he)
            have HPU := hid_mk (H.out.2.2.1.put hld HB.out)
            clear hbd hF
            go_wp2_with (at_mapUpdate; refine wpList_mapUpdate_own _ rfl _ _ _ 57 rfl 3 3 key3 Try.underlying57 _ m n D rfl HD.out.own HLM.out _ _ (.int .i64 p.1.term) rfl rfl (keyOf_int_mk Try.underlying3 (key_wf HP.out.2.1.2.1)) _ [] (plainElem_int Try.underlying3 (key_wf HP.out.2.1.1)) ?_; intro w9 hown9 hgrow9)
            go_roundw
            case rel => exact ⟨k + 1, _, by omega, by first | rfl | (congr 1; done) | (congr 1; omega), hid_mk ⟨HNE.out _ hgrow9, ⟨n + 1, by omega, HD.out.put hown9⟩, by rw [HP.out.2.2.2]; exact HPU.out, fineTo_succ H.out.2.2.2 HP.out.2.2.1 HB.out⟩⟩
            case measure => simp [intOf]; omega
    · have hlt' : ¬ (k : Int) < ss.length := by omega
      have hke : k = ss.length := by omega
      have HF := hid_mk (show w.grownBy wr none ∧ fineTo L L.length from ⟨H.out.1, by rw [HE.out.2.2.2, ← hke]; exact H.out.2.2.2⟩)
      clear hke H
      go_wp2
      go_ret
      exact ⟨-1, rfl, .inr ⟨HF.out.2, rfl⟩, HF.out.1⟩
end Go.Proofs.Ytcijjepleedecaa.W
