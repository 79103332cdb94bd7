/- history: rows of bytes, rows of calls. -/
import Derived.Test.YthbfjpaimnhpgabCcA
import Derived.Test.YthbfjpaimnhpgabHA
import Derived.Deep.CutBlock
namespace Go.Proofs.Ythbfjpaimnhpgab
open Go.RowKit Go.Maps
set_option linter.unusedVariables false
set_option linter.unusedSimpArgs false
set_option maxRecDepth 100000

theorem own_keeps {W W' : World} {F : Nat → Prop} {B : Nat} {v : Value} {l : List UInt8} (h : Own W B v l) (hk : Keeps F W W') (hr : ∀ g, v.ownBlock = some g → ¬ F g) : Own W' B v l := owns_keeps h hk hr
theorem own_grown {W W' : World} {B : Nat} {v : Value} {l : List UInt8} (h : Own W B v l) (hg : W.grownBy W' none) : Own W' B v l := h.kept hg (.inl rfl)
theorem wrap_in {n : Int} (h : -9223372036854775808 ≤ n ∧ n ≤ 9223372036854775807) : IntKind.i64.wrap n = n := by rw [IntKind.wrap_i64]; omega
theorem add_at (b o j : Nat) : (⟨b, o, none⟩ : Addr).add j = ⟨b, o + j, none⟩ := by unfold Addr.add; split <;> simp_all
theorem blk_alloc (w : World) (cs : Array Value) (t : TypeId) : Blk (w.alloc (.cells cs t)) w.heap.size cs t := heap_alloc_new _ _
theorem blk_alloc2 (w : World) (cs ds : Array Value) (t u : TypeId) : Blk ((w.alloc (.cells cs t)).alloc (.cells ds u)) w.heap.size cs t ∧ Blk ((w.alloc (.cells cs t)).alloc (.cells ds u)) (w.heap.size + 1) ds u :=
  ⟨(blk_alloc w cs t).kept (World.grownBy_alloc _ _ none) (by simp), by have := blk_alloc (w.alloc (.cells cs t)) ds u; simpa using this⟩
theorem blk4 {w : World} {b : Nat} {x y z u : Value} {t : TypeId} (h : Blk w b #[x, y, z, u] t) : w.cell? ⟨b, 0, none⟩ = some x ∧ w.cell? ⟨b, 1, none⟩ = some y ∧ w.cell? ⟨b, 2, none⟩ = some z ∧ w.cell? ⟨b, 3, none⟩ = some u ∧ ∀ i, w.frozen? ⟨b, i, none⟩ = false := ⟨by rw [h.cell]; rfl, by rw [h.cell]; rfl, by rw [h.cell]; rfl, by rw [h.cell]; rfl, h.frozen⟩
theorem set_new {w W : World} (hg : w.grownBy W none) {b : Nat} (hb : w.heap.size ≤ b) (i : Nat) (x : Value) : w.grownBy (W.setCell ⟨b, i, none⟩ x) none := grown_new hg (grown_setCell _ _ _ _) hb
theorem own_set {W : World} {B : Nat} {v : Value} {l : List UInt8} (h : Own W B v l) {b : Nat} {cs : Array Value} {t : TypeId} (hb : Blk W b cs t) (ht : t ≠ 5) (i : Nat) (x : Value) : Own (W.setCell ⟨b, i, none⟩ x) B v l := h.kept (grown_setCell _ _ _ _) (.inr (fun e => own_ne h hb ht e.symm))
theorem exec_app {ea : Operand → Value} {o : Oper} {s y : Operand} {st : TypeId} {v u v' : Value} {W W' : World} (ho : o.op = .call { callee := .builtin .append, args := #[s, y], argTypes := #[st, st] }) (hs : ea s = v) (hy : ea y = u) (hr : (Builtin.append_ #[st, st] o.type #[v, u]).run Try.prog W = .ok v' W') : (execOp ea o).run Try.prog W = .ok (.value v') W' := by
  simp [execOp, ho, resolve, invoke, builtin, hs, hy, hr, Result.andThen]
theorem mix_skip {P : Program} {ops : Array Oper} {Q : Act → Cl → Prop} {a : Act} {C : Cl} {i : Nat} {rest : List (Nat × Bool)} {o : Oper} (ho : ops[i]? = some o) (hw : Region.wanted o (yielded ops a.tmps) = true)
    (h : ∀ w, C.now w → ∃ w'', (execOp a.eval o).run P w = .ok .skip w'' ∧ Behind C (wpMix P ops Q rest) (a.put o.dst undef) w'') : wpMix P ops Q ((i, false) :: rest) a C :=
  ⟨o, ho, by
    rw [hw]
    exact fun w hC => by obtain ⟨w'', hr, hb⟩ := h w hC; rw [hr]; exact hb⟩
def setAll (W : World) (q : Nat) : Nat → List Value → World
  | _, [] => W
  | i, x :: l => setAll (W.setCell ⟨q, i, none⟩ x) q (i + 1) l
theorem setAll_blk {q : Nat} {t : TypeId} : ∀ (l : List Value) (W : World) (pre rest : List Value), Blk W q (pre ++ rest).toArray t → rest.length = l.length → Blk (setAll W q pre.length l) q (pre ++ l).toArray t
  | [], W, pre, rest, h, hl => by
    obtain rfl : rest = [] := List.length_eq_zero_iff.1 hl
    exact h
  | x :: l, W, pre, [], h, hl => by cases hl
  | x :: l, W, pre, r :: rest, h, hl => by
    have h1 := h.set pre.length x
    rw [List.setIfInBounds_toArray, List.set_append_right _ _ (Nat.le_refl _), Nat.sub_self, List.set_cons_zero] at h1
    have h2 := setAll_blk l (W.setCell ⟨q, pre.length, none⟩ x) (pre ++ [x]) rest (by simpa using h1) (by simpa using hl)
    rw [List.length_append, List.append_assoc] at h2
    exact h2
theorem setAll_grown (q : Nat) : ∀ (l : List Value) (W : World) (i : Nat), W.grownBy (setAll W q i l) (some q)
  | [], W, i => grown_refl _ _
  | x :: l, W, i => grown_trans (grown_setCell _ _ _ _) (setAll_grown q l _ _)
theorem setAll_all {W : World} {q : Nat} {cs : Array Value} {t : TypeId} (h : Blk W q cs t) (l : List Value) (hl : cs.size = l.length) : Blk (setAll W q 0 l) q l.toArray t ∧ W.grownBy (setAll W q 0 l) (some q) :=
  ⟨setAll_blk l W [] cs.toList (by simpa using h) (by simpa using hl), setAll_grown q l W 0⟩
/-! ### Rows of bytes -/
abbrev RV := List UInt8 × Value
/-- Rows of bytes that can be read. -/
def RecR (w : World) (v : Value) (R : List RV) : Prop :=
  ((R = [] ∧ ∃ a cap, v = .slice a 0 cap ∧ (a = none → cap = 0)) ∨ ∃ b off cap, v = .slice (some ⟨b, off, none⟩) R.length cap ∧ R.length ≤ cap ∧ ∀ (j : Nat) x, R[j]? = some x → w.cell? ⟨b, off + j, none⟩ = some x.2) ∧ ∀ p ∈ R, Byt w p.2 p.1
theorem RecR.len {w : World} {v : Value} {R : List RV} (h : RecR w v R) : ∃ a cap, v = .slice a R.length cap := by
  rcases h.1 with ⟨rfl, a, cap, rfl, _⟩ | ⟨b, off, cap, rfl, _⟩
  · exact ⟨_, _, rfl⟩
  · exact ⟨_, _, rfl⟩
theorem RecR.kept {w w' : World} {v : Value} {R : List RV} (h : RecR w v R) (hg : w.grownBy w' none) : RecR w' v R := by
  refine ⟨?_, fun p hp => (h.2 p hp).kept hg⟩
  rcases h.1 with h | ⟨b, off, cap, hv, hl, hc⟩
  · exact .inl h
  · exact .inr ⟨b, off, cap, hv, hl, fun j u hj => hg.cell (hc j u hj) (by simp)⟩
theorem RecR.nil (w : World) : RecR w (.slice none 0 0) [] := ⟨.inl ⟨rfl, none, 0, rfl, fun _ => rfl⟩, fun p hp => by cases hp⟩
theorem RecR.get {w : World} {v : Value} {R : List RV} (h : RecR w v R) (i : Nat) (hi : i < R.length) : ∃ b off cap, v = .slice (some ⟨b, off, none⟩) R.length cap ∧ w.cell? ⟨b, off + i, none⟩ = some R[i].2 := by
  rcases h.1 with ⟨rfl, _⟩ | ⟨b, off, cap, e, _, hc⟩
  · simp at hi
  · exact ⟨b, off, cap, e, hc i _ (by simp)⟩
/-- .. of one's own. -/
def OwnRec (w : World) (B : Nat) (v : Value) (R : List RV) : Prop := w.ownsRow B 24 1 v R.length (R.map (·.2)) ∧ ∀ p ∈ R, Own w B p.2 p.1
theorem OwnRec.len {w : World} {B : Nat} {v : Value} {R : List RV} (h : OwnRec w B v R) : ∃ a cap, v = .slice a R.length cap := row_shape h.1
theorem OwnRec.kept {w w' : World} {B : Nat} {v : Value} {R : List RV} (h : OwnRec w B v R) (hg : w.grownBy w' none) : OwnRec w' B v R := ⟨owns_kept h.1 hg (fun _ _ _ => by simp), fun p hp => own_grown (h.2 p hp) hg⟩
theorem OwnRec.nil (w : World) (B : Nat) : OwnRec w B (.slice none 0 0) [] := ⟨World.ownsRow_nil _ _ _ _, fun p hp => by cases hp⟩
theorem OwnRec.low {w : World} {B B' : Nat} {v : Value} {R : List RV} (h : OwnRec w B v R) (hb : B' ≤ B) : OwnRec w B' v R := ⟨owns_low h.1 hb, fun p hp => (h.2 p hp).base hb⟩
theorem OwnRec.red {w : World} {B : Nat} {v : Value} {R : List RV} (h : OwnRec w B v R) : RecR w v R := by
  refine ⟨?_, fun p hp => (h.2 p hp).byt⟩
  rcases h.1.2 with ⟨rfl, h0⟩ | ⟨g, cap, cur, hv, hb, hg, h1, h2, h3, h4⟩
  · exact .inl ⟨List.length_eq_zero_iff.1 h0, none, 0, rfl, fun _ => rfl⟩
  · refine .inr ⟨g, 0, cap, hv, h1, fun j x hj => ?_⟩
    have hj' : (R.map (·.2))[j]? = some x.2 := by simp [hj]
    rw [← h4, List.getElem?_take] at hj'
    rw [cell_of_row _ _ _ _ _ _ hg]
    split at hj'
    · simpa using hj'
    · cases hj'
/-- Where they lie. -/
def RecK (v : Value) (R : List RV) (k : Nat) : Prop := v.ownBlock = some k ∨ ∃ p ∈ R, p.2.ownBlock = some k
theorem OwnRec.keeps {w w' : World} {F : Nat → Prop} {B : Nat} {v : Value} {R : List RV} (h : OwnRec w B v R) (hk : Keeps F w w') (hn : ∀ k, RecK v R k → ¬ F k) : OwnRec w' B v R :=
  ⟨owns_keeps h.1 hk (fun g e => hn g (.inl e)), fun p hp => own_keeps (h.2 p hp) hk (fun g e => hn g (.inr ⟨p, hp, e⟩))⟩
theorem OwnRec.lt {w : World} {B : Nat} {v : Value} {R : List RV} (h : OwnRec w B v R) {k : Nat} (hk : RecK v R k) : B ≤ k ∧ k < w.heap.size := by
  rcases hk with e | ⟨p, hp, e⟩
  · exact owns_lt h.1 e
  · exact owns_lt (h.2 p hp) e
theorem one_own {w : World} {B : Nat} {v : Value} {l : List UInt8} (h : Own w B v l) : v.oneCell' = true := by
  obtain ⟨a, c, rfl⟩ := h.len
  rfl
theorem info30 : (Try.prog.info? 24).map (fun i => (i.zero, i.size, i.bytes)) = some (some (.slice none 0 0), 1, 24) := by kernel_rfl
theorem run_copyB {W : World} {B g : Nat} {v : Value} {l : List UInt8} (hown : Own W B (.slice (some ⟨g, 0, none⟩) 0 0) []) (hB : B ≤ W.heap.size) (h : Byt W v l) (hl : l.length ≤ 140737488355328) (ty : TypeId) :
    ∃ a' c' W', (Builtin.append_ #[24, 24] ty #[.slice (some ⟨g, 0, none⟩) 0 0, v]).run Try.prog W = .ok (.slice a' l.length c') W' ∧ Own W' B (.slice a' l.length c') l ∧ W.grownBy W' (some g) := by
  obtain ⟨i0, hi, hz0, hz1, hz2⟩ := info_parts info5
  have go : ∀ (ad : Addr) (c : Nat), v = .slice (some ad) l.length c → (∀ j u, (u8s l)[j]? = some u → W.cell? (ad.add j) = some u) → ∃ a' c' W', (Builtin.append_ #[24, 24] ty #[.slice (some ⟨g, 0, none⟩) 0 0, v]).run Try.prog W = .ok (.slice a' l.length c') W' ∧ Own W' B (.slice a' l.length c') l ∧ W.grownBy W' (some g) := by
    intro ad c hv hc
    obtain ⟨v', w', hr, hown', hg, _, _⟩ := run_append_own_at (P := Try.prog) W B 24 ty 5 i0 (.int .u8 0) 1 1 Try.underlying24 hi hz0 hz1 hz2 rfl (by decide) _ 0 [] hown ad l.length c (u8s l) (by simp [u8s_len]) hc (u8s_one l) (by unfold maxLen; omega) (by omega) hB
    simp only [Nat.zero_add, List.nil_append] at hown'
    obtain ⟨a', c', rfl⟩ := row_shape hown'
    exact ⟨a', c', w', by rw [hv]; exact hr, hown', hg⟩
  rcases h with ⟨rfl, av, cap, e, hn⟩ | ⟨b, off, cap, e, _, hc⟩
  · cases av with
    | none =>
      obtain rfl := hn rfl
      have hrun := run_append_owned_none (P := Try.prog) W B 24 ty 5 i0 1 Try.underlying24 hi _ 0 [] hown
      exact ⟨_, _, W, by rw [e]; exact hrun, hown, grown_refl _ _⟩
    | some ad => exact go ad cap e (fun j u hj => by simp [u8s] at hj)
  · refine go ⟨b, off, none⟩ cap e (fun j u hj => ?_)
    simp only [u8s, List.getElem?_map, Option.map_eq_some_iff] at hj
    obtain ⟨x, hx, rfl⟩ := hj
    rw [add_at]
    exact hc j x hx
theorem appR {W : World} {B : Nat} {v : Value} {R : List RV} (h : OwnRec W B v R) {u : Value} {l : List UInt8} (hu : Own W B u l) (q : Nat) (hq : Blk W q #[u] 24) (hl : R.length + 1 ≤ 5864062014805) (hB : B ≤ W.heap.size) (ty : TypeId) :
    ∃ a' c' W', (Builtin.append_ #[25, 25] ty #[v, .slice (some ⟨q, 0, none⟩) 1 1]).run Try.prog W = .ok (.slice a' (R.length + 1) c') W' ∧ OwnRec W' B (.slice a' (R.length + 1) c') (R ++ [(l, u)]) ∧ W.grownBy W' v.ownBlock := by
  obtain ⟨i0, hi, hz0, hz1, hz2⟩ := info_parts info30
  obtain ⟨v', w', hr, hown, hg, _, hbl⟩ := run_append_own_at (P := Try.prog) W B 25 ty 24 i0 (.slice none 0 0) 1 24 Try.underlying25 hi hz0 hz1 hz2 rfl (by decide) v R.length (R.map (·.2)) h.1 ⟨q, 0, none⟩ 1 1 [u] rfl (fun j x hj => by
    rw [add_at, Nat.zero_add, hq.cell]; simpa using hj) (fun x hx => by simp at hx; subst hx; exact one_own hu) (by unfold maxLen; omega) (by omega) hB
  obtain ⟨a', c', rfl⟩ := row_shape hown
  have ne : ∀ {l : List UInt8} {x : Value}, Own W B x l → Own w' B x l := fun {l x} hx => hx.kept hg (by
    cases hv : v.ownBlock with
    | none => exact .inl rfl
    | some k => exact .inr (fun e => rows_apart hx h.1 (by decide) k e (by rw [hv])))
  refine ⟨a', c', w', hr, ⟨by rw [List.length_append, List.map_append]; exact hown, fun p hp => ?_⟩, hg⟩
  rcases List.mem_append.1 hp with hp | hp
  · exact ne (h.2 p hp)
  · simp at hp; subst hp; exact ne hu

/-! ### Calls -/
structure CE where
  g : Ca
  vd : Value
  vr : Value
  R : List RV
instance : Inhabited CE := ⟨⟨default, .slice none 0 0, .slice none 0 0, []⟩⟩
def calC (x : CE) : List Value := [.int .i64 x.g.c, .int .i64 x.g.b, .int .i64 x.g.e, .int .i64 x.g.k, .int .i64 x.g.at', .bool x.g.an, .int .i64 x.g.fr, .int .i64 x.g.mo, .int .i64 x.g.nu, .int .i64 x.g.st, x.vd, x.vr]
def cals (l : List CE) : List Value := l.flatMap calC
theorem cals_append (l m : List CE) : cals (l ++ m) = cals l ++ cals m := by simp [cals]
theorem calC_len (x : CE) : (calC x).length = 12 := rfl
theorem cals_len : ∀ l : List CE, (cals l).length = l.length * 12
  | [] => rfl
  | r :: l => by
    show (calC r ++ cals l).length = _
    rw [List.length_append, cals_len l, calC_len, List.length_cons]; omega
theorem cals_at : ∀ (l : List CE) (k : Nat) (hk : k < l.length) (j : Nat), j < 12 → (cals l)[k * 12 + j]? = (calC l[k])[j]?
  | [], k, hk, _, _ => by simp at hk
  | r :: l, 0, hk, j, hj => by
    show (calC r ++ cals l)[0 * 12 + j]? = _
    rw [List.getElem?_append_left (by simp [calC]; omega)]
    simp
  | r :: l, k + 1, hk, j, hj => by
    show (calC r ++ cals l)[(k + 1) * 12 + j]? = _
    rw [List.getElem?_append_right (by simp [calC]; omega), show (k + 1) * 12 + j - (calC r).length = k * 12 + j by simp [calC]; omega, cals_at l k (by simpa using hk) j hj]
    rfl
/-- A call that can be read. -/
structure InC (w : World) (x : CE) : Prop where
  d : Byt w x.vd x.g.d
  r : RecR w x.vr x.R
  rs : x.R.map (·.1) = x.g.rs
theorem InC.kept {w w' : World} {x : CE} (h : InC w x) (hg : w.grownBy w' none) : InC w' x := ⟨h.d.kept hg, h.r.kept hg, h.rs⟩
/-- A row of calls that can be read. -/
structure CsR (w : World) (v : Value) (L : List CE) : Prop where
  row : L = [] ∧ (∃ a cap, v = .slice a 0 cap ∧ (a = none → cap = 0)) ∨ ∃ b off cap, v = .slice (some ⟨b, off, none⟩) L.length cap ∧ b < w.heap.size ∧ ∀ j x, (cals L)[j]? = some x → w.cell? ⟨b, off + j, none⟩ = some x
  ins : ∀ x ∈ L, InC w x
theorem CsR.len {w : World} {v : Value} {L : List CE} (h : CsR w v L) : ∃ a cap, v = .slice a L.length cap := by
  rcases h.row with ⟨rfl, a, cap, rfl, _⟩ | ⟨b, off, cap, rfl, _⟩
  · exact ⟨_, _, rfl⟩
  · exact ⟨_, _, rfl⟩
theorem CsR.kept {w w' : World} {v : Value} {L : List CE} (h : CsR w v L) (hg : w.grownBy w' none) : CsR w' v L := by
  refine ⟨?_, fun x hx => (h.ins x hx).kept hg⟩
  rcases h.row with h0 | ⟨b, off, cap, hv, hb, hc⟩
  · exact .inl h0
  · exact .inr ⟨b, off, cap, hv, Nat.lt_of_lt_of_le hb hg.size, fun j x hj => by
      have := hc j x hj
      unfold World.cell? at this ⊢
      rw [hg.block b hb (by simp)]; exact this⟩
theorem CsR.nil (w : World) : CsR w (.slice none 0 0) [] := ⟨.inl ⟨rfl, none, 0, rfl, fun _ => rfl⟩, fun x hx => by cases hx⟩
theorem CsR.get {w : World} {v : Value} {L : List CE} (h : CsR w v L) (k : Nat) (hk : k < L.length) : ∃ b off cap, v = .slice (some ⟨b, off, none⟩) L.length cap ∧ b < w.heap.size ∧ ∀ j u, (calC L[k])[j]? = some u → w.cell? ⟨b, off + (k * 12 + j), none⟩ = some u := by
  rcases h.row with ⟨rfl, _⟩ | ⟨b, off, cap, hv, hb, hc⟩
  · simp at hk
  · refine ⟨b, off, cap, hv, hb, fun j u hj => hc _ _ ?_⟩
    have hj8 : j < 12 := by have := (List.getElem?_eq_some_iff.1 hj).1; simpa [calC] using this
    rw [cals_at L k hk j hj8]; exact hj
/-- .. of one's own. -/
def OwnC (w : World) (B : Nat) (v : Value) (L : List CE) : Prop := w.ownsRow B 42 12 v L.length (cals L)
theorem OwnC.len {w : World} {B : Nat} {v : Value} {L : List CE} (h : OwnC w B v L) : ∃ a c, v = .slice a L.length c := row_shape h
theorem OwnC.kept {w w' : World} {B : Nat} {v : Value} {L : List CE} (h : OwnC w B v L) (hg : w.grownBy w' none) : OwnC w' B v L := owns_kept h hg (fun _ _ _ => by simp)
theorem OwnC.nil (w : World) (B : Nat) : OwnC w B (.slice none 0 0) [] := World.ownsRow_nil _ _ _ _
theorem OwnC.red {w : World} {B : Nat} {v : Value} {L : List CE} (h : OwnC w B v L) (hi : ∀ x ∈ L, InC w x) : CsR w v L := by
  refine ⟨?_, hi⟩
  rcases Nat.eq_zero_or_pos L.length with h0 | h0
  · obtain rfl := List.length_eq_zero_iff.1 h0
    rcases h.2 with ⟨hv, _⟩ | ⟨g, cap, cur, hv, _⟩
    · exact .inl ⟨rfl, none, 0, hv, fun _ => rfl⟩
    · exact .inl ⟨rfl, _, _, hv, fun e => by cases e⟩
  · obtain ⟨g, cap, hv, hb, ho, _, hc⟩ := owns_cell h h0
    exact .inr ⟨g, 0, cap, hv, (owns_lt h ho).2, fun j x hj => by rw [Nat.zero_add]; exact hc j x hj⟩
theorem blk12 {w : World} {b : Nat} {x0 x1 x2 x3 x4 x5 x6 x7 x8 x9 x10 x11 : Value} {t : TypeId} (h : Blk w b #[x0, x1, x2, x3, x4, x5, x6, x7, x8, x9, x10, x11] t) :
    w.cell? ⟨b, 0, none⟩ = some x0 ∧ w.cell? ⟨b, 1, none⟩ = some x1 ∧ w.cell? ⟨b, 2, none⟩ = some x2 ∧ w.cell? ⟨b, 3, none⟩ = some x3 ∧ w.cell? ⟨b, 4, none⟩ = some x4 ∧ w.cell? ⟨b, 5, none⟩ = some x5 ∧ w.cell? ⟨b, 6, none⟩ = some x6 ∧ w.cell? ⟨b, 7, none⟩ = some x7 ∧ w.cell? ⟨b, 8, none⟩ = some x8 ∧ w.cell? ⟨b, 9, none⟩ = some x9 ∧ w.cell? ⟨b, 10, none⟩ = some x10 ∧ w.cell? ⟨b, 11, none⟩ = some x11 ∧ ∀ i, w.frozen? ⟨b, i, none⟩ = false :=
  ⟨h.cell 0, h.cell 1, h.cell 2, h.cell 3, h.cell 4, h.cell 5, h.cell 6, h.cell 7, h.cell 8, h.cell 9, h.cell 10, h.cell 11, h.frozen⟩
end Go.Proofs.Ythbfjpaimnhpgab
