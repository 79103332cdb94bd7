/- reads: a book and the document's, side by side. -/
import Derived.Test.YthfdoliojbhcjaaBkQc
import Derived.Test.YthfdoliojbhcjaaBkOa
namespace Go.Proofs.Ythfdoliojbhcjaa
open Go.RowKit Go.Maps
set_option linter.unusedVariables false
set_option linter.unusedSimpArgs false
set_option maxRecDepth 100000

/-! ### The pure side -/
structure Rel (g d : Bk) : Prop where
  me : g.me = d.me
  L : g.L = d.L
  H : g.H = d.H.set d.me 9223372036854775807
theorem rel_new (m : Nat) : Rel (newB m) (newD m) := ⟨rfl, rfl, rfl⟩
theorem Rel.askE {g d : Bk} (h : Rel g d) (id ix rd : Int) : askE g id ix rd = askE d id ix rd := by unfold Proofs.Ythfdoliojbhcjaa.askE; rw [h.L]
theorem Rel.askG {g d : Bk} (h : Rel g d) (id ix rd : Int) : Rel (askG g id ix rd) (askG d id ix rd) := by
  unfold Proofs.Ythfdoliojbhcjaa.askG
  rw [h.askE]
  split
  · exact ⟨h.me, by show g.L ++ _ = d.L ++ _; rw [h.L], h.H⟩
  · exact h
theorem Rel.hearG {g d : Bk} (h : Rel g d) (hl : d.H.length = 16) (hm : d.me < 16) (n r : Int) (hr : r ≤ 9223372036854775807) : Rel (hearG g n r) (hearG d n r) := by
  unfold Proofs.Ythfdoliojbhcjaa.hearG
  split
  · rename_i hn
    obtain ⟨k, rfl⟩ : ∃ k : Nat, n = k := ⟨n.toNat, by omega⟩
    refine ⟨h.me, h.L, ?_⟩
    show g.H.set k (max (g.H.getD k 0) r) = (d.H.set k (max (d.H.getD k 0) r)).set d.me 9223372036854775807
    rw [h.H]
    by_cases e : k = d.me
    · subst e
      rw [List.getD_eq_getElem?_getD, List.getElem?_set_self (by omega), List.set_set, List.set_set]
      congr 1
      simp
      omega
    · rw [List.set_comm _ _ (fun x => e x.symm)]
      congr 2
      rw [List.getD_eq_getElem?_getD, List.getElem?_set_ne (fun x => e x.symm), ← List.getD_eq_getElem?_getD]
  · exact h
theorem Rel.rdy {g d : Bk} (h : Rel g d) (hl : d.H.length = 16) (hm : d.me < 16) (S : List Int) {r : Rd} (hr : r.rd ≤ 9223372036854775807) : rdyB S g.H r = rdyD S d.H d.me r := by
  unfold rdyB rdyD
  refine won_same (fun x => ?_)
  rw [List.mem_cons, mem_thL, mem_thL, h.H]
  have hs : ∀ i : Nat, (d.H.set d.me 9223372036854775807).getD i 0 = if i = d.me then 9223372036854775807 else d.H.getD i 0 := fun i => by
    by_cases e : i = d.me
    · rw [if_pos e, e, List.getD_eq_getElem?_getD, List.getElem?_set_self (by omega)]; rfl
    · rw [if_neg e, List.getD_eq_getElem?_getD, List.getElem?_set_ne (fun x => e x.symm), ← List.getD_eq_getElem?_getD]
  constructor
  · rintro ⟨i, h1, rfl, h2⟩
    rw [hs i] at h2
    by_cases e : i = d.me
    · exact .inl (by rw [e])
    · rw [if_neg e] at h2
      exact .inr ⟨i, h1, rfl, h2⟩
  · rintro (rfl | ⟨i, h1, rfl, h2⟩)
    · exact ⟨d.me, hm, rfl, by rw [hs, if_pos rfl]; exact hr⟩
    · refine ⟨i, h1, rfl, ?_⟩
      rw [hs i]
      split
      · exact hr
      · exact h2
theorem Rel.done {g d : Bk} (h : Rel g d) (ok : OkB g) (hl : d.H.length = 16) (hm : d.me < 16) (S : List Int) : doneB S g = doneD S d := by
  unfold doneB doneD
  rw [← h.L]
  exact List.filter_congr (fun r hr => h.rdy hl hm S (ok.rds r hr).2)
theorem Rel.left {g d : Bk} (h : Rel g d) (ok : OkB g) (hl : d.H.length = 16) (hm : d.me < 16) (S : List Int) : Rel (leftB S g) (leftD S d) := by
  refine ⟨h.me, ?_, h.H⟩
  show g.L.filter _ = d.L.filter _
  rw [← h.L]
  exact List.filter_congr (fun r hr => by rw [h.rdy hl hm S (ok.rds r hr).2])
/-! ### In memory -/
theorem keeps_then {F G : Nat → Prop} {a b c : World} (h : Keeps F a b) (k : Keeps G b c) (hG : ∀ i, i < a.heap.size → G i → F i) : Keeps F a c :=
  ⟨k.os.trans h.os, k.tape.trans h.tape, k.output.trans h.output, Nat.le_trans h.size k.size, fun i hi hn => (k.block i (Nat.lt_of_lt_of_le hi h.size) (fun e => hn (hG i hi e))).trans (h.block i hi hn)⟩
theorem isD_keeps {W W' : World} {F : Nat → Prop} {B r : Nat} {v : Value} {d : Bk} (h : IsD W B r v d) (hk : Keeps F W W') (hn : ∀ k, Ofb r v k → ¬ F k) : IsD W' B r v d :=
  ⟨h.blk.keeps hk (hn _ (.inl rfl)), owns_keeps h.row hk (fun g e => hn g (.inr e)), h.low, h.ok⟩
theorem isB_keeps {W W' : World} {F : Nat → Prop} {B b : Nat} {v : Value} {g : Bk} (h : IsB W B b v g) (hk : Keeps F W W') (hn : ∀ k, Ofb b v k → ¬ F k) : IsB W' B b v g :=
  ⟨h.blk.keeps hk (hn _ (.inl rfl)), owns_keeps h.row hk (fun g e => hn g (.inr e)), h.low, h.ok⟩
theorem bd_apart {W : World} {B B' b r : Nat} {vb vr : Value} {g d : Bk} (h : IsB W B b vb g) (k : IsD W B' r vr d) : ∀ i, Ofb r vr i → ¬ Ofb b vb i := by
  rintro i (rfl | h1) (h2 | h2)
  · subst h2; exact k.blk.ne h.blk (by decide) rfl
  · exact own_ne h.row k.blk (by decide) h2.symm
  · subst h2; exact own_ne k.row h.blk (by decide) h1.symm
  · exact rows_apart k.row h.row (by decide) i h1 h2.symm
def PB (b r : Nat) (vb vr : Value) (k : Nat) : Prop := Ofb b vb k ∨ Ofb r vr k
structure Mid (w W0 W : World) (b r : Nat) (vb0 vr0 vb vr : Value) (g d : Bk) : Prop where
  mb : Mine w W b vb g
  md : IsD W w.heap.size r vr d
  kp : Keeps (PB b r vb0 vr0) W0 W
  nb : ∀ k, PB b r vb vr k → PB b r vb0 vr0 k ∨ W0.heap.size ≤ k
theorem Mid.kept {w W0 W W' : World} {b r : Nat} {vb0 vr0 vb vr : Value} {g d : Bk} (h : Mid w W0 W b r vb0 vr0 vb vr g d) (hg : W.grownBy W' none) : Mid w W0 W' b r vb0 vr0 vb vr g d :=
  ⟨h.mb.kept hg, h.md.kept hg, keeps_then h.kp (Keeps.of_none (F := fun _ => False) hg) (fun _ _ e => e.elim), h.nb⟩
theorem Mid.bp {w W0 W W' : World} {b r : Nat} {vb0 vr0 vb vr : Value} {g d g' : Bk} (h : Mid w W0 W b r vb0 vr0 vb vr g d) (hb : BP W W' w.heap.size b vb g') : ∃ vb', Mid w W0 W' b r vb0 vr0 vb' vr g' d := by
  obtain ⟨vb', h1, h2, h3⟩ := hb
  have hm : Mine w W' b vb' g' := ⟨h1, Keeps.grown h.mb.2 h2 (fun k e => by
    rcases e with rfl | e
    · exact h.mb.1.low
    · exact (owns_lt h.mb.1.row e).1)⟩
  refine ⟨vb', hm, isD_keeps h.md h2 (bd_apart h.mb.1 h.md), keeps_then h.kp h2 (fun i hi e => ?_), fun k e => ?_⟩
  · rcases h.nb i (.inl e) with h | h
    · exact h
    · omega
  · rcases e with (rfl | e) | e
    · exact h.nb _ (.inl (.inl rfl))
    · rcases h3 k e with e | e
      · exact h.nb _ (.inl (.inr e))
      · exact .inr (Nat.le_trans h.kp.size e)
    · exact h.nb _ (.inr e)
theorem Mid.dp {w W0 W W' : World} {b r : Nat} {vb0 vr0 vb vr : Value} {g d d' : Bk} (h : Mid w W0 W b r vb0 vr0 vb vr g d) (hb : DP W W' w.heap.size r vr d') : ∃ vr', Mid w W0 W' b r vb0 vr0 vb vr' g d' := by
  obtain ⟨vr', h1, h2, h3⟩ := hb
  have hm : Mine w W' b vb g := ⟨isB_keeps h.mb.1 h2 (fun k e1 e2 => bd_apart h.mb.1 h.md k e2 e1), Keeps.grown h.mb.2 h2 (fun k e => by
    rcases e with rfl | e
    · exact h.md.low
    · exact (owns_lt h.md.row e).1)⟩
  refine ⟨vr', hm, h1, keeps_then h.kp h2 (fun i hi e => ?_), fun k e => ?_⟩
  · rcases h.nb i (.inr e) with h | h
    · exact h
    · omega
  · rcases e with e | (rfl | e)
    · exact h.nb _ (.inl e)
    · exact h.nb _ (.inr (.inl rfl))
    · rcases h3 k e with e | e
      · exact h.nb _ (.inr (.inr e))
      · exact .inr (Nat.le_trans h.kp.size e)
theorem boxB {W W' : World} {B b : Nat} {v : Value} {g g' : Bk} (h : IsB W B b v g) {q : Nat} {cs : Array Value} (hq : Blk W q cs 34) (hb : BP W W' B b v g') : Blk W' q cs 34 := by
  obtain ⟨_, _, hk, _⟩ := hb
  refine hq.keeps hk (fun hf => ?_)
  rcases hf with rfl | hf
  · exact hq.ne h.blk (by decide) rfl
  · exact own_ne h.row hq (by decide) hf.symm
theorem boxD {W W' : World} {B b : Nat} {v : Value} {g g' : Bk} (h : IsD W B b v g) {q : Nat} {cs : Array Value} (hq : Blk W q cs 34) (hb : DP W W' B b v g') : Blk W' q cs 34 := by
  obtain ⟨_, _, hk, _⟩ := hb
  refine hq.keeps hk (fun hf => ?_)
  rcases hf with rfl | hf
  · exact hq.ne h.blk (by decide) rfl
  · exact own_ne h.row hq (by decide) hf.symm
/-- A row that is our own, of another kind, stays beside a book. -/
theorem owns_dp {W W' : World} {B b : Nat} {v : Value} {g g' : Bk} (h : IsD W B b v g) {B' : Nat} {e : TypeId} {size : Nat} {u : Value} {n : Nat} {xs : List Value} (ho : W.ownsRow B' e size u n xs) (h1 : e ≠ 58) (h2 : e ≠ 72) (hb : DP W W' B b v g') : W'.ownsRow B' e size u n xs := by
  obtain ⟨_, _, hk, _⟩ := hb
  refine owns_keeps ho hk (fun k e1 hf => ?_)
  rcases hf with rfl | hf
  · exact own_ne ho h.blk h1.symm e1.symm
  · exact rows_apart ho h.row h2 k e1 hf.symm
/-- append([]int{}, l...), as it runs. -/
theorem exec_copyi {W0 : World} {B g : Nat} {v : Value} {l : List Int} {o : Oper} {a : Act} (s y : Operand) (ho : o.op = .call { callee := .builtin .append, args := #[s, y], argTypes := #[32, 32] }) (hs : a.eval s = .slice (some ⟨g, 0, none⟩) 0 0) (hy : a.eval y = v)
    (hown : W0.ownsRow B 3 1 (.slice (some ⟨g, 0, none⟩) 0 0) 0 []) (hB : B ≤ W0.heap.size) (h : IntsR W0 v l) (hl : l.length ≤ 17592186044416) :
    ∃ a' c' W', (execOp a.eval o).run Try.prog W0 = .ok (.value (.slice a' l.length c')) W' ∧ OwnI W' B (.slice a' l.length c') l ∧ W0.grownBy W' (some g) := by
  obtain ⟨i0, hi, hz0, hz1, hz2⟩ := info_parts info3
  have hone : ∀ u ∈ i64s l, u.oneCell' = true := fun u hu => by
    obtain ⟨x, _, rfl⟩ := List.mem_map.1 hu; rfl
  have go : ∀ (ad : Addr) (c : Nat), v = .slice (some ad) l.length c → (∀ j u, (i64s l)[j]? = some u → W0.cell? (ad.add j) = some u) → ∃ a' c' W', (execOp a.eval o).run Try.prog W0 = .ok (.value (.slice a' l.length c')) W' ∧ OwnI W' B (.slice a' l.length c') l ∧ W0.grownBy W' (some g) := by
    intro ad c hv hc
    obtain ⟨v', w', hr, hown', hg, _, _⟩ := run_append_own_at (P := Try.prog) W0 B 32 o.type 3 i0 (.int .i64 0) 1 8 Try.underlying32 hi hz0 hz1 hz2 rfl (by decide) _ 0 [] hown ad l.length c (i64s l) (by simp [i64s]) hc hone (by unfold maxLen; omega) (by omega) hB
    simp only [Nat.zero_add, List.nil_append] at hown'
    obtain ⟨a', c', rfl⟩ := row_shape hown'
    exact ⟨a', c', w', exec_app ho hs (by rw [hy, hv]) hr, hown', hg⟩
  rcases h with ⟨rfl, av, cap, e, hn⟩ | ⟨b, off, cap, e, _, hc⟩
  · cases av with
    | none =>
      obtain rfl := hn rfl
      have hrun := run_append_owned_none (P := Try.prog) W0 B 32 o.type 3 i0 1 Try.underlying32 hi _ 0 [] hown
      exact ⟨_, _, W0, exec_app ho hs (by rw [hy, e]) hrun, hown, grown_refl _ _⟩
    | some ad => exact go ad cap e (fun j u hj => by simp [i64s] at hj)
  · refine go ⟨b, off, none⟩ cap e (fun j u hj => ?_)
    simp only [i64s, List.getElem?_map, Option.map_eq_some_iff] at hj
    obtain ⟨x, hx, rfl⟩ := hj
    rw [← hc j x hx]; congr 1; unfold Addr.add; split <;> simp_all
end Go.Proofs.Ythfdoliojbhcjaa
