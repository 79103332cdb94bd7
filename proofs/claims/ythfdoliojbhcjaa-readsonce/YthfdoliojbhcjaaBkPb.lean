/- ReadsOnce: what stands between two rounds. -/
import Derived.Test.YthfdoliojbhcjaaBkPa
namespace Go.Proofs.Ythfdoliojbhcjaa
open Go.RowKit Go.Maps
set_option linter.unusedVariables false
set_option linter.unusedSimpArgs false
set_option maxRecDepth 100000

theorem map_own {w : World} {b n : Nat} {f : Int → Option Int} {sz : Nat} (h : MapR w b n f sz) {B : Nat} {e : TypeId} {size : Nat} {v : Value} {k : Nat} {xs : List Value} (ho : w.ownsRow B e size v k xs) : ∀ g, v.ownBlock = some g → some g ≠ some b := fun g hg e1 => by
  injection e1 with e1
  subst e1
  obtain ⟨D, h1⟩ := h
  obtain ⟨_, c, hc⟩ := own_low ho _ hg
  exact map_blk h1.own hc rfl
theorem Mine.turn {w W W' : World} {b : Nat} {v : Value} {g : Bk} {mi n : Nat} {f : Int → Option Int} {sz : Nat} (h : Mine w W b v g) (hm : MapR W mi n f sz) (hw : w.heap.size ≤ mi) (hg : W.grownBy W' (some mi)) : Mine w W' b v g := by
  refine ⟨⟨h.1.blk.kept hg (fun e => ?_), owns_kept2 h.1.row hg (map_own hm h.1.row), h.1.low, h.1.ok⟩, grown_new h.2 hg hw⟩
  injection e with e
  obtain ⟨D, h1⟩ := hm
  exact map_blk h1.own h.1.blk e.symm
/-- Rounds by ids. -/
def RdOf (fr : Int → Option Int) (l : List Rd) (i : Nat) : Prop := (∀ r ∈ l, fr r.id = some r.rd) ∧ ∀ x : Int, (i : Int) ≤ x → fr x = none
theorem RdOf.more {fr : Int → Option Int} {l : List Rd} {i : Nat} (h : RdOf fr l i) : RdOf fr l (i + 1) := ⟨h.1, fun x hx => h.2 x (by omega)⟩
theorem RdOf.less {fr : Int → Option Int} {l m : List Rd} {i : Nat} (h : RdOf fr l i) (hm : ∀ r ∈ m, r ∈ l) : RdOf fr m i := ⟨fun r hr => h.1 r (hm r hr), h.2⟩
theorem RdOf.add {fr : Int → Option Int} {l : List Rd} {i : Nat} (h : RdOf fr l i) (ha : Asc l i) (ix rd : Int) : RdOf (updF fr i rd) (l ++ [⟨i, ix, rd⟩]) (i + 1) := by
  refine ⟨fun r hr => ?_, fun x hx => ?_⟩
  · rcases List.mem_append.1 hr with hr | hr
    · have := ha.below r hr
      unfold updF
      rw [if_neg (by omega)]
      exact h.1 r hr
    · rw [List.mem_singleton.1 hr]
      unfold updF
      rw [if_pos rfl]
  · unfold updF
    rw [if_neg (by omega)]
    exact h.2 x (by omega)
structure OnceI (w W : World) (b mi mr i : Nat) : Prop where
  ex : ∃ v g ni nr fr sr, Mine w W b v g ∧ Asc g.L i ∧ ni ≤ i ∧ nr ≤ i ∧ MapR W mi ni (ixF g.L) g.L.length ∧ MapR W mr nr fr sr ∧ RdOf fr g.L i
def mostL (l : List Rd) : Int := l.foldl (fun m r => max m r.rd) (-1)
theorem mostL_snoc (l : List Rd) (r : Rd) : mostL (l ++ [r]) = max (mostL l) r.rd := by unfold mostL; rw [List.foldl_append]; rfl
theorem mostL_lt {x : Int} : ∀ (n : Nat) (l : List Rd), l.length = n → -1 < x → (∀ d ∈ l, d.rd < x) → mostL l < x
  | 0, l, hl, h0, _ => by rw [List.length_eq_zero_iff.1 hl]; exact h0
  | n + 1, l, hl, h0, h => by
    obtain ⟨l', r, rfl⟩ : ∃ l' r, l = l' ++ [r] := ⟨l.dropLast, l.getLast (by intro e; rw [e] at hl; simp at hl), (List.dropLast_concat_getLast _).symm⟩
    rw [mostL_snoc]
    have h1 := mostL_lt n l' (by simpa using hl) h0 (fun d hd => h d (List.mem_append.2 (.inl hd)))
    have h2 := h r (by simp)
    omega
theorem most_left {S : List Int} {g : Bk} (ok : OkB g) {r : Rd} (hr : r ∈ (leftB S g).L) : ¬ r.rd ≤ mostL (doneB S g) := by
  have := mostL_lt (x := r.rd) _ (doneB S g) rfl (by have := (ok.rds r (List.mem_filter.1 hr).1).1; omega) (fun d hd => left_later hd hr)
  omega
theorem MapR.cast {w : World} {b n : Nat} {f g : Int → Option Int} {sz s2 : Nat} (h : MapR w b n f sz) (hf : f = g) (hs : sz = s2) : MapR w b n g s2 := by subst hf; subst hs; exact h
theorem map_len {w : World} {b n : Nat} {f : Int → Option Int} {sz : Nat} (h : MapR w b n f sz) : (Builtin.len_ #[47] 3 #[.map (some b)]).run Try.prog w = .ok (.int .i64 sz) w := by
  obtain ⟨D, h1⟩ := h
  rw [h1.own.len Try.underlying47, h1.size]
end Go.Proofs.Ythfdoliojbhcjaa
