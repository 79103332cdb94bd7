/- watch, the pure side: what two views have in common; where they differ. -/
import Derived.Test.YtcijjepleedecaaErE
namespace Go.Proofs.Ytcijjepleedecaa.W
open Go.RowKit Go.Maps
set_option linter.unusedVariables false
set_option linter.unusedSimpArgs false
set_option maxRecDepth 100000

/-- A view that may be, or the empty one. -/
def whB (b t : Int) (es : List Ent) : Int := if rightV b t es then b else 0
def whT (b t : Int) (es : List Ent) : Int := if rightV b t es then t else 0
def whE (b t : Int) (es : List Ent) : List Ent := if rightV b t es then es else []
theorem wh_yes {b t : Int} {es : List Ent} (h : rightV b t es = true) : whB b t es = b ∧ whT b t es = t ∧ whE b t es = es := by
  unfold whB whT whE; simp [h]
theorem wh_no {b t : Int} {es : List Ent} (h : rightV b t es = false) : whB b t es = 0 ∧ whT b t es = 0 ∧ whE b t es = [] := by
  unfold whB whT whE; simp [h]
theorem wh_right (b t : Int) (es : List Ent) : rightV (whB b t es) (whT b t es) (whE b t es) = true := by
  rcases Bool.eq_false_or_eq_true (rightV b t es) with h | h
  · obtain ⟨h1, h2, h3⟩ := wh_yes h; rw [h1, h2, h3]; exact h
  · obtain ⟨h1, h2, h3⟩ := wh_no h; rw [h1, h2, h3]; rfl
theorem wh_len (b t : Int) (es : List Ent) : (whE b t es).length ≤ 4096 := (rightV_spec (wh_right b t es)).2.2.2.2.1
theorem wh_base (b t : Int) (es : List Ent) : 0 ≤ whB b t es ∧ whB b t es ≤ 549755813888 := ⟨(rightV_spec (wh_right b t es)).1, (rightV_spec (wh_right b t es)).2.1⟩
theorem whE_le (b t : Int) (es : List Ent) : (whE b t es).length ≤ es.length := by
  unfold whE; split
  · exact Nat.le_refl _
  · simp
def whV (b t : Int) (es : List Ent) (lv : Value) : Value := if rightV b t es then lv else .slice none 0 0
theorem whV_yes {b t : Int} {es : List Ent} (h : rightV b t es = true) (lv : Value) : whV b t es lv = lv := by unfold whV; simp [h]
theorem whV_no {b t : Int} {es : List Ent} (h : rightV b t es = false) (lv : Value) : whV b t es lv = .slice none 0 0 := by unfold whV; simp [h]
theorem EntsR.wh {w : World} {b t : Int} {es : List Ent} {lv : Value} (h : EntsR w lv es) : EntsR w (whV b t es lv) (whE b t es) := by
  rcases Bool.eq_false_or_eq_true (rightV b t es) with hr | hr
  · rw [whV_yes hr, (wh_yes hr).2.2]; exact h
  · rw [whV_no hr, (wh_no hr).2.2]; exact EntsR.nil w
/-- Two entries of one index differ. -/
def diffE (p : Ent × Ent) : Bool := !(p.1.term == p.2.term) || (!(p.1.kind == p.2.kind) || !(p.1.data == p.2.data))
def sameT (p : Ent × Ent) : Bool := p.1.term == p.2.term
/-- The least index, up to one, at which two differ. -/
def firstZ (most : Int) : List (Ent × Ent) → Int → Int
  | [], _ => 0
  | p :: r, i => if most < i then 0 else if diffE p then i else firstZ most r (i + 1)
/-- The greatest index at which two have one term. -/
def lastZ : List (Ent × Ent) → Int → Int → Int
  | [], _, n => n
  | p :: r, i, n => lastZ r (i + 1) (if sameT p then i else n)
theorem lastZ_snoc : ∀ (l : List (Ent × Ent)) (p : Ent × Ent) (i n : Int), lastZ (l ++ [p]) i n = if sameT p then i + l.length else lastZ l i n
  | [], p, i, n => by simp [lastZ]
  | q :: l, p, i, n => by
    rw [List.cons_append, lastZ, lastZ_snoc l p, lastZ]
    simp only [List.length_cons]
    split
    · push_cast; omega
    · rfl
theorem lastZ_in : ∀ (l : List (Ent × Ent)) (i n : Int), lastZ l i n = n ∨ (i ≤ lastZ l i n ∧ lastZ l i n < i + l.length)
  | [], _, _ => .inl rfl
  | p :: l, i, n => by
    rw [lastZ]
    simp only [List.length_cons]
    rcases lastZ_in l (i + 1) (if sameT p then i else n) with h | h
    · rw [h]; split
      · right; push_cast; omega
      · left; rfl
    · right; push_cast; omega
theorem firstZ_none {most : Int} : ∀ {l : List (Ent × Ent)} {i : Int}, (∀ p ∈ l, diffE p = false) → firstZ most l i = 0
  | [], _, _ => rfl
  | p :: l, i, h => by
    rw [firstZ, h p (by simp)]
    split
    · rfl
    · exact firstZ_none (fun q hq => h q (by simp [hq]))
theorem firstZ_low {most : Int} : ∀ {l : List (Ent × Ent)} {i : Int}, most < i → firstZ most l i = 0
  | [], _, _ => rfl
  | p :: l, i, h => by rw [firstZ, if_pos h]
/-- The pairs at the indexes from one behind a base on. -/
def baseC (b1 b2 : Int) : Int := max b1 b2
def pairs (b1 : Int) (e1 : List Ent) (b2 : Int) (e2 : List Ent) : List (Ent × Ent) :=
  (e1.drop (baseC b1 b2 - b1).toNat).zip (e2.drop (baseC b1 b2 - b2).toNat)
def matchZ (b1 : Int) (e1 : List Ent) (b2 : Int) (e2 : List Ent) : Int :=
  firstZ (lastZ (pairs b1 e1 b2 e2) (baseC b1 b2 + 1) 0) (pairs b1 e1 b2 e2) (baseC b1 b2 + 1)
def agreeZ (c1 b1 : Int) (e1 : List Ent) (c2 b2 : Int) (e2 : List Ent) : Int :=
  firstZ (min c1 c2) (pairs b1 e1 b2 e2) (baseC b1 b2 + 1)
theorem diffE_swap (p : Ent × Ent) : diffE p.swap = diffE p := by
  unfold diffE
  simp only [Prod.fst_swap, Prod.snd_swap]
  rw [Bool.beq_comm (a := p.2.term), Bool.beq_comm (a := p.2.kind), Bool.beq_comm (a := p.2.data)]
theorem sameT_swap (p : Ent × Ent) : sameT p.swap = sameT p := by unfold sameT; simp only [Prod.fst_swap, Prod.snd_swap]; exact Bool.beq_comm
theorem firstZ_swap (most : Int) : ∀ (l : List (Ent × Ent)) (i : Int), firstZ most (l.map Prod.swap) i = firstZ most l i
  | [], _ => rfl
  | p :: l, i => by simp only [List.map_cons, firstZ, diffE_swap, firstZ_swap most l]
theorem lastZ_swap : ∀ (l : List (Ent × Ent)) (i n : Int), lastZ (l.map Prod.swap) i n = lastZ l i n
  | [], _, _ => rfl
  | p :: l, i, n => by simp only [List.map_cons, lastZ, sameT_swap, lastZ_swap l]
theorem zip_swap' : ∀ (a b : List Ent), b.zip a = (a.zip b).map Prod.swap
  | [], b => by simp
  | _ :: _, [] => by simp
  | x :: a, y :: b => by simp only [List.zip_cons_cons, List.map_cons, Prod.swap_prod_mk, zip_swap' a b]
theorem pairs_swap (b1 : Int) (e1 : List Ent) (b2 : Int) (e2 : List Ent) : pairs b2 e2 b1 e1 = (pairs b1 e1 b2 e2).map Prod.swap := by
  unfold pairs baseC
  rw [Int.max_comm b2 b1, zip_swap']
theorem match_swap (b1 : Int) (e1 : List Ent) (b2 : Int) (e2 : List Ent) : matchZ b2 e2 b1 e1 = matchZ b1 e1 b2 e2 := by
  unfold matchZ
  rw [pairs_swap b1 e1 b2 e2, lastZ_swap, firstZ_swap]
  unfold baseC
  rw [Int.max_comm b2 b1]
theorem agree_swap (c1 b1 : Int) (e1 : List Ent) (c2 b2 : Int) (e2 : List Ent) : agreeZ c2 b2 e2 c1 b1 e1 = agreeZ c1 b1 e1 c2 b2 e2 := by
  unfold agreeZ
  rw [pairs_swap b1 e1 b2 e2, firstZ_swap, Int.min_comm c2 c1]
  unfold baseC
  rw [Int.max_comm b2 b1]
theorem diffE_refl (x : Ent) : diffE (x, x) = false := by unfold diffE; simp
theorem zip_self_none (l : List Ent) : ∀ p ∈ l.zip l, diffE p = false := by
  intro p hp
  rw [List.zip_eq_zipWith, List.zipWith_self] at hp
  obtain ⟨x, _, rfl⟩ := List.mem_map.1 hp
  exact diffE_refl x
theorem match_self (b : Int) (e : List Ent) : matchZ b e b e = 0 := by
  unfold matchZ pairs
  exact firstZ_none (zip_self_none _)
theorem agree_self (c b : Int) (e : List Ent) : agreeZ c b e c b e = 0 := by
  unfold agreeZ pairs
  exact firstZ_none (zip_self_none _)
/-- Pieces of one list. -/
theorem zip_take_none (l : List Ent) (i k : Nat) : ∀ p ∈ ((l.take i).drop k).zip (l.drop k), diffE p = false := by
  intro p hp
  obtain ⟨j, hj, rfl⟩ := List.mem_iff_getElem.1 hp
  simp only [List.getElem_zip, List.getElem_drop, List.getElem_take]
  exact diffE_refl _
end Go.Proofs.Ytcijjepleedecaa.W
