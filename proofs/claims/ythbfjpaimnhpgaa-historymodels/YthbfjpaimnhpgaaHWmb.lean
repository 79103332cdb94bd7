/- history: two models: the box, what is written over. -/
import Derived.Test.YthbfjpaimnhpgaaHWma
namespace Go.Proofs.Ythbfjpaimnhpgaa
open Go.RowKit Go.Maps
set_option linter.unusedVariables false
set_option linter.unusedSimpArgs false
set_option maxRecDepth 100000

section
variable {w W W' : World} {b : Nat} {vm : Value} {bd : Nat} {vl : Value} {R Rd : List RV} {s sd : Nat}
theorem MdI.mbox (h : MdI w W b vm bd vl R Rd s sd) {q : Nat} {cs : Array Value} (hb : Blk W q cs 32) {vm' : Value} (h2 : MP W W' b vm vm') : Blk W' q cs 32 :=
  hb.keeps h2.keeps (fun e => by
    rcases e with e | e
    · have h8 := h.m.blk
      unfold Blk at h8 hb
      rw [e, h8] at hb
      simp at hb
    · exact h.m.row.tag hb (by decide) e.symm)
theorem MdI.dbox (h : MdI w W b vm bd vl R Rd s sd) {q : Nat} {cs : Array Value} (hb : Blk W q cs 32) {vl' : Value} (h2 : MP W W' bd vl vl') : Blk W' q cs 32 :=
  hb.keeps h2.keeps (fun e => by
    rcases e with e | e
    · have h8 := h.d.blk
      unfold Blk at h8 hb
      rw [e, h8] at hb
      simp at hb
    · exact own_ne h.d.row.1 hb (by decide) e.symm)
end
theorem fp_put {b : Nat} {vm vm' : Value} {bd : Nat} {vl vl' : Value} {R Rd : List RV} {d d' : List UInt8} {u u' : Value} {S : Nat}
    (h1 : ∀ k, MF b vm' k → MF b vm k ∨ S ≤ k) (h2 : ∀ k, MF bd vl' k → MF bd vl k ∨ S ≤ k) (h3 : ∀ k, u.ownBlock = some k → S ≤ k) (h4 : ∀ k, u'.ownBlock = some k → S ≤ k) (k : Nat)
    (h : FP b vm' bd vl' (R ++ [(d, u)]) (Rd ++ [(d', u')]) k) : FP b vm bd vl R Rd k ∨ S ≤ k := by
  rcases h with h | rfl | h | ⟨p, hp, h⟩
  · exact (h1 k h).imp_left .inl
  · exact .inl (.inr (.inl rfl))
  · rcases h with h | ⟨p, hp, h⟩
    · rcases h2 k (.inr h) with (rfl | h) | h
      · exact .inl (.inr (.inl rfl))
      · exact .inl (.inr (.inr (.inl (.inl h))))
      · exact .inr h
    · rcases List.mem_append.1 hp with hp | hp
      · exact .inl (.inr (.inr (.inl (.inr ⟨p, hp, h⟩))))
      · simp at hp; subst hp; exact .inr (h4 k h)
  · rcases List.mem_append.1 hp with hp | hp
    · exact .inl (.inr (.inr (.inr ⟨p, hp, h⟩)))
    · simp at hp; subst hp; exact .inr (h3 k h)
/-- What Get has given, to be written over. -/
structure XI (W : World) (B : Nat) (v : Value) (R : List RV) : Prop where
  row : W.ownsRow B 30 1 v R.length (R.map (·.2))
  el : ∀ p ∈ R, RawB W B p.2 p.1.length
theorem XI.of {W : World} {B : Nat} {v : Value} {R : List RV} (h : OwnRec W B v R) : XI W B v R := ⟨h.1, fun p hp => RawB.of (h.2 p hp)⟩
theorem XI.kept {W W' : World} {B : Nat} {v : Value} {R : List RV} (h : XI W B v R) (hg : W.grownBy W' none) : XI W' B v R := ⟨owns_kept h.row hg (fun _ _ _ => by simp), fun p hp => (h.el p hp).kept hg⟩
theorem XI.len {W : World} {B : Nat} {v : Value} {R : List RV} (h : XI W B v R) : ∃ a cap, v = .slice a R.length cap := row_shape h.row
theorem XI.get {W : World} {B : Nat} {v : Value} {R : List RV} (h : XI W B v R) {k : Nat} (hk : k < R.length) : ∃ g cap, v = .slice (some ⟨g, 0, none⟩) R.length cap ∧ W.cell? ⟨g, k, none⟩ = some R[k].2 := by
  rcases h.row.2 with ⟨rfl, h0⟩ | ⟨g, cap, cur, hv, hb, hg, h1, h2, h3, h4⟩
  · omega
  · refine ⟨g, cap, hv, ?_⟩
    have h5 : (R.map (·.2))[k]? = some R[k].2 := by simp [hk]
    rw [← h4, List.getElem?_take_of_lt (by rw [Nat.mul_one]; exact hk)] at h5
    rw [cell_of_row _ _ _ _ _ _ hg]
    simpa using h5
theorem XI.set {W : World} {B : Nat} {v : Value} {R : List RV} (h : XI W B v R) {g : Nat} {cur : Array Value} (hg : W.heap[g]? = some (.cells cur 5 (0, 0))) (i : Nat) (z : Int) : XI (W.setCell ⟨g, i, none⟩ (.int .u8 z)) B v R :=
  ⟨owns_kept h.row (grown_setCell W g i (.int .u8 z)) (fun k cur' hk e => by
    injection e with e
    subst e
    rw [hg] at hk
    simp at hk), fun p hp => (h.el p hp).set hg i z⟩
theorem MdI.set {w W : World} {b : Nat} {vm : Value} {bd : Nat} {vl : Value} {R Rd : List RV} {s sd : Nat} (h : MdI w W b vm bd vl R Rd s sd) {g : Nat} (hn : ¬ FP b vm bd vl R Rd g) (hw : w.heap.size ≤ g) (i : Nat) (x : Value) : MdI w (W.setCell ⟨g, i, none⟩ x) b vm bd vl R Rd s sd :=
  h.keeps (F := fun k => k = g) (Keeps.one (grown_setCell W g i x) rfl) (fun k hk e => hn (e ▸ hk)) (fun k e => e ▸ hw)
def gotL (l : List (List UInt8)) (s : Nat) (fr mo : Int) : List (List UInt8) := if hasM ⟨s, l⟩ fr = true then getM ⟨s, l⟩ fr mo else []
theorem got_len (l : List (List UInt8)) (s : Nat) (fr mo : Int) : (gotL l s fr mo).length ≤ l.length := by
  unfold gotL getM
  split <;> simp; omega
theorem got_mem {l : List (List UInt8)} {s : Nat} {fr mo : Int} {x : List UInt8} (h : x ∈ gotL l s fr mo) : x ∈ l := by
  unfold gotL getM at h
  split at h
  · exact List.mem_of_mem_drop (List.mem_of_mem_take h)
  · cases h
theorem get_all {w : World} {b : Nat} {vm : Value} {R : List RV} {s : Nat} (h : IsM w b vm R s) (rd : ∀ p ∈ R, Byt w p.2 p.1) (rl : ∀ p ∈ R, p.1.length ≤ 140737488355328) (fr mo : Int) :
    Calls Try.prog 14 #[.pointer (some ⟨b, 0, none⟩), .int .i64 fr, .int .i64 mo] w fun e w' => ∃ v' R', e = .returned (.tuple #[v', .bool (hasM ⟨s, R.map (·.1)⟩ fr)]) ∧ OwnRec w' w.heap.size v' R' ∧ R'.map (·.1) = gotL (R.map (·.1)) s fr mo ∧ w.grownBy w' none := by
  cases hf : hasM ⟨s, R.map (·.1)⟩ fr
  · refine (get_no h fr mo hf).mono ?_
    rintro e w' ⟨rfl, hg⟩
    exact ⟨_, [], rfl, OwnRec.nil _ _, by simp [gotL, hf], hg⟩
  · refine (get_any h rd rl fr mo hf).mono ?_
    rintro e w' ⟨v', R', rfl, h1, h2, h3⟩
    exact ⟨_, R', rfl, h1, by rw [h2, toldR_bytes]; simp [gotL, hf], h3⟩
theorem dget_all {w : World} {B b : Nat} {vl : Value} {R : List RV} {s : Nat} (h : IsD w B b vl R s) (hBw : B ≤ w.heap.size) (fr mo : Int) :
    Calls Try.prog 15 #[.pointer (some ⟨b, 0, none⟩), .int .i64 fr, .int .i64 mo] w fun e w' => ∃ v' R', e = .returned (.tuple #[v', .bool (hasM ⟨s, R.map (·.1)⟩ fr)]) ∧ RecR w' v' R' ∧ R'.map (·.1) = gotL (R.map (·.1)) s fr mo ∧ w.grownBy w' none := by
  cases hf : hasM ⟨s, R.map (·.1)⟩ fr
  · refine (dget_no h fr mo hf).mono ?_
    rintro e w' ⟨rfl, hg⟩
    exact ⟨_, [], rfl, RecR.nil _, by simp [gotL, hf], hg⟩
  · refine (dget_any h hBw fr mo hf).mono ?_
    rintro e w' ⟨v', rfl, h1, h2, h3⟩
    exact ⟨_, _, rfl, h1.red, by rw [toldR_bytes]; simp [gotL, hf], h3⟩
end Go.Proofs.Ythbfjpaimnhpgaa
