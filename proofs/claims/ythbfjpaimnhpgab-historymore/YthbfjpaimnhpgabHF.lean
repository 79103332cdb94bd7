/- history: calls sorted. -/
import Derived.Test.YthbfjpaimnhpgabHE2
import Derived.Test.YthbfjpaimnhpgabHLay
namespace Go.Proofs.Ythbfjpaimnhpgab
open Go.RowKit Go.Maps Go.Shelf
set_option linter.unusedVariables false
set_option linter.unusedSimpArgs false
set_option maxRecDepth 100000

theorem permIn_list {α : Type} [Inhabited α] {d d' : Array α} (h : Go.Sort.PermIn 0 d.size d d') : d'.toList.Perm d.toList := by
  have h3 := h.2.2
  rw [Array.extract_size] at h3
  have : d'.extract 0 d.size = d' := by rw [← h.1, Array.extract_size]
  rwa [this] at h3
theorem sortedIn_list {α : Type} [Inhabited α] {lt : α → α → Bool} {d : Array α} (h : Go.Sort.SortedIn lt 0 d.size d) : d.toList.Pairwise (fun x y => lt y x = false) := by
  rw [List.pairwise_iff_getElem]
  intro i j hi hj hij
  have hi' : i < d.size := by simpa using hi
  have hj' : j < d.size := by simpa using hj
  have := h i j (Nat.zero_le _) hij hj'
  rw [getElem!_pos d j hj', getElem!_pos d i hi'] at this
  simpa using this
theorem cmpI_neg (x y : Int) : cmpI x y < 0 ↔ x < y := by unfold cmpI; split <;> (try split) <;> omega
theorem cmpI_zero (x y : Int) : cmpI x y = 0 ↔ x = y := by unfold cmpI; split <;> (try split) <;> omega
theorem orI_neg (x y : Int) : orI x y < 0 ↔ x < 0 ∨ x = 0 ∧ y < 0 := by unfold orI; split <;> omega
theorem cmpC_neg (x y : CE) : cmpC x y < 0 ↔ x.g.c < y.g.c ∨ x.g.c = y.g.c ∧ x.g.b < y.g.b := by
  unfold cmpC; rw [orI_neg, cmpI_neg, cmpI_zero, cmpI_neg]
abbrev CS := {x : CE // IsSl x.vd ∧ IsSl x.vr}
instance : Inhabited CS := ⟨⟨⟨default, .slice none 0 0, .slice none 0 0, []⟩, ⟨_, _, _, rfl⟩, ⟨_, _, _, rfl⟩⟩⟩
def encC (x : CS) : List Value := calC x.1
def cfC (x y : CS) : Int := cmpC x.1 y.1
theorem ltC_iff (x y : CS) : ltOf cfC x y = true ↔ x.1.g.c < y.1.g.c ∨ x.1.g.c = y.1.g.c ∧ x.1.g.b < y.1.g.b := by
  unfold ltOf cfC; rw [decide_eq_true_eq, cmpC_neg]
theorem ltC_not (x y : CS) : ltOf cfC x y = false ↔ leC y.1.g x.1.g := by
  rw [← Bool.not_eq_true, ltC_iff]; unfold leC; omega
theorem swoC : Go.Sort.SWO (ltOf cfC) where
  irrefl x := by rw [ltC_not]; unfold leC; omega
  trans x y z h1 h2 := by rw [ltC_iff] at *; omega
  ntrans x y z h1 h2 := by rw [ltC_not] at *; unfold leC at *; omega
theorem cmpLaysC (blk off size : Nat) (w : World) : CmpLays Try.prog 27 #[] encC 12 cfC blk off size w := fun m os dk hs x y => by
  obtain ⟨⟨⟨c1, b1, e1, k1, t1, an1, fr1, mo1, nu1, st1, d1, rs1⟩, vd1, vr1, R1⟩, ⟨a1, n1, p1, h1⟩, ⟨a2, n2, p2, h2⟩⟩ := x
  obtain ⟨⟨⟨c2, b2, e2, k2, t2, an2, fr2, mo2, nu2, st2, d2, rs2⟩, vd2, vr2, R2⟩, ⟨a3, n3, p3, h3⟩, ⟨a4, n4, p4, h4⟩⟩ := y
  simp only at h1 h2 h3 h4
  subst h1 h2 h3 h4
  exact byClient_lit _ _ _ _ _ _ _ _ _ _ _ _ _ _ _ _ _ _ _ _ _ _ _ _ _ _ _ _ _ _ _ _ _
theorem ent61 : ∀ args w, (callFunc 27 args).run Try.prog w = .ok (.enter 27 args) w := fun args w => by go_simp
theorem isAgg42 : ∀ w, (isAgg (Try.laysC6_ren.t 24)).run Try.prog w = .ok true w := fun w => by
  first
    | (change (isAgg 42).run Try.prog w = _; kernel_rfl)
    | kernel_rfl
theorem sizeOf60 : ∀ w, (Go.sizeOf (Try.laysC6_ren.t 24)).run Try.prog w = .ok 12 w := fun w => by
  first
    | (change (Go.sizeOf 42).run Try.prog w = _; kernel_rfl)
    | kernel_rfl
/-- The calls as the sort takes them. -/
def csOf (L : List CE) (h : SlC L) : List CS := L.pmap (fun x h => (⟨x, h⟩ : CS)) (fun x hx => h x hx)
theorem csOf_map (L : List CE) (h : SlC L) : (csOf L h).map (·.1) = L := by
  unfold csOf
  apply List.ext_getElem (by simp)
  intro i h1 h2
  simp
theorem sortC_any {w0 w : World} {v : Value} {L : List CE} (h : OwnC w w0.heap.size v L) (hi : ∀ x ∈ L, InC w0 x) (hg : w0.grownBy w none) (hl : L.length ≤ 2000) :
    Calls Try.prog 26 #[v, .func (.func 27) #[] #[]] w fun e w' => e = .returned (.tuple #[]) ∧ ∃ L' : List CE, L'.Perm L ∧ L'.Pairwise (fun x y => leC x.g y.g) ∧ CsR w' v L' ∧ w0.grownBy w' none := by
  have hs : SlC L := fun x hx => (hi x hx).sl
  rcases Nat.eq_zero_or_pos L.length with h0 | h0
  · obtain rfl := List.length_eq_zero_iff.1 h0
    obtain ⟨p, cap, hv⟩ := h.len
    have hr : CsR w v [] := h.red (fun x hx => by cases hx)
    subst hv
    refine (AnyF.slices_SortFunc_none { Try.laysC6 with } p cap (.func (.func 27) #[] #[]) w).mono ?_
    rintro e w' ⟨rfl, rfl⟩
    exact ⟨rfl, [], List.Perm.refl _, List.Pairwise.nil, hr, hg⟩
  · rcases h.2 with ⟨_, hn⟩ | ⟨g, cap, cur, hv, hb, hh, h1, h2, h3, h4⟩
    · omega
    · obtain ⟨D, hD⟩ : ∃ D, D = (csOf L hs).toArray := ⟨_, rfl⟩
      have hDL : D.toList.map (·.1) = L := by rw [hD]; exact csOf_map L hs
      have hDs : D.size = L.length := by rw [← hDL]; simp
      have hgl : g < w.heap.size := (Array.getElem?_eq_some_iff.1 hh).1
      have hH : Go.Sort.HoldsK encC 12 w g 0 D := fun j hj => by
        rw [Go.Sort.size_flatK] at hj
        refine ⟨?_, by simp [World.frozen?, hh]⟩
        rw [Nat.zero_add, Go.Sort.get_flatK _ _ _ _ hj, cell_of_row _ _ _ _ _ _ hh]
        have hjd : j / 12 < D.size := by omega
        have hjl : j / 12 < L.length := by omega
        have h5 := cals_at L (j / 12) hjl (j % 12) (Nat.mod_lt _ (by decide))
        rw [show j / 12 * 12 + j % 12 = j by omega] at h5
        have h6 : (cals L)[j]? = cur[j]? := by
          rw [← h4, List.getElem?_take_of_lt (by rw [hDs] at hj; exact hj)]; simp
        rw [← h6, h5, getElem!_pos D _ hjd]
        have h7 : L[j / 12] = D[j / 12].1 := by
          have : (D.toList.map (·.1))[j / 12]? = L[j / 12]? := by rw [hDL]
          rw [List.getElem?_map, List.getElem?_eq_getElem hjl, List.getElem?_eq_getElem (by simpa using hjd)] at this
          simp at this
          exact this.symm
        rw [h7]
        show (calC D[j / 12].1)[j % 12]? = some (calC D[j / 12].1)[j % 12]!
        rw [getElem!_pos (calC D[j / 12].1) _ (by rw [calC_len]; exact Nat.mod_lt _ (by decide)), List.getElem?_eq_getElem]
      have hcon := AnyQ.slices_SortFunc Try.laysC6 12 isAgg42 sizeOf60 encC (fun _ => rfl) (fun x u hu => cals_one (L := [x.1]) (fun z hz => by rw [List.mem_singleton.1 hz]; exact x.2) u (by simpa [cals, encC] using hu)) cfC swoC 27 #[] g 0 cap D w ent61 (cmpLaysC g 0 D.size w) hH hgl (by omega)
      rw [hv, ← hDs]
      refine hcon.mono ?_
      rintro e w' ⟨rfl, D', n, os, hp, hso, rfl⟩
      have hsz : D'.size = D.size := hp.1
      have hpl := permIn_list hp
      have hgw : w0.grownBy (sortWorldK encC 12 w g 0 n D' os) none := by
        refine grown_new hg (show w.grownBy (sortWorldK encC 12 w g 0 n D' os) (some g) from ⟨rfl, rfl, rfl, by unfold sortWorldK; simp [Go.Sort.putRowK], fun i hi hne => ?_⟩) hb
        unfold sortWorldK
        rw [Go.Sort.heap_grow_old _ _ (by simpa [Go.Sort.putRowK] using hi)]
        unfold Go.Sort.putRowK Go.Sort.putRow Go.Sort.mapBlock
        simp only [Go.Sort.heap_ahead]
        rw [Array.getElem?_modify, if_neg (fun e => hne (by rw [e]))]
      have hH' := holdsK_sortWorldK_c encC 12 w g 0 D D' n os hH hgl hsz
      refine ⟨rfl, D'.toList.map (·.1), ?_, ?_, ⟨.inr ⟨g, 0, cap, by simp [hsz], ?_, ?_⟩, ?_⟩, hgw⟩
      · rw [← hDL]; exact hpl.map _
      · rw [List.pairwise_map]
        have := sortedIn_list (by rw [hsz]; exact hso)
        exact this.imp (fun hxy => (ltC_not _ _).1 hxy)
      · have := size_sortWorldK_c encC 12 w g 0 n D' os
        omega
      · intro j x hj
        have hjl : j < (cals (D'.toList.map (·.1))).length := (List.getElem?_eq_some_iff.1 hj).1
        rw [cals_len] at hjl
        simp only [List.length_map, Array.length_toList] at hjl
        have hjd : j / 12 < D'.size := by omega
        have h5 := cals_at (D'.toList.map (·.1)) (j / 12) (by simpa using hjd) (j % 12) (Nat.mod_lt _ (by decide))
        rw [show j / 12 * 12 + j % 12 = j by omega] at h5
        have h6 := (Go.Sort.HoldsK.cell hH' (i := j / 12) (c := j % 12) hjd (Nat.mod_lt _ (by decide))).1
        rw [show 0 + j / 12 * 12 + j % 12 = j by omega] at h6
        rw [Nat.zero_add, h6]
        rw [h5] at hj
        rw [getElem!_pos D' _ hjd]
        have h7 : (D'.toList.map (·.1))[j / 12]'(by simpa using hjd) = D'[j / 12].1 := by simp
        rw [h7] at hj
        rw [show encC D'[j / 12] = calC D'[j / 12].1 from rfl, getElem!_pos (calC D'[j / 12].1) _ (by rw [calC_len]; exact Nat.mod_lt _ (by decide))]
        rw [List.getElem?_eq_getElem] at hj
        exact hj
      · intro x hx
        have : x ∈ L := by rw [← hDL]; exact (hpl.map (·.1)).mem_iff.1 hx
        exact (hi x this).kept hgw
end Go.Proofs.Ythbfjpaimnhpgab
