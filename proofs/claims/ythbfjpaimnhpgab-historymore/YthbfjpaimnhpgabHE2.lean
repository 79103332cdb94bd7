/- history: someOf, inOrder. -/
import Derived.Test.YthbfjpaimnhpgabHE
import Derived.Test.YthbfjpaimnhpgabHP
namespace Go.Proofs.Ythbfjpaimnhpgab
open Go.RowKit Go.Maps
set_option linter.unusedVariables false
set_option linter.unusedSimpArgs false
set_option maxRecDepth 100000

/-- A row of marks: who was met. -/
structure Met (W : World) (q n : Nat) (M : List Int) : Prop where
  blk : ∃ A : Array Value, Blk W q A 4 ∧ A.size = n ∧ ∀ i, i < n → A[i]? = some (.bool (M.contains (i : Int)))
theorem Met.new (w : World) (n : Nat) : Met (w.alloc (.cells (Array.replicate n (.bool false)) 4)) w.heap.size n [] :=
  ⟨_, blk_alloc _ _ _, by simp, fun i hi => by rw [Array.getElem?_replicate, if_pos hi]; rfl⟩
theorem Met.cell {W : World} {q n : Nat} {M : List Int} (h : Met W q n M) {i : Nat} (hi : i < n) : W.cell? ⟨q, i, none⟩ = some (.bool (M.contains (i : Int))) ∧ W.frozen? ⟨q, i, none⟩ = false := by
  obtain ⟨A, hb, hs, hA⟩ := h.blk
  exact ⟨(hb.cell i).trans (hA i hi), hb.frozen i⟩
theorem Met.set {W : World} {q n : Nat} {M : List Int} (h : Met W q n M) {i : Nat} (hi : i < n) : Met (W.setCell ⟨q, i, none⟩ (.bool true)) q n ((i : Int) :: M) := by
  obtain ⟨A, hb, hs, hA⟩ := h.blk
  refine ⟨_, hb.set i _, by simpa using hs, fun j hj => ?_⟩
  rw [Array.getElem?_setIfInBounds]
  split
  · rename_i e
    subst e
    rw [if_pos (by omega)]; simp
  · rename_i e
    rw [hA j hj]
    have : ((j : Int) == (i : Int)) = false := by simp; omega
    simp only [List.contains_cons, this, Bool.false_or]
theorem Met.kept {W W' : World} {q n : Nat} {M : List Int} (h : Met W q n M) {row : Option Nat} (hg : W.grownBy W' row) (hr : some q ≠ row) : Met W' q n M := by
  obtain ⟨A, hb, hs, hA⟩ := h.blk
  exact ⟨A, hb.kept hg hr, hs, hA⟩
theorem info4 : (Try.prog.info? 4).map (fun i => (i.zero, i.size, i.bytes)) = some (some (.bool false), 1, 1) := by kernel_rfl
theorem made_bools (n : Nat) (w : World) (hn : n ≤ 2000) : (Instr.makeSlice 44 (.int .i64 n) (.int .i64 n)).run Try.prog w = .ok (.slice (some ⟨w.heap.size, 0, none⟩) n n) (w.alloc (.cells (Array.replicate n (.bool false)) 4)) := by
  obtain ⟨i, hi, hz, hsize, hby⟩ := info_parts info4
  have := run_make (P := Try.prog) w 44 4 i (.bool false) Try.underlying44 hi hz .i64 .i64 n n (by omega) (by omega) (by rw [hby]; omega) (by omega)
  rw [this]
  congr 3
  · congr 1
    apply Array.ext'
    rw [hsize, show (Value.bool false).cells = #[Value.bool false] from rfl, toList_madeCells_one]
    simp
set_option maxHeartbeats 4000000 in
theorem someOf_any {w : World} {v : Value} {o : List Int} (h : IntsR w v o) (ho : o.length ≤ 17592186044416) (n : Nat) (hn : n ≤ 2000) : Calls Try.prog 10 #[v, .int .i64 n] w fun e w' => e = .returned (.bool (someG n o [])) ∧ w.grownBy w' none := by
  obtain ⟨va, vc, hv⟩ := h.len
  have HL := hid_mk h
  have HV := hid_mk hv
  rw [hv]
  clear h hv
  have M0 := Met.new w n
  have g0 := World.grownBy_alloc w (.cells (Array.replicate n (.bool false)) 4) none
  have H0 := hid_mk (And.intro g0 M0)
  have hmk := made_bools n w hn
  clear g0 M0
  go_enter Try.func10, Try.ntmps10
  go_wp2_with fail
  clear hmk
  generalize hw1 : w.alloc (.cells (Array.replicate n (.bool false)) 4) = w1 at *
  obtain ⟨q, hq⟩ : ∃ q, q = w.heap.size := ⟨_, rfl⟩
  rw [← hq] at H0 ⊢
  clear hw1
  have HQ := hid_mk hq
  clear hq
  go_loopg [12] o.length (fun gg iv W => ∃ (k : Nat) (M : List Int), k ≤ o.length ∧ gg = o.length - k ∧ iv = .int .i64 k ∧ Hid (w.grownBy W none ∧ Met W q n M ∧ someG n o [] = someG n (o.drop k) M))
  case atStart => exact ⟨0, [], Nat.zero_le _, rfl, rfl, hid_mk ⟨H0.out.1, H0.out.2, by simp⟩⟩
  case round =>
    clear H0
    obtain ⟨k, M, hk, hgk, rfl, H⟩ := hrel
    rename World => W
    by_cases hlt : k < o.length
    · have hlt' : (k : Int) < o.length := by omega
      obtain ⟨bb, off, cap, e, hc⟩ := (HL.out.kept H.out.1).get k hlt
      rw [HV.out] at e
      injection e with e1 e2 e3
      subst e1
      have HD := hid_mk (show someG n o [] = (decide (0 ≤ o[k]) && decide (o[k] < n) && !M.contains o[k] && someG n (o.drop (k + 1)) (o[k] :: M)) from by
        rw [H.out.2.2, List.drop_eq_getElem_cons hlt]; rfl)
      clear e2 e3
      generalize o[k] = x at *
      by_cases hx0 : x < 0
      · have HX := hid_mk (show someG n o [] = false from by rw [HD.out]; simp; omega)
        go_wp2_with fail
        go_ret
        exact ⟨ret_bool HX.out.symm, H.out.1⟩
      · obtain ⟨m, rfl⟩ := Int.eq_ofNat_of_zero_le (Int.not_lt.1 hx0)
        by_cases hxn : (n : Int) ≤ m
        · have HX := hid_mk (show someG n o [] = false from by rw [HD.out]; simp; omega)
          go_wp2_with fail
          go_ret
          exact ⟨ret_bool HX.out.symm, H.out.1⟩
        · have hm : m < n := by omega
          obtain ⟨c1, f1⟩ := H.out.2.1.cell hm
          have hm0 : ¬ (m : Int) < 0 := by omega
          cases hmem : M.contains (m : Int)
          · rw [hmem] at c1
            have HX := hid_mk (show someG n o [] = someG n (o.drop (k + 1)) ((m : Int) :: M) from by rw [HD.out, hmem]; simp; intros; omega)
            have HM := hid_mk (And.intro (set_new H.out.1 (b := q) (by rw [HQ.out]; exact Nat.le_refl _) m (.bool true)) (H.out.2.1.set hm))
            clear hmem
            go_wp2_with fail
            go_roundg (o.length - (k + 1))
            case measure => omega
            case rel => exact ⟨k + 1, _, by omega, rfl, by go_num, hid_mk ⟨HM.out.1, HM.out.2, HX.out⟩⟩
          · rw [hmem] at c1
            have HX := hid_mk (show someG n o [] = false from by rw [HD.out, hmem]; simp)
            clear hmem
            go_wp2_with fail
            go_ret
            exact ⟨ret_bool HX.out.symm, H.out.1⟩
    · have hlt' : ¬ (k : Int) < o.length := by omega
      have HX := hid_mk (show someG n o [] = true from by rw [H.out.2.2, List.drop_eq_nil_of_le (by omega)]; rfl)
      go_wp2_with fail
      go_ret
      exact ⟨ret_bool HX.out.symm, H.out.1⟩
/-- The calls that an order names. -/
def pickC (L : List CE) (o : List Int) : List CE := o.map (fun k => L[k.toNat]!)
theorem pickC_gs {L : List CE} {o : List Int} (h : ∀ k ∈ o, 0 ≤ k ∧ k < L.length) : gs (pickC L o) = rowG (gs L) o := by
  rw [rowG_map (by simpa [gs] using h)]
  unfold gs pickC
  rw [List.map_map]
  apply List.map_congr_left
  intro k hk
  have := h k hk
  have hk' : k.toNat < L.length := by omega
  simp only [Function.comp]
  rw [getElem!_pos L _ hk', getElem!_pos (L.map (·.g)) _ (by simpa using hk')]
  simp
theorem pickC_mem {L : List CE} {o : List Int} (h : ∀ k ∈ o, 0 ≤ k ∧ k < L.length) : ∀ x ∈ pickC L o, x ∈ L := by
  intro x hx
  obtain ⟨k, hk, rfl⟩ := List.mem_map.1 hx
  have := h k hk
  have hk' : k.toNat < L.length := by omega
  rw [getElem!_pos L _ hk']
  exact List.getElem_mem hk'
set_option maxHeartbeats 4000000 in
theorem inOrder_any {w : World} {v u : Value} {L : List CE} {o : List Int} (h : CsR w v L) (hl : L.length ≤ 2000) (ho : IntsR w u o) (hol : o.length ≤ 2000) (hin : ∀ k ∈ o, 0 ≤ k ∧ k < L.length) : Calls Try.prog 11 #[v, u] w fun e w' => ∃ v', e = .returned v' ∧ OwnC w' w.heap.size v' (pickC L o) ∧ w.grownBy w' none := by
  obtain ⟨va, vc, rfl⟩ := h.len
  obtain ⟨ua, uc, rfl⟩ := ho.len
  have HL := hid_mk h
  have HO := hid_mk (And.intro ho hin)
  clear h ho hin
  go_enter Try.func11, Try.ntmps11
  go_wp2_with fail
  go_loopg [5, 10] o.length (fun gg rv iv W => ∃ (k : Nat) (ra : Option Addr) (rc : Nat), k ≤ o.length ∧ gg = o.length - k ∧ iv = .int .i64 k ∧ rv = .slice ra k rc ∧ Hid (w.grownBy W none ∧ OwnC W w.heap.size (.slice ra k rc) (pickC L (o.take k))))
  case atStart => exact ⟨0, none, 0, Nat.zero_le _, rfl, rfl, rfl, hid_mk ⟨grown_refl _ _, OwnC.nil _ _⟩⟩
  case round =>
    obtain ⟨k, ra, rc, hk, hgk, rfl, rfl, H⟩ := hrel
    rename World => W
    by_cases hlt : k < o.length
    · have hlt' : (k : Int) < o.length := by omega
      obtain ⟨bb, off, cap, e, hc⟩ := (HO.out.1.kept H.out.1).get k hlt
      injection e with e1 e2 e3
      subst e1
      clear e2 e3
      have hx := HO.out.2 _ (List.getElem_mem hlt)
      have HP := hid_mk (show pickC L (o.take (k + 1)) = pickC L (o.take k) ++ [L[o[k].toNat]!] from by
        unfold pickC; rw [List.take_add_one, List.getElem?_eq_getElem hlt, List.map_append]; rfl)
      have HLn := hid_mk (show (pickC L (o.take k)).length = k from by simp [pickC]; omega)
      generalize o[k] = x at *
      obtain ⟨m, rfl⟩ := Int.eq_ofNat_of_zero_le hx.1
      have hm : m < L.length := by omega
      have hmi : (m : Int) < L.length := by omega
      obtain ⟨lb, off2, cap2, he, hc2⟩ := HL.out.cells hm
      injection he with e1 e2 e3
      clear e2 e3 hx
      subst e1
      obtain ⟨d0, d1, d2, d3, d4, d5, d6, d7, d8, d9, d10, d11⟩ := hc2 W H.out.1
      have hsl := HL.out.sl _ (List.getElem_mem hm)
      have hlm : L[(m : Int).toNat]! = L[m] := by rw [Int.toNat_natCast, getElem!_pos L m hm]
      have HP2 := hid_mk (show pickC L (o.take (k + 1)) = pickC L (o.take k) ++ [L[m]] from by rw [HP.out, hlm])
      have HSL := hid_mk hsl
      obtain ⟨⟨xa, xn, xc, hxd⟩, ⟨ya, yn, yc, hxr⟩⟩ := hsl
      clear hc2 hlm HP
      generalize L[m] = x at *
      have gC := World.grownBy_alloc W (.cells (calC x).toArray 42) none
      have hb := blk_alloc W (calC x).toArray 42
      obtain ⟨a', c', W', hr, hown, hg⟩ := appC (H.out.2.kept gC) (ad := ⟨W.heap.size, 0, none⟩) (m := 1) (c := 1) (L := [x]) rfl (fun j u hj => by
        rw [add_at, Nat.zero_add, hb.cell]; simpa [cals] using hj) (fun z hz => by rw [List.mem_singleton.1 hz]; exact HSL.out) (by rw [HLn.out]; omega) (Nat.le_trans H.out.1.size (by simp)) 31
      rw [HLn.out] at hr hown
      rw [← HP2.out] at hown
      have hgw : w.grownBy W' none := by
        cases hv : (Value.slice ra k rc).ownBlock with
        | none => rw [hv] at hg; exact grown_trans H.out.1 (grown_trans gC hg)
        | some g => rw [hv] at hg; exact grown_new (grown_trans H.out.1 gC) hg (owns_lt H.out.2 hv).1
      have HR := hid_mk (And.intro hr (And.intro hown hgw))
      unfold calC at HR
      rw [hxd, hxr] at HR
      rw [hxd] at d10
      rw [hxr] at d11
      clear hr hown hg hgw hb gC HP2 HSL H HLn hxd hxr
      go_wp2_with (at_builtin; refine wp_run_app rfl (.tmp 14) (.tmp 19) rfl rfl rfl HR.out.1 ?_)
      go_roundg (o.length - (k + 1))
      case measure => omega
      case rel => exact ⟨k + 1, a', c', by omega, rfl, by go_num, rfl, hid_mk ⟨HR.out.2.2, HR.out.2.1⟩⟩
    · have hlt' : ¬ (k : Int) < o.length := by omega
      have ek : k = o.length := by omega
      subst ek
      have HX := hid_mk (show OwnC W w.heap.size (.slice ra o.length rc) (pickC L o) from by have := H.out.2; rwa [List.take_of_length_le (Nat.le_refl _)] at this)
      go_wp2_with fail
      go_ret
      exact ⟨_, rfl, HX.out, H.out.1⟩
end Go.Proofs.Ythbfjpaimnhpgab
