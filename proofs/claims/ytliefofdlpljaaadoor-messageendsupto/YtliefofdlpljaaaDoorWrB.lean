/- written. -/
import Derived.Test.YtliefofdlpljaaaDoorWr
namespace Go.Proofs.YtliefofdlpljaaaDoor
open Go.RowKit Go.Maps
set_option linter.unusedVariables false
set_option linter.unusedSimpArgs false

def WrPost (m : Msg) (w : World) (e : Ending) (w' : World) : Prop := ((wrOk m = true ∧ ∃ v, e = .returned v ∧ Own w' w.heap.size v (msgB m)) ∨ (wrOk m = false ∧ e = .panicked upChain)) ∧ w.grownBy w' none
def numsP (m : Msg) : List (List UInt8) := (nums m).map (fun x => numB x.toNat)
theorem numsP_len (m : Msg) : (numsP m).length = 8 := rfl
theorem take_snoc {α : Type} (l : List α) (k : Nat) (x : α) (h : l[k]? = some x) : l.take (k + 1) = l.take k ++ [x] := by
  rw [List.take_add_one, h]; rfl

theorem putN_ok (x : Nat) (hx : x < 281474976710656) (w : World) : Calls Tryd.prog 46 #[.int .i64 x] w fun e w' => ∃ a n c, e = .returned (.tuple #[.slice a n c, .int .i64 0]) ∧ Own w' w.heap.size (.slice a n c) (numB x) ∧ w.grownBy w' none := by
  have hok := numL_ok (n := (x : Int)) (by omega)
  have H := putNumber_any x w
  rw [hok.1, hok.2] at H
  exact H.mono fun e w' ⟨a, c, he, ho, hg⟩ => ⟨a, _, c, he, ho, hg⟩
theorem putB_ok (v : Value) (d : List UInt8) (w : World) (h : Byt w v d) (hd : d.length ≤ 1048576) : Calls Tryd.prog 48 #[v] w fun e w' => ∃ a n c, e = .returned (.tuple #[.slice a n c, .int .i64 0]) ∧ Own w' w.heap.size (.slice a n c) (txtB d) ∧ w.grownBy w' none := by
  have hok := txtL_ok (d := d) (by omega)
  have H := putBytes_any v d w h
  rw [hok.1, hok.2] at H
  exact H.mono fun e w' ⟨a, c, he, ho, hg⟩ => ⟨a, _, c, he, ho, hg⟩
theorem putE_ok (x : Ent) (dv : Value) (w : World) (h : Byt w dv x.data) (hl : x.data.length ≤ 140737488355328) (hr : rightE x = true) : Calls Tryd.prog 49 #[entV x dv] w fun e w' => ∃ a n c, e = .returned (.tuple #[.slice a n c, .int .i64 0]) ∧ Own w' w.heap.size (.slice a n c) (entB x) ∧ w.grownBy w' none := by
  have hok := entL_ok hr
  have H := putEntry_any x dv w h hl
  rw [hok.1, hok.2] at H
  exact H.mono fun e w' ⟨a, c, he, ho, hg⟩ => ⟨a, _, c, he, ho, hg⟩
theorem putE_no (x : Ent) (dv : Value) (w : World) (h : Byt w dv x.data) (hl : x.data.length ≤ 140737488355328) (hr : rightE x = false) : Calls Tryd.prog 49 #[entV x dv] w fun e w' => ∃ a n c, e = .returned (.tuple #[.slice a n c, .int .i64 1]) ∧ w.grownBy w' none := by
  have hok := entL_bad hr
  have H := putEntry_any x dv w h hl
  rw [hok.1, hok.2] at H
  exact H.mono fun e w' ⟨a, c, he, ho, hg⟩ => ⟨a, _, c, he, hg⟩
theorem putS_ok (v : Value) (l : List Int) (w : World) (h : IntsR w v l) (hr : rightS l = true) : Calls Tryd.prog 50 #[v] w fun e w' => ∃ a n c, e = .returned (.tuple #[.slice a n c, .int .i64 0]) ∧ Own w' w.heap.size (.slice a n c) (srvB l) ∧ w.grownBy w' none := by
  have hok := srvL_ok hr
  have H := putServers_any v l w h
  rw [hok.1, hok.2] at H
  exact H.mono fun e w' ⟨a, c, he, ho, hg⟩ => ⟨a, _, c, he, ho, hg⟩
theorem putS_no (v : Value) (l : List Int) (w : World) (h : IntsR w v l) (hr : rightS l = false) : Calls Tryd.prog 50 #[v] w fun e w' => ∃ a n c, e = .returned (.tuple #[.slice a n c, .int .i64 1]) ∧ w.grownBy w' none := by
  have hok := srvL_bad hr
  have H := putServers_any v l w h
  rw [hok.1, hok.2] at H
  exact H.mono fun e w' ⟨a, c, he, ho, hg⟩ => ⟨a, _, c, he, hg⟩
theorem flat_bound (L : List (List UInt8)) (n : Nat) (h : ∀ p ∈ L, p.length ≤ n) : L.flatten.length ≤ L.length * n := by
  induction L with
  | nil => simp
  | cons p L ih =>
    have h1 := h p (by simp)
    have h2 := ih (fun q hq => h q (by simp [hq]))
    rw [List.flatten_cons, List.length_append, List.length_cons, Nat.add_mul]
    omega
theorem txtB_le (d : List UInt8) (h : d.length ≤ 65536) : (txtB d).length ≤ 70000 := by
  have := numB_le (n := d.length) (by omega)
  unfold txtB
  rw [List.length_append]
  omega
theorem msgB_len {m : Msg} (hc : chk m = true) (hw : wrOk m = true) : (msgB m).length ≤ 10000000 := by
  have hl := chk_lens hc
  have hn := nums_in hc
  unfold wrOk at hw
  simp only [Bool.and_eq_true, Bool.or_eq_true, List.all_eq_true, decide_eq_true_eq] at hw
  have h1 : ∀ p ∈ partsM m, p.length ≤ 70000 := by
    intro p hp
    unfold partsM at hp
    simp only [List.mem_append] at hp
    rcases hp with ((hp | hp) | hp) | hp
    · obtain ⟨x, hx, rfl⟩ := List.mem_map.1 hp
      obtain ⟨k, hk⟩ := List.getElem?_of_mem hx
      have := hn k x hk
      have := numB_le (n := x.toNat) (by omega)
      omega
    · obtain rfl : p = numB (yesN m.yes) := by simpa using hp
      have := numB_le (n := yesN m.yes) (by unfold yesN; split <;> omega)
      omega
    · split at hp
      · rcases List.mem_cons.1 hp with rfl | hp
        · have := numB_le (n := m.ents.length) (by omega)
          omega
        · obtain ⟨x, hx, rfl⟩ := List.mem_map.1 hp
          have := entB_len (hw.1 x hx)
          exact txtB_le _ (by omega)
      · cases hp
    · split at hp
      · rename_i h5
        simp at hp
        rcases hp with rfl | rfl
        · have := srvB_len (hw.2.resolve_left (fun h => h h5))
          exact txtB_le _ (by omega)
        · exact txtB_le _ (by omega)
      · cases hp
  have h2 : (partsM m).length ≤ 100 := by
    unfold partsM
    simp only [List.length_append, List.length_map, List.length_cons, List.length_nil]
    have : (nums m).length = 8 := rfl
    split <;> split <;> simp <;> omega
  have := flat_bound (partsM m) 70000 h1
  unfold msgB
  have : (partsM m).length * 70000 ≤ 100 * 70000 := Nat.mul_le_mul_right _ h2
  omega
def headP (m : Msg) : List (List UInt8) := numsP m ++ [numB (yesN m.yes)] ++ [numB m.ents.length]
def entP (x : Ent) : List UInt8 := txtB (entB x)
/-- The entries that are written so far. -/
def EP (m : Msg) (w W : World) (pv : Value) (k : Nat) : Prop := ∃ qs, PO w W pv qs ∧ qs.map (·.2) = headP m ++ (m.ents.take k).map entP ∧ ∀ x ∈ m.ents.take k, rightE x = true
theorem headP_len (m : Msg) : (headP m).length = 10 := by simp [headP, numsP_len]
theorem PO.next {w W W' : World} {v sv : Value} {ps : List (Value × List UInt8)} {l : List UInt8} (h : PO w W v ps) (ho : Own W' W.heap.size sv l) (hg : W.grownBy W' none) : PO w W' v ps ∧ Own W' w.heap.size sv l := ⟨h.kept hg, ho.base h.gr.size⟩

set_option maxRecDepth 100000 in
set_option maxHeartbeats 4000000 in
theorem written_any (b : Nat) (m : Msg) (ev sv dv : Value) (w : World) (h : MB w 27 b m ev sv dv) (hc : chk m = true) (he : EntsR w ev m.ents) (hs : IntsR w sv m.srv) (hd : Byt w dv m.data) :
    Calls Tryd.prog 23 #[.pointer (some ⟨b, 0, none⟩)] w (WrPost m w) := by
  obtain ⟨ae, ce, rfl⟩ := he.len
  obtain ⟨asv, cs, rfl⟩ := hs.len
  obtain ⟨ad, cd, rfl⟩ := hd.len
  have HM := hid_mk h
  have HE := hid_mk he
  have HS := hid_mk hs
  have HD := hid_mk hd
  have HN := hid_mk (nums_in hc)
  have HL := hid_mk (chk_lens hc)
  have HB := hid_mk (fun hw => msgB_len (m := m) hc hw)
  clear h he hs hd hc
  go_enter Tryd.func23, Tryd.ntmps23
  go_wp2_with fail
  refine (fields_any b w).mono ?_
  rintro e w1 ⟨rfl, hg1⟩
  have G1 := hid_mk hg1
  clear hg1
  go_wp2_with fail
  go_loopw [3, 10] (fun pv iv W => ∃ (k : Nat) (a : Option Addr) (c : Nat), k ≤ 8 ∧ iv = .int .i64 k ∧ pv = .slice a k c ∧ Hid (∃ ps, PO w W pv ps ∧ ps.map (·.2) = (numsP m).take k)) (fun _ iv _ => 8 - (intOf iv).toNat)
  case atStart => exact ⟨0, none, 0, Nat.zero_le _, rfl, rfl, hid_mk ⟨[], PO.nil _ _ G1.out, rfl⟩⟩
  case round =>
    obtain ⟨k, a, c, hk, rfl, rfl, H⟩ := hrel
    rename World => w2
    by_cases hlt : k < 8
    · have hix := idx_fld b k hlt
      obtain ⟨x, hx⟩ : ∃ x, (nums m)[k]? = some x := ⟨(nums m)[k]'(by simpa [nums] using hlt), by simp⟩
      have hn := HN.out k x hx
      have HX := hid_mk hx
      have hcell : w2.cell? ⟨b, k, none⟩ = some (.int .i64 x) := by
        obtain ⟨ps, hp, _⟩ := H.out
        exact (HM.out.kept hp.gr).num k x hx
      have hok := numL_ok (n := x) (by omega)
      have HP := hid_mk (putNumber_any x w2)
      rw [hok.1, hok.2] at HP
      clear hok hn hx
      go_wp2_with fail
      refine HP.out.mono ?_
      rintro e w3 ⟨a3, c3, rfl, ho3, hg3⟩
      have H3 := hid_mk (And.intro ho3 hg3)
      clear ho3 hg3 HP hcell
      have HQ : Hid (∃ ps, PO w w3 (.slice a k c) ps ∧ ps.map (·.2) = (numsP m).take k) := by
        obtain ⟨ps, hp, hq⟩ := H.out
        exact hid_mk ⟨ps, hp.kept H3.out.2, hq⟩
      have HO : Hid (Own w3 w.heap.size (.slice a3 (numB x.toNat).length c3) (numB x.toNat)) := by
        obtain ⟨ps, hp, hq⟩ := H.out
        exact hid_mk (H3.out.1.base hp.gr.size)
      generalize (numB x.toNat).length = n3 at *
      clear H H3
      go_wp2_with fail
      refine (sureB_ok _ w3).mono ?_
      rintro e wx ⟨rfl, hwx⟩
      subst wx
      obtain ⟨ps, HQ1⟩ : ∃ ps, Hid (PO w w3 (.slice a k c) ps ∧ ps.map (·.2) = (numsP m).take k) := by
        obtain ⟨ps, hp⟩ := HQ.out
        exact ⟨ps, hid_mk hp⟩
      have hkp : k = ps.length := by
        have := congrArg List.length HQ1.out.2
        rw [List.length_map, List.length_take, numsP_len] at this
        omega
      have HKP := hid_mk hkp
      clear hkp HQ
      go_wp2_with (at_builtin; refine wp_part HQ1.out.1 _ _ HO.out k HKP.out (by omega) rfl (.tmp 13) (.tmp 21) rfl rfl rfl ?_; intro a4 c4 w4 P4)
      go_roundw
      case rel =>
        refine ⟨k + 1, a4, c4, by omega, by go_num, rfl, hid_mk ⟨_, P4.out, ?_⟩⟩
        rw [List.map_append, HQ1.out.2, take_snoc _ k (numB x.toNat) (by simp [numsP, HX.out])]
        rfl
      case measure => simp [intOf]; omega
    · have hk8 : k = 8 := by omega
      subst hk8
      clear hk hlt
      obtain ⟨ps, HQ1⟩ : ∃ ps, Hid (PO w w2 (.slice a 8 c) ps ∧ ps.map (·.2) = numsP m) := by
        obtain ⟨ps, hp, hq⟩ := H.out
        exact ⟨ps, hid_mk ⟨hp, by rw [hq]; rfl⟩⟩
      clear H
      have HKP := hid_mk (show 8 = ps.length by
        have := congrArg List.length HQ1.out.2
        rw [List.length_map, numsP_len] at this
        omega)
      by_cases hk3 : m.kind = 3
      · have HW0 := hid_mk (show wrOk m = m.ents.all rightE by simp [wrOk, hk3])
        have h8 : m.ents.length ≤ 8 := HL.out.2.1
        have r8 := (HM.out.kept HQ1.out.1.gr).rest.1
        go_wp2_with fail
        refine (asNumber_any m.yes w2).mono ?_
        rintro e wx ⟨rfl, hwx⟩
        subst wx
        go_wp2_with fail
        refine (putN_ok (yesN m.yes) (by unfold yesN; split <;> omega) w2).mono ?_
        rintro e w3 ⟨a3, n3, c3, rfl, ho3, hg3⟩
        have H3 := hid_mk (HQ1.out.1.next ho3 hg3)
        clear ho3 hg3 r8
        go_wp2_with fail
        refine (sureB_ok _ w3).mono ?_
        rintro e wx ⟨rfl, hwx⟩
        subst wx
        go_wp2_with (at_builtin; refine wp_part H3.out.1 _ _ H3.out.2 8 HKP.out (by omega) rfl (.tmp 24) (.tmp 34) rfl rfl rfl ?_; intro a4 c4 w4 P4; have r0 := (HM.out.kept P4.out.gr).num 0 m.kind rfl; obtain ⟨_, r9, _, _, _⟩ := (HM.out.kept P4.out.gr).rest)
        clear r0 r9
        refine (putN_ok m.ents.length (by omega) w4).mono ?_
        rintro e w5 ⟨a5, n5, c5, rfl, ho5, hg5⟩
        have H5 := hid_mk (P4.out.next ho5 hg5)
        clear ho5 hg5
        go_wp2_with fail
        refine (sureB_ok _ w5).mono ?_
        rintro e wx ⟨rfl, hwx⟩
        subst wx
        go_wp2_with (at_builtin; refine wp_part H5.out.1 _ _ H5.out.2 9 (by rw [List.length_append, ← HKP.out]; rfl) (by omega) rfl (.tmp 42) (.tmp 52) rfl rfl rfl ?_; intro a6 c6 w6 P6; obtain ⟨_, r9, _, _, _⟩ := (HM.out.kept P6.out.gr).rest)
        clear r9
        have HP6 := hid_mk (show EP m w w6 (.slice a6 10 c6) 0 from ⟨_, P6.out, by rw [List.map_append, List.map_append, HQ1.out.2]; simp [headP], by simp⟩)
        clear P6 H5 P4 H3
        go_loopw [3, 59] (fun pv iv W => ∃ (k : Nat) (a : Option Addr) (c : Nat), k ≤ m.ents.length ∧ iv = .int .i64 k ∧ pv = .slice a (10 + k) c ∧ Hid (EP m w W pv k)) (fun _ iv _ => m.ents.length - (intOf iv).toNat)
        case atStart => exact ⟨0, a6, c6, Nat.zero_le _, rfl, rfl, HP6⟩
        case round =>
          obtain ⟨k, a7, c7, hk, rfl, rfl, H⟩ := hrel
          rename World => w7
          obtain ⟨qs, HQ⟩ : ∃ qs, Hid (PO w w7 (.slice a7 (10 + k) c7) qs ∧ qs.map (·.2) = headP m ++ (m.ents.take k).map entP ∧ ∀ x ∈ m.ents.take k, rightE x = true) := by
            obtain ⟨qs, hq⟩ := H.out
            exact ⟨qs, hid_mk hq⟩
          clear H
          have HKQ := hid_mk (show 10 + k = qs.length by
            have := congrArg List.length HQ.out.2.1
            rw [List.length_map, List.length_append, headP_len, List.length_map, List.length_take] at this
            omega)
          by_cases hlt : k < m.ents.length
          · obtain ⟨x, hx⟩ : ∃ x, m.ents[k]? = some x := ⟨m.ents[k], by simp⟩
            obtain ⟨eb, off, hae, hcap, hcs⟩ := (HE.out.kept HQ.out.1.gr).at (by omega)
            obtain ⟨xv, q0, q1, q2, q3, hxb, hxl⟩ := hcs k x hx
            have HX := hid_mk (And.intro hx hxb)
            obtain ⟨xa, xn, xc, hxv⟩ : ∃ xa xn xc, xv = .slice xa xn xc := by
              obtain ⟨xa, xc, e⟩ := hxb.len
              exact ⟨xa, _, xc, e⟩
            clear hx hxb hcs
            subst hae
            subst hxv
            go_wp2_with fail
            have HA := hid_mk (World.grownBy_alloc w7 (.cells #[.int .i64 x.term, .int .i64 x.index,   .int .i64 x.kind, .slice xa xn xc] 47) none)
            cases hr : rightE x with
            | false =>
              have HW := hid_mk (show wrOk m = false by rw [HW0.out, List.all_eq_false]; exact ⟨x, List.mem_of_getElem? HX.out.1, by simp [hr]⟩)
              refine (putE_no x (.slice xa xn xc) _ (HX.out.2.kept HA.out) hxl hr).mono ?_
              rintro e w8 ⟨a8, n8, c8, rfl, hg8⟩
              have G8 := hid_mk (grown_trans HQ.out.1.gr (grown_trans HA.out hg8))
              clear hg8 hr q0 q1 q2 q3
              go_wp2_with fail
              refine (sureB_no _ 1 w8 (by omega)).mono ?_
              rintro e wx ⟨rfl, hwx⟩
              subst wx
              go_wp2_with fail
              exact ⟨rfl, .inr ⟨HW.out, rfl⟩, G8.out⟩
            | true =>
              refine (putE_ok x (.slice xa xn xc) _ (HX.out.2.kept HA.out) hxl hr).mono ?_
              rintro e w8 ⟨a8, n8, c8, rfl, ho8, hg8⟩
              have H8 := hid_mk ((HQ.out.1.kept HA.out).next ho8 hg8)
              have HR := hid_mk hr
              have HEL := hid_mk (entB_len hr)
              clear ho8 hg8 hr q0 q1 q2 q3 HA
              go_wp2_with fail
              refine (sureB_ok _ w8).mono ?_
              rintro e wx ⟨rfl, hwx⟩
              subst wx
              go_wp2_with fail
              refine (putB_ok _ _ w8 H8.out.2.byt (by have := HEL.out; omega)).mono ?_
              rintro e w9 ⟨a9, n9, c9, rfl, ho9, hg9⟩
              have H9 := hid_mk (H8.out.1.next ho9 hg9)
              clear ho9 hg9
              go_wp2_with fail
              refine (sureB_ok _ w9).mono ?_
              rintro e wx ⟨rfl, hwx⟩
              subst wx
              go_wp2_with (at_builtin; refine wp_part H9.out.1 _ _ H9.out.2 (10 + k) HKQ.out (by omega) rfl (.tmp 63) (.tmp 73) rfl rfl rfl ?_; intro a10 c10 w10 P10)
              go_roundw
              case rel =>
                refine ⟨k + 1, a10, c10, by omega, by go_num, rfl, hid_mk ⟨_, P10.out, ?_, ?_⟩⟩
                · rw [List.map_append, HQ.out.2.1, take_snoc _ k x HX.out.1, List.map_append]
                  simp [entP]
                · rw [take_snoc _ k x HX.out.1]
                  intro y hy
                  rcases List.mem_append.1 hy with hy | hy
                  · exact HQ.out.2.2 y hy
                  · obtain rfl : y = x := by simpa using hy
                    exact HR.out
              case measure => simp [intOf]; omega
          · have hkn : k = m.ents.length := by omega
            subst hkn
            have HW := hid_mk (show wrOk m = true by
              rw [HW0.out, List.all_eq_true]
              have := HQ.out.2.2
              rwa [List.take_length] at this)
            have HF := hid_mk (show flat qs = msgB m by
              unfold flat msgB partsM
              rw [HQ.out.2.1, List.take_length]
              have : ¬ (3 : Int) = 5 := by omega
              simp [hk3, headP, numsP]
              rfl)
            go_wp2_with fail
            refine (join_any _ _ w7 HQ.out.1.parts (by rw [← HKQ.out]; omega) (by rw [HF.out]; have := HB.out HW.out; omega)).mono ?_
            rintro e w8 ⟨v8, rfl, ho8, hg8⟩
            rw [HF.out] at ho8
            obtain ⟨a8, c8, rfl⟩ := ho8.len
            have H8 := hid_mk (And.intro (ho8.base HQ.out.1.gr.size) (grown_trans HQ.out.1.gr hg8))
            clear ho8 hg8
            go_wp2_with fail
            go_ret
            exact ⟨.inl ⟨HW.out, _, rfl, H8.out.1⟩, H8.out.2⟩
      · by_cases hk5 : m.kind = 5
        · have HEN : m.ents = [] := List.length_eq_zero_iff.1 (by have := HL.out; omega)
          have HW0 := hid_mk (show wrOk m = rightS m.srv by simp [wrOk, HEN, hk5])
          clear HEN
          have r8 := (HM.out.kept HQ1.out.1.gr).rest.1
          go_wp2_with fail
          refine (asNumber_any m.yes w2).mono ?_
          rintro e wx ⟨rfl, hwx⟩
          subst wx
          go_wp2_with fail
          refine (putN_ok (yesN m.yes) (by unfold yesN; split <;> omega) w2).mono ?_
          rintro e w3 ⟨a3, n3, c3, rfl, ho3, hg3⟩
          have H3 := hid_mk (HQ1.out.1.next ho3 hg3)
          clear ho3 hg3 r8
          go_wp2_with fail
          refine (sureB_ok _ w3).mono ?_
          rintro e wx ⟨rfl, hwx⟩
          subst wx
          go_wp2_with (at_builtin; refine wp_part H3.out.1 _ _ H3.out.2 8 HKP.out (by omega) rfl (.tmp 24) (.tmp 34) rfl rfl rfl ?_; intro a4 c4 w4 P4; have r0 := (HM.out.kept P4.out.gr).num 0 m.kind rfl; obtain ⟨_, _, r10, _, _⟩ := (HM.out.kept P4.out.gr).rest)
          clear r0 r10
          cases hr : rightS m.srv with
          | false =>
            refine (putS_no _ m.srv w4 (HS.out.kept P4.out.gr) hr).mono ?_
            rintro e w5 ⟨a5, n5, c5, rfl, hg5⟩
            have G5 := hid_mk (grown_trans P4.out.gr hg5)
            have HW := hid_mk (HW0.out.trans hr)
            clear hg5 hr
            go_wp2_with fail
            refine (sureB_no _ 1 w5 (by omega)).mono ?_
            rintro e wx ⟨rfl, hwx⟩
            subst wx
            go_wp2_with fail
            exact ⟨rfl, .inr ⟨HW.out, rfl⟩, G5.out⟩
          | true =>
            refine (putS_ok _ m.srv w4 (HS.out.kept P4.out.gr) hr).mono ?_
            rintro e w5 ⟨a5, n5, c5, rfl, ho5, hg5⟩
            have H5 := hid_mk (P4.out.next ho5 hg5)
            have HW := hid_mk (HW0.out.trans hr)
            have HSL := hid_mk (srvB_len hr)
            clear ho5 hg5 hr
            go_wp2_with fail
            refine (sureB_ok _ w5).mono ?_
            rintro e wx ⟨rfl, hwx⟩
            subst wx
            go_wp2_with fail
            refine (putB_ok _ _ w5 H5.out.2.byt (by have := HSL.out; omega)).mono ?_
            rintro e w6 ⟨a6, n6, c6, rfl, ho6, hg6⟩
            have H6 := hid_mk (H5.out.1.next ho6 hg6)
            clear ho6 hg6
            go_wp2_with fail
            refine (sureB_ok _ w6).mono ?_
            rintro e wx ⟨rfl, hwx⟩
            subst wx
            go_wp2_with (at_builtin; refine wp_part H6.out.1 _ _ H6.out.2 9 (by rw [List.length_append, ← HKP.out]; rfl) (by omega) rfl (.tmp 78) (.tmp 91) rfl rfl rfl ?_; intro a7 c7 w7 P7; obtain ⟨_, _, _, r11, _⟩ := (HM.out.kept P7.out.gr).rest)
            clear r11
            refine (putB_ok _ m.data w7 (HD.out.kept P7.out.gr) (by have := HL.out; omega)).mono ?_
            rintro e w8 ⟨a8, n8, c8, rfl, ho8, hg8⟩
            have H8 := hid_mk (P7.out.next ho8 hg8)
            clear ho8 hg8
            go_wp2_with fail
            refine (sureB_ok _ w8).mono ?_
            rintro e wx ⟨rfl, hwx⟩
            subst wx
            go_wp2_with (at_builtin; refine wp_part H8.out.1 _ _ H8.out.2 10 (by rw [List.length_append, List.length_append, ← HKP.out]; rfl) (by omega) rfl (.tmp 93) (.tmp 102) rfl rfl rfl ?_; intro a9 c9 w9 P9)
            have HF := hid_mk (show flat (((ps ++ [(Value.slice a3 n3 c3, numB (yesN m.yes))]) ++ [(Value.slice a6 n6 c6, txtB (srvB m.srv))]) ++ [(Value.slice a8 n8 c8, txtB m.data)]) = msgB m by
              unfold flat msgB partsM
              rw [List.map_append, List.map_append, List.map_append, HQ1.out.2]
              simp [hk3, hk5, numsP])
            refine (join_any _ _ w9 P9.out.parts (by rw [List.length_append, List.length_append, List.length_append, ← HKP.out]; simp) (by rw [HF.out]; have := HB.out HW.out; omega)).mono ?_
            rintro e w10 ⟨v10, rfl, ho10, hg10⟩
            rw [HF.out] at ho10
            obtain ⟨a10, c10, rfl⟩ := ho10.len
            have H10 := hid_mk (And.intro (ho10.base P9.out.gr.size) (grown_trans P9.out.gr hg10))
            clear ho10 hg10
            go_wp2_with fail
            go_ret
            exact ⟨.inl ⟨HW.out, _, rfl, H10.out.1⟩, H10.out.2⟩
        · have r8 := (HM.out.kept HQ1.out.1.gr).rest.1
          go_wp2_with fail
          refine (asNumber_any m.yes w2).mono ?_
          rintro e wx ⟨rfl, hwx⟩
          subst wx
          go_wp2_with fail
          refine (putN_ok (yesN m.yes) (by unfold yesN; split <;> omega) w2).mono ?_
          rintro e w3 ⟨a3, n3, c3, rfl, ho3, hg3⟩
          have H3 := hid_mk (HQ1.out.1.next ho3 hg3)
          clear ho3 hg3 r8
          go_wp2_with fail
          refine (sureB_ok _ w3).mono ?_
          rintro e wx ⟨rfl, hwx⟩
          subst wx
          go_wp2_with (at_builtin; refine wp_part H3.out.1 _ _ H3.out.2 8 HKP.out (by omega) rfl (.tmp 24) (.tmp 34) rfl rfl rfl ?_; intro a4 c4 w4 P4; have r0 := (HM.out.kept P4.out.gr).num 0 m.kind rfl)
          have HW := hid_mk (show wrOk m = true by
            have : m.ents = [] := List.length_eq_zero_iff.1 (by have := HL.out; omega)
            simp [wrOk, this, hk5])
          have HF := hid_mk (show flat (ps ++ [(Value.slice a3 n3 c3, numB (yesN m.yes))]) = msgB m by
            unfold flat msgB partsM
            rw [List.map_append, HQ1.out.2]
            simp [hk3, hk5, numsP])
          refine (join_any _ _ w4 P4.out.parts (by rw [List.length_append, ← HKP.out]; simp) (by rw [HF.out]; have := HB.out HW.out; omega)).mono ?_
          rintro e w5 ⟨v5, rfl, ho5, hg5⟩
          rw [HF.out] at ho5
          obtain ⟨a5, c5, rfl⟩ := ho5.len
          have H5 := hid_mk (And.intro (ho5.base P4.out.gr.size) (grown_trans P4.out.gr hg5))
          clear ho5 hg5
          go_wp2_with fail
          go_ret
          exact ⟨.inl ⟨HW.out, _, rfl, H5.out.1⟩, H5.out.2⟩

end Go.Proofs.YtliefofdlpljaaaDoor
