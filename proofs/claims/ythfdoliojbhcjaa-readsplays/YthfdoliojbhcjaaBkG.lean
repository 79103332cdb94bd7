/- reads: Waiting, Ask. -/
import Derived.Test.YthfdoliojbhcjaaBkF
namespace Go.Proofs.Ythfdoliojbhcjaa
open Go.RowKit Go.Maps
set_option linter.unusedVariables false
set_option linter.unusedSimpArgs false
set_option maxRecDepth 100000

def ids (l : List Rd) : List Int := l.map Rd.id
theorem ids_take (l : List Rd) (k : Nat) (hk : k < l.length) : ids (l.take (k + 1)) = ids (l.take k) ++ [l[k].id] := by
  unfold ids
  rw [show l.take (k + 1) = l.take k ++ [l[k]] by rw [List.take_add_one, List.getElem?_eq_getElem hk]; rfl, List.map_append]
  rfl
theorem take_one (l : List Rd) (k : Nat) (hk : k < l.length) : l.take (k + 1) = l.take k ++ [l[k]] := by
  rw [List.take_add_one, List.getElem?_eq_getElem hk]
  rfl
/-- append(l, x), behind other blocks. -/
theorem wp_appi2 {w W : World} {v : Value} {l : List Int} (N : Nat) (hN : W.heap.size = N) (hgr : w.grownBy W none) (h : OwnI W w.heap.size v l) (z : Int) (k : Nat) (hk : k = l.length) (hl : k < 17592186044416) {ops : Array Oper} {rest : List Oper} {o : Oper} {a : Act} {Q : Exit → Act → World → Prop} (hgd : o.guard = none) (s y : Operand)
    (ho : o.op = .call { callee := .builtin .append, args := #[s, y], argTypes := #[32, 32] }) (hs : a.eval s = v) (hy : a.eval y = .slice (some ⟨N, 0, none⟩) 1 1)
    (hc : ∀ a' c' W', Hid (OwnI W' w.heap.size (.slice a' (k + 1) c') (l ++ [z]) ∧ w.grownBy W' none) → wpList Try.prog ops Q rest (a.put o.dst (.slice a' (k + 1) c')) W') :
    wpList Try.prog ops Q (o :: rest) a (W.alloc (.cells #[.int .i64 z] 3)) := by
  subst hN
  exact wp_appi hgr h z k hk hl hgd s y ho hs hy hc
set_option maxHeartbeats 1000000 in
theorem waiting_any {w : World} {B b : Nat} {v : Value} {g : Bk} (h : IsB w B b v g) : Calls Try.prog 16 #[.pointer (some ⟨b, 0, none⟩)] w fun e w' => ∃ u, e = .returned u ∧ OwnI w' w.heap.size u (ids g.L) ∧ w.grownBy w' none := by
  have HD := hid_mk (made_any h)
  obtain ⟨va, vc, hv⟩ := h.len
  have hl := h.ok.few
  have HR := hid_mk h.row
  have c17 := fun nq => (h.drew nq).c17
  rw [hv] at HR c17
  clear h hv
  generalize g.L = l at *
  go_enter Try.func16, Try.ntmps16
  go_wp2_with (go_at_call 28; refine HD.out.mono ?_; rintro e w' ⟨rfl, nq, hw⟩; rw [hw]; clear hw)
  clear c17
  have H0 := hid_mk (grown_drewN w nq none)
  generalize w.drewN nq = w1 at *
  go_loopg [3, 14] l.length (fun gg ov iv W => ∃ (k n : Nat) (a : Option Addr) (c : Nat), k ≤ l.length ∧ gg = l.length - k ∧ iv = .int .i64 k ∧ ov = .slice a n c ∧ Hid (OwnI W w.heap.size (.slice a n c) (ids (l.take k)) ∧ w.grownBy W none))
  case atStart => exact ⟨0, 0, none, 0, Nat.zero_le _, rfl, rfl, rfl, hid_mk ⟨OwnI.nil _ _, H0.out⟩⟩
  case round =>
    obtain ⟨k, n, a, c, hk, hgk, rfl, rfl, HI⟩ := hrel
    rename World => W
    by_cases hlt : k < l.length
    · have hlt' : (k : Int) < l.length := by omega
      obtain ⟨gb, cap, e, c0, c1, c2⟩ := OwnR.get (show OwnR 66 W B (.slice va l.length vc) l from owns_kept HR.out HI.out.2 (fun _ _ _ => by simp)) k hlt
      injection e with e1 e2 e3
      subst e1
      clear e2 e3
      have HT := hid_mk (ids_take l k hlt)
      have HN : Hid (n = (ids (l.take k)).length ∧ n < 17592186044416) := hid_mk (by
        obtain ⟨a', c', e⟩ := HI.out.1.len
        injection e with _ e _
        refine ⟨e, ?_⟩
        rw [e, ids, List.length_map, List.length_take]
        omega)
      generalize l[k].id = x at *
      generalize l[k].ix = y at *
      generalize l[k].rd = z at *
      go_wp2_with (at_builtin; refine wp_appi2 _ (World.size_alloc _ _) (ga HI.out.2 _) (HI.out.1.kept (World.grownBy_alloc _ _ none)) x n HN.out.1 HN.out.2 rfl _ _ rfl rfl rfl ?_; intro a' c' W' HA)
      go_roundg (l.length - (k + 1))
      case measure => omega
      case rel => exact ⟨k + 1, n + 1, a', c', by omega, rfl, by go_num, rfl, hid_mk ⟨by rw [HT.out]; exact HA.out.1, HA.out.2⟩⟩
    · have hlt' : ¬ (k : Int) < l.length := by omega
      go_wp2
      go_ret
      exact ⟨_, rfl, by have := HI.out.1; rwa [List.take_of_length_le (by omega)] at this, HI.out.2⟩
/-! ### slices.IndexFunc, ContainsFunc -/
def rdV (r : Rd) : Value := .agg #[.int .i64 r.id, .int .i64 r.ix, .int .i64 r.rd]
theorem any_take (l : List Rd) (p : Rd → Bool) (k : Nat) (hk : k < l.length) : (l.take (k + 1)).any p = ((l.take k).any p || p l[k]) := by
  rw [take_one l k hk, List.any_append]
  simp
set_option maxHeartbeats 1000000 in
theorem indexF_any (fn : Nat) (cb : Array Value) (eg : ∀ args w, (callFunc fn args).run Try.prog w = .ok (.enter fn args) w) (p : Rd → Bool) (a : Option Addr) (c B : Nat) (l : List Rd) (w : World) (h : OwnR 66 w B (.slice a l.length c) l) (hl : l.length ≤ 100)
    (hf : ∀ W, w.grownBy W none → ∀ r, Calls Try.prog fn (#[rdV r] ++ cb) W fun e w' => e = .returned (.bool (p r)) ∧ W.grownBy w' none) :
    Calls Try.prog 35 #[.slice a l.length c, .func (.func fn) #[] cb] w fun e w' => ∃ z : Int, e = .returned (.int .i64 z) ∧ decide (0 ≤ z) = l.any p ∧ w.grownBy w' none := by
  have HF := hid_mk hf
  have HR := hid_mk h
  clear hf h
  go_enter Try.func35, Try.ntmps35
  go_wp2
  go_loopg [8] l.length (fun gg iv W => ∃ k : Nat, k ≤ l.length ∧ gg = l.length - k ∧ iv = .int .i64 k ∧ Hid ((l.take k).any p = false ∧ w.grownBy W none))
  case atStart => exact ⟨0, Nat.zero_le _, rfl, rfl, hid_mk ⟨by simp, grown_refl _ _⟩⟩
  case round =>
    obtain ⟨k, hk, hgk, rfl, HI⟩ := hrel
    rename World => W
    by_cases hlt : k < l.length
    · have hlt' : (k : Int) < l.length := by omega
      obtain ⟨gb, cap, e, c0, c1, c2⟩ := OwnR.get (show OwnR 66 W B (.slice a l.length c) l from owns_kept HR.out HI.out.2 (fun _ _ _ => by simp)) k hlt
      injection e with e1 e2 e3
      subst e1
      clear e2 e3
      have hc := HF.out W HI.out.2 l[k]
      have HT := hid_mk (any_take l p k hlt)
      have HM := hid_mk (fun (hp : p l[k] = true) => show l.any p = true from List.any_eq_true.2 ⟨_, List.getElem_mem hlt, hp⟩)
      unfold rdV at hc
      cases hp : p l[k] <;> rw [hp] at hc HT HM
      · clear hp HM
        generalize l[k].id = x at *
        generalize l[k].ix = y at *
        generalize l[k].rd = z at *
        go_wp2_with (go_at_fn fn; refine hc.mono ?_; rintro e w' ⟨rfl, hgw⟩)
        go_roundg (l.length - (k + 1))
        case measure => omega
        case rel => exact ⟨k + 1, by omega, rfl, by go_num, hid_mk ⟨by rw [HT.out, HI.out.1]; rfl, grown_trans HI.out.2 hgw⟩⟩
      · clear hp HT
        generalize l[k].id = x at *
        generalize l[k].ix = y at *
        generalize l[k].rd = z at *
        go_wp2_with (go_at_fn fn; refine hc.mono ?_; rintro e w' ⟨rfl, hgw⟩)
        go_ret
        exact ⟨_, rfl, by rw [HM.out (by trivial)]; simp, grown_trans HI.out.2 hgw⟩
    · have hlt' : ¬ (k : Int) < l.length := by omega
      go_wp2
      go_ret
      exact ⟨_, rfl, by have := HI.out.1; rw [List.take_of_length_le (by omega)] at this; rw [this]; rfl, HI.out.2⟩
theorem containsF_any (fn : Nat) (cb : Array Value) (eg : ∀ args w, (callFunc fn args).run Try.prog w = .ok (.enter fn args) w) (p : Rd → Bool) (a : Option Addr) (c B : Nat) (l : List Rd) (w : World) (h : OwnR 66 w B (.slice a l.length c) l) (hl : l.length ≤ 100)
    (hf : ∀ W, w.grownBy W none → ∀ r, Calls Try.prog fn (#[rdV r] ++ cb) W fun e w' => e = .returned (.bool (p r)) ∧ W.grownBy w' none) :
    Calls Try.prog 29 #[.slice a l.length c, .func (.func fn) #[] cb] w fun e w' => e = .returned (.bool (l.any p)) ∧ w.grownBy w' none := by
  have HC := hid_mk (indexF_any fn cb eg p a c B l w h hl hf)
  clear h hf
  go_enter Try.func29, Try.ntmps29
  go_wp2_with fail
  refine HC.out.mono ?_
  rintro e w1 ⟨z, rfl, hz, hg⟩
  have HZ := hid_mk (And.intro hz hg)
  clear hz hg
  go_wp2
  go_ret
  exact ⟨ret_bool HZ.out.1, HZ.out.2⟩
theorem ask1_any (r : Rd) (q : Nat) (id : Int) (w : World) (h : w.cell? ⟨q, 0, none⟩ = some (.int .i64 id)) : Calls Try.prog 30 #[rdV r, .pointer (some ⟨q, 0, none⟩)] w fun e w' => e = .returned (.bool (r.id == id)) ∧ w.grownBy w' none := by
  unfold rdV
  obtain ⟨x, y, z⟩ := r
  have hq := World.block_lt_of_cell? w _ h
  have c1 : (w.alloc (.cells #[.int .i64 x, .int .i64 y, .int .i64 z] 66)).cell? ⟨q, 0, none⟩ = some (.int .i64 id) := (World.grownBy_alloc w _ none).cell h (by simp)
  clear h
  go_enter Try.func30, Try.ntmps30
  go_wp2
  go_ret
  exact ⟨rfl, World.grownBy_alloc _ _ none⟩
theorem ent30 : ∀ args w, (callFunc 30 args).run Try.prog w = .ok (.enter 30 args) w := fun args w => by go_simp
end Go.Proofs.Ythfdoliojbhcjaa
