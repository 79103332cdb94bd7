/- reads: part, Ready. -/
import Derived.Test.YthfdoliojbhcjaaBkH
namespace Go.Proofs.Ythfdoliojbhcjaa
open Go.RowKit Go.Maps
set_option linter.unusedVariables false
set_option linter.unusedSimpArgs false
set_option maxRecDepth 100000

theorem owns_kept2 {W W' : World} {B : Nat} {e : TypeId} {size : Nat} {v : Value} {n : Nat} {xs : List Value} {row : Option Nat} (h : W.ownsRow B e size v n xs) (hg : W.grownBy W' row) (hr : ∀ g, v.ownBlock = some g → some g ≠ row) : W'.ownsRow B e size v n xs := by
  refine ⟨h.1, ?_⟩
  rcases h.2 with hn | ⟨g, cap, cur, hv, hb, hh, rest⟩
  · exact .inl hn
  · exact .inr ⟨g, cap, cur, hv, hb, (hg.block g (Array.getElem?_eq_some_iff.1 hh).1 (hr g (by rw [hv]; rfl))).trans hh, rest⟩
theorem owns_low {W : World} {B B' : Nat} {e : TypeId} {size : Nat} {v : Value} {n : Nat} {xs : List Value} (h : W.ownsRow B' e size v n xs) (hB : B ≤ B') : W.ownsRow B e size v n xs := by
  refine ⟨h.1, ?_⟩
  rcases h.2 with hn | ⟨g, cap, cur, hv, hb, rest⟩
  · exact .inl hn
  · exact .inr ⟨g, cap, cur, hv, Nat.le_trans hB hb, rest⟩
theorem owns_lt {W : World} {B : Nat} {e : TypeId} {size : Nat} {v : Value} {n : Nat} {xs : List Value} (h : W.ownsRow B e size v n xs) {k : Nat} (hk : v.ownBlock = some k) : B ≤ k ∧ k < W.heap.size := by
  obtain ⟨h1, c, hc⟩ := own_low h k hk
  exact ⟨h1, (Array.getElem?_eq_some_iff.1 hc).1⟩
theorem wp_appG2 {w W : World} {v : Value} {n : Nat} {xs : List Value} {t st : TypeId} {sz by' : Nat} {z : Value} (N : Nat) (hN : W.heap.size = N) (hu : Try.prog.underlying st = some (.slice t)) (hi : (Try.prog.info? t).map (fun i => (i.zero, i.size, i.bytes)) = some (some z, sz, by')) (hz : z.cells.size = sz) (h0 : 0 < sz) (hby : by' ≤ 24)
    (hgr : w.grownBy W none) (h : W.ownsRow w.heap.size t sz v n xs) (news : List Value) (hln : news.length = sz) (hone : ∀ u ∈ news, u.oneCell' = true) (hl : n ≤ 1000000) {ops : Array Oper} {rest : List Oper} {o : Oper} {a : Act} {Q : Exit → Act → World → Prop} (hgd : o.guard = none) (s y : Operand)
    (ho : o.op = .call { callee := .builtin .append, args := #[s, y], argTypes := #[st, st] }) (hs : a.eval s = v) (hy : a.eval y = .slice (some ⟨N, 0, none⟩) 1 1)
    (hc : ∀ a' c' W', Hid (W'.ownsRow w.heap.size t sz (.slice a' (n + 1) c') (n + 1) (xs ++ news) ∧ w.grownBy W' none ∧ W.grownBy W' v.ownBlock ∧ ((Value.slice a' (n + 1) c').ownBlock = v.ownBlock ∨ (Value.slice a' (n + 1) c').ownBlock = some (W.heap.size + 1))) → wpList Try.prog ops Q rest (a.put o.dst (.slice a' (n + 1) c')) W') :
    wpList Try.prog ops Q (o :: rest) a (W.alloc (.cells news.toArray t)) := by
  subst hN
  exact wp_appG hu hi hz h0 hby hgr h news hln hone hl hgd s y ho hs hy hc
theorem filt_yes {l : List Rd} {p : Rd → Bool} {k : Nat} (hk : k < l.length) (hp : p l[k] = true) : (l.take (k + 1)).filter p = (l.take k).filter p ++ [l[k]] := by
  rw [take_one l k hk, List.filter_append]; simp [hp]
theorem filt_no {l : List Rd} {p : Rd → Bool} {k : Nat} (hk : k < l.length) (hp : p l[k] = false) : (l.take (k + 1)).filter p = (l.take k).filter p := by
  rw [take_one l k hk, List.filter_append]; simp [hp]
theorem one_rdC (x y z : Int) : ∀ u ∈ [Value.int .i64 x, .int .i64 y, .int .i64 z], u.oneCell' = true := by simp [Value.oneCell']
theorem one_ryC (x y : Int) : ∀ u ∈ [Value.int .i64 x, .int .i64 y], u.oneCell' = true := by simp [Value.oneCell']
/-- Two rows that are being made, apart. -/
def Two (w W : World) (u1 u2 : Value) (n1 n2 : Nat) (l1 l2 : List Rd) : Prop := W.ownsRow w.heap.size 66 3 u1 n1 (rds l1) ∧ n1 = l1.length ∧ W.ownsRow w.heap.size 66 3 u2 n2 (rds l2) ∧ n2 = l2.length ∧ (∀ k, u1.ownBlock = some k → u2.ownBlock ≠ some k) ∧ w.grownBy W none
theorem Two.kept {w W W' : World} {u1 u2 : Value} {n1 n2 : Nat} {l1 l2 : List Rd} (h : Two w W u1 u2 n1 n2 l1 l2) (hg : W.grownBy W' none) : Two w W' u1 u2 n1 n2 l1 l2 :=
  ⟨owns_kept h.1 hg (fun _ _ _ => by simp), h.2.1, owns_kept h.2.2.1 hg (fun _ _ _ => by simp), h.2.2.2.1, h.2.2.2.2.1, grown_trans h.2.2.2.2.2 hg⟩
theorem Two.yes {w W W' : World} {u1 u2 u1' : Value} {n1 n2 : Nat} {l1 l2 : List Rd} {r : Rd} (h : Two w W u1 u2 n1 n2 l1 l2) (ho : W'.ownsRow w.heap.size 66 3 u1' (n1 + 1) (rds l1 ++ rdC r)) (hw : w.grownBy W' none) (hg : W.grownBy W' u1.ownBlock) (hb : u1'.ownBlock = u1.ownBlock ∨ u1'.ownBlock = some (W.heap.size + 1)) : Two w W' u1' u2 (n1 + 1) n2 (l1 ++ [r]) l2 := by
  refine ⟨by rw [rds_snoc]; exact ho, by rw [h.2.1, List.length_append]; rfl, owns_kept2 h.2.2.1 hg (fun g e1 e2 => h.2.2.2.2.1 g e2.symm e1), h.2.2.2.1, fun k e1 e2 => ?_, hw⟩
  rcases hb with hb | hb
  · exact h.2.2.2.2.1 k (hb ▸ e1) e2
  · rw [hb] at e1
    injection e1 with e1
    have := (owns_lt h.2.2.1 e2).2
    omega
theorem Two.no {w W W' : World} {u1 u2 u2' : Value} {n1 n2 : Nat} {l1 l2 : List Rd} {r : Rd} (h : Two w W u1 u2 n1 n2 l1 l2) (ho : W'.ownsRow w.heap.size 66 3 u2' (n2 + 1) (rds l2 ++ rdC r)) (hw : w.grownBy W' none) (hg : W.grownBy W' u2.ownBlock) (hb : u2'.ownBlock = u2.ownBlock ∨ u2'.ownBlock = some (W.heap.size + 1)) : Two w W' u1 u2' n1 (n2 + 1) l1 (l2 ++ [r]) := by
  refine ⟨owns_kept2 h.1 hg (fun g e1 e2 => h.2.2.2.2.1 g e1 e2.symm), h.2.1, by rw [rds_snoc]; exact ho, by rw [h.2.2.2.1, List.length_append]; rfl, fun k e1 e2 => ?_, hw⟩
  rcases hb with hb | hb
  · exact h.2.2.2.2.1 k e1 (hb ▸ e2)
  · rw [hb] at e2
    injection e2 with e2
    have := (owns_lt h.1 e1).2
    omega
set_option maxHeartbeats 2000000 in
theorem part_any (fn : Nat) (cb : Array Value) (eg : ∀ args w, (callFunc fn args).run Try.prog w = .ok (.enter fn args) w) (p : Rd → Bool) (a : Option Addr) (c B : Nat) (l : List Rd) (w : World) (h : OwnR 66 w B (.slice a l.length c) l) (hl : l.length ≤ 100)
    (hf : ∀ W, w.grownBy W none → ∀ r, Calls Try.prog fn (#[rdV r] ++ cb) W fun e w' => e = .returned (.bool (p r)) ∧ W.grownBy w' none) :
    Calls Try.prog 32 #[.slice a l.length c, .func (.func fn) #[] cb] w fun e w' => ∃ a1 n1 c1 a2 n2 c2, e = .returned (.tuple #[.slice a1 n1 c1, .slice a2 n2 c2]) ∧ Two w w' (.slice a1 n1 c1) (.slice a2 n2 c2) n1 n2 (l.filter p) (l.filter (fun r => !p r)) := by
  have HF := hid_mk hf
  have HR := hid_mk h
  clear hf h
  go_enter Try.func32, Try.ntmps32
  go_wp2
  go_loopg [4, 5, 10] l.length (fun gg v1 v2 iv W => ∃ (k n1 n2 : Nat) (a1 a2 : Option Addr) (c1 c2 : Nat), k ≤ l.length ∧ n1 ≤ k ∧ n2 ≤ k ∧ gg = l.length - k ∧ iv = .int .i64 k ∧ v1 = .slice a1 n1 c1 ∧ v2 = .slice a2 n2 c2 ∧ Hid (Two w W (.slice a1 n1 c1) (.slice a2 n2 c2) n1 n2 ((l.take k).filter p) ((l.take k).filter (fun r => !p r))))
  case atStart => exact ⟨0, 0, 0, none, none, 0, 0, Nat.zero_le _, Nat.le_refl _, Nat.le_refl _, rfl, rfl, rfl, rfl, hid_mk ⟨World.ownsRow_nil _ _ _ _, rfl, World.ownsRow_nil _ _ _ _, rfl, (fun k e => by cases e), grown_refl _ _⟩⟩
  case round =>
    obtain ⟨k, n1, n2, a1, a2, c1, c2, hk, hn1, hn2, hgk, rfl, rfl, rfl, HI⟩ := hrel
    rename World => W
    by_cases hlt : k < l.length
    · have hlt' : (k : Int) < l.length := by omega
      obtain ⟨gb, cap, e, d0, d1, d2⟩ := OwnR.get (show OwnR 66 W B (.slice a l.length c) l from owns_kept HR.out HI.out.2.2.2.2.2 (fun _ _ _ => by simp)) k hlt
      injection e with e1 e2 e3
      subst e1
      clear e2 e3
      have hgA := World.grownBy_alloc W (.cells #[.int .i64 l[k].id, .int .i64 l[k].ix, .int .i64 l[k].rd] 66) none
      have HA := hid_mk (show Blk (W.alloc (.cells #[.int .i64 l[k].id, .int .i64 l[k].ix, .int .i64 l[k].rd] 66)) W.heap.size #[.int .i64 l[k].id, .int .i64 l[k].ix, .int .i64 l[k].rd] 66 ∧ Two w (W.alloc (.cells #[.int .i64 l[k].id, .int .i64 l[k].ix, .int .i64 l[k].rd] 66)) (.slice a1 n1 c1) (.slice a2 n2 c2) n1 n2 ((l.take k).filter p) ((l.take k).filter (fun r => !p r)) from ⟨heap_alloc_new _ _, HI.out.kept hgA⟩)
      have hc := HF.out _ HA.out.2.2.2.2.2.2 l[k]
      clear hgA
      unfold rdV at hc
      cases hp : p l[k] <;> rw [hp] at hc
      · have HT := hid_mk (show (l.take (k + 1)).filter p = (l.take k).filter p ∧ (l.take (k + 1)).filter (fun r => !p r) = (l.take k).filter (fun r => !p r) ++ [⟨l[k].id, l[k].ix, l[k].rd⟩] from ⟨filt_no hlt hp, filt_yes hlt (by simp [hp])⟩)
        clear hp
        generalize l[k].id = x at *
        generalize l[k].ix = y at *
        generalize l[k].rd = z at *
        go_wp2_with (first
          | (go_at_fn fn; refine hc.mono ?_; rintro e w2 ⟨rfl, hgw⟩; have H2 := hid_mk (And.intro (HA.out.1.kept hgw (by simp)) (HA.out.2.kept hgw)); have f0 : w2.cell? ⟨W.heap.size, 0, none⟩ = some (.int .i64 x) := (by rw [H2.out.1.cell]; rfl); have f1 : w2.cell? ⟨W.heap.size, 1, none⟩ = some (.int .i64 y) := (by rw [H2.out.1.cell]; rfl); have f2 : w2.cell? ⟨W.heap.size, 2, none⟩ = some (.int .i64 z) := (by rw [H2.out.1.cell]; rfl); clear hgw)
          | (at_builtin; refine wp_appG2 _ rfl Try.underlying43 info66 rfl (by decide) (by decide) H2.out.2.2.2.2.2.2 H2.out.2.2.2.1 [.int .i64 x, .int .i64 y, .int .i64 z] rfl (one_rdC x y z) (by omega) rfl _ _ rfl rfl rfl ?_; intro a' c' W' HB))
        go_roundg (l.length - (k + 1))
        case measure => omega
        case rel => exact ⟨k + 1, n1, n2 + 1, a1, a', c1, c', by omega, by omega, by omega, rfl, by go_num, rfl, rfl, hid_mk (by rw [HT.out.1, HT.out.2]; exact H2.out.2.no HB.out.1 HB.out.2.1 HB.out.2.2.1 HB.out.2.2.2)⟩
      · have HT := hid_mk (show (l.take (k + 1)).filter p = (l.take k).filter p ++ [⟨l[k].id, l[k].ix, l[k].rd⟩] ∧ (l.take (k + 1)).filter (fun r => !p r) = (l.take k).filter (fun r => !p r) from ⟨filt_yes hlt hp, filt_no hlt (by simp [hp])⟩)
        clear hp
        generalize l[k].id = x at *
        generalize l[k].ix = y at *
        generalize l[k].rd = z at *
        go_wp2_with (first
          | (go_at_fn fn; refine hc.mono ?_; rintro e w2 ⟨rfl, hgw⟩; have H2 := hid_mk (And.intro (HA.out.1.kept hgw (by simp)) (HA.out.2.kept hgw)); have f0 : w2.cell? ⟨W.heap.size, 0, none⟩ = some (.int .i64 x) := (by rw [H2.out.1.cell]; rfl); have f1 : w2.cell? ⟨W.heap.size, 1, none⟩ = some (.int .i64 y) := (by rw [H2.out.1.cell]; rfl); have f2 : w2.cell? ⟨W.heap.size, 2, none⟩ = some (.int .i64 z) := (by rw [H2.out.1.cell]; rfl); clear hgw)
          | (at_builtin; refine wp_appG2 _ rfl Try.underlying43 info66 rfl (by decide) (by decide) H2.out.2.2.2.2.2.2 H2.out.2.1 [.int .i64 x, .int .i64 y, .int .i64 z] rfl (one_rdC x y z) (by omega) rfl _ _ rfl rfl rfl ?_; intro a' c' W' HB))
        go_roundg (l.length - (k + 1))
        case measure => omega
        case rel => exact ⟨k + 1, n1 + 1, n2, a', a2, c', c2, by omega, by omega, by omega, rfl, by go_num, rfl, rfl, hid_mk (by rw [HT.out.1, HT.out.2]; exact H2.out.2.yes HB.out.1 HB.out.2.1 HB.out.2.2.1 HB.out.2.2.2)⟩
    · have hlt' : ¬ (k : Int) < l.length := by omega
      go_wp2
      go_ret2
      refine ⟨_, _, _, _, _, _, rfl, ?_⟩
      have := HI.out
      rwa [List.take_of_length_le (by omega)] at this
end Go.Proofs.Ythfdoliojbhcjaa
