/- client: knows. -/
import Derived.Test.YtgebhomiehadmaaCcS
namespace Go.Proofs.Ytgebhomiehadmaa
open Go.RowKit Go.Maps
set_option linter.unusedVariables false
set_option linter.unusedSimpArgs false
set_option maxRecDepth 100000

/-- A row of one call: where it lies. -/
theorem OwnK.one {t : TypeId} {w : World} {B : Nat} {v : Value} {L : List KV} {x : Cal} (h : OwnK t w B v L) (hx : L.map (·.1) = [x]) : ∃ gb cap, v = .slice (some ⟨gb, 0, none⟩) 1 cap ∧ B ≤ gb ∧ (∀ w', OwnK t w' B v L → w'.cell? ⟨gb, 0, none⟩ = some (.int .i64 x.to) ∧ w'.cell? ⟨gb, 1, none⟩ = some (.int .i64 x.id)) := by
  obtain ⟨u, rfl⟩ : ∃ u, L = [(x, u)] := by
    match L, hx with
    | [(c, u)], hx => simp at hx; subst hx; exact ⟨u, rfl⟩
  obtain ⟨gb, cap, e, hc⟩ := h.get 0 (by simp)
  have hB := (owns_lt h (show v.ownBlock = some gb by rw [e]; rfl)).1
  refine ⟨gb, cap, e, hB, fun w' h' => ?_⟩
  obtain ⟨gb', cap', e', hc'⟩ := h'.get 0 (by simp)
  rw [e] at e'
  injection e' with e1 _ _
  injection e1 with e1
  injection e1 with e1 _ _
  subst e1
  exact ⟨by simpa using hc' 0 _ rfl, by simpa using hc' 1 _ rfl⟩
/-- A client of one's own. -/
def Mine (w W : World) (b : Nat) (V : CV) (g : Cli) : Prop := IsC W w.heap.size b V g ∧ w.grownBy W none
theorem Mine.kept {w W W' : World} {b : Nat} {V : CV} {g : Cli} (h : Mine w W b V g) (hg : W.grownBy W' none) : Mine w W' b V g := ⟨h.1.kept hg, grown_trans h.2 hg⟩
theorem Mine.mut {w W : World} {b : Nat} {V : CV} {g : Cli} (h : Mine w W b V g) {k : Nat} (hk : MutC b V k) : w.heap.size ≤ k := (h.1.ft (.inl hk)).1
theorem Mine.cpv {w W W' : World} {b : Nat} {V V' : CV} {g g' : Cli} (h : Mine w W b V g) (hp : CPv W W' w.heap.size b V V' g g') : Mine w W' b V' g' :=
  ⟨hp.cli, Keeps.grown h.2 hp.keeps (fun k e => h.mut e)⟩
theorem m_new {w W : World} (hg : w.grownBy W none) (id pa : Int) (v : Value) (l : List Int) (h : IntsR W v l) (hl : l.length ≤ 17592186044416) : Calls Try.prog 9 #[.int .i64 id, v, .int .i64 pa] W fun e W' => (newB id pa l = false ∧ e = .returned (.tuple #[.pointer none, .int .i64 1]) ∧ w.grownBy W' none) ∨
    (newB id pa l = true ∧ ∃ b vs, e = .returned (.tuple #[.pointer (some ⟨b, 0, none⟩), .int .i64 0]) ∧ Mine w W' b (newV vs) (newC id pa l)) := by
  refine (new_any id pa v l W h hl).mono ?_
  rintro e W' (⟨h1, h2, h3⟩ | ⟨h1, b, vs, h2, h3, h4⟩)
  · exact .inl ⟨h1, h2, grown_trans hg h3⟩
  · exact .inr ⟨h1, b, vs, h2, h3.lower hg.size, grown_trans hg h4⟩
theorem OwnK.call {t : TypeId} {w w' : World} {B B' b : Nat} {v : Value} {L : List KV} {V V' : CV} {g g' : Cli} (h : OwnK t w B v L) (ht : t ≠ 58) (hI : IsC w B' b V g) (hvc : V.vc = .slice none 0 0) (hp : CPv w w' B' b V V' g g') : OwnK t w' B v L :=
  owns_keeps h hp.keeps (fun k e hm => by
    rcases hm with rfl | hm
    · exact own_ne h hI.blk ht.symm e.symm
    · rw [hvc] at hm; cases hm)
theorem one_of {L : List KV} {x : Cal} (h : L.map (·.1) = [x]) : ∃ v, L = [(x, v)] := by
  match L, h with
  | [(c, v)], h => simp at h; subst h; exact ⟨v, rfl⟩
theorem ansIn_nil (w : World) (id e se nu le : Int) : AnsIn w (.slice none 0 0) [] ⟨id, e, se, nu, le, []⟩ := ⟨OwnRec.nil _ _, rfl, by simp, fun p hp => by cases hp⟩
set_option maxHeartbeats 4000000 in
theorem knows_any (w : World) : Calls Try.prog 12 #[] w fun e w' => e = .returned (.bool true) ∧ w.grownBy w' none := by
  have HI := hid_mk (ints_new w [0, 1] 3 _ rfl)
  go_enter Try.func12, Try.ntmps12
  go_wp2_with fail
  refine (m_new (World.grownBy_alloc w _ none) 3 5 _ [0, 1] HI.out (by simp)).mono ?_
  rintro e w1 hw1
  obtain ⟨b, vs, rfl, h1⟩ : ∃ b vs, e = .returned (.tuple #[.pointer (some ⟨b, 0, none⟩), .int .i64 0]) ∧ Mine w w1 b (newV vs) (newC 3 5 [0, 1]) := by
    rcases hw1 with ⟨h, _⟩ | ⟨_, h⟩
    · exact absurd h (by decide)
    · exact h
  have H1 := hid_mk h1
  clear hw1 h1 HI
  go_wp2_with fail
  refine (do_any (o := ⟨1, 0, 0, []⟩) (v := .slice none 0 0) H1.out.1 ((fit_new 3 5 [0, 1]).le (by omega)) (Byt.nil _) (by simp)).mono ?_
  rintro e w2 ⟨rfl, V2, h2⟩
  rw [show doE (newC 3 5 [0, 1]) ⟨1, 0, 0, []⟩ = 0 from rfl]
  have H2 := hid_mk (H1.out.cpv h2)
  clear h2 H1
  go_wp2_with fail
  refine (calls_any H2.out.1).mono ?_
  rintro e w3 ⟨rfl, h3, hk, hb, _⟩
  have hmap : V2.L.map (·.1) = [⟨0, 3000001, 1, 0, 0, 0, 0, []⟩] := H2.out.1.outs
  obtain ⟨ga1, ca1, hv1, _, hcell1⟩ := hk.one hmap
  have HK1 := hid_mk (And.intro hk hcell1)
  have HV1 := hid_mk hv1
  obtain ⟨c2, hc2⟩ : ∃ c2, c2 = callsG (doG (newC 3 5 [0, 1]) ⟨1, 0, 0, []⟩) := ⟨_, rfl⟩
  obtain ⟨V3, hV3⟩ : ∃ V3, V3 = { V2 with vc := .slice none 0 0, L := [] } := ⟨_, rfl⟩
  have H3 := hid_mk (show Mine w w3 b V3 c2 ∧ V3.vc = .slice none 0 0 ∧ c2 = callsG (doG (newC 3 5 [0, 1]) ⟨1, 0, 0, []⟩) from ⟨by rw [hV3, hc2]; exact H2.out.cpv h3, by rw [hV3], hc2⟩)
  clear hk hb hcell1 h3 hc2 hV3 H2
  rw [hv1]
  clear hv1
  go_wp2_with fail
  have hfit : Fit c2 1001 := by rw [H3.out.2.2]; exact fit_calls (fit_do (fit_new 3 5 [0, 1]) _)
  refine (heard_any (a := ⟨3000001, 30, 0, 0, 1, []⟩) H3.out.1.1 (hfit.le (by omega)) (.slice none 0 0) [] (ansIn_nil _ _ _ _ _ _)).mono ?_
  rintro e w4 ⟨rfl, V4, h4⟩
  rw [show heardE c2 ⟨3000001, 30, 0, 0, 1, []⟩ = 0 from by rw [H3.out.2.2]; rfl]
  have H4 := hid_mk (show Mine w w4 b V4 (heardG c2 ⟨3000001, 30, 0, 0, 1, []⟩) ∧ OwnK 64 w4 w.heap.size V2.vc V2.L from ⟨H3.out.1.cpv h4, HK1.out.1.call (by decide) H3.out.1.1 H3.out.2.1 h4⟩)
  clear h4 hfit
  go_wp2_with fail
  refine (calls_any H4.out.1.1).mono ?_
  rintro e w5 ⟨rfl, h5, hk, hb, hg5⟩
  have hmap2 : V4.L.map (·.1) = [⟨1, 3000002, 1, 0, 0, 0, 0, []⟩] := by rw [H4.out.1.1.outs, H3.out.2.2]; rfl
  obtain ⟨ga2, ca2, hv2, _, hcell2⟩ := hk.one hmap2
  have hk1 : OwnK 64 w5 w.heap.size V2.vc V2.L := owns_kept H4.out.2 hg5 (fun q cur hq e => by
    injection e with e
    subst e
    have h9 := H4.out.1.1.blk
    unfold Blk at h9
    rw [h9] at hq
    simp at hq)
  obtain ⟨d0, d1⟩ := HK1.out.2 w5 hk1
  obtain ⟨f0, f1⟩ := hcell2 w5 hk
  obtain ⟨c5, hc5⟩ : ∃ c5, c5 = callsG (heardG c2 ⟨3000001, 30, 0, 0, 1, []⟩) := ⟨_, rfl⟩
  have H5 := hid_mk (And.intro (H4.out.1.cpv h5) hc5)
  have HB := hid_mk (show Calls Try.prog 15 #[.pointer (some ⟨b, 0, none⟩)] w5 fun e w' => e = .returned (.bool true) ∧ w' = w5 from by
    have h8 := busy_any H5.out.1.1
    rwa [show decide ((callsG (heardG c2 ⟨3000001, 30, 0, 0, 1, []⟩)).st ≠ 0) = true from by rw [H3.out.2.2]; rfl] at h8)
  rw [hv2]
  clear hv2 hk1 hk hb hcell2 hmap hmap2 hg5 h5 hc5
  go_wp2_with (first | (go_at_call 11; refine (num_any _ _).mono ?_; rintro e w' ⟨rfl, hw⟩; rw [hw]; clear hw) | (go_at_call 15; refine HB.out.mono ?_; rintro e w' ⟨rfl, hw⟩; rw [hw]; clear hw))
  go_ret
  exact ⟨rfl, H5.out.1.2⟩
end Go.Proofs.Ytgebhomiehadmaa
