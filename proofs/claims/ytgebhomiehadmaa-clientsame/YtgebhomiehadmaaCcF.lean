/- client: ways; what is asked. -/
import Derived.Test.YtgebhomiehadmaaCcE
namespace Go.Proofs.Ytgebhomiehadmaa
open Go.RowKit Go.Maps
set_option linter.unusedVariables false
set_option linter.unusedSimpArgs false
set_option maxRecDepth 100000

theorem exec_app {ea : Operand → Value} {o : Oper} {s y : Operand} {st : TypeId} {v u v' : Value} {W W' : World} (ho : o.op = .call { callee := .builtin .append, args := #[s, y], argTypes := #[st, st] }) (hs : ea s = v) (hy : ea y = u) (hr : (Builtin.append_ #[st, st] o.type #[v, u]).run Try.prog W = .ok v' W') : (execOp ea o).run Try.prog W = .ok (.value v') W' := by
  simp [execOp, ho, resolve, invoke, builtin, hs, hy, hr, Result.andThen]
theorem mix_skip {P : Program} {ops : Array Oper} {Q : Act → Cl → Prop} {a : Act} {C : Cl} {i : Nat} {rest : List (Nat × Bool)} {o : Oper} (ho : ops[i]? = some o) (hw : Region.wanted o (yielded ops a.tmps) = true)
    (h : ∀ w, C.now w → ∃ w'', (execOp a.eval o).run P w = .ok .skip w'' ∧ Behind C (wpMix P ops Q rest) (a.put o.dst undef) w'') : wpMix P ops Q ((i, false) :: rest) a C :=
  ⟨o, ho, by
    rw [hw]
    exact fun w hC => by obtain ⟨w'', hr, hb⟩ := h w hC; rw [hr]; exact hb⟩
set_option maxHeartbeats 2000000 in
theorem next_cells {w : World} {b : Nat} {a : Option Addr} {n c k : Nat} (c2 : w.cell? ⟨b, 2, none⟩ = some (.slice a n c)) (c3 : w.cell? ⟨b, 3, none⟩ = some (.int .i64 k)) (hf : w.frozen? ⟨b, 3, none⟩ = false) (hk : k < n) (h7 : n ≤ 7) :
    Calls Try.prog 43 #[.pointer (some ⟨b, 2, none⟩)] w fun e w' => e = .returned (.tuple #[]) ∧ ∃ nq, w' = (w.drewN nq).setCell ⟨b, 3, none⟩ (.int .i64 (((k : Int) + 1) % (n : Int))) := by
  have e1 : IntKind.i64.wrap ((k : Int) + 1) = (k : Int) + 1 := wrap_in (by omega)
  have e2 : ((k : Int) + 1).tmod (n : Int) = ((k : Int) + 1) % (n : Int) := Int.tmod_eq_emod_of_nonneg (by omega)
  have h0 : ¬ n = 0 := by omega
  have HC : Hid (∀ nq, (w.drewN nq).cell? ⟨b, 2, none⟩ = some (.slice a n c) ∧ (w.drewN nq).cell? ⟨b, 3, none⟩ = some (.int .i64 k) ∧ (w.drewN nq).frozen? ⟨b, 3, none⟩ = false) := hid_mk (fun nq => ⟨c2, c3, hf⟩)
  clear c2 c3 hf
  go_enter Try.func43, Try.ntmps43
  go_wp2_with fail
  refine wp_region_mixL [(0, true), (1, true), (2, true), (3, true), (4, true), (5, true), (6, true), (7, true), (8, true), (9, true), (10, true), (11, true), (12, true), (13, true)] 14 (at0 w (fun W => ∃ nq, W = w.drewN nq)) (by kernel_rfl) (by kernel_rfl) rfl (by kernel_rfl) rfl (by kernel_rfl) (shut_at0 (fun m => ⟨m, rfl⟩)) ⟨1, rfl⟩ ?_
  repeat (refine mix_rd1 rfl rfl (fun K hK => ?_); apply Exists.intro; refine ⟨fun W hW => ?_, ?_⟩; (obtain ⟨nq, rfl⟩ := hW; obtain ⟨d2, d3, df⟩ := HC.out nq; go_simp; rfl); (go_simp; refine hK _ _ ?_; clear hK K))
  go_simp
  refine mix_nil ?_
  rintro W ⟨m, rfl⟩
  obtain ⟨d2, d3, df⟩ := HC.out m
  refine ⟨(w.drewN m).setCell ⟨b, 3, none⟩ (.int .i64 (((k : Int) + 1) % (n : Int))), by go_simp, ?_⟩
  go_wp2
  go_end0
  exact ⟨rfl, m, rfl⟩

/-! ### A client, a cell of its own turned -/
theorem IsC.over {W W' : World} {B b : Nat} {V : CV} {g : Cli} (h : IsC W B b V g) (hg : W.grownBy W' (some b)) : OwnI W' B V.vs g.sv ∧ Own W' B V.vo g.o.b ∧ OwnK 64 W' B V.vc V.L ∧ BtK W' B V.L ∧ OwnRec W' B V.vr V.R := by
  have ne : ∀ {e : TypeId} {size : Nat} {v : Value} {n : Nat} {xs : List Value}, W.ownsRow B e size v n xs → 58 ≠ e → W'.ownsRow B e size v n xs := fun {e size v n xs} hr hn => owns_kept hr hg (fun q cur hq e1 => by
    injection e1 with e1
    subst e1
    have h3 := h.blk
    unfold Blk at h3
    rw [h3] at hq
    simp at hq
    exact hn hq.2)
  exact ⟨ne h.sv (by decide), ne h.od (by decide), ne h.row (by decide), fun p hp => ne (h.bts p hp) (by decide), ne h.rcs.1 (by decide), fun p hp => ne (h.rcs.2 p hp) (by decide)⟩
theorem IsC.set {W : World} {B b : Nat} {V : CV} {g : Cli} (h : IsC W B b V g) (i : Nat) (x : Value) (g' : Cli) (hc : (cliL g V).set i x = cliL g' V) (h1 : g'.sv = g.sv) (h2 : g'.o.b = g.o.b) (h3 : g'.out = g.out) (h4 : g'.an.rs = g.an.rs) (ok : OkC g') : IsC (W.setCell ⟨b, i, none⟩ x) B b V g' := by
  obtain ⟨k1, k2, k3, k4, k5⟩ := h.over (grown_setCell W b i x)
  refine ⟨?_, by rw [h1]; exact k1, by rw [h2]; exact k2, k3, k4, k5, by rw [h3]; exact h.outs, by rw [h4]; exact h.recs, h.low, ok⟩
  have := h.blk.set i x
  rwa [List.setIfInBounds_toArray, hc] at this
theorem CPv.set {W : World} {B b : Nat} {V : CV} {g : Cli} (h : IsC W B b V g) (i : Nat) (x : Value) (g' : Cli) (hc : (cliL g V).set i x = cliL g' V) (h1 : g'.sv = g.sv) (h2 : g'.o.b = g.o.b) (h3 : g'.out = g.out) (h4 : g'.an.rs = g.an.rs) (ok : OkC g') : CPv W (W.setCell ⟨b, i, none⟩ x) B b V V g g' :=
  ⟨h.set i x g' hc h1 h2 h3 h4 ok, Keeps.one (grown_setCell W b i x) (.inl rfl), fun k e => .inl e⟩
theorem OkC.at {g : Cli} (h : OkC g) {p : Nat} (hp : p < g.sv.length) : OkC { g with pl := p } := ⟨h.id0, h.id1, h.pa0, h.pa1, h.sv0, h.sv1, hp, h.ps0, h.tr, h.sq, h.ob⟩
/-- A way to a place. -/
def Way (w : World) (B b : Nat) (V : CV) (g : Cli) (fn : Nat) (args : Array Value) (p : Nat) : Prop := Calls Try.prog fn args w fun e w' => e = .returned (.tuple #[]) ∧ CPv w w' B b V V g { g with pl := p }
theorem way_stay {w : World} {B b : Nat} {V : CV} {g : Cli} (h : IsC w B b V g) : Way w B b V g 51 #[.pointer (some ⟨b, 2, none⟩)] g.pl :=
  stay_any.mono fun e w' ⟨h1, h2⟩ => ⟨h1, by rw [h2]; exact CPv.same h (grown_refl _ _)⟩
theorem way_next {w : World} {B b : Nat} {V : CV} {g : Cli} (h : IsC w B b V g) : Way w B b V g 43 #[.pointer (some ⟨b, 2, none⟩)] (nextP g) := by
  obtain ⟨sa, sc, e⟩ := h.sv.len
  refine (next_cells (a := sa) (n := g.sv.length) (c := sc) (k := g.pl) (by rw [h.c 2 rfl, e]) (h.c 3 rfl) (h.fz 3) h.ok.pl h.ok.sv1).mono ?_
  rintro e w' ⟨h1, nq, rfl⟩
  exact ⟨h1, CPv.pre (grown_drewN w nq none) (CPv.set (h.drew nq) 3 _ _ rfl rfl rfl rfl rfl (h.ok.at (nextP_lt h.ok)))⟩
theorem box1_new (w : World) (v : Value) (t : TypeId) : (w.alloc (.cells #[v] t)).cell? ⟨w.heap.size, 0, none⟩ = some v := by
  rw [cell_of_row _ _ _ _ _ _ (heap_alloc_new w _)]
  rfl
theorem way_to {w : World} {B b : Nat} {V : CV} {g : Cli} (h : IsC w B b V g) {q1 q2 p : Nat} (c1 : w.cell? ⟨q1, 0, none⟩ = some (.int .i64 p)) (c2 : w.cell? ⟨q2, 0, none⟩ = some (.pointer (some ⟨b, 2, none⟩))) (hp : p < g.sv.length) : Way w B b V g 60 #[.pointer (some ⟨q1, 0, none⟩), .pointer (some ⟨q2, 0, none⟩)] p := by
  have hf := h.fz 3
  have c3 := h.c 3 rfl
  have HH := hid_mk h
  clear h
  unfold Way
  go_enter Try.func60, Try.ntmps60
  go_wp2
  go_end0
  exact ⟨rfl, CPv.set HH.out 3 _ _ rfl rfl rfl rfl rfl (HH.out.ok.at hp)⟩
/-- toward: a way. -/
theorem toward_any {w : World} {B b : Nat} {V : CV} {g : Cli} (h : IsC w B b V g) (y : Int) : Calls Try.prog 52 #[.pointer (some ⟨b, 2, none⟩), .int .i64 y] w fun e w' => w.grownBy w' none ∧ ((e = .returned (.func (.func 43) #[.pointer (some ⟨b, 2, none⟩)] #[]) ∧ towP g y = nextP g) ∨
    ∃ q1 q2, e = .returned (.func (.func 60) #[] #[.pointer (some ⟨q1, 0, none⟩), .pointer (some ⟨q2, 0, none⟩)]) ∧ w'.cell? ⟨q1, 0, none⟩ = some (.int .i64 (towP g y)) ∧ w'.cell? ⟨q2, 0, none⟩ = some (.pointer (some ⟨b, 2, none⟩))) := by
  have g1 := World.grownBy_alloc w (.cells #[.pointer (some ⟨b, 2, none⟩)] 94) none
  have HG := hid_mk (And.intro g1 (box1_new w (.pointer (some ⟨b, 2, none⟩)) 94))
  have h1 := h.kept g1
  have c2 := h1.c 2 rfl
  have HI := hid_mk (index_any h1.sv.ints (by have := h1.ok.sv1; omega) y)
  obtain ⟨sa, sc, e⟩ := h1.sv.len
  rw [e] at c2 HI
  have hcase : (idxI g.sv y < 0 ∧ towP g y = nextP g) ∨ (¬ idxI g.sv y < 0 ∧ idxI g.sv y = towP g y) := by
    unfold towP
    cases hk : idx g.sv y with
    | none => exact .inl ⟨by rw [idxI_none hk]; omega, rfl⟩
    | some k => exact .inr ⟨by rw [idxI_some hk]; omega, by rw [idxI_some hk]⟩
  clear g1 h h1 e
  generalize idxI g.sv y = z at *
  have HT := hid_mk hcase
  clear hcase
  have hq := HG.out.2
  by_cases hz : z < 0
  · go_enter Try.func52, Try.ntmps52
    go_wp2_with (go_at_call 59; refine HI.out.mono ?_; rintro e w' ⟨rfl, hw⟩; rw [hw]; clear hw)
    go_ret
    refine ⟨ga HG.out.1 _, .inl ⟨rfl, ?_⟩⟩
    rcases HT.out with h | h
    · exact h.2
    · have := h.1; omega
  · go_enter Try.func52, Try.ntmps52
    go_wp2_with (go_at_call 59; refine HI.out.mono ?_; rintro e w' ⟨rfl, hw⟩; rw [hw]; clear hw)
    go_ret
    refine ⟨ga HG.out.1 _, .inr ⟨_, _, rfl, ?_, ?_⟩⟩
    · have hb := box1_new (w.alloc (.cells #[.pointer (some ⟨b, 2, none⟩)] 94)) (.int .i64 z) 3
      rw [show (w.alloc (.cells #[.pointer (some ⟨b, 2, none⟩)] 94)).heap.size = w.heap.size + 1 by simp] at hb
      rw [hb]
      rcases HT.out with h | h
      · have := h.1; omega
      · rw [h.2]
    · exact (World.grownBy_alloc _ _ none).cell HG.out.2 (by simp)
end Go.Proofs.Ytgebhomiehadmaa
