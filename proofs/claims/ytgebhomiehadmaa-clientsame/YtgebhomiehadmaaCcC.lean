/- client: rows of calls, rows of bytes; a client in memory. -/
import Derived.Test.YtgebhomiehadmaaCcA
import Derived.Test.YtgebhomiehadmaaCcB
namespace Go.Proofs.Ytgebhomiehadmaa
open Go.RowKit Go.Maps
set_option linter.unusedVariables false
set_option linter.unusedSimpArgs false
set_option maxRecDepth 100000

theorem own_keeps {W W' : World} {F : Nat → Prop} {B : Nat} {v : Value} {l : List UInt8} (h : Own W B v l) (hk : Keeps F W W') (hr : ∀ g, v.ownBlock = some g → ¬ F g) : Own W' B v l := owns_keeps h hk hr
theorem own_grown {W W' : World} {B : Nat} {v : Value} {l : List UInt8} (h : Own W B v l) (hg : W.grownBy W' none) : Own W' B v l := h.kept hg (.inl rfl)
/-! ### Calls -/
abbrev KV := Cal × Value
def calC (x : KV) : List Value := [.int .i64 x.1.to, .int .i64 x.1.id, .int .i64 x.1.kd, .int .i64 x.1.se, .int .i64 x.1.sq, .int .i64 x.1.fr, .int .i64 x.1.mo, x.2]
def cals (l : List KV) : List Value := l.flatMap calC
theorem cals_append (l m : List KV) : cals (l ++ m) = cals l ++ cals m := by simp [cals]
theorem calC_len (x : KV) : (calC x).length = 8 := rfl
theorem cals_len : ∀ l : List KV, (cals l).length = l.length * 8
  | [] => rfl
  | r :: l => by
    show (calC r ++ cals l).length = _
    rw [List.length_append, cals_len l, calC_len, List.length_cons]; omega
theorem cals_at : ∀ (l : List KV) (k : Nat) (hk : k < l.length) (j : Nat), j < 8 → (cals l)[k * 8 + j]? = (calC l[k])[j]?
  | [], k, hk, _, _ => by simp at hk
  | r :: l, 0, hk, j, hj => by
    show (calC r ++ cals l)[0 * 8 + j]? = _
    rw [List.getElem?_append_left (by simp [calC]; omega)]
    simp
  | r :: l, k + 1, hk, j, hj => by
    show (calC r ++ cals l)[(k + 1) * 8 + j]? = _
    rw [List.getElem?_append_right (by simp [calC]; omega), show (k + 1) * 8 + j - (calC r).length = k * 8 + j by simp [calC]; omega, cals_at l k (by simpa using hk) j hj]
    rfl
/-- Rows of calls: of the program's (64) or the document's (79). -/
def OwnK (t : TypeId) (w : World) (B : Nat) (v : Value) (l : List KV) : Prop := w.ownsRow B t 8 v l.length (cals l)
theorem OwnK.len {t : TypeId} {w : World} {B : Nat} {v : Value} {l : List KV} (h : OwnK t w B v l) : ∃ a c, v = .slice a l.length c := row_shape h
theorem OwnK.kept {t : TypeId} {w w' : World} {B : Nat} {v : Value} {l : List KV} (h : OwnK t w B v l) (hg : w.grownBy w' none) : OwnK t w' B v l := owns_kept h hg (fun _ _ _ => by simp)
theorem OwnK.nil (t : TypeId) (w : World) (B : Nat) : OwnK t w B (.slice none 0 0) [] := World.ownsRow_nil _ _ _ _
theorem OwnK.get {t : TypeId} {w : World} {B : Nat} {v : Value} {l : List KV} (h : OwnK t w B v l) (k : Nat) (hk : k < l.length) : ∃ g cap, v = .slice (some ⟨g, 0, none⟩) l.length cap ∧ ∀ j u, (calC l[k])[j]? = some u → w.cell? ⟨g, k * 8 + j, none⟩ = some u := by
  obtain ⟨g, cap, hv, _, _, _, hc⟩ := owns_cell h (by omega)
  refine ⟨g, cap, hv, fun j u hj => hc _ _ ?_⟩
  have hj8 : j < 8 := by have := (List.getElem?_eq_some_iff.1 hj).1; simpa [calC] using this
  rw [cals_at l k hk j hj8]; exact hj
/-- The bytes of calls. -/
def BtK (w : World) (B : Nat) (l : List KV) : Prop := ∀ p ∈ l, Own w B p.2 p.1.b
theorem BtK.kept {w w' : World} {B : Nat} {l : List KV} (h : BtK w B l) (hg : w.grownBy w' none) : BtK w' B l := fun p hp => own_grown (h p hp) hg
theorem BtK.keeps {w w' : World} {F : Nat → Prop} {B : Nat} {l : List KV} (h : BtK w B l) (hk : Keeps F w w') (hn : ∀ p ∈ l, ∀ k, p.2.ownBlock = some k → ¬ F k) : BtK w' B l := fun p hp => own_keeps (h p hp) hk (hn p hp)
theorem BtK.low {w : World} {B B' : Nat} {l : List KV} (h : BtK w B l) (hb : B' ≤ B) : BtK w B' l := fun p hp => (h p hp).base hb
theorem BtK.nil (w : World) (B : Nat) : BtK w B [] := fun p hp => by cases hp
/-! ### Rows of bytes -/
abbrev RV := List UInt8 × Value
/-- Rows of bytes that can be read. -/
def RecR (w : World) (v : Value) (R : List RV) : Prop :=
  ((R = [] ∧ ∃ a cap, v = .slice a 0 cap ∧ (a = none → cap = 0)) ∨ ∃ b off cap, v = .slice (some ⟨b, off, none⟩) R.length cap ∧ R.length ≤ cap ∧ ∀ (j : Nat) x, R[j]? = some x → w.cell? ⟨b, off + j, none⟩ = some x.2) ∧ ∀ p ∈ R, Byt w p.2 p.1
theorem RecR.len {w : World} {v : Value} {R : List RV} (h : RecR w v R) : ∃ a cap, v = .slice a R.length cap := by
  rcases h.1 with ⟨rfl, a, cap, rfl, _⟩ | ⟨b, off, cap, rfl, _⟩
  · exact ⟨_, _, rfl⟩
  · exact ⟨_, _, rfl⟩
theorem RecR.kept {w w' : World} {v : Value} {R : List RV} (h : RecR w v R) (hg : w.grownBy w' none) : RecR w' v R := by
  refine ⟨?_, fun p hp => (h.2 p hp).kept hg⟩
  rcases h.1 with h | ⟨b, off, cap, hv, hl, hc⟩
  · exact .inl h
  · exact .inr ⟨b, off, cap, hv, hl, fun j u hj => hg.cell (hc j u hj) (by simp)⟩
theorem RecR.nil (w : World) : RecR w (.slice none 0 0) [] := ⟨.inl ⟨rfl, none, 0, rfl, fun _ => rfl⟩, fun p hp => by cases hp⟩
theorem RecR.get {w : World} {v : Value} {R : List RV} (h : RecR w v R) (i : Nat) (hi : i < R.length) : ∃ b off cap, v = .slice (some ⟨b, off, none⟩) R.length cap ∧ w.cell? ⟨b, off + i, none⟩ = some R[i].2 := by
  rcases h.1 with ⟨rfl, _⟩ | ⟨b, off, cap, e, _, hc⟩
  · simp at hi
  · exact ⟨b, off, cap, e, hc i _ (by simp)⟩
/-- .. of one's own. -/
def OwnRec (w : World) (B : Nat) (v : Value) (R : List RV) : Prop := w.ownsRow B 33 1 v R.length (R.map (·.2)) ∧ ∀ p ∈ R, Own w B p.2 p.1
theorem OwnRec.len {w : World} {B : Nat} {v : Value} {R : List RV} (h : OwnRec w B v R) : ∃ a cap, v = .slice a R.length cap := row_shape h.1
theorem OwnRec.kept {w w' : World} {B : Nat} {v : Value} {R : List RV} (h : OwnRec w B v R) (hg : w.grownBy w' none) : OwnRec w' B v R := ⟨owns_kept h.1 hg (fun _ _ _ => by simp), fun p hp => own_grown (h.2 p hp) hg⟩
theorem OwnRec.nil (w : World) (B : Nat) : OwnRec w B (.slice none 0 0) [] := ⟨World.ownsRow_nil _ _ _ _, fun p hp => by cases hp⟩
theorem OwnRec.low {w : World} {B B' : Nat} {v : Value} {R : List RV} (h : OwnRec w B v R) (hb : B' ≤ B) : OwnRec w B' v R := ⟨owns_low h.1 hb, fun p hp => (h.2 p hp).base hb⟩
theorem OwnRec.red {w : World} {B : Nat} {v : Value} {R : List RV} (h : OwnRec w B v R) : RecR w v R := by
  refine ⟨?_, fun p hp => (h.2 p hp).byt⟩
  rcases h.1.2 with ⟨rfl, h0⟩ | ⟨g, cap, cur, hv, hb, hg, h1, h2, h3, h4⟩
  · exact .inl ⟨List.length_eq_zero_iff.1 h0, none, 0, rfl, fun _ => rfl⟩
  · refine .inr ⟨g, 0, cap, hv, h1, fun j x hj => ?_⟩
    have hj' : (R.map (·.2))[j]? = some x.2 := by simp [hj]
    rw [← h4, List.getElem?_take] at hj'
    rw [cell_of_row _ _ _ _ _ _ hg]
    split at hj'
    · simpa using hj'
    · cases hj'
/-- Where they lie. -/
def RecK (v : Value) (R : List RV) (k : Nat) : Prop := v.ownBlock = some k ∨ ∃ p ∈ R, p.2.ownBlock = some k
theorem OwnRec.keeps {w w' : World} {F : Nat → Prop} {B : Nat} {v : Value} {R : List RV} (h : OwnRec w B v R) (hk : Keeps F w w') (hn : ∀ k, RecK v R k → ¬ F k) : OwnRec w' B v R :=
  ⟨owns_keeps h.1 hk (fun g e => hn g (.inl e)), fun p hp => own_keeps (h.2 p hp) hk (fun g e => hn g (.inr ⟨p, hp, e⟩))⟩
theorem OwnRec.lt {w : World} {B : Nat} {v : Value} {R : List RV} (h : OwnRec w B v R) {k : Nat} (hk : RecK v R k) : B ≤ k ∧ k < w.heap.size := by
  rcases hk with e | ⟨p, hp, e⟩
  · exact owns_lt h.1 e
  · exact owns_lt (h.2 p hp) e
/-! ### A client -/
structure CV where
  vs : Value
  vo : Value
  vr : Value
  vc : Value
  L : List KV
  R : List RV
def cliL (g : Cli) (V : CV) : List Value := [.int .i64 g.id, .int .i64 g.pa, V.vs, .int .i64 g.pl, .int .i64 g.se, .int .i64 g.sq, .int .i64 g.tr, .int .i64 g.st, .int .i64 g.o.kd, .int .i64 g.o.fr, .int .i64 g.o.mo, V.vo, .int .i64 g.ps, .int .i64 g.an.id, .int .i64 g.an.e, .int .i64 g.an.se, .int .i64 g.an.nu, V.vr, .int .i64 g.an.le, V.vc]
/-- A client, in blocks from B on. -/
structure IsC (w : World) (B b : Nat) (V : CV) (g : Cli) : Prop where
  blk : Blk w b (cliL g V).toArray 58
  sv : OwnI w B V.vs g.sv
  od : Own w B V.vo g.o.b
  row : OwnK 64 w B V.vc V.L
  bts : BtK w B V.L
  rcs : OwnRec w B V.vr V.R
  outs : V.L.map (·.1) = g.out
  recs : V.R.map (·.1) = g.an.rs
  low : B ≤ b
  ok : OkC g
theorem IsC.c {w : World} {B b : Nat} {V : CV} {g : Cli} (h : IsC w B b V g) (i : Nat) {x : Value} (hx : (cliL g V)[i]? = some x) : w.cell? ⟨b, i, none⟩ = some x := by
  rw [h.blk.cell]; simpa using hx
theorem IsC.fz {w : World} {B b : Nat} {V : CV} {g : Cli} (h : IsC w B b V g) (i : Nat) : w.frozen? ⟨b, i, none⟩ = false := h.blk.frozen i
theorem IsC.kept {w w' : World} {B b : Nat} {V : CV} {g : Cli} (h : IsC w B b V g) (hg : w.grownBy w' none) : IsC w' B b V g :=
  ⟨h.blk.kept hg (by simp), h.sv.kept hg, own_grown h.od hg, h.row.kept hg, h.bts.kept hg, h.rcs.kept hg, h.outs, h.recs, h.low, h.ok⟩
theorem IsC.drew {w : World} {B b : Nat} {V : CV} {g : Cli} (h : IsC w B b V g) (n : Nat) : IsC (w.drewN n) B b V g := h.kept (grown_drewN w n none)
theorem IsC.lower {w : World} {B B' b : Nat} {V : CV} {g : Cli} (h : IsC w B' b V g) (hB : B ≤ B') : IsC w B b V g :=
  ⟨h.blk, owns_low h.sv hB, h.od.base hB, owns_low h.row hB, h.bts.low hB, h.rcs.low hB, h.outs, h.recs, Nat.le_trans hB h.low, h.ok⟩
/-- What a call may turn. -/
def MutC (b : Nat) (V : CV) (k : Nat) : Prop := k = b ∨ V.vc.ownBlock = some k
/-- Where a client lies. -/
def FtC (b : Nat) (V : CV) (k : Nat) : Prop := MutC b V k ∨ V.vs.ownBlock = some k ∨ V.vo.ownBlock = some k ∨ RecK V.vr V.R k ∨ ∃ p ∈ V.L, p.2.ownBlock = some k
theorem IsC.ft {w : World} {B b : Nat} {V : CV} {g : Cli} (h : IsC w B b V g) {k : Nat} (hk : FtC b V k) : B ≤ k ∧ k < w.heap.size := by
  rcases hk with (rfl | e) | e | e | e | ⟨p, hp, e⟩
  · exact ⟨h.low, h.blk.lt⟩
  · exact owns_lt h.row e
  · exact owns_lt h.sv e
  · exact owns_lt h.od e
  · exact h.rcs.lt e
  · exact owns_lt (h.bts p hp) e
theorem IsC.keeps {w w' : World} {F : Nat → Prop} {B b : Nat} {V : CV} {g : Cli} (h : IsC w B b V g) (hk : Keeps F w w') (hn : ∀ k, FtC b V k → ¬ F k) : IsC w' B b V g :=
  ⟨h.blk.keeps hk (hn b (.inl (.inl rfl))), owns_keeps h.sv hk (fun k e => hn k (.inr (.inl e))), own_keeps h.od hk (fun k e => hn k (.inr (.inr (.inl e)))),
    owns_keeps h.row hk (fun k e => hn k (.inl (.inr e))), h.bts.keeps hk (fun p hp k e => hn k (.inr (.inr (.inr (.inr ⟨p, hp, e⟩))))), h.rcs.keeps hk (fun k e => hn k (.inr (.inr (.inr (.inl e))))), h.outs, h.recs, h.low, h.ok⟩
/-- Behind a call. -/
structure CPv (w w' : World) (B b : Nat) (V V' : CV) (g g' : Cli) : Prop where
  cli : IsC w' B b V' g'
  keeps : Keeps (MutC b V) w w'
  ft : ∀ k, FtC b V' k → FtC b V k ∨ w.heap.size ≤ k
def CP (w w' : World) (B b : Nat) (V : CV) (g g' : Cli) : Prop := ∃ V', CPv w w' B b V V' g g'
theorem CPv.same {w w' : World} {B b : Nat} {V : CV} {g : Cli} (h : IsC w B b V g) (hg : w.grownBy w' none) : CPv w w' B b V V g g := ⟨h.kept hg, Keeps.of_none hg, fun k e => .inl e⟩
theorem CP.same {w w' : World} {B b : Nat} {V : CV} {g : Cli} (h : IsC w B b V g) (hg : w.grownBy w' none) : CP w w' B b V g g := ⟨V, CPv.same h hg⟩
theorem CPv.mut {w w' : World} {B b : Nat} {V V' : CV} {g g' : Cli} (h : IsC w B b V g) (hp : CPv w w' B b V V' g g') {k : Nat} (hk : MutC b V' k) : MutC b V k ∨ w.heap.size ≤ k := by
  rcases hk with rfl | e
  · exact .inl (.inl rfl)
  · rcases Nat.lt_or_ge k w.heap.size with hlt | hge
    · left; right
      have h1 := hp.cli.row
      obtain ⟨_, c, hc⟩ := own_low h1 k e
      rcases (hp.ft k (.inl (.inr e))).resolve_right (by omega) with (rfl | h2) | h2 | h2 | h2 | ⟨p, hq, h2⟩
      · have h3 := hp.cli.blk; unfold Blk at h3; rw [h3] at hc; simp at hc
      · exact h2
      all_goals exfalso
      · obtain ⟨_, d, hd⟩ := own_low h.sv k h2
        have hm : ¬ MutC b V k := fun hm => by
          rcases hm with rfl | hm
          · have h3 := h.blk; unfold Blk at h3; rw [h3] at hd; simp at hd
          · exact rows_apart h.sv h.row (by decide) k h2 hm.symm
        rw [hp.keeps.block k hlt hm, hd] at hc; simp at hc
      · obtain ⟨_, d, hd⟩ := own_low h.od k h2
        have hm : ¬ MutC b V k := fun hm => by
          rcases hm with rfl | hm
          · have h3 := h.blk; unfold Blk at h3; rw [h3] at hd; simp at hd
          · exact rows_apart h.od h.row (by decide) k h2 hm.symm
        rw [hp.keeps.block k hlt hm, hd] at hc; simp at hc
      · rcases h2 with h2 | ⟨p, hq, h2⟩
        · obtain ⟨_, d, hd⟩ := own_low h.rcs.1 k h2
          have hm : ¬ MutC b V k := fun hm => by
            rcases hm with rfl | hm
            · have h3 := h.blk; unfold Blk at h3; rw [h3] at hd; simp at hd
            · exact rows_apart h.rcs.1 h.row (by decide) k h2 hm.symm
          rw [hp.keeps.block k hlt hm, hd] at hc; simp at hc
        · obtain ⟨_, d, hd⟩ := own_low (h.rcs.2 p hq) k h2
          have hm : ¬ MutC b V k := fun hm => by
            rcases hm with rfl | hm
            · have h3 := h.blk; unfold Blk at h3; rw [h3] at hd; simp at hd
            · exact rows_apart (h.rcs.2 p hq) h.row (by decide) k h2 hm.symm
          rw [hp.keeps.block k hlt hm, hd] at hc; simp at hc
      · obtain ⟨_, d, hd⟩ := own_low (h.bts p hq) k h2
        have hm : ¬ MutC b V k := fun hm => by
          rcases hm with rfl | hm
          · have h3 := h.blk; unfold Blk at h3; rw [h3] at hd; simp at hd
          · exact rows_apart (h.bts p hq) h.row (by decide) k h2 hm.symm
        rw [hp.keeps.block k hlt hm, hd] at hc; simp at hc
    · exact .inr hge
theorem CPv.then {w w1 w' : World} {B b : Nat} {V V1 V' : CV} {g g1 g' : Cli} (h : IsC w B b V g) (h1 : CPv w w1 B b V V1 g g1) (h2 : CPv w1 w' B b V1 V' g1 g') : CPv w w' B b V V' g g' :=
  ⟨h2.cli, keeps_then h1.keeps h2.keeps (fun k hk e => (h1.mut h e).resolve_right (by omega)), fun k e => by
    rcases h2.ft k e with e | e
    · exact h1.ft k e
    · exact .inr (Nat.le_trans h1.keeps.size e)⟩
theorem CPv.pre {w w1 w' : World} {B b : Nat} {V V' : CV} {g g' : Cli} (hg : w.grownBy w1 none) (h2 : CPv w1 w' B b V V' g g') : CPv w w' B b V V' g g' :=
  ⟨h2.cli, keeps_then (Keeps.of_none hg) h2.keeps (fun k hk e => e), fun k e => by
    rcases h2.ft k e with e | e
    · exact .inl e
    · exact .inr (Nat.le_trans hg.size e)⟩
theorem CPv.post {w w1 w' : World} {B b : Nat} {V V' : CV} {g g' : Cli} (h2 : CPv w w1 B b V V' g g') (hg : w1.grownBy w' none) : CPv w w' B b V V' g g' :=
  ⟨h2.cli.kept hg, h2.keeps.thenZ (Keeps.of_none hg), h2.ft⟩
theorem CP.pre {w w1 w' : World} {B b : Nat} {V : CV} {g g' : Cli} (hg : w.grownBy w1 none) (h2 : CP w1 w' B b V g g') : CP w w' B b V g g' := by
  obtain ⟨V', h⟩ := h2; exact ⟨V', h.pre hg⟩
theorem CP.post {w w1 w' : World} {B b : Nat} {V : CV} {g g' : Cli} (h2 : CP w w1 B b V g g') (hg : w1.grownBy w' none) : CP w w' B b V g g' := by
  obtain ⟨V', h⟩ := h2; exact ⟨V', h.post hg⟩
theorem IsC.seen {w : World} {B b : Nat} {V : CV} {g : Cli} (h : IsC w B b V g) : ∃ sa sc oa oc ra rc ca cc, V.vs = .slice sa g.sv.length sc ∧ V.vo = .slice oa g.o.b.length oc ∧ V.vr = .slice ra V.R.length rc ∧ V.vc = .slice ca V.L.length cc := by
  obtain ⟨sa, sc, e1⟩ := h.sv.len
  obtain ⟨oa, oc, e2⟩ := h.od.len
  obtain ⟨ra, rc, e3⟩ := h.rcs.len
  obtain ⟨ca, cc, e4⟩ := h.row.len
  exact ⟨_, _, _, _, _, _, _, _, e1, e2, e3, e4⟩
/-- A client that nobody made: its first cell. -/
def NoC (w : World) (p : Value) : Prop := p = .pointer none ∨ ∃ b, p = .pointer (some ⟨b, 0, none⟩) ∧ w.cell? ⟨b, 0, none⟩ = some (.int .i64 0)
theorem NoC.kept {w w' : World} {p : Value} (h : NoC w p) (hg : w.grownBy w' none) : NoC w' p := by
  rcases h with h | ⟨b, h1, h2⟩
  · exact .inl h
  · exact .inr ⟨b, h1, hg.cell h2 (by simp)⟩
end Go.Proofs.Ytgebhomiehadmaa
