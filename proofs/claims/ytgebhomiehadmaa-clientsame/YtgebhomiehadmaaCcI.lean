/- client: begin, Do. -/
import Derived.Test.YtgebhomiehadmaaCcH
namespace Go.Proofs.Ytgebhomiehadmaa
open Go.RowKit Go.Maps
set_option linter.unusedVariables false
set_option linter.unusedSimpArgs false
set_option maxRecDepth 100000

/-- A client whose order or answer is another one. -/
theorem CPv.over {w W W' : World} {B b : Nat} {V V' : CV} {g g' : Cli} (h : IsC w B b V g) (hw : w.grownBy W none) (hg : W.grownBy W' (some b)) (hb : Blk W' b (cliL g' V').toArray 58) (e1 : V'.vs = V.vs) (e2 : V'.vc = V.vc) (e3 : V'.L = V.L) (e4 : g'.sv = g.sv) (e5 : g'.out = g.out)
    (od : Own W B V'.vo g'.o.b) (odft : ∀ k, V'.vo.ownBlock = some k → V.vo.ownBlock = some k ∨ w.heap.size ≤ k) (rc : OwnRec W B V'.vr V'.R) (rcs : V'.R.map (·.1) = g'.an.rs) (rcft : ∀ k, RecK V'.vr V'.R k → RecK V.vr V.R k ∨ w.heap.size ≤ k) (ok : OkC g') : CPv w W' B b V V' g g' := by
  have hW := h.kept hw
  obtain ⟨k1, k2, k3, k4, k5⟩ := hW.over hg
  have ne : ∀ {e : TypeId} {size : Nat} {v : Value} {n : Nat} {xs : List Value}, W.ownsRow B e size v n xs → 58 ≠ e → W'.ownsRow B e size v n xs := fun {e size v n xs} hr hn => owns_kept hr hg (fun q cur hq e1 => by
    injection e1 with e1
    subst e1
    have h3 := hW.blk
    unfold Blk at h3
    rw [h3] at hq
    simp at hq
    exact hn hq.2)
  refine ⟨⟨hb, by rw [e1, e4]; exact k1, ne od (by decide), by rw [e2, e3]; exact k3, by rw [e3]; exact k4, ⟨ne rc.1 (by decide), fun p hp => ne (rc.2 p hp) (by decide)⟩, by rw [e3, e5]; exact h.outs, rcs, h.low, ok⟩, keeps_then (Keeps.of_none hw) (Keeps.one hg (.inl rfl) : Keeps (MutC b V) W W') (fun _ _ e => e), fun k e => ?_⟩
  rcases e with (rfl | e) | e | e | e | e
  · exact .inl (.inl (.inl rfl))
  · rw [e2] at e; exact .inl (.inl (.inr e))
  · rw [e1] at e; exact .inl (.inr (.inl e))
  · exact (odft k e).imp (fun x => .inr (.inr (.inl x))) id
  · exact (rcft k e).imp (fun x => .inr (.inr (.inr (.inl x)))) id
  · rw [e3] at e; exact .inl (.inr (.inr (.inr (.inr e))))
theorem blk20 {w : World} {b : Nat} {V : CV} {g : Cli} (h : Blk w b (cliL g V).toArray 58) (i : Nat) {x : Value} (hx : (cliL g V)[i]? = some x) : w.cell? ⟨b, i, none⟩ = some x := by
  rw [h.cell]; simpa using hx
set_option maxHeartbeats 4000000 in
theorem begin_any {w : World} {B b : Nat} {V : CV} {g : Cli} (h : IsC w B b V g) (hf : Fit g 1380000000000) (o : Ord) (v : Value) (hv : Byt w v o.b) (hl : o.b.length ≤ 140737488355328) : Calls Try.prog 39 #[.pointer (some ⟨b, 0, none⟩), .agg #[.int .i64 o.kd, .int .i64 o.fr, .int .i64 o.mo, v]] w fun e w' => e = .returned (.tuple #[]) ∧ CP w w' B b V g (begG g o) := by
  have g1 := World.grownBy_alloc w (.cells #[.int .i64 o.kd, .int .i64 o.fr, .int .i64 o.mo, v] 42) none
  have H1 := hid_mk (And.intro g1 (And.intro (blk_alloc w #[.int .i64 o.kd, .int .i64 o.fr, .int .i64 o.mo, v] 42) (hv.kept g1)))
  have HN := hid_mk (And.intro h (And.intro hf hl))
  have q0 := (blk4 H1.out.2.1).1
  have q1 := (blk4 H1.out.2.1).2.1
  have q2 := (blk4 H1.out.2.1).2.2.1
  have q3 := (blk4 H1.out.2.1).2.2.2.1
  clear g1 h hf hv hl
  go_enter Try.func39, Try.ntmps39
  go_wp2_with fail
  generalize (w.alloc (.cells #[.int .i64 o.kd, .int .i64 o.fr, .int .i64 o.mo, v] 42)) = w1 at *
  generalize hq : w.heap.size = q at *
  have HQ := hid_mk hq
  clear hq
  refine (copyO_any H1.out.2.2 HN.out.2.2 o.kd o.fr o.mo).mono ?_
  rintro e w2 ⟨v', rfl, ho, hg⟩
  obtain ⟨xa, xc, rfl⟩ := ho.len
  have H2 := hid_mk (And.intro hg (And.intro ho (H1.out.2.1.kept hg (by simp))))
  clear ho hg q0 q1 q2 q3
  have hI := (HN.out.1.kept H1.out.1).kept H2.out.1
  have c7 := hI.c 7 rfl
  have c8 := hI.c 8 rfl
  have c9 := hI.c 9 rfl
  have c10 := hI.c 10 rfl
  have c11 := hI.c 11 rfl
  have hf := hI.fz
  obtain ⟨q0, q1, q2, q3, qf⟩ := blk4 H2.out.2.2
  have hqb : (b == q) = false := by
    simp
    intro e
    subst e
    have h1 := hI.blk
    have h2 := H2.out.2.2
    exact absurd rfl (h1.ne h2 (by decide))
  have c5 := hI.c 5 rfl
  have hs0 : 0 ≤ g.sq := HN.out.1.ok.sq
  have hs1 : g.sq ≤ 1380000000000 := HN.out.2.1.sq
  clear hI
  by_cases hk : o.kd = 2
  · have hk' : (o.kd == 2) = true := by simpa using hk
    have HKD := hid_mk hk
    clear hk
    go_wp2_with fail
    have hB := (HN.out.1.blk.kept H1.out.1 (by simp)).kept H2.out.1 (by simp)
    have hb := ((((hB.set 7 (.int .i64 1)).set 8 (.int .i64 o.kd)).set 9 (.int .i64 o.fr)).set 10 (.int .i64 o.mo)).set 11 (.slice xa o.b.length xc)
    have hg := grown_trans (grown_trans (grown_trans (grown_trans (grown_setCell w2 b 7 (.int .i64 1)) (grown_setCell _ b 8 (.int .i64 o.kd))) (grown_setCell _ b 9 (.int .i64 o.fr))) (grown_setCell _ b 10 (.int .i64 o.mo))) (grown_setCell _ b 11 (.slice xa o.b.length xc))
    have hn := HN.out.1
    have hlow : B ≤ w.heap.size := by have h1 := hn.low; have h2 := hn.blk.lt; omega
    have k1 := CPv.over (V' := { V with vo := .slice xa o.b.length xc }) (g' := { g with st := 1, o := o, sq := g.sq + 1 }) hn (grown_trans H1.out.1 H2.out.1) (grown_trans hg (grown_setCell _ b 5 _)) (hb.set 5 (.int .i64 (g.sq + 1))) rfl rfl rfl rfl rfl (H2.out.2.1.base (Nat.le_trans hlow H1.out.1.size)) (fun k e => .inr (Nat.le_trans H1.out.1.size (owns_lt H2.out.2.1 e).1)) ((hn.rcs.kept H1.out.1).kept H2.out.1) hn.recs (fun k e => .inl e)
        ⟨hn.ok.id0, hn.ok.id1, hn.ok.pa0, hn.ok.pa1, hn.ok.sv0, hn.ok.sv1, hn.ok.pl, hn.ok.ps0, hn.ok.tr, by show 0 ≤ g.sq + 1; omega, HN.out.2.2⟩
    have hfit : Fit { g with st := 1, o := o, sq := g.sq + 1 } 1390000000000 := ⟨by show g.tr ≤ 1390000000000; have := HN.out.2.1.tr; omega, by show g.sq + 1 ≤ 1390000000000; omega, by show (g.out.length : Int) ≤ 1390000000000; have := HN.out.2.1.out; omega, by show g.ps ≤ 1390000000000; have := HN.out.2.1.ps; omega, by omega⟩
    have hw := way_stay k1.cli
    have he : begG g o = askG { g with st := 1, o := o, sq := g.sq + 1 } g.pl := by unfold begG; rw [if_pos HKD.out]
    have KK := hid_mk (And.intro k1 he)
    refine (ask_any k1.cli hfit 51 ent51 #[.pointer (some ⟨b, 2, none⟩)] #[] g.pl hn.ok.pl (by simpa using hw)).mono ?_
    rintro e w5 ⟨rfl, V5, h5⟩
    clear hB hb hg hn hlow k1 hfit hw he
    have H5 := hid_mk h5
    clear h5
    go_wp2
    go_end0
    refine ⟨rfl, V5, ?_⟩
    rw [KK.out.2]
    exact CPv.then HN.out.1 KK.out.1 H5.out
  · have hk' : (o.kd == 2) = false := by simpa using hk
    have HKD := hid_mk hk
    clear hk
    go_wp2_with fail
    have hB := (HN.out.1.blk.kept H1.out.1 (by simp)).kept H2.out.1 (by simp)
    have hb := ((((hB.set 7 (.int .i64 1)).set 8 (.int .i64 o.kd)).set 9 (.int .i64 o.fr)).set 10 (.int .i64 o.mo)).set 11 (.slice xa o.b.length xc)
    have hg := grown_trans (grown_trans (grown_trans (grown_trans (grown_setCell w2 b 7 (.int .i64 1)) (grown_setCell _ b 8 (.int .i64 o.kd))) (grown_setCell _ b 9 (.int .i64 o.fr))) (grown_setCell _ b 10 (.int .i64 o.mo))) (grown_setCell _ b 11 (.slice xa o.b.length xc))
    have hn := HN.out.1
    have hlow : B ≤ w.heap.size := by have h1 := hn.low; have h2 := hn.blk.lt; omega
    have k1 := CPv.over (V' := { V with vo := .slice xa o.b.length xc }) (g' := { g with st := 1, o := o }) hn (grown_trans H1.out.1 H2.out.1) hg hb rfl rfl rfl rfl rfl (H2.out.2.1.base (Nat.le_trans hlow H1.out.1.size)) (fun k e => .inr (Nat.le_trans H1.out.1.size (owns_lt H2.out.2.1 e).1)) ((hn.rcs.kept H1.out.1).kept H2.out.1) hn.recs (fun k e => .inl e)
        ⟨hn.ok.id0, hn.ok.id1, hn.ok.pa0, hn.ok.pa1, hn.ok.sv0, hn.ok.sv1, hn.ok.pl, hn.ok.ps0, hn.ok.tr, hn.ok.sq, HN.out.2.2⟩
    have hfit : Fit { g with st := 1, o := o } 1390000000000 := ⟨by show g.tr ≤ 1390000000000; have := HN.out.2.1.tr; omega, by show g.sq ≤ 1390000000000; omega, by show (g.out.length : Int) ≤ 1390000000000; have := HN.out.2.1.out; omega, by show g.ps ≤ 1390000000000; have := HN.out.2.1.ps; omega, by omega⟩
    have hw := way_stay k1.cli
    have he : begG g o = askG { g with st := 1, o := o } g.pl := by unfold begG; rw [if_neg HKD.out]
    have KK := hid_mk (And.intro k1 he)
    refine (ask_any k1.cli hfit 51 ent51 #[.pointer (some ⟨b, 2, none⟩)] #[] g.pl hn.ok.pl (by simpa using hw)).mono ?_
    rintro e w5 ⟨rfl, V5, h5⟩
    clear hB hb hg hn hlow k1 hfit hw he
    have H5 := hid_mk h5
    clear h5
    go_wp2
    go_end0
    refine ⟨rfl, V5, ?_⟩
    rw [KK.out.2]
    exact CPv.then HN.out.1 KK.out.1 H5.out
end Go.Proofs.Ytgebhomiehadmaa
