/- MachineAlike: what came in; two machines. -/
import Derived.Test.YtpncbehabfkhkaaNaV
namespace Go.Proofs.Ytpncbehabfkhkaa.W
open Go.RowKit Go.Maps Go.WideMaps Go.WideElems
set_option linter.unusedVariables false
set_option linter.unusedSimpArgs false
set_option maxRecDepth 100000

/-- A call that came in. -/
structure OpG where
  ix : Int
  v : Value
  l : List UInt8
  fr : Int
  mo : Int
def OpsR (w : World) (v : Value) (os : List OpG) : Prop :=
  (∃ a cap, v = .slice a os.length cap) ∧ ∀ (i : Nat) x, os[i]? = some x → ∃ g off, (∀ w', (Instr.indexAt 36 v (.int .i64 i)).run Try.prog w' = .ok (.pointer (some ⟨g, off, none⟩)) w') ∧ w.cell? ⟨g, off, none⟩ = some (.int .i64 x.ix) ∧ w.cell? ⟨g, off + 1, none⟩ = some x.v ∧ w.cell? ⟨g, off + 2, none⟩ = some (.int .i64 x.fr) ∧ w.cell? ⟨g, off + 3, none⟩ = some (.int .i64 x.mo) ∧ Byt w x.v x.l
theorem OpsR.kept {w w' : World} {v : Value} {os : List OpG} (h : OpsR w v os) (hg : w.grownBy w' none) : OpsR w' v os :=
  ⟨h.1, fun i x hx => by
    obtain ⟨g, off, hr, c0, c1, c2, c3, hb⟩ := h.2 i x hx
    exact ⟨g, off, hr, hg.cell c0 (by simp), hg.cell c1 (by simp), hg.cell c2 (by simp), hg.cell c3 (by simp), hb.kept hg⟩⟩
/-- Apply to a machine of one's own. -/
theorem MC.apply {w W : World} {Z : Nat → Prop} {b : Nat} {m : Mach} {a : Option Addr} {c : Nat} {l : List UInt8} (h : MC w W Z b m (.slice a l.length c) l) (i : Int) (hl : l.length ≤ 140737488355328) (hr : m.rs.length ≤ 3000000000000) (h16 : m.ss.length ≤ 16) :
    Calls Try.prog 26 #[.pointer (some ⟨b, 0, none⟩), .int .i64 i, .slice a l.length c] W fun e W' => ∃ m', e = .returned (.tuple #[resV (applyA m.ab i l).1.1, .int .i64 (applyA m.ab i l).1.2]) ∧ MS w W' (Nx Z W W') b m' ∧ m'.ab = (applyA m.ab i l).2 ∧ Keeps Z W W' := by
  refine (apply_ab W Z b m i a c l h.1.isM h.2.1 h.2.2 hl hr h16).mono ?_
  rintro e W' ⟨m', rfl, hM, hP, hK⟩
  refine ⟨m', rfl, ⟨hM.bound, fun k hk => ?_, fun k hk => hk.2, hK.grown h.1.gr h.1.lo⟩, hP, hK⟩
  rcases hk.1 with hk | hk
  · exact h.1.lo k hk
  · exact Nat.le_trans h.1.gr.size hk
/-- Two machines that are apart. -/
structure AL (w W : World) (ba bb : Nat) (Za Zb : Nat → Prop) (ma mb : Mach) (i : Nat) : Prop where
  a : MS w W Za ba ma
  b : MS w W Zb bb mb
  dj : ∀ k, Za k → ¬ Zb k
  eq : ma.ab = mb.ab
  wf : Wf ma.ab
  nx : nextA ma.ab ≤ i
  sp : ma.ab.sp = 9
theorem ab_rs (m : Mach) : m.rs.length = m.ab.rs.length := by simp [Mach.ab]
theorem ab_ss (m : Mach) : m.ss.length = m.ab.ss.length := by simp [Mach.ab]
theorem AL.small {w W : World} {ba bb : Nat} {Za Zb : Nat → Prop} {ma mb : Mach} {i : Nat} (h : AL w W ba bb Za Zb ma mb i) : ma.rs.length ≤ i ∧ mb.rs.length ≤ i ∧ ma.ss.length ≤ 16 ∧ mb.ss.length ≤ 16 := by
  have h1 := h.nx
  have h2 := h.wf.few
  have e := h.eq
  rw [ab_rs, ab_rs, ab_ss, ab_ss, ← e]
  unfold nextA at h1
  omega
theorem AL.kept {w W W' : World} {ba bb : Nat} {Za Zb : Nat → Prop} {ma mb : Mach} {i : Nat} (h : AL w W ba bb Za Zb ma mb i) (hg : W.grownBy W' none) : AL w W' ba bb Za Zb ma mb i :=
  ⟨h.a.kept hg, h.b.kept hg, h.dj, h.eq, h.wf, h.nx, h.sp⟩
/-- The first one has applied. -/
structure AM (w W : World) (ba bb : Nat) (Za Zb : Nat → Prop) (ma mb : Mach) (i : Nat) (x : Int) (l : List UInt8) : Prop where
  a : MS w W Za ba ma
  b : MS w W Zb bb mb
  dj : ∀ k, Za k → ¬ Zb k
  eq : ma.ab = (applyA mb.ab x l).2
  wf : Wf mb.ab
  nx : nextA mb.ab ≤ i
  sp : mb.ab.sp = 9
theorem AM.kept {w W W' : World} {ba bb : Nat} {Za Zb : Nat → Prop} {ma mb : Mach} {i : Nat} {x : Int} {l : List UInt8} (h : AM w W ba bb Za Zb ma mb i x l) (hg : W.grownBy W' none) : AM w W' ba bb Za Zb ma mb i x l :=
  ⟨h.a.kept hg, h.b.kept hg, h.dj, h.eq, h.wf, h.nx, h.sp⟩
theorem AL.one {w W W' : World} {ba bb : Nat} {Za Zb : Nat → Prop} {ma mb m' : Mach} {i : Nat} {x : Int} {l : List UInt8} (h : AL w W ba bb Za Zb ma mb i) (hm : MS w W' (Nx Za W W') ba m') (he : m'.ab = (applyA ma.ab x l).2) (hk : Keeps Za W W') : AM w W' ba bb (Nx Za W W') Zb m' mb i x l :=
  ⟨hm, h.b.keeps hk (fun k hz hh => h.dj k hh hz) h.a.lo, fun k hz hh => by
    rcases hz.1 with hz | hz
    · exact h.dj k hz hh
    · have := h.b.hi k hh; omega, by rw [he, h.eq], h.eq ▸ h.wf, h.eq ▸ h.nx, h.eq ▸ h.sp⟩
theorem AM.two {w W W' : World} {ba bb : Nat} {Za Zb : Nat → Prop} {ma mb m' : Mach} {i : Nat} {x : Int} {l : List UInt8} (h : AM w W ba bb Za Zb ma mb i x l) (hm : MS w W' (Nx Zb W W') bb m') (he : m'.ab = (applyA mb.ab x l).2) (hk : Keeps Zb W W') : AL w W' ba bb Za (Nx Zb W W') ma m' (i + 1) := by
  obtain ⟨w1, w2, w3⟩ := h.wf.apply x l
  refine ⟨h.a.keeps hk (fun k hz hh => h.dj k hz hh) h.b.lo, hm, fun k hz hh => ?_, h.eq.trans he.symm, h.eq ▸ w1, ?_, ?_⟩
  · rcases hh.1 with hh | hh
    · exact h.dj k hz hh
    · have := h.a.hi k hz; omega
  · rw [h.eq]; have := h.nx; omega
  · rw [h.eq, w3]; exact h.sp
theorem AM.small {w W : World} {ba bb : Nat} {Za Zb : Nat → Prop} {ma mb : Mach} {i : Nat} {x : Int} {l : List UInt8} (h : AM w W ba bb Za Zb ma mb i x l) : mb.rs.length ≤ i ∧ mb.ss.length ≤ 16 := by
  have h1 := h.nx
  have h2 := h.wf.few
  rw [ab_rs, ab_ss]
  unfold nextA at h1
  omega
/-- A block that is none of theirs has turned. -/
theorem MS.boxed {w W W' : World} {Z : Nat → Prop} {b q : Nat} {m : Mach} {cs : Array Value} (h : MS w W Z b m) (hb : Blk W q cs 52) (hg : W.grownBy W' (some q)) (hq : w.heap.size ≤ q) : MS w W' Z b m :=
  ⟨h.isM.other hb (by decide) (by decide) (by decide) (by decide) hg, h.lo, fun k hk => Nat.lt_of_lt_of_le (h.hi k hk) hg.size, grown_new h.gr hg hq⟩
theorem AM.boxed {w W W' : World} {ba bb q : Nat} {Za Zb : Nat → Prop} {ma mb : Mach} {i : Nat} {x : Int} {l : List UInt8} {cs : Array Value} (h : AM w W ba bb Za Zb ma mb i x l) (hb : Blk W q cs 52) (hg : W.grownBy W' (some q)) (hq : w.heap.size ≤ q) : AM w W' ba bb Za Zb ma mb i x l :=
  ⟨h.a.boxed hb hg hq, h.b.boxed hb hg hq, h.dj, h.eq, h.wf, h.nx, h.sp⟩
theorem AL.boxed {w W W' : World} {ba bb q : Nat} {Za Zb : Nat → Prop} {ma mb : Mach} {i : Nat} {cs : Array Value} (h : AL w W ba bb Za Zb ma mb i) (hb : Blk W q cs 52) (hg : W.grownBy W' (some q)) (hq : w.heap.size ≤ q) : AL w W' ba bb Za Zb ma mb i :=
  ⟨h.a.boxed hb hg hq, h.b.boxed hb hg hq, h.dj, h.eq, h.wf, h.nx, h.sp⟩
theorem ab_lim {m : Mach} (h : Wf m.ab) (hn : nextA m.ab ≤ 1099511627775) : ∀ s ∈ m.ss, s.r < 281474976710656 := fun s hs => by
  have := h.ses s.ab (List.mem_map.2 ⟨s, hs, rfl⟩)
  have h2 : s.r ≤ m.ab.st + m.ab.rs.length - 1 := this.2.2.2.2
  unfold nextA at hn
  omega
/-- A machine that was saved and restored. -/
theorem AL.again {w W W' : World} {ba bb bc : Nat} {Za Zb : Nat → Prop} {ma mb mc : Mach} {i : Nat} (h : AL w W ba bb Za Zb ma mb i) (hg : W.grownBy W' none) (W0 : World) (hW : W.grownBy W0 none) (hm : IsM W' (fun k => W0.heap.size ≤ k) bc mc) (he : mc.ab = ma.ab) : AL w W' ba bc Za (fun k => W0.heap.size ≤ k ∧ k < W'.heap.size) ma mc i :=
  ⟨h.a.kept hg, ⟨hm.bound, fun k hk => Nat.le_trans h.a.gr.size (Nat.le_trans hW.size hk.1), fun k hk => hk.2, grown_trans h.a.gr hg⟩, fun k hz hh => by have := h.a.hi k hz; have := hW.size; omega, he.symm, h.wf, h.nx, h.sp⟩
theorem own_empty' (w : World) : Own (w.alloc (.cells #[] 5)) w.heap.size (.slice (some ⟨w.heap.size, 0, none⟩) 0 0) [] := own_empty w
end Go.Proofs.Ytpncbehabfkhkaa.W
