/- Keys that are two numbers. -/
import Derived.Test.YtpncbehabfkhkaaMaL
import Derived.Test.YtpncbehabfkhkaaMaOp
import Derived.DeepKeys4
import Derived.Maps.Views
namespace Go.Proofs.Ytpncbehabfkhkaa.W
open Go.RowKit Go.Maps Go.WideMaps Go.WideElems
set_option linter.unusedVariables false
set_option linter.unusedSimpArgs false
set_option maxRecDepth 100000

theorem cells71 : Try.prog.cellsOf 71 = 2 := by kernel_rfl
theorem cells3 : Try.prog.cellsOf 3 = 1 := by kernel_rfl
theorem kt71 : Try.prog.keyType 71 = true := by kernel_rfl
theorem row71 : (71 : TypeId) < Try.prog.types.size := of_decide_eq_true (by kernel_rfl)
theorem row71n : 71 < Try.prog.types.size := of_decide_eq_true (by kernel_rfl)
theorem wide71 : (match Try.prog.underlying 71 with | some (.array _ _) | some (.struct _) => true | _ => false) = true := by rw [Try.underlying71]
theorem law71 : Keyed Try.prog 71 := Keyed.of_law (deep_law_laid laidOut (m := 2) (by omega) row71 (by kernel_rfl) wide71)
theorem formed71 {c0 c1 : Value} : (Value.agg #[c0, c1]).formed Try.prog 71 = true := by simp [Value.formed, Try.underlying71, cells71]
theorem wf_nat (n : Nat) (h : n ≤ 1099511627776) : (Lit.int .i64 n).wf = true := by simp [Lit.wf, IntKind.min, IntKind.max, IntKind.bits, IntKind.signed]; omega
theorem lits71 (d s q : Nat) (hs : s ≤ 1000) (hq : q ≤ 1000) : Try.prog.keyLits (d + 2) 71 [.int .i64 s, .int .i64 q] = some [.int .i64 s, .int .i64 q] := by
  have h1 := wf_nat s (by omega)
  have h2 := wf_nat q (by omega)
  simp [Program.keyLits, Try.underlying71, Try.underlying3, cells71, cells3, List.range_succ, h1, h2]
/-- The key of two numbers. -/
def kk (s q : Nat) : Lit := .string (keyBytes [.int .i64 s, .int .i64 q])
theorem key71 (s q : Nat) (hs : s ≤ 1000) (hq : q ≤ 1000) : keyOf Try.prog 71 (.agg #[.int .i64 s, .int .i64 q]) = some (kk s q) := by
  unfold keyOf
  rw [Try.underlying71]
  simp only [kt71, formed71, Bool.and_self, if_true]
  have e : ∃ d, Try.prog.types.size + 1 = d + 2 := ⟨Try.prog.types.size - 1, by have : 71 < Try.prog.types.size := row71n; omega⟩
  obtain ⟨d, hd⟩ := e
  rw [hd]
  show Option.map _ (Try.prog.keyLits (d + 2) 71 [.int .i64 s, .int .i64 q]) = _
  rw [lits71 d s q hs hq]
  rfl
theorem kk_ne {s q s' q' : Nat} (hs : s ≤ 1000) (hq : q ≤ 1000) (hs' : s' ≤ 1000) (hq' : q' ≤ 1000) (h : s ≠ s' ∨ q ≠ q') : kk s q ≠ kk s' q' := fun e => by
  have h1 := key71 s q hs hq
  have h2 := key71 s' q' hs' hq'
  rw [← e] at h2
  have := law71.inj h1 h2
  simp at this
  omega
theorem kk_lit (s q : Nat) (hs : s ≤ 1000) (hq : q ≤ 1000) : WideAt.IsKeyLit (kk s q) := law71.key (key71 s q hs hq)

/-! ### Sessions, one turned -/
theorem sesAt_upd {l : List Ses} {s' : Ses} (j : Nat) : sesAt (updS l s') j = (sesAt l j).map (fun x => if x.n = s'.n then s' else x) := by
  unfold sesAt updS
  rw [List.find?_map]
  congr 2
  funext x
  show decide ((if x.n = s'.n then s' else x).n = j) = decide (x.n = j)
  by_cases h : x.n = s'.n
  · rw [if_pos h, h]
  · rw [if_neg h]
theorem sesAt_upd_ne {l : List Ses} {s' : Ses} {j : Nat} (h : j ≠ s'.n) : sesAt (updS l s') j = sesAt l j := by
  rw [sesAt_upd]
  cases hs : sesAt l j with
  | none => rfl
  | some x =>
    have := (sesAt_some hs).2
    show some (if x.n = s'.n then s' else x) = some x
    rw [if_neg (by omega)]
theorem sesAt_upd_eq {l : List Ses} {s s' : Ses} {j : Nat} (h : sesAt l j = some s) (hj : j = s'.n) : sesAt (updS l s') j = some s' := by
  rw [sesAt_upd, h]
  have := (sesAt_some h).2
  show some (if s.n = s'.n then s' else s) = some s'
  rw [if_pos (by omega)]
theorem mem_updS {l : List Ses} {s' x : Ses} (h : x ∈ updS l s') : x = s' ∨ x ∈ l := by
  obtain ⟨y, hy, rfl⟩ := List.mem_map.1 h
  by_cases e : y.n = s'.n
  · rw [if_pos e]; exact .inl rfl
  · rw [if_neg e]; exact .inr hy
theorem at_all {m : Mach} {i : Nat} (h : ∀ s ∈ m.ss, i < s.u + m.sp) : (atM m i).ss = m.ss := by
  show m.ss.filter (stays { m with ap := i }) = m.ss
  rw [List.filter_eq_self]
  intro s hs
  exact decide_eq_true (h s hs)
theorem sesAt_app {l : List Ses} {x s : Ses} {j : Nat} (h : sesAt l j = some s) : sesAt (l ++ [x]) j = some s := by
  unfold sesAt at *
  rw [List.find?_append, h]
  rfl

/-! ### MachineOnce, in plain words -/
/-- Behind some tries: what the machine has, what the law has noted of it. -/
structure Pur (m : Mach) (D : DataW Unit) (L : Nat → Nat) (i : Nat) : Prop where
  sp : m.sp = 1048576
  st : m.st = 0
  ap : m.ap = 3 + i
  used : ∀ s ∈ m.ss, 1 ≤ s.u
  ses : ∀ j, 1 ≤ j → j ≤ 3 → ∃ s, sesAt m.ss j = some s ∧ s.q = L j ∧ L j ≤ 9 ∧ (L j = 0 ∨ (has D (kk j (L j)) = true ∧ D.atKey (kk j (L j)) (.lit (.int .i64 0)) = .lit (.int .i64 s.r)))
  no : ∀ j q, 1 ≤ j → j ≤ 3 → L j < q → q ≤ 9 → has D (kk j q) = false
  tidy : Tidy D
  size : Maps.size D = m.rs.length
theorem Pur.at {m : Mach} {D : DataW Unit} {L : Nat → Nat} {i : Nat} (h : Pur m D L i) (hi : i < 1000) : (atM m (4 + i)).ss = m.ss := at_all fun s hs => by have := h.used s hs; rw [h.sp]; omega
theorem Pur.step {m m' : Mach} {D D' : DataW Unit} {L L' : Nat → Nat} {i : Nat} {s s' : Ses} {j : Nat} (h : Pur m D L i) (hj : 1 ≤ j ∧ j ≤ 3) (hs : sesAt m.ss j = some s) (hn : s'.n = j) (hu : 1 ≤ s'.u) (hsp : m'.sp = m.sp) (hst : m'.st = m.st) (hap : m'.ap = 4 + i) (hss : m'.ss = updS m.ss s')
    (hL : ∀ k, k ≠ j → L' k = L k) (hq : s'.q = L' j) (hq9 : L' j ≤ 9) (hle : L j ≤ L' j)
    (hD : ∀ k q, 1 ≤ k → k ≤ 3 → k ≠ j → q ≤ 9 → has D' (kk k q) = has D (kk k q) ∧ D'.atKey (kk k q) (.lit (.int .i64 0)) = D.atKey (kk k q) (.lit (.int .i64 0)))
    (hDj : L' j = 0 ∨ (has D' (kk j (L' j)) = true ∧ D'.atKey (kk j (L' j)) (.lit (.int .i64 0)) = .lit (.int .i64 s'.r)))
    (hno : ∀ q, L' j < q → q ≤ 9 → has D' (kk j q) = false) (ht : Tidy D') (hz : Maps.size D' = m'.rs.length) : Pur m' D' L' (i + 1) where
  sp := hsp.trans h.sp
  st := hst.trans h.st
  ap := by rw [hap]; omega
  used := fun x hx => by
    rw [hss] at hx
    rcases mem_updS hx with rfl | hx
    · exact hu
    · exact h.used x hx
  ses := fun k h1 h3 => by
    by_cases e : k = j
    · subst e
      exact ⟨s', by rw [hss]; exact sesAt_upd_eq hs hn.symm, hq, hq9, hDj⟩
    · obtain ⟨x, hx, hxq, hx9, hxr⟩ := h.ses k h1 h3
      refine ⟨x, by rw [hss, sesAt_upd_ne (by omega)]; exact hx, by rw [hL k e]; exact hxq, by rw [hL k e]; exact hx9, ?_⟩
      rw [hL k e]
      rcases hxr with h0 | ⟨ha, hb⟩
      · exact .inl h0
      · obtain ⟨e1, e2⟩ := hD k (L k) h1 h3 e hx9
        exact .inr ⟨by rw [e1]; exact ha, by rw [e2]; exact hb⟩
  no := fun k q h1 h3 hlt h9 => by
    by_cases e : k = j
    · subst e; exact hno q hlt h9
    · rw [hL k e] at hlt
      rw [(hD k q h1 h3 e h9).1]
      exact h.no k q h1 h3 hlt h9
  tidy := ht
  size := hz

end Go.Proofs.Ytpncbehabfkhkaa.W
