/- machine: what is applied of commands; knows. -/
import Derived.Test.YtpncbehabfkhkaaNaJ
namespace Go.Proofs.Ytpncbehabfkhkaa.W
open Go.RowKit Go.Maps Go.WideMaps Go.WideElems
set_option linter.unusedVariables false
set_option linter.unusedSimpArgs false
set_option maxRecDepth 100000

theorem parse_open : parseC openB = (⟨1, 0, 0, 0, []⟩, true) := by
  have e : openB = numB 1 ++ [] := by simp [openB, numsB]
  have h1 : readN ⟨openB, 0⟩ = (1, ⟨[], 0⟩) := by rw [e]; exact readN_put (by decide) []
  unfold parseC
  simp only [h1, if_true]
  rfl
theorem cmd_at (s q : Nat) (d : List UInt8) : cmdB s q d = numB 2 ++ (numB s ++ (numB q ++ (txtB d ++ []))) := by simp [cmdB, numsB, List.append_assoc]
theorem parse_cmd (s q : Nat) (d : List UInt8) (hs : 1 ≤ s ∧ s ≤ 1099511627775) (hq : 1 ≤ q ∧ q ≤ 1099511627775) (hd : d.length ≤ 1024) : parseC (cmdB s q d) = (⟨2, s, q, 0, d⟩, true) := by
  have h1 : readN ⟨cmdB s q d, 0⟩ = (2, ⟨numB s ++ (numB q ++ (txtB d ++ [])), 0⟩) := by rw [cmd_at]; exact readN_put (by decide) _
  have h2 : readN ⟨numB s ++ (numB q ++ (txtB d ++ [])), 0⟩ = (s, ⟨numB q ++ (txtB d ++ []), 0⟩) := readN_put (by omega) _
  have h3 : readN ⟨numB q ++ (txtB d ++ []), 0⟩ = (q, ⟨txtB d ++ [], 0⟩) := readN_put (by omega) _
  have h4 : readB ⟨txtB d ++ [], 0⟩ = (d, ⟨[], 0⟩) := readB_put (by omega) _
  unfold parseC
  simp only [h1, h2, h3, h4, show ¬ (2 : Nat) = 1 by decide, if_false, if_true]
  have i1 : inN 1 (s : Int) 1099511627775 = true := inN_iff.2 (by omega)
  have i2 : inN 1 (q : Int) 1099511627775 = true := inN_iff.2 (by omega)
  rw [i1, i2, decide_eq_true hd]
  rfl
theorem cmdB_len (s q : Nat) (d : List UInt8) (hs : s ≤ 1099511627775) (hq : q ≤ 1099511627775) (hd : d.length ≤ 1024) : (cmdB s q d).length ≤ 10000 := by
  rw [cmd_at]
  simp only [List.length_append, List.length_nil, txtB]
  have := numB_le (n := 2) (by omega)
  have := numB_le (n := s) (by omega)
  have := numB_le (n := q) (by omega)
  have := numB_le (n := d.length) (by omega)
  omega

/-- A machine that a call has made, in blocks of Z. -/
structure MS (w W : World) (Z : Nat → Prop) (b : Nat) (m : Mach) : Prop where
  isM : IsM W Z b m
  lo : ∀ k, Z k → w.heap.size ≤ k
  hi : ∀ k, Z k → k < W.heap.size
  gr : w.grownBy W none
/-- The blocks behind a call: new ones, too. -/
def Nx (Z : Nat → Prop) (W W' : World) (k : Nat) : Prop := Up Z W k ∧ k < W'.heap.size
theorem nx_not {Z : Nat → Prop} {W W' : World} {k : Nat} (h : ¬ Z k) (hk : k < W.heap.size) : ¬ Nx Z W W' k := fun hh => by
  rcases hh.1 with hh | hh
  · exact h hh
  · omega
theorem MS.kept {w W W' : World} {Z : Nat → Prop} {b : Nat} {m : Mach} (h : MS w W Z b m) (hg : W.grownBy W' none) : MS w W' Z b m := ⟨h.isM.kept hg, h.lo, fun k hk => Nat.lt_of_lt_of_le (h.hi k hk) hg.size, grown_trans h.gr hg⟩
theorem MS.keeps {w W W' : World} {Z F : Nat → Prop} {b : Nat} {m : Mach} (h : MS w W Z b m) (hk : Keeps F W W') (hF : ∀ k, Z k → ¬ F k) (hlo : ∀ k, F k → w.heap.size ≤ k) : MS w W' Z b m := ⟨h.isM.keeps hk hF, h.lo, fun k hz => Nat.lt_of_lt_of_le (h.hi k hz) hk.size, hk.grown h.gr hlo⟩
theorem MS.new {w W : World} {b : Nat} {m : Mach} (h : IsM W (fun k => w.heap.size ≤ k) b m) (hg : w.grownBy W none) : MS w W (fun k => w.heap.size ≤ k ∧ k < W.heap.size) b m := ⟨h.bound, fun k hk => hk.1, fun k hk => hk.2, hg⟩
/-- .. beside bytes that are none of it. -/
def MC (w W : World) (Z : Nat → Prop) (b : Nat) (m : Mach) (v : Value) (l : List UInt8) : Prop := MS w W Z b m ∧ Byt W v l ∧ ∀ k, v.ownBlock = some k → ¬ Z k
theorem MS.cmd {w W0 W : World} {Z : Nat → Prop} {b : Nat} {m : Mach} {v : Value} {l : List UInt8} (h : MS w W0 Z b m) (ho : Own W W0.heap.size v l) (hg : W0.grownBy W none) : MC w W Z b m v l :=
  ⟨h.kept hg, Own.byt ho, fun k e hh => by have := (own_low ho k e).1; have := h.hi k hh; omega⟩
/-- What Apply leaves. -/
def ApOut (w W : World) (Z : Nat → Prop) (b : Nat) (m : Mach) (i : Nat) (r : Res) (P : List Ses → Prop) (rl : List (List UInt8)) (e : Ending) (W' : World) : Prop :=
  ∃ m', e = .returned (.tuple #[resV r, .int .i64 0]) ∧ MS w W' (Nx Z W W') b m' ∧ Keeps Z W W' ∧ m'.sp = m.sp ∧ m'.ap = i ∧ m'.st = m.st ∧ P m'.ss ∧ m'.rs.map Prod.snd = rl
theorem MC.of_ap {w W : World} {Z : Nat → Prop} {b : Nat} {m : Mach} {v : Value} {l : List UInt8} (h : MC w W Z b m v l) {f : FuncId} {args : Array Value} {i : Nat} {r : Res} {P : List Ses → Prop} {rl : List (List UInt8)} (hc : IsM W Z b m → Byt W v l → (∀ k, v.ownBlock = some k → ¬ Z k) → Calls Try.prog f args W (ApPost W Z b m i r P rl)) :
    Calls Try.prog f args W (ApOut w W Z b m i r P rl) := by
  refine (hc h.1.isM h.2.1 h.2.2).mono ?_
  rintro e W' ⟨N', rv', rs', ss', rfl, hM, hP, hrl, hK⟩
  refine ⟨_, rfl, ⟨hM.bound, fun k hk => ?_, fun k hk => hk.2, hK.grown h.1.gr h.1.lo⟩, hK, rfl, rfl, rfl, hP, hrl⟩
  rcases hk.1 with hk | hk
  · exact h.1.lo k hk
  · exact Nat.le_trans h.1.gr.size hk

theorem atM_lt {W : World} {Z : Nat → Prop} {b : Nat} {m : Mach} (h : IsM W Z b m) {i : Nat} (hi : m.ap < i) : ∀ t ∈ (atM m i).ss, t.n < i := fun t ht => by
  have := (h.lim t (List.mem_filter.1 ht).1).1
  omega
theorem mc_open {w W : World} {Z : Nat → Prop} {b : Nat} {m : Mach} {a : Option Addr} {n c : Nat} (i : Nat) (h : MC w W Z b m (.slice a n c) openB) (hi : m.ap < i) (hi2 : i ≤ 1099511627775) (hl : m.rs.length ≤ 3000000000000) (hf : (atM m i).ss.length < 16) :
    Calls Try.prog 26 #[.pointer (some ⟨b, 0, none⟩), .int .i64 i, .slice a n c] W (ApOut w W Z b m i ⟨0, i, 0⟩ (fun l => ∃ f, l = (atM m i).ss ++ [⟨i, 0, 0, i, f⟩]) (m.rs.map Prod.snd)) := by
  refine h.of_ap ?_
  intro hM hb hz
  obtain ⟨a', c', e⟩ := hb.len
  cases e
  have hlt := atM_lt hM hi
  refine apply_do W Z b m i a c openB hM hi hi2 hb hz (by have := numB_le (n := 1) (by omega); simp only [openB, numsB, List.map_cons, List.map_nil, List.flatten_cons, List.flatten_nil, List.append_nil]; omega) (by rw [parse_open]) _ _ _ ?_
  intro w' Z' da dc B hM' ho hzd
  rw [parse_open] at ho hzd ⊢
  exact do_open w' Z' b (atM m i) ⟨1, 0, 0, 0, []⟩ da dc hM' rfl rfl (by simp) hl B ho hzd hf hlt
theorem mc_put {w W : World} {Z : Nat → Prop} {b : Nat} {m : Mach} {a : Option Addr} {n c : Nat} (i s q : Nat) (d : List UInt8) (h : MC w W Z b m (.slice a n c) (cmdB s q d)) (hi : m.ap < i) (hi2 : i ≤ 1099511627775) (hl : m.rs.length ≤ 3000000000000) (hs : 1 ≤ s ∧ s ≤ 1099511627775) (hq : 1 ≤ q ∧ q ≤ 1099511627775) (hd : d.length ≤ 1024) :
    Calls Try.prog 26 #[.pointer (some ⟨b, 0, none⟩), .int .i64 i, .slice a n c] W (ApOut w W Z b m i ⟨(putR (atM m i) ⟨2, s, q, 0, d⟩).2, 0, (putR (atM m i) ⟨2, s, q, 0, d⟩).1⟩ (fun l => l = putS (atM m i) ⟨2, s, q, 0, d⟩) (putL (atM m i) ⟨2, s, q, 0, d⟩)) := by
  refine h.of_ap ?_
  intro hM hb hz
  obtain ⟨a', c', e⟩ := hb.len
  cases e
  have hp := parse_cmd s q d hs hq hd
  refine apply_do W Z b m i a c (cmdB s q d) hM hi hi2 hb hz (by have := cmdB_len s q d hs.2 hq.2 hd; omega) (by rw [hp]) _ _ _ ?_
  intro w' Z' da dc B hM' ho hzd
  rw [hp] at ho hzd ⊢
  exact do_put w' Z' b (atM m i) ⟨2, s, q, 0, d⟩ da dc hM' rfl hs.2 hq.2 hd hl B ho hzd

/-- The law's put: a command. -/
theorem lput_any (s q : Nat) (x : UInt8) (w : World) (hs : 1 ≤ s ∧ s ≤ 1099511627775) (hq : 1 ≤ q ∧ q ≤ 1099511627775) : Calls Try.prog 32 #[.int .i64 s, .int .i64 q, .int .u8 x.toNat] w fun e w' => ∃ a c, e = .returned (.slice a (cmdB s q [x]).length c) ∧ Own w' w.heap.size (.slice a (cmdB s q [x]).length c) (cmdB s q [x]) ∧ w.grownBy w' none := by
  have ga := World.grownBy_alloc w (.cells #[.int .u8 x.toNat] 5) none
  have HB := hid_mk (show Byt (w.alloc (.cells #[.int .u8 x.toNat] 5)) (.slice (some ⟨w.heap.size, 0, none⟩) ([x] : List UInt8).length 1) [x] ∧ w.grownBy (w.alloc (.cells #[.int .u8 x.toNat] 5)) none from ⟨Own.byt (own_new w [x] #[.int .u8 x.toNat] rfl (by simp [maxLen])), ga⟩)
  clear ga
  have hok : okC s q = true := by unfold okC; rw [inN_iff.2 (by omega), inN_iff.2 (by omega)]; rfl
  have HK := hid_mk hok
  clear hok
  go_enter Try.func32, Try.ntmps32
  go_wp2_with fail
  refine (putC_ok s q _ _ [x] _ HK.out (by simp) HB.out.1).mono ?_
  rintro e w1 ⟨a1, c1, rfl, ho, hg⟩
  have H1 := hid_mk (And.intro (ho.base HB.out.2.size) (grown_trans HB.out.2 hg))
  clear ho hg
  generalize hn : (cmdB s q [x]).length = n at *
  have HN := hid_mk hn
  clear hn
  go_wp2_with fail
  go_ret
  rw [HN.out]
  exact ⟨a1, c1, rfl, H1.out.1, H1.out.2⟩

end Go.Proofs.Ytpncbehabfkhkaa.W
