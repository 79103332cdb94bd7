/- Lists of servers got: the program's. -/
import Derived.Test.YtckblgpalbedhaaWSrvB
namespace Go.Proofs.Ytckblgpalbedhaa.W
open Go.RowKit Go.Maps
set_option linter.unusedVariables false
set_option linter.unusedSimpArgs false

/-- append(l, x), the row lying from B on. -/
theorem wp_appb {w W : World} {B : Nat} {v : Value} {l : List Int} (hgr : w.grownBy W none) (hwB : w.heap.size ≤ B) (hBW : B ≤ W.heap.size) (h : OwnI W B v l) (z : Int) (k : Nat) (hk : k = l.length) (hl : k ≤ 1000000000) {ops : Array Oper} {rest : List Oper} {o : Oper} {a : Act} {Q : Exit → Act → World → Prop} (hgd : o.guard = none) (s y : Operand)
    (ho : o.op = .call { callee := .builtin .append, args := #[s, y], argTypes := #[78, 78] }) (hs : a.eval s = v) (hy : a.eval y = .slice (some ⟨W.heap.size, 0, none⟩) 1 1)
    (hc : ∀ a' c' W', Hid (OwnI W' B (.slice a' (k + 1) c') (l ++ [z]) ∧ w.grownBy W' none ∧ W.grownBy W' v.ownBlock ∧ ∀ r, v.ownBlock = some r → B ≤ r) → wpList Try.prog ops Q rest (a.put o.dst (.slice a' (k + 1) c')) W') :
    wpList Try.prog ops Q (o :: rest) a (W.alloc (.cells #[.int .i64 z] 3)) := by
  subst hk
  obtain ⟨i0, hi, hz0, hz1, hz2⟩ := info_parts info3
  have hw := h.kept (World.grownBy_alloc W (.cells #[.int .i64 z] 3) none)
  refine wpList_append_own_at _ hgd s y 78 ho B 3 i0 (.int .i64 0) 1 8 Try.underlying78 hi hz0 hz1 hz2 rfl (by decide) v l.length (i64s l) hs hw ⟨W.heap.size, 0, none⟩ 1 1 [.int .i64 z] hy rfl (cell_one_new _ _ _) (by simp [Value.oneCell']) (by unfold maxLen; omega) (by omega) (by simp; omega) ?_
  intro v' w' hown hgr2 _ _
  obtain ⟨a', c', rfl⟩ := row_shape hown
  refine hc a' c' w' (hid_mk ⟨?_, grown_row (grown_trans hgr (World.grownBy_alloc W (.cells #[.int .i64 z] 3) none)) (hw.base hwB) hgr2, grown_trans (World.grownBy_alloc W (.cells #[.int .i64 z] 3) _) hgr2, fun r hr => (own_low h r hr).1⟩)
  unfold OwnI
  rw [List.length_append, show i64s (l ++ [z]) = i64s l ++ [.int .i64 z] by simp [i64s]]
  exact hown

/-- An answer of ints and an error. -/
def IntsPost (l : List Int) (er : Int) (w : World) (e : Ending) (w' : World) : Prop :=
  ∃ a c, e = .returned (.tuple #[.slice a l.length c, .int .i64 er]) ∧ OwnI w' w.heap.size (.slice a l.length c) l ∧ w.grownBy w' none
theorem intsPost_nil (er : Int) (w w' : World) (h : w.grownBy w' none) : IntsPost [] er w (.returned (.tuple #[.slice none 0 0, .int .i64 er])) w' := ⟨none, 0, rfl, World.ownsRow_nil _ _ _ _, h⟩
def gotL (d : List UInt8) : List Int := if getOk d = true then getL d else []
def gotE (d : List UInt8) : Int := if getOk d = true then 0 else 21
theorem got_ok {d : List UInt8} (h : getOk d = true) : gotL d = getL d ∧ gotE d = 0 := by unfold gotL gotE; rw [if_pos h, if_pos h]; exact ⟨rfl, rfl⟩
theorem got_bad {d : List UInt8} (h : getOk d = false) : gotL d = [] ∧ gotE d = 21 := by unfold gotL gotE; rw [h]; exact ⟨rfl, rfl⟩
def nsI (k : Nat) (s : St) : List Int := (readNs k s).1.map Int.ofNat
theorem nsI_len (k : Nat) (s : St) : (nsI k s).length = k := by unfold nsI; rw [List.length_map, readNs_len]
theorem nsI_succ (k : Nat) (s : St) : nsI (k + 1) s = nsI k s ++ [((readN (readNs k s).2).1 : Int)] ∧ (readNs (k + 1) s).2 = (readN (readNs k s).2).2 := by
  unfold nsI; rw [readNs_succ]; simp
theorem readNs_rest (k : Nat) : ∀ s, (readNs k s).2.rest.length ≤ s.rest.length := by
  induction k with
  | zero => intro s; exact Nat.le_refl _
  | succ k ih => intro s; rw [readNs_succ]; exact Nat.le_trans (readN_rest _) (ih s)
theorem getOk_of (d : List UInt8) : getOk d = (decide ((getSt d).1 ≤ 7 ∧ endE (readNs (getSt d).1 (getSt d).2).2 = 0) && rightS (nsI (getSt d).1 (getSt d).2)) := rfl
theorem getL_of (d : List UInt8) : getL d = nsI (getSt d).1 (getSt d).2 := rfl

set_option maxHeartbeats 1000000 in
theorem getServers_any (v : Value) (d : List UInt8) (w : World) (h : Byt w v d) (hd : d.length ≤ 140737488355328) : Calls Try.prog 63 #[v] w (IntsPost (gotL d) (gotE d) w) := by
  obtain ⟨av, cv, rfl⟩ := h.len
  have HB := hid_mk h.inb
  have HO := hid_mk (And.intro (getOk_of d) (getL_of d))
  clear h
  go_enter Try.func63, Try.ntmps63
  go_wp2_with fail
  refine (over_any 0 w.heap.size _ d w HB.out (Nat.zero_le _) (Nat.le_refl _)).mono ?_
  rintro e w1 ⟨rfl, hr1, hg1, hs1⟩
  have H1 := hid_mk (And.intro hr1 (And.intro hg1 hs1))
  clear hr1 hg1 hs1
  go_wp2_with fail
  refine (num_rd _ _ _ _ w1 H1.out.1 hd).mono ?_
  rintro e w2 ⟨rfl, hr2, hg2⟩
  have H2 : Hid (Rd w2 0 (w.heap.size + 1) w.heap.size (getSt d).2 ∧ w.grownBy w2 none ∧ w.heap.size + 1 ≤ w2.heap.size ∧ (getSt d).2.rest.length ≤ d.length) := hid_mk ⟨hr2, grown_new H1.out.2.1 hg2 (Nat.le_refl _), by rw [← H1.out.2.2]; exact hg2.size, readN_rest ⟨d, 0⟩⟩
  rw [show (readN ⟨d, 0⟩).1 = (getSt d).1 from rfl]
  have hcnt : (getSt d).1 < 281474976710656 := readN_lt ⟨d, 0⟩
  clear hr2 hg2 H1
  generalize (getSt d).1 = n at *
  generalize (getSt d).2 = s1 at *
  by_cases h7 : 7 < n
  · have HBAD := hid_mk (got_bad (d := d) (by rw [HO.out.1]; simp; omega))
    have h7I : 7 < (n : Int) := by omega
    go_wp2
    go_ret2
    rw [HBAD.out.1, HBAD.out.2]
    exact intsPost_nil _ _ _ H2.out.2.1
  · have h7I : ¬ (7 < (n : Int)) := by omega
    obtain ⟨b, hb⟩ : ∃ b, b = w.heap.size := ⟨_, rfl⟩
    go_wp2_with fail
    go_loopg [6, 14] n (fun g lv iv W => ∃ (i : Nat) (a : Option Addr) (c : Nat), i ≤ n ∧ g = n - i ∧ iv = .int .i64 i ∧ lv = .slice a i c ∧ Hid (OwnI W (w.heap.size + 1) lv (nsI i s1) ∧ Rd W 0 (w.heap.size + 1) w.heap.size (readNs i s1).2 ∧ w.grownBy W none ∧ w.heap.size + 1 ≤ W.heap.size))
    case atStart => exact ⟨0, none, 0, Nat.zero_le _, rfl, rfl, rfl, hid_mk ⟨OwnI.nil _ _, H2.out.1, H2.out.2.1, H2.out.2.2.1⟩⟩
    case round =>
      obtain ⟨i, a, c, hi, hgk, rfl, rfl, H⟩ := hrel
      by_cases hlt : i < n
      · have hiI : (i : Int) < (n : Int) := by omega
        have HS := hid_mk (nsI_succ i s1)
        have HLn := hid_mk (nsI_len i s1)
        go_wp2_with fail
        refine (num_rd _ _ _ _ wr H.out.2.1 (by have := readNs_rest i s1; have := H2.out.2.2.2; omega)).mono ?_
        rintro e w3 ⟨rfl, hr3, hg3⟩
        have H3 : Hid (OwnI w3 (w.heap.size + 1) (.slice a i c) (nsI i s1) ∧ Rd w3 0 (w.heap.size + 1) w.heap.size (readNs (i + 1) s1).2 ∧ w.grownBy w3 none ∧ w.heap.size + 1 ≤ w3.heap.size) := hid_mk
          ⟨owns_kept H.out.1 hg3 (fun g cur hh => by
            obtain ⟨_, _, _, hbk, _⟩ := H.out.2.1
            exact ne_tag hh hbk (by decide)), by rw [HS.out.2]; exact hr3, grown_new H.out.2.2.1 hg3 (Nat.le_refl _), Nat.le_trans H.out.2.2.2 hg3.size⟩
        clear hr3 hg3
        have hz := readN_lt (readNs i s1).2
        generalize hzz : (readN (readNs i s1).2).1 = z at *
        have HZ := hid_mk hzz
        clear hzz H
        go_wp2_with (at_builtin; refine wp_appb (B := w.heap.size + 1) H3.out.2.2.1 (by omega) H3.out.2.2.2 H3.out.1 _ i HLn.out.symm (by omega) rfl (.tmp 16) (.tmp 19) rfl rfl rfl ?_; intro a4 c4 w4 P4)
        go_roundg (n - (i + 1))
        case measure => omega
        case rel =>
          refine ⟨i + 1, a4, c4, by omega, rfl, by go_num, rfl, hid_mk ⟨by rw [HS.out.1]; exact P4.out.1, H3.out.2.1.kept P4.out.2.2.1 (fun r hr => ?_), P4.out.2.1, Nat.le_trans H3.out.2.2.2 P4.out.2.2.1.size⟩⟩
          right
          exact P4.out.2.2.2 r hr
      · have hin : i = n := by omega
        subst hin
        have HLn := hid_mk (nsI_len i s1)
        have HEN := hid_mk (end_rd _ _ _ _ wr H.out.2.1)
        have HRI := hid_mk (right_any _ _ wr H.out.1.ints)
        clear HB hb
        generalize hee : endE (readNs i s1).2 = ee at *
        generalize hrr : rightS (nsI i s1) = rr at *
        by_cases he : ee = 0
        · subst he
          cases rr with
          | true =>
            have HOK := hid_mk (got_ok (d := d) (by rw [HO.out.1]; simp; omega))
            have HL2 := hid_mk HO.out.2
            clear hee hrr
            go_wp2_with (first
              | (go_at_call 68; refine HEN.out.mono ?_; rintro e wx ⟨rfl, rfl⟩)
              | (go_at_call 69; refine HRI.out.mono ?_; rintro e wx ⟨rfl, rfl⟩))
            go_ret2
            rw [HOK.out.1, HOK.out.2, HL2.out]
            refine ⟨a, c, by rw [HLn.out]; rfl, ?_, H.out.2.2.1⟩
            rw [HLn.out]
            exact H.out.1.base (by omega)
          | false =>
            have HBAD := hid_mk (got_bad (d := d) (by rw [HO.out.1]; simp))
            clear hee hrr
            go_wp2_with (first
              | (go_at_call 68; refine HEN.out.mono ?_; rintro e wx ⟨rfl, rfl⟩)
              | (go_at_call 69; refine HRI.out.mono ?_; rintro e wx ⟨rfl, rfl⟩))
            go_ret2
            rw [HBAD.out.1, HBAD.out.2]
            exact intsPost_nil _ _ _ H.out.2.2.1
        · have HBAD := hid_mk (got_bad (d := d) (by rw [HO.out.1]; simp; omega))
          have heI : ((ee : Int) == 0) = false := by simp; omega
          clear hee hrr
          go_wp2_with (go_at_call 68; refine HEN.out.mono ?_; rintro e wx ⟨rfl, rfl⟩)
          go_ret2
          rw [HBAD.out.1, HBAD.out.2]
          exact intsPost_nil _ _ _ H.out.2.2.1

end Go.Proofs.Ytckblgpalbedhaa.W
