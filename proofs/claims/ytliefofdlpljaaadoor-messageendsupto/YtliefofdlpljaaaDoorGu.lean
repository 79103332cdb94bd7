/- readEntries. -/
import Derived.Test.YtliefofdlpljaaaDoorGt
namespace Go.Proofs.YtliefofdlpljaaaDoor
open Go.RowKit Go.Maps
set_option linter.unusedVariables false
set_option linter.unusedSimpArgs false

theorem rdBs_at (k : Nat) : ∀ (n : Nat) (s : St), k < n → (rdBs n s).1[k]? = some (readB (rdBs k s).2).1 := by
  induction k with
  | zero =>
    intro n s h
    obtain ⟨n, rfl⟩ : ∃ n', n = n' + 1 := ⟨n - 1, by omega⟩
    simp [rdBs]
  | succ k ih =>
    intro n s h
    obtain ⟨n, rfl⟩ : ∃ n', n = n' + 1 := ⟨n - 1, by omega⟩
    simp only [rdBs, List.getElem?_cons_succ]
    exact ih n _ (by omega)
theorem rdBs_rest (k : Nat) : ∀ s, (rdBs k s).2.rest.length ≤ s.rest.length := by
  induction k with
  | zero => intro s; exact Nat.le_refl _
  | succ k ih =>
    intro s
    simp only [rdBs]
    exact Nat.le_trans (ih _) (readB_rest s)
theorem grown_own {w W W' : World} {b : Nat} {B : Nat} {e : TypeId} {size n : Nat} {v : Value} {xs : List Value} (h : w.grownBy W (some b)) (hr : W.ownsRow B e size v n xs) (hB : w.heap.size ≤ B) (hk : W.grownBy W' v.ownBlock) : w.grownBy W' (some b) := by
  cases hv : v.ownBlock with
  | none => rw [hv] at hk; exact grown_trans h (grown_any hk _)
  | some r => rw [hv] at hk; exact grown_plus h hk (Nat.le_trans hB (own_low hr r hv).1)

/-- Where the loop stands. -/
structure RE (w W : World) (M N b : Nat) (s1 : St) (k : Nat) (lv : Value) (es : List (Ent × Value)) : Prop where
  eq : EQ w.heap.size W lv es
  map : es.map (·.1) = (rdBs k s1).1.map entR
  ok : ∀ d ∈ (rdBs k s1).1, entOk d = true
  rd : Rd W M N b (rdBs k s1).2
  gr : w.grownBy W (some b)
def RePost (w : World) (M N b : Nat) (s : St) (e : Ending) (w' : World) : Prop := w.grownBy w' (some b) ∧
  (((rdBs (readN s).1 (readN s).2).1.all entOk = true ∧ ∃ a n c es, e = .returned (.slice a n c) ∧ EQ w.heap.size w' (.slice a n c) es ∧ es.map (·.1) = (rdBs (readN s).1 (readN s).2).1.map entR ∧ Rd w' M N b (rdBs (readN s).1 (readN s).2).2) ∨
   ((rdBs (readN s).1 (readN s).2).1.all entOk = false ∧ e = .panicked upChain))

set_option maxRecDepth 100000 in
set_option maxHeartbeats 4000000 in
theorem readEntries_any (M N b : Nat) (s : St) (w : World) (h : Rd w M N b s) (hN : N ≤ w.heap.size) (hL : s.rest.length ≤ 140737488355328)
    (hcap : ∀ k, k ≤ (readN s).1 → (∀ d ∈ (rdBs k (readN s).2).1, entOk d = true) → (k + 1) * 48 ≤ 140737488355328) :
    Calls Tryd.prog 57 #[.pointer (some ⟨b, 0, none⟩)] w (RePost w M N b s) := by
  have HR := hid_mk h
  have HC := hid_mk hcap
  have hlt48 := readN_lt s
  clear h hcap
  go_enter Tryd.func57, Tryd.ntmps57
  go_wp2_with fail
  refine (num_rd M N b s w HR.out hL).mono ?_
  rintro e w1 ⟨rfl, hr1, hg1⟩
  have H1 : Hid (RE w w1 M N b (readN s).2 0 (.slice none 0 0) []) := hid_mk ⟨EQ.nil _ _, rfl, by simp [rdBs], hr1, hg1⟩
  have HRL := hid_mk (Nat.le_trans (readN_rest s) hL)
  clear hr1 hg1
  obtain ⟨n, hn⟩ : ∃ n, n = (readN s).1 := ⟨_, rfl⟩
  obtain ⟨s1, hs1⟩ : ∃ s1, s1 = (readN s).2 := ⟨_, rfl⟩
  have HNS := hid_mk (And.intro hn hs1)
  rw [← hn] at hlt48 HC ⊢
  rw [← hs1] at H1 HRL HC
  clear hn hs1
  go_wp2_with fail
  go_loopw [3, 6] (fun lv iv W => ∃ (k : Nat) (a : Option Addr) (c : Nat), k ≤ n ∧ iv = .int .i64 k ∧ lv = .slice a k c ∧ Hid (∃ es, RE w W M N b s1 k lv es)) (fun _ iv _ => n - (intOf iv).toNat)
  case atStart => exact ⟨0, none, 0, Nat.zero_le _, rfl, rfl, hid_mk ⟨[], H1.out⟩⟩
  case round =>
    obtain ⟨k, a, c, hk, rfl, rfl, H⟩ := hrel
    rename World => w2
    obtain ⟨es, HE⟩ : ∃ es, Hid (RE w w2 M N b s1 k (.slice a k c) es) := by
      obtain ⟨es, h⟩ := H.out
      exact ⟨es, hid_mk h⟩
    clear H H1
    have HKE := hid_mk (show k = es.length by
      have := congrArg List.length HE.out.map
      rw [List.length_map, List.length_map, rdBs_len] at this
      omega)
    by_cases hlt : k < n
    · go_wp2_with fail
      refine (byt_rd M N b _ w2 HE.out.rd (Nat.le_trans hN HE.out.gr.size) (Nat.le_trans (rdBs_rest k s1) HRL.out)).mono ?_
      rintro e w3 ⟨v3, rfl, ho3, hr3, hg3⟩
      have H3 := hid_mk (And.intro ho3 (And.intro hr3 hg3))
      have HEQ3 := hid_mk (HE.out.eq.kept hg3 (fun r e => by cases e; exact HE.out.rd.tag))
      have HD := hid_mk (rdBs_at k n s1 hlt)
      have HS := hid_mk (rdBs_succ k s1)
      have HB3 : Hid ((readB (rdBs k s1).2).1.length ≤ 1048576) := hid_mk (readB_small2 _)
      obtain ⟨d, hd⟩ : ∃ d, d = (readB (rdBs k s1).2).1 := ⟨_, rfl⟩
      have HDD := hid_mk hd
      rw [← hd] at H3 HD HS HB3
      clear ho3 hr3 hg3 hd
      obtain ⟨a3, c3, rfl⟩ := H3.out.1.len
      go_wp2_with fail
      refine (getEntry_any _ d w3 H3.out.1.byt (by have := HB3.out; omega)).mono ?_
      rintro e w4 ⟨dv4, rfl, ho4, hg4⟩
      obtain ⟨a4, n4, c4, hdv⟩ : ∃ a4 n4 c4, dv4 = .slice a4 n4 c4 := by
        obtain ⟨a4, c4, e⟩ := ho4.len
        exact ⟨a4, _, c4, e⟩
      subst hdv
      have G24 := hid_mk (show w2.grownBy w4 (some b) from grown_trans H3.out.2.2 (grown_any hg4 _))
      have R4 := hid_mk (H3.out.2.1.kept hg4 (fun r e => by cases e))
      have Q4 := hid_mk (HEQ3.out.kept hg4 (fun r e => by cases e))
      have HB24 := hid_mk (show w.heap.size ≤ w3.heap.size from Nat.le_trans HE.out.gr.size H3.out.2.2.size)
      have O4 := hid_mk (ho4.base HB24.out)
      clear ho4 hg4 HEQ3
      cases hok : entOk d with
      | false =>
        have HN0 := hid_mk (show (rdBs n s1).1.all entOk = false by rw [List.all_eq_false]; exact ⟨d, List.mem_of_getElem? HD.out, by simp [hok]⟩)
        rw [(gEnt_bad hok).1, (gEnt_bad hok).2]
        clear hok
        go_wp2_with fail
        refine (sureE_no _ _ _ _ 21 w4 (by omega)).mono ?_
        rintro e w5 ⟨rfl, hg5⟩
        have G5 := hid_mk (grown_trans HE.out.gr (grown_trans G24.out (grown_any hg5 _)))
        clear hg5
        go_wp2_with fail
        refine ⟨rfl, G5.out, .inr ⟨?_, rfl⟩⟩
        rw [← HNS.out.1, ← HNS.out.2]
        exact HN0.out
      | true =>
        have HOK := hid_mk hok
        rw [(gEnt_ok hok).1] at O4
        rw [(gEnt_ok hok).1, (gEnt_ok hok).2]
        have HDL := hid_mk (rightE_len (entOk_get hok).1).2.2.2
        clear hok
        go_wp2_with fail
        refine (sureE_ok _ _ _ _ w4).mono ?_
        rintro e w5 ⟨rfl, hg5⟩
        have R5 := hid_mk (R4.out.kept hg5 (fun r e => by cases e))
        have Q5 := hid_mk (Q4.out.kept hg5 (fun r e => by cases e))
        have O5 := hid_mk (O4.out.kept hg5 (.inl rfl))
        have G5 := hid_mk (show w.grownBy w5 (some b) from grown_trans HE.out.gr (grown_trans G24.out (grown_any hg5 _)))
        have HCK := hid_mk (HC.out k (by omega) HE.out.ok)
        clear hg5 R4 Q4 O4
        unfold entV
        go_wp2_with (at_builtin; refine wp_ent Q5.out G5.out.size _ _ _ _ O5.out (by have := HDL.out; omega) k HKE.out HCK.out rfl (.tmp 8) (.tmp 15) rfl rfl rfl ?_; intro a6 c6 w6 P6)
        go_roundw
        case rel =>
          have hal := World.grownBy_alloc w5 (.cells #[.int .i64 (entR d).term, .int .i64 (entR d).index, .int .i64 (entR d).kind, .slice a4 n4 c4] 47) none
          have Q6 := Q5.out.kept hal (fun r e => by cases e)
          refine ⟨k + 1, a6, c6, by omega, by go_num, rfl, hid_mk ⟨_, P6.out.1, ?_, ?_, ?_, ?_⟩⟩
          · rw [HS.out, List.map_append, List.map_append, HE.out.map]
            rfl
          · rw [HS.out]
            intro y hy
            rcases List.mem_append.1 hy with hy | hy
            · exact HE.out.ok y hy
            · obtain rfl : y = d := by simpa using hy
              exact HOK.out
          · rw [HS.out]
            refine (R5.out.kept hal (fun r e => by cases e)).kept P6.out.2 (fun r e => .inr ?_)
            exact Nat.le_trans hN (own_low Q6.row r e).1
          · exact grown_own (grown_trans G5.out (grown_any hal _)) Q6.row (Nat.le_refl _) P6.out.2
        case measure => simp [intOf]; omega
    · have hkn : k = n := by omega
      subst hkn
      go_wp2_with fail
      go_ret
      refine ⟨HE.out.gr, .inl ⟨?_, a, k, c, es, rfl, HE.out.eq, ?_, ?_⟩⟩
      · rw [← HNS.out.1, ← HNS.out.2, List.all_eq_true]; exact HE.out.ok
      · rw [← HNS.out.1, ← HNS.out.2]; exact HE.out.map
      · rw [← HNS.out.1, ← HNS.out.2]; exact HE.out.rd

end Go.Proofs.YtliefofdlpljaaaDoor
