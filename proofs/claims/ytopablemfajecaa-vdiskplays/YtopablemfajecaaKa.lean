/- Lent, Stays. -/
import Derived.Test.YtopablemfajecaaKb
namespace Go.Proofs.Ytopablemfajecaa
open Go.RowKit Go.Maps Go.WideMaps Go.WideElems
set_option linter.unusedVariables false
set_option linter.unusedSimpArgs false
set_option maxRecDepth 100000

theorem row_up {w : World} {B B' : Nat} {e : TypeId} {size : Nat} {v : Value} {n : Nat} {xs : List Value} (h : w.ownsRow B e size v n xs) (hb : ∀ k, v.ownBlock = some k → B' ≤ k) : w.ownsRow B' e size v n xs := by
  refine ⟨h.1, ?_⟩
  rcases h.2 with h | ⟨g, cap, cur, rfl, _, r⟩
  · exact .inl h
  · exact .inr ⟨g, cap, cur, rfl, hb g rfl, r⟩
theorem row_cap {w : World} {B : Nat} {e : TypeId} {size : Nat} {a : Option Addr} {c : Nat} {n : Nat} {xs : List Value} (h : w.ownsRow B e size (.slice a n c) n xs) : n ≤ c := by
  rcases h.2 with ⟨_, rfl⟩ | ⟨g, cap, cur, e, _, _, hc, _⟩
  · exact Nat.zero_le _
  · injection e with _ _ e3
    omega
theorem u8_empty (w : World) : (w.alloc (.cells #[] 5)).ownsRow 0 5 1 (.slice (some ⟨w.heap.size, 0, none⟩) 0 0) 0 [] :=
  ⟨rfl, .inr ⟨w.heap.size, 0, #[], rfl, Nat.zero_le _, heap_alloc_new _ _, Nat.le_refl _, by unfold maxLen; omega, rfl, rfl⟩⟩
theorem marks_src (w : World) : SrcB (w.alloc (.cells #[.int .u8 201, .int .u8 202] 5)) (.slice (some ⟨w.heap.size, 0, none⟩) 2 2) [201, 202] := by
  refine .inr ⟨_, 2, rfl, fun j u hj => ?_⟩
  exact cell_two_new w (.int .u8 201) (.int .u8 202) 5 j u (by simpa [u8s] using hj)

set_option maxHeartbeats 2000000 in
theorem lent_any (v : Value) (l : List UInt8) (w : World) (h : SrcB w v l) (hl : l.length + 2 ≤ 140737488355328) :
    Calls Try.prog 29 #[v] w fun e w' => ∃ g cap, e = .returned (.slice (some ⟨g, 0, none⟩) l.length cap) ∧ w'.ownsRow w.heap.size 5 1 (.slice (some ⟨g, 0, none⟩) (l.length + 2) cap) (l.length + 2) (u8s (l ++ [201, 202])) ∧ w.grownBy w' none := by
  obtain ⟨av, capv, rfl⟩ := h.len
  obtain ⟨i0, hi, hz0, hz1, hz2⟩ := info_parts info5
  have HB := hid_mk h
  have HO := hid_mk (u8_empty w)
  have hsl := fun (a : Option Addr) (L cap k : Nat) (h2 : k ≤ cap) (w : World) => slice_bytes a L cap k h2 w
  clear h
  go_enter Try.func29, Try.ntmps29
  go_wp2_with (first
    | (at_builtin; refine wpList_append_src _ rfl (.tmp 4) (.tmp 5) 32 rfl i0 Try.underlying32 hi hz0 hz1 hz2 (.slice (some ⟨w.heap.size, 0, none⟩) 0 0) 0 [] rfl HO.out l (.slice av l.length capv) rfl (HB.out.kept_none (World.grownBy_alloc _ _ none)) (by omega) ?_; intro a1 c1 w1 o1 g1 l1; have O1 := hid_mk (And.intro o1 (And.intro g1 l1)); clear o1 g1 l1; rw [show 0 + l.length = l.length by omega] at O1)
    | (at_builtin; refine wpList_append_src _ rfl (.tmp 7) (.tmp 8) 32 rfl i0 Try.underlying32 hi hz0 hz1 hz2 (.slice a1 l.length c1) l.length _ rfl (O1.out.1.alloc _) [201, 202] _ rfl (marks_src w1) hl ?_; intro a2 c2 w2 o2 g2 l2; have O2 := hid_mk (And.intro o2 (And.intro g2 l2)); clear o2 g2 l2; rw [show l.length + [(201 : UInt8), 202].length = l.length + 2 from rfl] at O2; have hc2 := row_cap O2.out.1; have hc2' : l.length ≤ c2 := by omega))
  go_ret
  have hs0 : (w.alloc (.cells #[] 5)).heap.size = w.heap.size + 1 := by simp
  have G1 : w.grownBy w1 none := grown_new (World.grownBy_alloc w (.cells #[] 5) none) O1.out.2.1 (Nat.le_refl _)
  have R1 : w1.ownsRow w.heap.size 5 1 (.slice a1 l.length c1) l.length (u8s l) := row_up (by simpa using O1.out.1) (fun k hk => by
    rcases O1.out.2.2 with e | e
    · rw [e] at hk; cases hk; exact Nat.le_refl _
    · rw [e, hs0] at hk; cases hk; omega)
  have G2 : w.grownBy w2 none := grown_row (grown_trans G1 (World.grownBy_alloc w1 (.cells #[.int .u8 201, .int .u8 202] 5) none)) (R1.alloc (.cells #[.int .u8 201, .int .u8 202] 5)) O2.out.2.1
  have R2 : w2.ownsRow w.heap.size 5 1 (.slice a2 (l.length + 2) c2) (l.length + 2) (u8s (l ++ [201, 202])) := row_up (by
    have := O2.out.1
    rw [u8s_append]
    simpa using this) (fun k hk => by
    rcases O2.out.2.2 with e | e
    · rw [e] at hk; exact row_low R1 hk
    · rw [e] at hk
      cases hk
      exact (grown_trans G1 (World.grownBy_alloc w1 (.cells #[.int .u8 201, .int .u8 202] 5) none)).size)
  rcases R2.2 with ⟨_, h0⟩ | ⟨g, cap, cur, e, _⟩
  · omega
  · injection e with e1 e2 e3
    subst e1
    exact ⟨g, c2, rfl, R2, G2⟩

theorem lent_src {w : World} {B g cap : Nat} {l : List UInt8} (h : w.ownsRow B 5 1 (.slice (some ⟨g, 0, none⟩) (l.length + 2) cap) (l.length + 2) (u8s (l ++ [201, 202]))) : SrcB w (.slice (some ⟨g, 0, none⟩) l.length cap) l ∧ w.cell? ⟨g, l.length, none⟩ = some (.int .u8 201) ∧ w.cell? ⟨g, l.length + 1, none⟩ = some (.int .u8 202) ∧ l.length + 2 ≤ cap := by
  have hc : ∀ j, j < l.length + 2 → w.cell? ⟨g, j, none⟩ = (u8s (l ++ [201, 202]))[j]? := fun j hj => World.ownsRow.cellAt h j (by omega)
  have hll : (u8s l).length = l.length := by simp [u8s]
  refine ⟨.inr ⟨_, cap, rfl, fun j u hj => ?_⟩, ?_, ?_, row_cap h⟩
  · have hjl : j < l.length := by rw [← hll]; exact (List.getElem?_eq_some_iff.1 hj).1
    have hadd : ((⟨g, 0, none⟩ : Addr).add j) = ⟨g, j, none⟩ := by unfold Addr.add; split <;> simp_all
    rw [hadd, hc j (by omega), u8s_append, List.getElem?_append_left (by omega)]
    exact hj
  · rw [hc _ (by omega), u8s_append, List.getElem?_append_right (by omega), hll]
    simp [u8s]
  · rw [hc _ (by omega), u8s_append, List.getElem?_append_right (by omega), hll, show l.length + 1 - l.length = 1 by omega]
    simp [u8s]

set_option maxHeartbeats 2000000 in
theorem stays_any (B g cap : Nat) (l : List UInt8) (v : Value) (w : World) (h : w.ownsRow B 5 1 (.slice (some ⟨g, 0, none⟩) (l.length + 2) cap) (l.length + 2) (u8s (l ++ [201, 202]))) (hv : SrcB w v l) (hl : l.length + 2 ≤ 140737488355328) :
    Calls Try.prog 38 #[.slice (some ⟨g, 0, none⟩) l.length cap, v] w fun e w' => e = .returned (.bool true) ∧ w.grownBy w' none := by
  obtain ⟨hb, c1, c2, hcap⟩ := lent_src h
  obtain ⟨av, capv, rfl⟩ := hv.len
  have t1 := fun m => SrcB.text (hb.kept_none (grown_drewN w m none))
  have t2 := fun m => SrcB.text (hv.kept_none (grown_drewN w m none))
  have t1' := SrcB.text hb
  have t2' := SrcB.text hv
  clear h hb hv
  generalize l.length = n at *
  go_enter Try.func38, Try.ntmps38
  go_wp2_with fail
  go_quiet (fail)
  go_wp2
  go_ret
  exact ⟨rfl, grown_drewN _ _ none⟩

end Go.Proofs.Ytopablemfajecaa

/- Disks beside one another: what one does leaves the other. -/
namespace Go.Proofs.Ytopablemfajecaa
open Go.RowKit Go.Maps Go.WideMaps Go.WideElems
set_option linter.unusedVariables false
set_option linter.unusedSimpArgs false
set_option maxRecDepth 100000

theorem Blk.keeps {w w' : World} {F : Nat → Prop} {k : Nat} {cs : Array Value} {u : TypeId} (h : Blk w k cs u) (hk : Keeps F w w') (hn : ¬ F k) : Blk w' k cs u := (hk.block k h.lt hn).trans h
theorem rows_keeps {w w' : World} {F : Nat → Prop} {B n sz : Nat} {e : TypeId} {v : Value} {xs : List Value} (h : w.ownsRow B e sz v n xs) (hk : Keeps F w w') (hF : ∀ k, v.ownBlock = some k → ¬ F k) : w'.ownsRow B e sz v n xs := by
  refine ⟨h.1, ?_⟩
  rcases h.2 with h | ⟨g, cap, cur, rfl, hB, hg, r⟩
  · exact .inl h
  · exact .inr ⟨g, cap, cur, rfl, hB, (hk.block g (Array.getElem?_eq_some_iff.1 hg).1 (hF g rfl)).trans hg, r⟩
theorem IsDir.keeps {w w' : World} {F : Nat → Prop} {bm n : Nat} {D : DataW Unit} (h : IsDir w bm n D) (hk : Keeps F w w') (hn : ¬ F bm) : IsDir w' bm n D := by
  obtain ⟨es, clock, hb, r⟩ := h
  exact ⟨es, clock, (hk.block bm (Array.getElem?_eq_some_iff.1 hb).1 hn).trans hb, r⟩
theorem IsRef.keeps {w w' : World} {F G : Nat → Prop} {N b : Nat} {r : RMem} (h : IsRef w G N b r) (hk : Keeps F w w') (hF : ∀ k, G k → ¬ F k) : IsRef w' G N b r :=
  { h with
    dsk := Blk.keeps h.dsk hk (hF _ h.fB)
    files := rows_keeps h.files hk (fun k e => hF _ (h.fF k e))
    byts := fun f hf => ⟨rows_keeps (h.byts f hf).1 hk (fun k e => hF _ ((h.byts f hf).2.1 k e)), (h.byts f hf).2⟩
    dir := rows_keeps h.dir hk (fun k e => hF _ (h.dF k e))
    sure := rows_keeps h.sure hk (fun k e => hF _ (h.sF k e))
    chs := rows_keeps h.chs hk (fun k e => hF _ (h.cF k e)) }
theorem ChgAt.keeps {w w' : World} {F G : Nat → Prop} {v : Value} {c : Chg} (h : ChgAt w G v c) (hk : Keeps F w w') (hF : ∀ k, G k → ¬ F k) : ChgAt w' G v c := by
  rcases h with ⟨h0, x, y, hv, hx, hy, fx, fy, r⟩ | ⟨h0, x, y, z, hv, hx, hy, hz, fx, fy, fz, r⟩ | ⟨h0, x, hv, hx, fx, r⟩
  · exact .inl ⟨h0, x, y, hv, hx.keeps hk (hF _ fx), hy.keeps hk (hF _ fy), fx, fy, r⟩
  · exact .inr (.inl ⟨h0, x, y, z, hv, hx.keeps hk (hF _ fx), hy.keeps hk (hF _ fy), hz.keeps hk (hF _ fz), fx, fy, fz, r⟩)
  · exact .inr (.inr ⟨h0, x, hv, hx.keeps hk (hF _ fx), fx, r⟩)
theorem IsDisk.keeps {w w' : World} {F G : Nat → Prop} {N b : Nat} {m : Mem} (h : IsDisk w G N b m) (hk : Keeps F w w') (hF : ∀ k, G k → ¬ F k) : IsDisk w' G N b m := by
  have hr := h.rest
  refine ⟨Blk.keeps h.dsk hk (hF _ h.fB), h.fB, { hr with
    names := hr.names.keeps hk (hF _ hr.fN)
    synced := hr.synced.keeps hk (hF _ hr.fS)
    file := fun f x hx => by
      obtain ⟨h1, h2, h3, h4, h5⟩ := hr.file f x hx
      exact ⟨h1, h2.keeps hk (hF _ h1), rows_keeps h3 hk (fun k e => hF _ (h4 k e)), h4, h5⟩
    row := rows_keeps hr.row hk (fun k e => hF _ (hr.rowF k e))
    chg := fun c hc => (hr.chg c hc).keeps hk hF }⟩
theorem IsRef.bound {w : World} {F : Nat → Prop} {N b : Nat} {r : RMem} (h : IsRef w F N b r) : IsRef w (fun k => F k ∧ k < w.heap.size) N b r :=
  { h with
    fB := ⟨h.fB, Blk.lt h.dsk⟩
    fF := fun k hk => ⟨h.fF k hk, row_lt h.files hk⟩
    byts := fun f hf => ⟨(h.byts f hf).1, fun k hk => ⟨(h.byts f hf).2.1 k hk, row_lt (h.byts f hf).1 hk⟩, (h.byts f hf).2.2⟩
    dF := fun k hk => ⟨h.dF k hk, row_lt h.dir hk⟩
    sF := fun k hk => ⟨h.sF k hk, row_lt h.sure hk⟩
    cF := fun k hk => ⟨h.cF k hk, row_lt h.chs hk⟩ }

/-- Two disks, the code's and the document's, that stand for the same. -/
structure Both (w : World) (F G : Nat → Prop) (N b c : Nat) (φ : List Nat) (m : Mem) (r : RMem) : Prop where
  disk : IsDisk w F N b m
  ref : IsRef w G N c r
  rel : Rel φ m r
  apart : ∀ k, F k → ¬ G k
  lowF : ∀ k, F k → k < w.heap.size
  lowG : ∀ k, G k → k < w.heap.size
theorem Both.none {w w' : World} {F G : Nat → Prop} {N b c : Nat} {φ : List Nat} {m : Mem} {r : RMem} (h : Both w F G N b c φ m r) (hg : w.grownBy w' none) : Both w' F G N b c φ m r :=
  ⟨h.disk.kept_none hg, h.ref.kept_none hg, h.rel, h.apart, fun k hk => Nat.lt_of_lt_of_le (h.lowF k hk) hg.size, fun k hk => Nat.lt_of_lt_of_le (h.lowG k hk) hg.size⟩
theorem Both.keeps {w w' : World} {E F G : Nat → Prop} {N b c : Nat} {φ : List Nat} {m : Mem} {r : RMem} (h : Both w F G N b c φ m r) (hk : Keeps E w w') (hE : ∀ k, E k → ¬ F k ∧ ¬ G k) : Both w' F G N b c φ m r :=
  ⟨h.disk.keeps hk (fun k hF he => (hE k he).1 hF), h.ref.keeps hk (fun k hG he => (hE k he).2 hG), h.rel, h.apart, fun k hk' => Nat.lt_of_lt_of_le (h.lowF k hk') hk.size, fun k hk' => Nat.lt_of_lt_of_le (h.lowG k hk') hk.size⟩
/-- What a call leaves: two disks that stand for the same; their blocks are the elder ones, or new. -/
def After (w : World) (F G : Nat → Prop) (N b c : Nat) (w' : World) : Prop :=
  ∃ F' G' φ m r, Both w' F' G' N b c φ m r ∧ (∀ k, F' k → F k ∨ w.heap.size ≤ k) ∧ (∀ k, G' k → G k ∨ w.heap.size ≤ k) ∧ Keeps (fun k => F k ∨ G k) w w'
/-- A call on the code's disk, then one on the document's. -/
theorem Both.after {w w1 w2 : World} {F G : Nat → Prop} {N b c : Nat} {φ φ' : List Nat} {m m' : Mem} {r r' : RMem} (h : Both w F G N b c φ m r) (h1 : IsDisk w1 (fun k => F k ∨ w.heap.size ≤ k) (N + 1) b m') (k1 : Keeps F w w1) (h2 : IsRef w2 (fun k => G k ∨ w1.heap.size ≤ k) (N + 1) c r') (k2 : Keeps G w1 w2) (hr : Rel φ' m' r') : After w F G (N + 1) b c w2 := by
  have d1 := h1.bound
  have r2 := h2.bound
  have d2 : IsDisk w2 (fun k => (F k ∨ w.heap.size ≤ k) ∧ k < w1.heap.size) (N + 1) b m' := d1.keeps k2 (fun k hk hG => by
    rcases hk.1 with hF | hn
    · exact h.apart k hF hG
    · have := h.lowG k hG
      omega)
  refine ⟨_, _, φ', m', r', ⟨d2, r2, hr, fun k hk hk' => ?_, fun k hk => Nat.lt_of_lt_of_le hk.2 k2.size, fun k hk => hk.2⟩, fun k hk => hk.1, fun k hk => ?_, ?_⟩
  · rcases hk'.1 with hG | hn
    · rcases hk.1 with hF | hn
      · exact h.apart k hF hG
      · have := h.lowG k hG
        omega
    · have := hk.2
      omega
  · rcases hk.1 with hG | hn
    · exact .inl hG
    · exact .inr (Nat.le_trans k1.size hn)
  · exact (k1.mono (fun k hk => .inl hk)).then (k2.mono (fun k hk => .inr hk))

end Go.Proofs.Ytopablemfajecaa

/- A copy of numbers that came in. -/
namespace Go.Proofs.Ytopablemfajecaa
open Go.RowKit Go.Maps Go.WideMaps Go.WideElems
set_option linter.unusedVariables false
set_option linter.unusedSimpArgs false
set_option maxRecDepth 100000

def i64s (l : List Int) : List Value := l.map fun z => .int .i64 z
theorem info3 : (Try.prog.info? 3).map (fun i => (i.zero, i.size, i.bytes)) = some (some (.int .i64 0), 1, 8) := by kernel_rfl
theorem i64_empty (w : World) : (w.alloc (.cells #[] 3)).ownsRow 0 3 1 (.slice (some ⟨w.heap.size, 0, none⟩) 0 0) 0 [] :=
  ⟨rfl, .inr ⟨w.heap.size, 0, #[], rfl, Nat.zero_le _, heap_alloc_new _ _, Nat.le_refl _, by unfold maxLen; omega, rfl, rfl⟩⟩
/-- append of numbers that can be read onto numbers of one's own. -/
theorem wpList_append_ints (w : World) {ops : Array Oper} {rest : List Oper} {o : Oper} {a : Act} {Q : Exit → Act → World → Prop} (hgd : o.guard = none) (s x : Operand)
    (ho : o.op = .call { callee := .builtin .append, args := #[s, x], argTypes := #[33, 33] })
    (v : Value) (n : Nat) (xs : List Value) (hs : a.eval s = v) (hown : w.ownsRow 0 3 1 v n xs) (l : List Int) (av : Option Addr) (len cap : Nat) (hx : a.eval x = .slice av len cap) (hz : av = none → cap = 0) (hsrc : SrcI w (.slice av len cap) l) (hb : (n + l.length) * 8 ≤ 140737488355328)
    (h : ∀ a' cap' w', w'.ownsRow 0 3 1 (.slice a' (n + l.length) cap') (n + l.length) (xs ++ i64s l) → w.grownBy w' v.ownBlock → ((Value.slice a' (n + l.length) cap').ownBlock = v.ownBlock ∨ (Value.slice a' (n + l.length) cap').ownBlock = some w.heap.size) → wpList Try.prog ops Q rest (a.put o.dst (.slice a' (n + l.length) cap')) w') :
    wpList Try.prog ops Q (o :: rest) a w := by
  obtain ⟨i, hi, hz0, hsize, hby⟩ := info_parts info3
  have go : ∀ ad c, a.eval x = .slice (some ad) l.length c → (∀ j u, (i64s l)[j]? = some u → w.cell? (ad.add j) = some u) → wpList Try.prog ops Q (o :: rest) a w := fun ad c hx' hc => by
    refine wpList_append_own_at (P := Try.prog) w hgd s x 33 ho 0 3 i (.int .i64 0) 1 8 Try.underlying33 hi hz0 hsize hby rfl (by decide) v n xs hs hown ad l.length c (i64s l) hx' (by simp [i64s]) hc (fun u hu => ?_) (by unfold maxLen; omega) hb (Nat.zero_le _) ?_
    · obtain ⟨z, _, rfl⟩ := List.mem_map.1 hu
      rfl
    · intro v' w' h1 h2 _ h4
      obtain ⟨a1, c1, rfl⟩ := rows_shape h1
      exact h a1 c1 w' h1 h2 h4
  obtain ⟨_, _, ⟨⟨a0, c0, e⟩, rfl⟩ | ⟨g, off, cap', e, hc⟩⟩ := hsrc
  · injection e with e1 e2 e3
    subst e2
    cases av with
    | none =>
      obtain rfl := hz rfl
      refine wpList_plain hgd fun K hK' => ?_
      have hrun := run_append_owned_none (P := Try.prog) w 0 33 o.type 3 i 1 Try.underlying33 hi v n xs hown
      obtain ⟨a1, c1, rfl⟩ := rows_shape hown
      unfold Oper.wp
      simp [execOp, ho, resolve, invoke, builtin, hs, hx, hrun, Result.andThen]
      exact hK' _ _ (by simpa using h a1 c1 w (by simpa [i64s] using hown) (grown_refl _ _) (.inl rfl))
    | some ad => exact go ad cap hx (fun j u hj => by simp [i64s] at hj)
  · injection e with e1 e2 e3
    subst e1
    subst e2
    refine go _ cap hx (fun j u hj => ?_)
    simp only [i64s, List.getElem?_map, Option.map_eq_some_iff] at hj
    obtain ⟨z, hz', rfl⟩ := hj
    have := hc j z hz'
    rw [← this]
    congr 1
    unfold Addr.add; split <;> simp_all
/-- Numbers of one's own can be read. -/
theorem row_ints {w : World} {B : Nat} {v : Value} {l : List Int} (h : w.ownsRow B 3 1 v l.length (i64s l)) (hr : ∀ z ∈ l, -9223372036854775808 ≤ z ∧ z ≤ 9223372036854775807) (hl : l.length ≤ 9223372036854775807) : SrcI w v l := by
  refine ⟨hr, hl, ?_⟩
  rcases h.2 with ⟨rfl, h0⟩ | ⟨g, cap, cur, rfl, _⟩
  · exact .inl ⟨⟨none, 0, rfl⟩, List.length_eq_zero_iff.1 h0⟩
  · refine .inr ⟨g, 0, cap, rfl, fun j z hj => ?_⟩
    have hjl := (List.getElem?_eq_some_iff.1 hj).1
    rw [Nat.zero_add, World.ownsRow.cellAt h j (by omega)]
    simp [i64s, hj]

end Go.Proofs.Ytopablemfajecaa

/- What stands behind a call: reads of both disks, memory that is written over. -/
namespace Go.Proofs.Ytopablemfajecaa
open Go.RowKit Go.Maps Go.WideMaps Go.WideElems
set_option linter.unusedVariables false
set_option linter.unusedSimpArgs false
set_option maxRecDepth 100000

def ReadSpec (s : ByteArray) (m : Mem) (n : Int) (dat : List UInt8) : Prop :=
  (rightB s = false ∧ n = 1 ∧ dat = []) ∨ (rightB s = true ∧ fileAt m.names (key s) = none ∧ n = 3 ∧ dat = []) ∨
  (rightB s = true ∧ ∃ f x, fileAt m.names (key s) = some f ∧ m.files f = some x ∧ n = 0 ∧ dat = x.data)
theorem read_any (N b : Nat) (F : Nat → Prop) (m : Mem) (s : ByteArray) (w : World) (h : IsDisk w F N b m) (hs : s.size ≤ maxLen) :
    Calls Try.prog 14 #[.pointer (some ⟨b, 0, none⟩), .string s] w fun e w' => ∃ v n dat, e = .returned (.tuple #[v, .int .i64 n]) ∧ ReadSpec s m n dat ∧ w'.ownsRow w.heap.size 5 1 v dat.length (u8s dat) ∧ w.grownBy w' none ∧ dat.length ≤ 1048576 := by
  cases hr : rightB s with
  | false => exact (read_bad N b F m s w h hs hr).mono (fun e w' ⟨he, hw⟩ => ⟨_, _, [], he, .inl ⟨hr, rfl, rfl⟩, ⟨rfl, .inl ⟨rfl, rfl⟩⟩, hw ▸ grown_refl _ _, by simp⟩)
  | true =>
    cases hf : fileAt m.names (key s) with
    | none => exact (read_none N b F m s w h hs hr hf).mono (fun e w' ⟨he, hw⟩ => ⟨_, _, [], he, .inr (.inl ⟨hr, hf, rfl, rfl⟩), ⟨rfl, .inl ⟨rfl, rfl⟩⟩, hw ▸ grown_refl _ _, by simp⟩)
    | some f =>
      obtain ⟨x, hx⟩ := h.rest.gN.at hf
      exact (read_ok N b F m s f x w h hs hr hf hx).mono (fun e w' ⟨v, he, hrow, hg⟩ => ⟨_, _, x.data, he, .inr (.inr ⟨hr, f, x, hf, hx, rfl, rfl⟩), hrow, hg, (h.rest.file f x hx).2.2.2.2.2⟩)
theorem sim_read {w : World} {G : Nat → Prop} {N c : Nat} {φ : List Nat} {m : Mem} {r : RMem} {s : ByteArray} {n n' : Int} {dat : List UInt8} {v : Value} (h : Rel φ m r) (hi : IsRef w G N c r) (hm : ReadSpec s m n dat) (hr : RReadSpec s r v n') : n = n' ∧ SrcB w v dat := by
  rcases hm with ⟨h0, rfl, rfl⟩ | ⟨h0, hf, rfl, rfl⟩ | ⟨h0, f, x, hf, hx, rfl, rfl⟩ <;> rcases hr with ⟨g0, rfl, rfl⟩ | ⟨g0, gn, rfl, rfl⟩ | ⟨g0, k, p, y, hp, he, hy, rfl, rfl⟩
  · exact ⟨rfl, row_src (B := 0) ⟨rfl, .inl ⟨rfl, rfl⟩⟩⟩
  · rw [h0] at g0; cases g0
  · rw [h0] at g0; cases g0
  · rw [h0] at g0; cases g0
  · exact ⟨rfl, row_src (B := 0) ⟨rfl, .inl ⟨rfl, rfl⟩⟩⟩
  · rw [(h.some hp he).1] at hf; cases hf
  · rw [h0] at g0; cases g0
  · rw [h.none gn] at hf; cases hf
  · obtain ⟨e1, hlt⟩ := h.some hp he
    rw [e1] at hf
    obtain rfl := Option.some.inj hf
    obtain ⟨x', y', h1, h2, h3, _⟩ := h.file p.2 hlt
    rw [hx] at h1
    rw [hy] at h2
    obtain rfl := Option.some.inj h1
    obtain rfl := Option.some.inj h2
    rw [h3]
    exact ⟨rfl, row_src (hi.byts y (List.mem_of_getElem? hy)).1⟩

theorem row_none {w w' : World} {B n sz : Nat} {e : TypeId} {v : Value} {xs : List Value} (h : w.ownsRow B e sz v n xs) (hg : w.grownBy w' none) : w'.ownsRow B e sz v n xs := rows_keeps h (Keeps.of_none (F := fun _ => False) hg) (fun _ _ h => h)
theorem row_le {w : World} {B n sz : Nat} {e : TypeId} {v : Value} {xs : List Value} (h : w.ownsRow B e sz v n xs) : n ≤ maxLen := by
  rcases h.2 with ⟨_, h0⟩ | ⟨g, cap, cur, _, _, _, h1, h2, _⟩
  · omega
  · omega
/-- Cells of one's own, each a byte. -/
def RawB (W : World) (B : Nat) (v : Value) (n : Nat) : Prop :=
  ∃ a c, v = .slice a n c ∧ (n = 0 ∨ ∃ g cur, a = some ⟨g, 0, none⟩ ∧ B ≤ g ∧ W.heap[g]? = some (.cells cur 5 (0, 0)) ∧ ∀ j, j < n → ∃ x, cur[j]? = some (.int .u8 x))
theorem RawB.of {W : World} {B : Nat} {v : Value} {n : Nat} {l : List UInt8} (h : W.ownsRow B 5 1 v n (u8s l)) : RawB W B v n := by
  rcases h.2 with ⟨rfl, h0⟩ | ⟨g, cap, cur, rfl, hb, hg, h1, h2, h3, h4⟩
  · exact ⟨_, _, by rw [h0], .inl h0⟩
  · refine ⟨_, _, rfl, .inr ⟨g, cur, rfl, hb, hg, fun j hj => ?_⟩⟩
    have hl : j < (u8s l).length := by rw [h.1]; omega
    obtain ⟨u, hu⟩ : ∃ u, (u8s l)[j]? = some u := ⟨(u8s l)[j], by simp⟩
    have hx := hu
    rw [← h4, List.getElem?_take, if_pos (by omega)] at hx
    simp only [u8s, List.getElem?_map, Option.map_eq_some_iff] at hu
    obtain ⟨c, _, rfl⟩ := hu
    exact ⟨_, by simpa using hx⟩
theorem RawB.base {W : World} {B B' : Nat} {v : Value} {n : Nat} (h : RawB W B v n) (hB : B' ≤ B) : RawB W B' v n := by
  obtain ⟨a, c, rfl, h⟩ := h
  exact ⟨a, c, rfl, h.imp id (fun ⟨g, cur, e, hb, r⟩ => ⟨g, cur, e, Nat.le_trans hB hb, r⟩)⟩
theorem RawB.less {W : World} {B : Nat} {a : Option Addr} {n k c : Nat} (h : RawB W B (.slice a n c) n) (hk : k ≤ n) : RawB W B (.slice a k c) k := by
  obtain ⟨a', c', e, h⟩ := h
  injection e with e1 e2 e3
  subst e1
  subst e3
  rcases h with h | ⟨g, cur, rfl, hb, hh, hc⟩
  · exact ⟨_, _, rfl, .inl (by omega)⟩
  · exact ⟨_, _, rfl, .inr ⟨g, cur, rfl, hb, hh, fun j hj => hc j (by omega)⟩⟩
theorem RawB.keeps {W W' : World} {B : Nat} {v : Value} {n : Nat} {F : Nat → Prop} (h : RawB W B v n) (hk : Keeps F W W') (hF : ∀ k, v.ownBlock = some k → ¬ F k) : RawB W' B v n := by
  obtain ⟨a, c, rfl, h⟩ := h
  rcases h with h | ⟨g, cur, rfl, hb, hh, hc⟩
  · exact ⟨a, c, rfl, .inl h⟩
  · exact ⟨_, c, rfl, .inr ⟨g, cur, rfl, hb, (hk.block g (Array.getElem?_eq_some_iff.1 hh).1 (hF g rfl)).trans hh, hc⟩⟩
theorem RawB.at {W : World} {B : Nat} {v : Value} {n : Nat} (h : RawB W B v n) (hn : 0 < n) : ∃ g cur c, v = .slice (some ⟨g, 0, none⟩) n c ∧ B ≤ g ∧ W.heap[g]? = some (.cells cur 5 (0, 0)) ∧ (∀ i, W.frozen? ⟨g, i, none⟩ = false) ∧ ∀ j, j < n → ∃ x, W.cell? ⟨g, j, none⟩ = some (.int .u8 x) := by
  obtain ⟨a, c0, rfl, h⟩ := h
  rcases h with h | ⟨g, cur, rfl, hlo, hh, hc⟩
  · omega
  · refine ⟨g, cur, c0, rfl, hlo, hh, fun i => by simp [World.frozen?, hh], fun j hj => ?_⟩
    obtain ⟨x, h1⟩ := hc j hj
    exact ⟨x, by rw [cell_of_row _ _ _ _ _ _ hh]; exact h1⟩
theorem RawB.set {W : World} {B : Nat} {v : Value} {n g i : Nat} {x : Int} (h : RawB W B v n) (hv : ∀ k, v.ownBlock = some k → k = g) : RawB (W.setCell ⟨g, i, none⟩ (.int .u8 x)) B v n := by
  obtain ⟨a, c0, rfl, h⟩ := h
  rcases h with h | ⟨k, cur, rfl, hlo, hh, hc⟩
  · exact ⟨a, c0, rfl, .inl h⟩
  · obtain rfl := hv k rfl
    refine ⟨_, c0, rfl, .inr ⟨k, cur.setIfInBounds i (.int .u8 x), rfl, hlo, by simp [World.setCell, Array.getElem?_modify, hh], fun j hj => ?_⟩⟩
    obtain ⟨u0, h1⟩ := hc j hj
    by_cases hji : i = j
    · subst hji
      exact ⟨x, by rw [Array.getElem?_setIfInBounds_self_of_lt (Array.getElem?_eq_some_iff.1 h1).1]⟩
    · exact ⟨u0, by rw [Array.getElem?_setIfInBounds_ne hji]; exact h1⟩

/-- Where a step stands behind its call: both disks, and what of memory is elder. -/
structure Mid (w W : World) (F G : Nat → Prop) (N b c : Nat) (F' G' : Nat → Prop) (φ : List Nat) (m : Mem) (r : RMem) : Prop where
  both : Both W F' G' N b c φ m r
  fF : ∀ k, F' k → F k ∨ w.heap.size ≤ k
  fG : ∀ k, G' k → G k ∨ w.heap.size ≤ k
  keeps : Keeps (fun k => F k ∨ G k) w W
theorem Mid.quiet {w W W' : World} {F G : Nat → Prop} {N b c : Nat} {F' G' : Nat → Prop} {φ : List Nat} {m : Mem} {r : RMem} (h : Mid w W F G N b c F' G' φ m r) (hg : W.grownBy W' none) : Mid w W' F G N b c F' G' φ m r :=
  ⟨h.both.none hg, h.fF, h.fG, h.keeps.then (Keeps.of_none hg)⟩
theorem Mid.set {w W : World} {F G : Nat → Prop} {N b c : Nat} {F' G' : Nat → Prop} {φ : List Nat} {m : Mem} {r : RMem} (h : Mid w W F G N b c F' G' φ m r) (g i : Nat) (u : Value) (hF : ¬ F' g) (hG : ¬ G' g) (hlo : w.heap.size ≤ g) : Mid w (W.setCell ⟨g, i, none⟩ u) F G N b c F' G' φ m r :=
  ⟨h.both.keeps (E := fun k => k = g) (Keeps.one (grown_setCell W g i u) rfl) (fun k e => by subst e; exact ⟨hF, hG⟩), h.fF, h.fG, h.keeps.trans (Keeps.one (F := fun k => k = g) (grown_setCell W g i u) rfl) (fun k hk _ e => by omega)⟩
theorem Mid.after {w W : World} {F G : Nat → Prop} {N b c : Nat} {F' G' : Nat → Prop} {φ : List Nat} {m : Mem} {r : RMem} (h : Mid w W F G N b c F' G' φ m r) : After w F G N b c W := ⟨F', G', φ, m, r, h.both, h.fF, h.fG, h.keeps⟩

end Go.Proofs.Ytopablemfajecaa
