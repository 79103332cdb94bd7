/- A view: whether entries go on, its end; Values, each. -/
import Derived.Test.YtcijjepleedecaaEnC
namespace Go.Proofs.Ytcijjepleedecaa.W
open Go.RowKit Go.Maps
set_option linter.unusedVariables false
set_option linter.unusedSimpArgs false
set_option maxRecDepth 100000
attribute [local go_sem] Oper.semAt_some

/-- Are they entries that may be, with indexes that go on by one, and terms that don't fall? -/
def goB (i t : Int) : List Ent → Bool
  | [] => true
  | x :: r => rightE x && decide (x.index = i + 1) && decide (t ≤ x.term) && goB x.index x.term r
def rightV (b t : Int) (es : List Ent) : Bool := decide (0 ≤ b ∧ b ≤ 549755813888 ∧ 0 ≤ t ∧ t < 1099511627776 ∧ es.length ≤ 4096) && goB b t es
def endI (b : Int) (es : List Ent) : Int := match es.getLast? with | none => b | some x => x.index
def endT (t : Int) (es : List Ent) : Int := match es.getLast? with | none => t | some x => x.term
theorem rightE_span {x : Ent} (h : rightE x = true) : 1 ≤ x.term ∧ x.term < 1099511627776 ∧ 1 ≤ x.index ∧ x.index < 1099511627776 := by
  by_cases hc : 1 ≤ x.term ∧ x.term < 1099511627776 ∧ 1 ≤ x.index ∧ x.index < 1099511627776
  · exact hc
  · rw [rightE_out hc] at h; cases h
theorem goB_cons {i t : Int} {x : Ent} {r : List Ent} (h : goB i t (x :: r) = true) : rightE x = true ∧ x.index = i + 1 ∧ t ≤ x.term ∧ goB x.index x.term r = true := by
  unfold goB at h
  simp only [Bool.and_eq_true, decide_eq_true_eq] at h
  exact ⟨h.1.1.1, h.1.1.2, h.1.2, h.2⟩
theorem goB_at : ∀ (es : List Ent) {i t : Int} (h : goB i t es = true) (k : Nat) (x : Ent), es[k]? = some x → x.index = i + 1 + k ∧ t ≤ x.term ∧ rightE x = true
  | [], i, t, h, k, x, hx => by simp at hx
  | y :: r, i, t, h, k, x, hx => by
    obtain ⟨h1, h2, h3, h4⟩ := goB_cons h
    match k, hx with
    | 0, hx => simp at hx; subst hx; exact ⟨by omega, h3, h1⟩
    | k + 1, hx =>
      obtain ⟨a, b, c⟩ := goB_at r h4 k x (by simpa using hx)
      exact ⟨by omega, by omega, c⟩
theorem endI_of {b t : Int} {es : List Ent} (h : goB b t es = true) : endI b es = b + es.length := by
  unfold endI
  cases hl : es.getLast? with
  | none => rw [List.getLast?_eq_none_iff.1 hl]; simp
  | some x =>
    rw [List.getLast?_eq_getElem?] at hl
    obtain ⟨h1, _, _⟩ := goB_at es h _ x hl
    have := (List.getElem?_eq_some_iff.1 hl).1
    simp only
    omega
theorem rightV_spec {b t : Int} {es : List Ent} (h : rightV b t es = true) : 0 ≤ b ∧ b ≤ 549755813888 ∧ 0 ≤ t ∧ t < 1099511627776 ∧ es.length ≤ 4096 ∧ goB b t es = true := by
  unfold rightV at h
  simp only [Bool.and_eq_true, decide_eq_true_eq] at h
  exact ⟨h.1.1, h.1.2.1, h.1.2.2.1, h.1.2.2.2.1, h.1.2.2.2.2, h.2⟩
def viewV (b t : Int) (lv : Value) : Value := .agg #[.int .i64 b, .int .i64 t, lv]
/-- A view in a block. -/
def VB (W : World) (g : Nat) (b t : Int) (lv : Value) : Prop := W.heap[g]? = some (.cells #[.int .i64 b, .int .i64 t, lv] 26 (0, 0))
theorem VB.kept {W W' : World} {g : Nat} {b t : Int} {lv : Value} {row : Option Nat} (h : VB W g b t lv) (hg : W.grownBy W' row) (hr : some g ≠ row) : VB W' g b t lv := (hg.block g (Array.getElem?_eq_some_iff.1 h).1 hr).trans h
theorem VB.lt {W : World} {g : Nat} {b t : Int} {lv : Value} (h : VB W g b t lv) : g < W.heap.size := (Array.getElem?_eq_some_iff.1 h).1
theorem VB.cells {W : World} {g : Nat} {b t : Int} {lv : Value} (h : VB W g b t lv) : W.cell? ⟨g, 0, none⟩ = some (.int .i64 b) ∧ W.cell? ⟨g, 1, none⟩ = some (.int .i64 t) ∧ W.cell? ⟨g, 2, none⟩ = some lv := by
  have h' : W.heap[g]? = _ := h
  exact ⟨by simp [World.cell?, h'], by simp [World.cell?, h'], by simp [World.cell?, h']⟩
theorem VB.new (W : World) (b t : Int) (lv : Value) : VB (W.alloc (.cells #[.int .i64 b, .int .i64 t, lv] 26)) W.heap.size b t lv := heap_alloc_new W _

set_option maxHeartbeats 2000000 in
theorem mayBe_any (x : Ent) (dv : Value) (w : World) (h : Byt w dv x.data) (hl : x.data.length ≤ 140737488355328) : Calls Try.prog 77 #[entV x dv] w fun e w' => e = .returned (.bool (rightE x)) ∧ w.grownBy w' none := by
  obtain ⟨da, dc, rfl⟩ := h.len
  have HB := hid_mk h
  clear h
  unfold entV
  have HA : Hid (EB (w.alloc (.cells #[.int .i64 x.term, .int .i64 x.index, .int .i64 x.kind, .slice da x.data.length dc] 55)) w.heap.size x (.slice da x.data.length dc) ∧ w.grownBy (w.alloc (.cells #[.int .i64 x.term, .int .i64 x.index, .int .i64 x.kind, .slice da x.data.length dc] 55)) none) := hid_mk ⟨heap_alloc_new _ _, World.grownBy_alloc _ _ _⟩
  go_enter Try.func77, Try.ntmps77
  go_wp2_with fail
  refine (putEntry_any x _ _ (HB.out.kept HA.out.2) hl).mono ?_
  rintro e w1 ⟨v, vc, rfl, hown, hg⟩
  have HG := hid_mk (grown_trans HA.out.2 hg)
  clear hg HA HB hown
  cases hr : rightE x with
  | true =>
    rw [(entL_ok hr).2]
    go_wp2
    go_ret
    exact ⟨ret_bool hr.symm, HG.out⟩
  | false =>
    rw [(entL_bad hr).2]
    go_wp2
    go_ret
    exact ⟨ret_bool hr.symm, HG.out⟩
theorem values_any (lv : Value) (a : Option Addr) (n c : Nat) (hlv : lv = .slice a n c) (w : World) : Calls Try.prog 82 #[lv] w fun e w' => e = .returned (.func (.func 86) #[] #[.pointer (some ⟨w.heap.size, 0, none⟩)]) ∧ w' = w.alloc (.cells #[lv] 24) := by
  subst hlv
  go_enter Try.func82, Try.ntmps82
  go_wp2
  go_ret
  exact ⟨rfl, rfl⟩
/-- A sequence in memory: a function, what it rests on: the world w, and its own boxes, from lo up to hi. -/
structure SeqAt (W : World) (f : Value) (D : World → Prop) (es : List Ent) (w : World) (lo hi : Nat) : Prop where
  now : D W
  seq : ∃ gf lb, f = .func (.func gf) #[] lb ∧ Seqs gf lb D es
  kept : ∀ (X Y : World) (row : Option Nat), D X → X.grownBy Y row → (∀ r, row = some r → w.heap.size ≤ r ∧ (lo ≤ r → hi ≤ r)) → D Y
theorem SeqAt.later {W W' : World} {f : Value} {D : World → Prop} {es : List Ent} {w : World} {lo hi : Nat} (h : SeqAt W f D es w lo hi) (hg : W.grownBy W' none) : SeqAt W' f D es w lo hi := ⟨h.kept _ _ none h.now hg (fun r e => by cases e), h.seq, h.kept⟩
theorem SeqAt.values {w W : World} {p lo hi : Nat} {lv : Value} {es : List Ent} (he : EntsR w lv es) (hg : w.grownBy W none) (hb : Boxed W p 24 lv) (hlo : lo ≤ p) (hhi : p < hi) (hlen : es.length ≤ 10000000000000) :
    SeqAt W (.func (.func 86) #[] #[.pointer (some ⟨p, 0, none⟩)]) (fun X => Boxed X p 24 lv ∧ w.grownBy X none) es w lo hi := by
  refine ⟨⟨hb, hg⟩, ⟨86, _, rfl, ?_⟩, ?_⟩
  · have hs := values_seq p lv es hlen
    exact ⟨hs.1, fun l B J JX hJD hJg hXg hY W h0 hB => hs.2 l B J JX (fun k W h => ⟨(hJD k W h).1.cell, he.kept (hJD k W h).2⟩) hJg hXg hY W h0 hB⟩
  · rintro X Y row ⟨h1, h2⟩ hg' hr
    refine ⟨h1.kept hg' (fun e => by have := hr p e.symm; omega), ?_⟩
    cases row with
    | none => exact grown_trans h2 hg'
    | some r => exact grown_new h2 hg' (hr r rfl).1
set_option maxHeartbeats 2000000 in
theorem each_any (b t : Int) (lv : Value) (es : List Ent) (w0 w : World) (h : EntsR w0 lv es) (hw : w0.grownBy w none) (hlen : es.length ≤ 10000000000000) : Calls Try.prog 76 #[viewV b t lv] w fun e w' => ∃ f D, e = .returned f ∧ SeqAt w' f D es w0 w.heap.size w'.heap.size ∧ w.grownBy w' none := by
  obtain ⟨a, c, rfl⟩ := h.len
  have HE := hid_mk (And.intro h hw)
  clear h hw
  unfold viewV
  have HA := hid_mk (And.intro (VB.new w b t (.slice a es.length c)) (World.grownBy_alloc w (.cells #[.int .i64 b, .int .i64 t, .slice a es.length c] 26) none))
  go_enter Try.func76, Try.ntmps76
  go_wp2_with fail
  generalize w.alloc (.cells #[.int .i64 b, .int .i64 t, .slice a es.length c] 26) = w1 at *
  refine (values_any _ a es.length c rfl w1).mono ?_
  rintro e w2 ⟨rfl, hw2⟩
  have HG := hid_mk (show Boxed w2 w1.heap.size 24 (.slice a es.length c) ∧ w.grownBy w2 none ∧ w.heap.size ≤ w1.heap.size ∧ w1.heap.size < w2.heap.size by
    rw [hw2]
    exact ⟨Boxed.new _ _ _, grown_trans HA.out.2 (World.grownBy_alloc _ _ _), HA.out.2.size, by simp⟩)
  clear hw2 HA
  go_wp2
  go_ret
  exact ⟨_, _, rfl, SeqAt.values HE.out.1 (grown_trans HE.out.2 HG.out.2.1) HG.out.1 HG.out.2.2.1 HG.out.2.2.2 hlen, HG.out.2.1⟩
end Go.Proofs.Ytcijjepleedecaa.W
