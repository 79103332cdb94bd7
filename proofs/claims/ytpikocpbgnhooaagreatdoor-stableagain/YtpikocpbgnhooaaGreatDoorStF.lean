/- stable: Save. -/
import Derived.Test.YtpikocpbgnhooaaGreatDoorStE
namespace Go.Proofs.YtpikocpbgnhooaaGreatDoor.V
set_option maxRecDepth 100000
open Go.RowKit Go.Maps Go.WideMaps Go.WideElems
set_option linter.unusedVariables false
set_option linter.unusedSimpArgs false

set_option maxHeartbeats 2000000 in
theorem save_bad (a : Option Addr) (t f : Int) (w : World) (hm : mayB t f = false) : Calls Tryz.prog 18 #[.pointer a, .agg #[.int .i64 t, .int .i64 f]] w fun e w' => e = .returned (.int .i64 1) ∧ w.grownBy w' none := by
  have HG : Hid (w.grownBy ((w.alloc (.cells #[.pointer a] 40)).alloc (.cells #[.int .i64 t, .int .i64 f] 29)) none) := hid_mk (grown_trans (World.grownBy_alloc _ _ _) (World.grownBy_alloc _ _ _))
  go_enter Tryz.func18, Tryz.ntmps18
  go_wp2_with fail
  generalize ((w.alloc (.cells #[.pointer a] 40)).alloc (.cells #[.int .i64 t, .int .i64 f] 29)) = w1 at *
  refine (put_bad t f w1 hm).mono ?_
  rintro e w2 ⟨rfl, hg2⟩
  have H2 := hid_mk (grown_trans HG.out (grown_trans hg2 (World.grownBy_alloc w2 (.cells #[.slice none 0 0] 24) none)))
  clear hg2 hm HG
  go_wp2_with fail
  go_ret
  exact ⟨rfl, H2.out⟩

/-- Blocks that may turn: those of F, and new ones. -/
def Or (F : Nat → Prop) (B : Nat) : Nat → Prop := fun k => F k ∨ B ≤ k
/-- A step: what stays, and what is next. -/
def Step (F : Nat → Prop) (D : Nat → Nat → World → Prop) (Q : Nat → Int → World → Prop) (B k : Nat) (g : Int → Int) (W : World) : Ending → World → Prop :=
  Num fun n W' => Keeps (Or F B) W W' ∧ (g n = 0 → D B (k + 1) W') ∧ (g n ≠ 0 → Q B (g n) W')

theorem keeps_own {F : Nat → Prop} {B B0 : Nat} {w w2 : World} {v : Value} {l : List UInt8} (h : W.Own w B0 v l) (hk : Keeps (Or F B) w w2) (hB : B = w.heap.size) (hF : ∀ k, F k → k < B0) : W.Own w2 B0 v l := by
  refine ⟨h.1, ?_⟩
  rcases h.2 with hn | ⟨g, cap, cur, hv, hb, hh, rest⟩
  · exact .inl hn
  · have hlt := (Array.getElem?_eq_some_iff.1 hh).1
    refine .inr ⟨g, cap, cur, hv, hb, ?_, rest⟩
    rw [hk.block g hlt (fun e => ?_)]
    · exact hh
    · rcases e with e | e
      · have := hF g e; omega
      · omega
theorem keeps_blk {F : Nat → Prop} {B B0 k : Nat} {w w2 : World} {cs : Array Value} {u : TypeId} (h : Blk w k cs u) (hk : Keeps (Or F B) w w2) (hB : B = w.heap.size) (hF : ∀ k, F k → k < B0) (h0 : B0 ≤ k) : Blk w2 k cs u := by
  have hlt := h.lt
  unfold Blk at *
  rw [hk.block k hlt (fun e => ?_)]
  · exact h
  · rcases e with e | e
    · have := hF k e; omega
    · omega

/-- What a Save's steps are held to. -/
def Steps (a : Option Addr) (w : World) (F : Nat → Prop) (D : Nat → Nat → World → Prop) (Q : Nat → Int → World → Prop) (l : List UInt8) : Prop :=
  (∀ k, F k → k < w.heap.size) ∧ (∀ w', w.grownBy w' none → D w'.heap.size 0 w') ∧
    (∀ B w', w.heap.size ≤ B → D B 0 w' → Calls Tryz.prog 49 #[.pointer a, .string nmT] w' (Step F D Q B 0 (fun n => if n = 3 then 0 else n) w')) ∧
    (∀ B w', w.heap.size ≤ B → D B 1 w' → Calls Tryz.prog 15 #[.pointer a, .string nmT] w' (Step F D Q B 1 (fun n => n) w')) ∧
    (∀ B w' v, w.heap.size ≤ B → D B 2 w' → SrcB w' v l → Calls Tryz.prog 16 #[.pointer a, .string nmT, v] w' (Step F D Q B 2 (fun n => n) w')) ∧
    (∀ B w', w.heap.size ≤ B → D B 3 w' → Calls Tryz.prog 51 #[.pointer a, .string nmT] w' (Step F D Q B 3 (fun n => n) w')) ∧
    (∀ B w', w.heap.size ≤ B → D B 4 w' → Calls Tryz.prog 53 #[.pointer a, .string nmT, .string nmV] w' (Step F D Q B 4 (fun n => n) w')) ∧
    ∀ B w', w.heap.size ≤ B → D B 5 w' → Calls Tryz.prog 54 #[.pointer a] w' (Step F D Q B 5 (fun n => n) w')

theorem keeps_or {F : Nat → Prop} {B : Nat} {a b c : World} (h : Keeps (Or F B) a b) (k : Keeps (Or F B) b c) : Keeps (Or F B) a c := h.trans k (fun _ _ h => h)
theorem step_nx {F : Nat → Prop} {D : Nat → Nat → World → Prop} {Q : Nat → Int → World → Prop} {B k : Nat} {w8 W1 : World} {f : FuncId} {args : Array Value} (hk : Keeps (Or F B) w8 W1)
    (h : Calls Tryz.prog f args W1 (Step F D Q B k (fun n => n) W1)) : Calls Tryz.prog f args W1 (Num fun n w' => (n = 0 → D B (k + 1) w' ∧ Keeps (Or F B) w8 w') ∧ (n ≠ 0 → Q B n w' ∧ Keeps (Or F B) w8 w')) :=
  h.mono fun e w' ⟨n, he, h1, h2, h3⟩ => ⟨n, he, fun e => ⟨h2 e, keeps_or hk h1⟩, fun e => ⟨h3 e, keeps_or hk h1⟩⟩
theorem turn_steps (a : Option Addr) (t f : Int) (w w8 : World) (F : Nat → Prop) (D : Nat → Nat → World → Prop) (Q : Nat → Int → World → Prop) (l : List UInt8) (v : Value) (cb1 nb1 db cb2 nb2 xd xb cb4 nb4 g : Nat) (HH : Steps a w F D Q l) (hg : w.grownBy w8 none)
    (hall : Blk w8 cb1 #[.func (.func 49) #[.pointer a] #[]] 42 ∧ Blk w8 nb1 #[.string nmT] 9 ∧ Blk w8 db #[.func (.func 76) #[] #[.pointer (some ⟨cb1, 0, none⟩), .pointer (some ⟨nb1, 0, none⟩)]] 90 ∧ Blk w8 cb2 #[.func (.func 15) #[.pointer a] #[]] 42 ∧ Blk w8 nb2 #[.string nmT] 9 ∧ Blk w8 cb4 #[.func (.func 51) #[.pointer a] #[]] 42 ∧ Blk w8 nb4 #[.string nmT] 9 ∧ Blk w8 xd #[.pointer a] 40 ∧ Blk w8 xb #[v] 24 ∧ W.Own w8 w.heap.size v l)
    (hlo : (w.heap.size ≤ cb1 ∧ w.heap.size ≤ nb1) ∧ w.heap.size ≤ db ∧ (w.heap.size ≤ cb2 ∧ w.heap.size ≤ nb2) ∧ (w.heap.size ≤ cb4 ∧ w.heap.size ≤ nb4) ∧ w.heap.size ≤ xb ∧ w.heap.size ≤ g) (hxd : w.heap.size ≤ xd) (hrow : Blk w8 g (rowSt db cb2 nb2 xd xb cb4 nb4 a) 90) :
    Calls Tryz.prog 46 #[.slice (some ⟨g, 0, none⟩) 6 6] w8 (Num fun n w' => Blk w' xd #[.pointer a] 40 ∧ Keeps F w w' ∧ (n = 0 → D w8.heap.size 6 w') ∧ (n ≠ 0 → Q w8.heap.size n w')) := by
  obtain ⟨hF, hs, h0, h1, h2, h3, h4, h5⟩ := HH
  obtain ⟨a1, a2, a3, a4, a5, a6, a7, a8, a9, a10⟩ := hall
  obtain ⟨⟨l1, l2⟩, l3, ⟨l4, l5⟩, ⟨l6, l7⟩, l9, l10⟩ := hlo
  have hB := hg.size
  have K : ∀ {w' : World} {k : Nat} {cs : Array Value} {u : TypeId}, Keeps (Or F w8.heap.size) w8 w' → Blk w8 k cs u → w.heap.size ≤ k → Blk w' k cs u := fun hk hb h0 => keeps_blk hb hk rfl hF h0
  have hsl : ∃ a n c, v = .slice a n c := by obtain ⟨a, c, e⟩ := a10.len; exact ⟨a, _, c, e⟩
  have hfin : ∀ {w'}, Keeps (Or F w8.heap.size) w8 w' → Keeps F w w' := fun hk => (Keeps.of_none (F := F) hg).trans hk (fun i hi hn e => by
    rcases e with e | e
    · exact hn e
    · omega)
  refine (inTurn_any g db cb2 nb2 xd xb cb4 nb4 a w8 (fun k W1 => D w8.heap.size k W1 ∧ Keeps (Or F w8.heap.size) w8 W1) (fun n W1 => Q w8.heap.size n W1 ∧ Keeps (Or F w8.heap.size) w8 W1) ⟨hs _ hg, Keeps.refl _ _⟩ (fun k W1 hI => K hI.2 hrow l10) ?_ ?_ ?_ ?_ ?_ ?_).mono ?_
  · rintro W1 ⟨hD, hk⟩
    refine (ifThere_any cb1 nb1 db W1 _ (K hk a3 l3) (on_remove a nmT cb1 nb1 W1 _ (K hk a1 l1) (K hk a2 l2) (h0 _ W1 hB hD))).mono ?_
    rintro e w' ⟨n, rfl, n0, rfl, k1, k2, k3⟩
    exact ⟨_, rfl, fun e => ⟨k2 e, keeps_or hk k1⟩, fun e => ⟨k3 e, keeps_or hk k1⟩⟩
  · rintro W1 ⟨hD, hk⟩
    exact on_create a nmT cb2 nb2 W1 _ (K hk a4 l4) (K hk a5 l5) (step_nx hk (h1 _ W1 hB hD))
  · rintro W1 ⟨hD, hk⟩
    exact append_clo a xd xb v W1 _ (K hk a8 hxd) (K hk a9 l9) hsl (step_nx hk (h2 _ W1 v hB hD (row_src (keeps_own a10 hk rfl hF))))
  · rintro W1 ⟨hD, hk⟩
    exact on_sync a nmT cb4 nb4 W1 _ (K hk a6 l6) (K hk a7 l7) (step_nx hk (h3 _ W1 hB hD))
  · rintro W1 ⟨hD, hk⟩
    exact rename_step a xd W1 _ (K hk a8 hxd) (step_nx hk (h4 _ W1 hB hD))
  · rintro W1 ⟨hD, hk⟩
    exact step_nx hk (h5 _ W1 hB hD)
  · rintro e w' ⟨n, rfl, hz, hn⟩
    have hk : Keeps (Or F w8.heap.size) w8 w' := by
      by_cases e : n = 0
      · exact (hz e).2
      · exact (hn e).2
    exact ⟨n, rfl, K hk a8 hxd, hfin hk, fun e => (hz e).1, fun e => (hn e).1⟩

set_option maxHeartbeats 8000000 in
theorem save_gen (a : Option Addr) (t f : Int) (w : World) (hm : mayB t f = true) (ht : F.Tab w) (F : Nat → Prop) (D : Nat → Nat → World → Prop) (Q : Nat → Int → World → Prop) (hh : Steps a w F D Q (voteB t f)) :
    Calls Tryz.prog 18 #[.pointer a, .agg #[.int .i64 t, .int .i64 f]] w (Num fun n w' => ∃ B w0 j, w' = w0.drewN j ∧ w.heap.size ≤ B ∧ Keeps F w w' ∧ (n = 0 → D B 6 w0) ∧ (n ≠ 0 → Q B n w0)) := by
  have HH := hid_mk hh
  have HT := hid_mk ht
  have HM := hid_mk hm
  clear hh ht hm
  have HG : Hid (Blk ((w.alloc (.cells #[.pointer a] 40)).alloc (.cells #[.int .i64 t, .int .i64 f] 29)) w.heap.size #[.pointer a] 40 ∧ w.grownBy ((w.alloc (.cells #[.pointer a] 40)).alloc (.cells #[.int .i64 t, .int .i64 f] 29)) none) := hid_mk (by
    obtain ⟨h1, h2, h3⟩ := two_blocks w #[.pointer a] #[.int .i64 t, .int .i64 f] 40 29
    exact ⟨h2, h1⟩)
  go_enter Tryz.func18, Tryz.ntmps18
  go_wp2_with fail
  generalize ((w.alloc (.cells #[.pointer a] 40)).alloc (.cells #[.int .i64 t, .int .i64 f] 29)) = w1 at *
  refine (put_ok t f w1 HM.out (HT.out.kept HG.out.2)).mono ?_
  rintro e w2 ⟨a2, c2, rfl, ho2, hg2⟩
  have G2 := hid_mk (grown_trans HG.out.2 hg2)
  have H2 := hid_mk (And.intro (HG.out.1.kept hg2 (by simp)) (ho2.base (B' := w.heap.size) HG.out.2.size))
  clear ho2 hg2 HG
  obtain ⟨l, hl⟩ : ∃ l, voteB t f = l := ⟨_, rfl⟩
  rw [hl] at H2 HH
  rw [hl]
  clear hl
  have HB : Hid (Blk (w2.alloc (.cells #[.slice a2 l.length c2] 24)) w2.heap.size #[.slice a2 l.length c2] 24 ∧ Blk (w2.alloc (.cells #[.slice a2 l.length c2] 24)) w.heap.size #[.pointer a] 40 ∧ W.Own (w2.alloc (.cells #[.slice a2 l.length c2] 24)) w.heap.size (.slice a2 l.length c2) l ∧ w.grownBy (w2.alloc (.cells #[.slice a2 l.length c2] 24)) none) := hid_mk (by
    have hg := World.grownBy_alloc w2 (.cells #[.slice a2 l.length c2] 24) none
    exact ⟨heap_alloc_new _ _, H2.out.1.kept hg (by simp), H2.out.2.kept hg (.inl rfl), grown_trans G2.out hg⟩)
  have HXB := hid_mk (show w.heap.size ≤ w2.heap.size from G2.out.size)
  go_upto_region 4 with fail
  generalize (w2.alloc (.cells #[.slice a2 l.length c2] 24)) = w3 at *
  generalize w2.heap.size = xb at *
  clear H2 G2
  have KB : ∀ w', w3.grownBy w' none → Blk w' w.heap.size #[.pointer a] 40 := fun w' hW => HB.out.2.1.kept hW (by simp)
  have HC : ∀ w', Blk w' w.heap.size #[.pointer a] 40 → w'.cell? ⟨w.heap.size, 0, none⟩ = some (.pointer a) := fun w' hW => by rw [hW.cell]; rfl
  refine W.wp_region_mix [(0, true), (1, true), (4, true), (5, true), (7, true), (8, true), (9, true), (11, true), (12, true), (13, true), (2, false), (3, false), (6, false), (10, false), (14, false), (15, false), (16, true)] (W.at0 w3 (fun W0 => Blk W0 w.heap.size #[.pointer a] 40)) (by kernel_rfl) (by kernel_rfl) rfl (by kernel_rfl) (W.shut_at0 (fun m => KB _ (grown_drewN _ m none))) ⟨1, rfl⟩ ?_
  repeat (first
    | (refine W.mix_rd1 rfl rfl (fun K hK => ?_); apply Exists.intro; refine ⟨fun W0 hW => ?_, ?_⟩; (have f0 := HC W0 hW; go_simp; rfl); (go_simp; refine hK _ _ ?_; clear hK K)))
  clear HC
  refine W.mix_call rfl rfl 48 #[.string ⟨#[118, 111, 116, 101, 46, 116, 109, 112]⟩, .func (.func 49) #[.pointer a] #[]] (fun W0 => by go_simp) ?_
  rintro W0 ⟨m4, rfl⟩
  refine (on_make _ _ (w3.drewN m4) ⟨49, a, rfl⟩).mono ?_
  rintro e w4 ⟨cb1, nb1, rfl, hc, hn, hlc, hln, hg⟩
  have G4 := hid_mk (grown_trans (grown_drewN w3 m4 none) hg)
  have H4 := hid_mk (show Blk w4 cb1 #[.func (.func 49) #[.pointer a] #[]] 42 ∧ Blk w4 nb1 #[.string nmT] 9 ∧ w.heap.size ≤ cb1 ∧ w.heap.size ≤ nb1 from ⟨hc, hn, Nat.le_trans HB.out.2.2.2.size hlc, Nat.le_trans HB.out.2.2.2.size hln⟩)
  clear hc hn hlc hln hg
  refine ⟨_, rfl, W.at0 w4 (fun W0 => Blk W0 w.heap.size #[.pointer a] 40), ⟨0, rfl⟩, W.shut_at0 (fun m => KB _ (grown_trans (G4.out) (grown_drewN _ m none))), fun _ h => h, ?_⟩
  refine W.mix_call rfl rfl 47 #[.func (.func 76) #[] #[.pointer (some ⟨cb1, 0, none⟩), .pointer (some ⟨nb1, 0, none⟩)]] (fun W0 => by go_simp) ?_
  rintro W0 ⟨m5, rfl⟩
  refine (ifThere_make cb1 nb1 (w4.drewN m5)).mono ?_
  rintro e w5 ⟨db, rfl, hd, hld, hg⟩
  have G5 := hid_mk (grown_trans (grown_drewN w4 m5 none) hg)
  have H5 := hid_mk (And.intro hd (show w.heap.size ≤ db from Nat.le_trans (Nat.le_trans HB.out.2.2.2.size G4.out.size) hld))
  clear hd hld hg
  refine ⟨_, rfl, W.at0 w5 (fun W0 => Blk W0 w.heap.size #[.pointer a] 40), ⟨0, rfl⟩, W.shut_at0 (fun m => KB _ (grown_trans (grown_trans G4.out G5.out) (grown_drewN _ m none))), fun _ h => h, ?_⟩
  have G35 := hid_mk (grown_trans HB.out.2.2.2 (grown_trans G4.out G5.out))
  refine W.mix_call rfl rfl 48 #[.string ⟨#[118, 111, 116, 101, 46, 116, 109, 112]⟩, .func (.func 15) #[.pointer a] #[]] (fun W0 => by go_simp) ?_
  rintro W0 ⟨m6, rfl⟩
  refine (on_make _ _ (w5.drewN m6) ⟨15, a, rfl⟩).mono ?_
  rintro e w6 ⟨cb2, nb2, rfl, hc, hn, hlc, hln, hg⟩
  have G6 := hid_mk (grown_trans (grown_drewN w5 m6 none) hg)
  have H6 := hid_mk (show Blk w6 cb2 #[.func (.func 15) #[.pointer a] #[]] 42 ∧ Blk w6 nb2 #[.string nmT] 9 ∧ w.heap.size ≤ cb2 ∧ w.heap.size ≤ nb2 from ⟨hc, hn, Nat.le_trans G35.out.size hlc, Nat.le_trans G35.out.size hln⟩)
  clear hc hn hlc hln hg
  refine ⟨_, rfl, W.at0 w6 (fun W0 => Blk W0 w.heap.size #[.pointer a] 40), ⟨0, rfl⟩, W.shut_at0 (fun m => KB _ (grown_trans (grown_trans G4.out (grown_trans G5.out G6.out)) (grown_drewN _ m none))), fun _ h => h, ?_⟩
  have G36 := hid_mk (grown_trans G35.out G6.out)
  refine W.mix_call rfl rfl 48 #[.string ⟨#[118, 111, 116, 101, 46, 116, 109, 112]⟩, .func (.func 51) #[.pointer a] #[]] (fun W0 => by go_simp) ?_
  rintro W0 ⟨m7, rfl⟩
  refine (on_make _ _ (w6.drewN m7) ⟨51, a, rfl⟩).mono ?_
  rintro e w7 ⟨cb4, nb4, rfl, hc, hn, hlc, hln, hg⟩
  have G7 := hid_mk (grown_trans (grown_drewN w6 m7 none) hg)
  have H7 := hid_mk (show Blk w7 cb4 #[.func (.func 51) #[.pointer a] #[]] 42 ∧ Blk w7 nb4 #[.string nmT] 9 ∧ w.heap.size ≤ cb4 ∧ w.heap.size ≤ nb4 from ⟨hc, hn, Nat.le_trans G36.out.size hlc, Nat.le_trans G36.out.size hln⟩)
  clear hc hn hlc hln hg
  refine ⟨_, rfl, W.at0 w7 (fun W0 => Blk W0 w.heap.size #[.pointer a] 40), ⟨0, rfl⟩, W.shut_at0 (fun m => KB _ (grown_trans (grown_trans G4.out (grown_trans G5.out (grown_trans G6.out G7.out))) (grown_drewN _ m none))), fun _ h => h, ?_⟩
  have G37 := hid_mk (grown_trans G36.out G7.out)
  refine W.mix_do rfl rfl ?_
  rintro W0 ⟨m8, rfl⟩
  refine ⟨.slice (some ⟨(w7.drewN m8).heap.size, 0, none⟩) 6 6, (w7.drewN m8).alloc (.cells (rowSt db cb2 nb2 w.heap.size xb cb4 nb4 a) 90), by unfold rowSt; go_simp, ?_⟩
  have H8 : Hid (Blk ((w7.drewN m8).alloc (.cells (rowSt db cb2 nb2 w.heap.size xb cb4 nb4 a) 90)) (w7.drewN m8).heap.size (rowSt db cb2 nb2 w.heap.size xb cb4 nb4 a) 90 ∧ w7.grownBy ((w7.drewN m8).alloc (.cells (rowSt db cb2 nb2 w.heap.size xb cb4 nb4 a) 90)) none ∧ w.heap.size ≤ (w7.drewN m8).heap.size) := hid_mk ⟨heap_alloc_new _ _, grown_trans (grown_drewN w7 m8 none) (World.grownBy_alloc _ _ _), G37.out.size⟩
  generalize (w7.drewN m8).heap.size = g8 at *
  generalize ((w7.drewN m8).alloc (.cells (rowSt db cb2 nb2 w.heap.size xb cb4 nb4 a) 90)) = w8 at *
  refine ⟨W.at0 w8 (fun W0 => Blk W0 w.heap.size #[.pointer a] 40), ⟨0, rfl⟩, W.shut_at0 (fun m => KB _ (grown_trans (grown_trans G4.out (grown_trans G5.out (grown_trans G6.out (grown_trans G7.out H8.out.2.1)))) (grown_drewN _ m none))), fun _ h => h, ?_⟩
  have G38 := hid_mk (grown_trans G37.out H8.out.2.1)
  have HALL := hid_mk (show Blk w8 cb1 #[.func (.func 49) #[.pointer a] #[]] 42 ∧ Blk w8 nb1 #[.string nmT] 9 ∧ Blk w8 db #[.func (.func 76) #[] #[.pointer (some ⟨cb1, 0, none⟩), .pointer (some ⟨nb1, 0, none⟩)]] 90 ∧ Blk w8 cb2 #[.func (.func 15) #[.pointer a] #[]] 42 ∧ Blk w8 nb2 #[.string nmT] 9 ∧ Blk w8 cb4 #[.func (.func 51) #[.pointer a] #[]] 42 ∧ Blk w8 nb4 #[.string nmT] 9 ∧ Blk w8 w.heap.size #[.pointer a] 40 ∧ Blk w8 xb #[.slice a2 l.length c2] 24 ∧ W.Own w8 w.heap.size (.slice a2 l.length c2) l by
    have g78 := H8.out.2.1
    have g68 := grown_trans G7.out g78
    have g58 := grown_trans G6.out g68
    have g48 := grown_trans G5.out g58
    have g38 := grown_trans G4.out g48
    exact ⟨H4.out.1.kept g48 (by simp), H4.out.2.1.kept g48 (by simp), H5.out.1.kept g58 (by simp), H6.out.1.kept g68 (by simp), H6.out.2.1.kept g68 (by simp), H7.out.1.kept g78 (by simp), H7.out.2.1.kept g78 (by simp), HB.out.2.1.kept g38 (by simp), HB.out.1.kept g38 (by simp), HB.out.2.2.1.kept g38 (.inl rfl)⟩)
  have HLO := hid_mk (And.intro H4.out.2.2 (And.intro H5.out.2 (And.intro H6.out.2.2 (And.intro H7.out.2.2 (And.intro HXB.out H8.out.2.2)))))
  have H8B := hid_mk H8.out.1
  clear H4 H5 H6 H7 HXB G35 G36 G37
  refine W.mix_call rfl rfl 46 #[.slice (some ⟨g8, 0, none⟩) 6 6] (fun W0 => by go_simp) ?_
  rintro W0 ⟨m9, rfl⟩
  have HCALL := hid_mk (turn_steps a t f w (w8.drewN m9) F D Q l (.slice a2 l.length c2) cb1 nb1 db cb2 nb2 w.heap.size xb cb4 nb4 g8 HH.out (grown_trans G38.out (grown_drewN _ _ none)) HALL.out HLO.out (Nat.le_refl _) H8B.out)
  refine HCALL.out.mono ?_
  rintro e w9 ⟨n, rfl, hb9, hk9, hz9, hn9⟩
  have H9 := hid_mk (And.intro hk9 (And.intro hz9 hn9))
  have HB9 := hid_mk hb9
  clear hb9 hk9 hz9 hn9 HCALL HALL HLO H8B HH KB
  refine ⟨_, rfl, W.at0 w9 (fun W0 => Blk W0 w.heap.size #[.pointer a] 40), ⟨0, rfl⟩, W.shut_at0 (fun m => HB9.out.kept (grown_drewN _ m none) (by simp)), fun _ h => h, ?_⟩
  repeat (first
    | (refine W.mix_rd1 rfl rfl (fun K hK => ?_); apply Exists.intro; refine ⟨fun W0 hW => ?_, ?_⟩; (go_simp; rfl); (go_simp; refine hK _ _ ?_; clear hK K)))
  refine W.mix_nil ?_
  rintro W0 ⟨m10, rfl⟩
  go_wp2_with fail
  go_ret
  exact ⟨n, rfl, (w8.drewN m9).heap.size, w9, m10, rfl, G38.out.size, H9.out.1.trans (Keeps.of_none (F := F) (grown_drewN _ _ none)) (fun _ _ h => h), H9.out.2.1, H9.out.2.2⟩

theorem post_step {F : Nat → Prop} {D : Nat → Nat → World → Prop} {Q : Nat → Int → World → Prop} {B k N b : Nat} {f : FuncId} {args : Array Value} {W1 : World} {S : Int → Mem → Prop} {g : Int → Int} (hB : B ≤ W1.heap.size) (h : Calls Tryz.prog f args W1 (Post (Or F B) N b W1 S))
    (hz : ∀ n m' w', S n m' → IsDisk w' (Or F B) (N + 1) b m' → B ≤ w'.heap.size → g n = 0 → D B (k + 1) w') (hn : ∀ n m' w', S n m' → IsDisk w' (Or F B) (N + 1) b m' → B ≤ w'.heap.size → g n ≠ 0 → Q B (g n) w') : Calls Tryz.prog f args W1 (Step F D Q B k g W1) :=
  h.mono fun e w' ⟨n, m', he, hS, hI, hk⟩ => by
    have hI' : IsDisk w' (Or F B) (N + 1) b m' := hI.monoF (fun j hj => by
      rcases hj with hj | hj
      · exact hj
      · exact .inr (Nat.le_trans hB hj))
    have hB' := Nat.le_trans hB hk.size
    exact ⟨n, he, hk, hz n m' w' hS hI' hB', hn n m' w' hS hI' hB'⟩

def DD (F : Nat → Prop) (N b : Nat) (l : List UInt8) (m : Mem) (B k : Nat) (W1 : World) : Prop := ∃ m', Chain l k m m' ∧ IsDisk W1 (Or F B) (N + k) b m' ∧ B ≤ W1.heap.size
def QQ (F : Nat → Prop) (N b : Nat) (l : List UInt8) (m : Mem) (B : Nat) (n : Int) (W1 : World) : Prop := ∃ m', SaveSpec l m n m' ∧ IsDisk W1 (Or F B) (N + 6) b m'
theorem dd_step {F : Nat → Prop} {N b : Nat} {l : List UInt8} {m m1 m' : Mem} {B k : Nat} {w' : World} (hc : Chain l k m m1) (hs : stepS l k m1 0 m') (hI : IsDisk w' (Or F B) (N + k + 1) b m') (hB : B ≤ w'.heap.size) : DD F N b l m B (k + 1) w' := ⟨m', chain_add hc hs, hI, hB⟩
theorem qq_step {F : Nat → Prop} {N b : Nat} {l : List UInt8} {m m1 m' : Mem} {B k : Nat} {w' : World} {n : Int} (hk : k < 6) (hc : Chain l k m m1) (hs : stepS l k m1 n m') (hn : n ≠ 0) (hI : IsDisk w' (Or F B) (N + k + 1) b m') : QQ F N b l m B n w' := ⟨m', .inr ⟨hn, k, m1, hk, hc, hs⟩, hI.monoN (by omega)⟩

/-- Save, on a disk. -/
theorem save_disk (t f : Int) (w : World) (ht : F.Tab w) (N b : Nat) (F : Nat → Prop) (m : Mem) (h : IsDisk w F N b m) (hN : N < 1000000000000) (hm : mayB t f = true) :
    Calls Tryz.prog 18 #[.pointer (some ⟨b, 0, none⟩), .agg #[.int .i64 t, .int .i64 f]] w (Num fun n w' => ∃ m', SaveSpec (voteB t f) m n m' ∧ IsDisk w' (fun k => F k ∨ w.heap.size ≤ k) (N + 6) b m' ∧ Keeps F w w') := by
  have hb := h.bound
  have hl := voteB_len hm
  refine (save_gen _ t f w hm ht (fun k => F k ∧ k < w.heap.size) (DD (fun k => F k ∧ k < w.heap.size) N b (voteB t f) m) (QQ (fun k => F k ∧ k < w.heap.size) N b (voteB t f) m) ⟨fun k h => h.2, ?_, ?_, ?_, ?_, ?_, ?_, ?_⟩).mono ?_
  · intro w' hg
    exact ⟨m, chain_none _ _, (hb.kept_none hg).monoF (fun k hk => .inl hk), Nat.le_refl _⟩
  · rintro B w' _ ⟨m1, hc, hI, hB⟩
    refine post_step hB (remove_any (N + 0) b _ m1 nmT w' hI (by omega) size_T) (fun n m' w2 hS hI2 hB2 e => ?_) (fun n m' w2 hS hI2 hB2 e => ?_)
    · exact dd_step hc ⟨n, hS, e.symm⟩ hI2 hB2
    · exact qq_step (by omega) hc ⟨n, hS, rfl⟩ e hI2
  · rintro B w' _ ⟨m1, hc, hI, hB⟩
    refine post_step hB (create_any (N + 1) b _ m1 nmT w' hI (by omega) size_T) (fun n m' w2 hS hI2 hB2 e => ?_) (fun n m' w2 hS hI2 hB2 e => ?_)
    · subst e; exact dd_step hc hS hI2 hB2
    · exact qq_step (by omega) hc hS e hI2
  · rintro B w' v _ ⟨m1, hc, hI, hB⟩ hsrc
    refine post_step hB (append_any (N + 2) b _ m1 nmT (voteB t f) v w' hI (by omega) size_T (by omega) hsrc) (fun n m' w2 hS hI2 hB2 e => ?_) (fun n m' w2 hS hI2 hB2 e => ?_)
    · subst e; exact dd_step hc hS hI2 hB2
    · exact qq_step (by omega) hc hS e hI2
  · rintro B w' _ ⟨m1, hc, hI, hB⟩
    refine post_step hB (sync_any (N + 3) b _ m1 nmT w' hI size_T) (fun n m' w2 hS hI2 hB2 e => ?_) (fun n m' w2 hS hI2 hB2 e => ?_)
    · subst e; exact dd_step hc hS hI2 hB2
    · exact qq_step (by omega) hc hS e hI2
  · rintro B w' _ ⟨m1, hc, hI, hB⟩
    refine post_step hB (rename_any (N + 4) b _ m1 nmT nmV w' hI (by omega) size_T size_V) (fun n m' w2 hS hI2 hB2 e => ?_) (fun n m' w2 hS hI2 hB2 e => ?_)
    · subst e; exact dd_step hc hS hI2 hB2
    · exact qq_step (by omega) hc hS e hI2
  · rintro B w' _ ⟨m1, hc, hI, hB⟩
    refine post_step hB (syncdir_any (N + 5) b _ m1 w' hI) (fun n m' w2 hS hI2 hB2 e => ?_) (fun n m' w2 hS hI2 hB2 e => ?_)
    · subst e; exact dd_step hc hS hI2 hB2
    · exact qq_step (by omega) hc hS e hI2
  · rintro e w' ⟨n, rfl, B, w0, j, rfl, hB, hk, hz, hn⟩
    refine ⟨n, rfl, ?_⟩
    have hk' : Keeps F w (w0.drewN j) := hk.mono (fun k hk => hk.1)
    have hF : ∀ k, Or (fun k => F k ∧ k < w.heap.size) B k → F k ∨ w.heap.size ≤ k := fun k hk => by
      rcases hk with hk | hk
      · exact .inl hk.1
      · exact .inr (Nat.le_trans hB hk)
    by_cases e : n = 0
    · obtain ⟨m', hc, hI, _⟩ := hz e
      exact ⟨m', .inl ⟨e, hc⟩, (hI.monoF hF).kept_none (grown_drewN _ _ none), hk'⟩
    · obtain ⟨m', hs, hI⟩ := hn e
      exact ⟨m', hs, (hI.monoF hF).kept_none (grown_drewN _ _ none), hk'⟩

theorem keeps_none {w w' : World} (h : Keeps (fun _ => False) w w') : w.grownBy w' none := ⟨h.os, h.tape, h.output, h.size, fun k hk _ => h.block k hk (fun e => e)⟩
theorem grown_keeps {F : Nat → Prop} {B : Nat} {w w' : World} (h : w.grownBy w' none) : Keeps (Or F B) w w' := Keeps.of_none h
/-- Save, on no disk. -/
theorem save_nil (t f : Int) (w : World) (ht : F.Tab w) : Calls Tryz.prog 18 #[.pointer none, .agg #[.int .i64 t, .int .i64 f]] w fun e w' => e = .returned (.int .i64 1) ∧ w.grownBy w' none := by
  cases hm : mayB t f with
  | false => exact save_bad none t f w hm
  | true =>
    refine (save_gen none t f w hm ht (fun _ => False) (fun B k _ => k = 0) (fun B n _ => n = 1) ⟨fun k h => h.elim, fun _ _ => rfl, ?_, ?_, ?_, ?_, ?_, ?_⟩).mono ?_
    · intro B w' _ _
      exact (remove_nil nmT w').mono fun e w2 ⟨he, hg⟩ => ⟨1, he, grown_keeps hg, fun e => by simp at e, fun _ => by simp⟩
    · intro B w' _ h; cases h
    · intro B w' v _ h; cases h
    · intro B w' _ h; cases h
    · intro B w' _ h; cases h
    · intro B w' _ h; cases h
    · rintro e w' ⟨n, rfl, B, w0, j, rfl, hB, hk, hz, hn⟩
      by_cases e : n = 0
      · cases hz e
      · rw [hn e]; exact ⟨rfl, keeps_none hk⟩
/-- Save, on a disk that nobody made. -/
theorem save_zero (b : Nat) (t f : Int) (w : World) (ht : F.Tab w) (h : w.cell? ⟨b, 3, none⟩ = some (.map none)) : Calls Tryz.prog 18 #[.pointer (some ⟨b, 0, none⟩), .agg #[.int .i64 t, .int .i64 f]] w fun e w' => e = .returned (.int .i64 1) ∧ w.grownBy w' none := by
  cases hm : mayB t f with
  | false => exact save_bad _ t f w hm
  | true =>
    refine (save_gen _ t f w hm ht (fun _ => False) (fun B k w' => k = 0 ∧ w'.cell? ⟨b, 3, none⟩ = some (.map none)) (fun B n _ => n = 1) ⟨fun k h => h.elim, fun w' hg => ⟨rfl, hg.cell h (by simp)⟩, ?_, ?_, ?_, ?_, ?_, ?_⟩).mono ?_
    · rintro B w' _ ⟨_, hc⟩
      exact (remove_zero b nmT w' hc).mono fun e w2 ⟨he, hg⟩ => ⟨1, he, grown_keeps hg, fun e => by simp at e, fun _ => by simp⟩
    · rintro B w' _ ⟨h, _⟩; cases h
    · rintro B w' v _ ⟨h, _⟩; cases h
    · rintro B w' _ ⟨h, _⟩; cases h
    · rintro B w' _ ⟨h, _⟩; cases h
    · rintro B w' _ ⟨h, _⟩; cases h
    · rintro e w' ⟨n, rfl, B, w0, j, rfl, hB, hk, hz, hn⟩
      by_cases e : n = 0
      · cases (hz e).1
      · rw [hn e]; exact ⟨rfl, keeps_none hk⟩

end Go.Proofs.YtpikocpbgnhooaaGreatDoor.V
