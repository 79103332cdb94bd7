/- machine: do, to open. -/
import Derived.Test.YtpncbehabfkhkaaNaG
namespace Go.Proofs.Ytpncbehabfkhkaa.W
open Go.RowKit Go.Maps Go.WideMaps Go.WideElems
set_option linter.unusedVariables false
set_option linter.unusedSimpArgs false
set_option maxRecDepth 100000

theorem map_shrink {w : World} {bm n : Nat} {l : List Ses} (h : w.ownsMap Try.prog 3 ptrR bm n (dirM l)) : w.ownsMap Try.prog 3 ptrR bm l.length (dirM l) := by
  have hs := h
  obtain ⟨es, clock, hb, F, _, hD⟩ := h
  refine ⟨es, clock, hb, F, ?_, hD⟩
  have e1 : Maps.size (dirM l) = es.size := by rw [hD]; simp [Maps.size, length_sorted]
  rw [← e1, size_dir]
  exact Nat.le_refl _
theorem len_run {w : World} {Z : Nat → Prop} {b : Nat} {m : Mach} (h : IsM w Z b m) (ty : TypeId) : (Builtin.len_ #[61] ty #[.map (some m.bm)]).run Try.prog w = .ok (.int .i64 m.ss.length) w := by
  have := World.ownsMap.len h.dir Try.underlying61 ty
  rwa [size_dir] at this

/-- The two boxes with which do begins. -/
theorem do_boxes (w : World) (cm : Cmd) (dv : Value) : Blk ((w.alloc (.cells #[.int .i64 cm.k, .int .i64 cm.s, .int .i64 cm.q, .int .i64 cm.t, dv] 104)).alloc (.cells #[.int .i64 0, .int .i64 0, .int .i64 0] 52)) w.heap.size #[.int .i64 cm.k, .int .i64 cm.s, .int .i64 cm.q, .int .i64 cm.t, dv] 104 ∧ Blk ((w.alloc (.cells #[.int .i64 cm.k, .int .i64 cm.s, .int .i64 cm.q, .int .i64 cm.t, dv] 104)).alloc (.cells #[.int .i64 0, .int .i64 0, .int .i64 0] 52)) (w.heap.size + 1) #[.int .i64 0, .int .i64 0, .int .i64 0] 52 ∧ w.grownBy ((w.alloc (.cells #[.int .i64 cm.k, .int .i64 cm.s, .int .i64 cm.q, .int .i64 cm.t, dv] 104)).alloc (.cells #[.int .i64 0, .int .i64 0, .int .i64 0] 52)) none := by
  have g1 := World.grownBy_alloc w (.cells #[.int .i64 cm.k, .int .i64 cm.s, .int .i64 cm.q, .int .i64 cm.t, dv] 104) none
  have g2 := World.grownBy_alloc (w.alloc (.cells #[.int .i64 cm.k, .int .i64 cm.s, .int .i64 cm.q, .int .i64 cm.t, dv] 104)) (.cells #[.int .i64 0, .int .i64 0, .int .i64 0] 52) none
  refine ⟨Blk.kept (heap_alloc_new _ _) g2 (by simp), ?_, grown_trans g1 g2⟩
  have := heap_alloc_new (w.alloc (.cells #[.int .i64 cm.k, .int .i64 cm.s, .int .i64 cm.q, .int .i64 cm.t, dv] 104)) (.cells #[.int .i64 0, .int .i64 0, .int .i64 0] 52)
  simpa [Blk] using this

set_option maxHeartbeats 2000000 in
theorem do_full (w : World) (Z : Nat → Prop) (b : Nat) (m : Mach) (cm : Cmd) (da : Option Addr) (dn dc : Nat) (h : IsM w Z b m) (hk : cm.k = 1) (hf : m.ss.length = 16) :
    Calls Try.prog 58 #[.pointer (some ⟨b, 0, none⟩), cmdV cm (.slice da dn dc)] w (DoPost w Z b m ⟨40, 0, 0⟩ (fun l => l = m.ss) (m.rs.map Prod.snd)) := by
  have HB := hid_mk (do_boxes w cm (.slice da dn dc))
  have HM := hid_mk h
  have HK := hid_mk (And.intro hk hf)
  clear hk h hf
  unfold cmdV
  go_enter Try.func58, Try.ntmps58
  go_upto_region 1 with fail
  generalize ((w.alloc (.cells #[.int .i64 cm.k, .int .i64 cm.s, .int .i64 cm.q, .int .i64 cm.t, .slice da dn dc] 104)).alloc (.cells #[.int .i64 0, .int .i64 0, .int .i64 0] 52)) = w1 at *
  obtain ⟨q, hqq⟩ : ∃ q, q = w.heap.size := ⟨_, rfl⟩
  obtain ⟨qr, hqr⟩ : ∃ qr, qr = w.heap.size + 1 := ⟨_, rfl⟩
  rw [← hqr] at HB ⊢
  rw [← hqq] at HB ⊢
  have HQ := hid_mk (And.intro hqq hqr)
  clear hqq hqr
  have c0 : w1.cell? ⟨q, 0, none⟩ = some (.int .i64 1) := by rw [HB.out.1.cell]; show some (Value.int .i64 (cm.k : Int)) = _; rw [HK.out.1]; rfl
  have hM := HM.out.kept HB.out.2.2
  have m4 := hM.cells.2.2.2.2.1
  have hd := hM.dir
  have hsz : Maps.size (dirM m.ss) = 16 := by rw [size_dir]; exact HK.out.2
  have r0 : w1.cell? ⟨qr, 0, none⟩ = some (.int .i64 0) := by rw [HB.out.2.1.cell]; rfl
  have r1 : w1.cell? ⟨qr, 1, none⟩ = some (.int .i64 0) := by rw [HB.out.2.1.cell]; rfl
  have r2 : w1.cell? ⟨qr, 2, none⟩ = some (.int .i64 0) := by rw [HB.out.2.1.cell]; rfl
  have rf := fun j => HB.out.2.1.frozen j
  have H4 := hid_mk (show Blk (((w1.setCell ⟨qr, 0, none⟩ (.int .i64 40)).setCell ⟨qr, 1, none⟩ (.int .i64 0)).setCell ⟨qr, 2, none⟩ (.int .i64 0)) qr #[.int .i64 40, .int .i64 0, .int .i64 0] 52 ∧ w1.grownBy (((w1.setCell ⟨qr, 0, none⟩ (.int .i64 40)).setCell ⟨qr, 1, none⟩ (.int .i64 0)).setCell ⟨qr, 2, none⟩ (.int .i64 0)) (some qr) from ⟨blk_laid3 HB.out.2.1 _ _ _, grown_laid3 _ _ _ _ _⟩)
  have HD := hid_mk hM
  clear hM
  go_wp2_with (first | (at_len; refine wpList_len_own _ rfl _ 61 rfl 3 100 Try.underlying61 _ m.bm m.N (dirM m.ss) rfl hd ?_; rw [hsz]) | go_in)
  generalize (((w1.setCell ⟨qr, 0, none⟩ (.int .i64 40)).setCell ⟨qr, 1, none⟩ (.int .i64 0)).setCell ⟨qr, 2, none⟩ (.int .i64 0)) = w4 at *
  have r0 : w4.cell? ⟨qr, 0, none⟩ = some (.int .i64 40) := by rw [H4.out.1.cell]; rfl
  have r1 : w4.cell? ⟨qr, 1, none⟩ = some (.int .i64 0) := by rw [H4.out.1.cell]; rfl
  have r2 : w4.cell? ⟨qr, 2, none⟩ = some (.int .i64 0) := by rw [H4.out.1.cell]; rfl
  have hlo : w.heap.size ≤ qr := by have := HQ.out.2; omega
  refine bodyPost_ret (v := .agg #[.int .i64 40, .int .i64 0, .int .i64 0]) (by simp [results, Try.results58, go_sem, r0, r1, r2]) rfl ?_
  refine ⟨m.N, m.rv, m.rs, m.ss, rfl, ?_, rfl, rfl, (Keeps.of_none HB.out.2.2).new H4.out.2 hlo⟩
  exact (HD.out.other HB.out.2.1 (by decide) (by decide) (by decide) (by decide) H4.out.2).wide (fun k hk => .inl hk)

theorem sesAt_end {l : List Ses} {s : Ses} (h : ∀ t ∈ l, t.n < s.n) : sesAt (l ++ [s]) s.n = some s := by
  unfold sesAt
  rw [List.find?_append]
  have : l.find? (fun x => x.n = s.n) = none := List.find?_eq_none.2 fun x hx => by have := h x hx; simp; omega
  rw [this]
  simp
theorem updS_end {l : List Ses} {s s' : Ses} (h : ∀ t ∈ l, t.n < s.n) (hn : s'.n = s.n) : updS (l ++ [s]) s' = l ++ [s'] := by
  unfold updS
  rw [List.map_append]
  congr 1
  · rw [List.map_congr_left (g := id)]
    · simp
    · intro x hx
      have := h x hx
      rw [if_neg (by omega)]
      rfl
  · simp [hn]
/-- A session more. -/
theorem IsM.opened {w w1 w2 : World} {Z : Nat → Prop} {b : Nat} {m : Mach} (h : IsM w Z b m) (hlt : ∀ t ∈ m.ss, t.n < m.ap) (f : Nat) (hw : w.grownBy w1 none) (hf : w.heap.size ≤ f) (hb : Blk w1 f #[.int .i64 0, .int .i64 0, .int .i64 0] 102) (hg : w1.grownBy w2 (some m.bm)) (hd : w2.ownsMap Try.prog 3 ptrR m.bm (m.ss.length + 1) ((dirM m.ss).put (keyN m.ap) (.lit (.int .i64 (f : Nat))))) :
    IsM w2 (Up Z w) b { m with N := m.ss.length + 1, ss := m.ss ++ [⟨m.ap, 0, 0, 0, f⟩] } := by
  have h1 := (h.kept hw).wide (Z' := Up Z w) (fun k hk => .inl hk)
  have hs : ∀ s ∈ m.ss ++ [⟨m.ap, 0, 0, 0, f⟩], (Blk w1 s.f #[.int .i64 s.q, .int .i64 s.r, .int .i64 s.u] 102 ∧ Up Z w s.f) ∧ s.n ≤ m.ap ∧ s.q ≤ 1099511627775 ∧ s.u ≤ m.ap := fun s hs => by
    rcases List.mem_append.1 hs with hs | hs
    · exact ⟨h1.ses s hs, h.lim s hs⟩
    · obtain rfl := List.mem_singleton.1 hs
      exact ⟨⟨hb, .inr hf⟩, Nat.le_refl _, Nat.zero_le _, Nat.zero_le _⟩
  refine h1.mapped hg _ _ (by rw [← put_dir m.ss ⟨m.ap, 0, 0, 0, f⟩ hlt]; exact hd) (fun s hs' => ⟨⟨(hs s hs').1.1.kept hg (by simpa using map_ne (hs s hs').1.1 h1.dir), (hs s hs').1.2⟩, (hs s hs').2⟩) ?_ ?_
  · refine List.pairwise_append.2 ⟨h.inj, List.pairwise_singleton _ _, fun s hs' t ht => ?_⟩
    obtain rfl := List.mem_singleton.1 ht
    have := (h.ses s hs').1.lt
    show s.f ≠ f
    omega
  · refine List.pairwise_append.2 ⟨h.asc, List.pairwise_singleton _ _, fun s hs' t ht => ?_⟩
    obtain rfl := List.mem_singleton.1 ht
    exact hlt s hs'

end Go.Proofs.Ytpncbehabfkhkaa.W
