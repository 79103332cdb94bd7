import Derived.Test.YtlpkphdgadgmiaaGreatDoorKn
namespace Go.Proofs.YtlpkphdgadgmiaaGreatDoor.W
open Go.RowKit Go.Maps Go.Shelf
set_option linter.unusedVariables false
set_option linter.unusedSimpArgs false
set_option maxRecDepth 100000
attribute [local go_sem] Oper.semAt_some

set_option maxHeartbeats 8000000 in
theorem open_gen (N db : Nat) (F0 Z : Nat → Prop) (Q : V.Mem → Prop) (L : List (Nat × Nat)) (fl : List (Nat × List UInt8)) (X : Int → World → Prop) (w : World) (hN : N < 1099511627776) (hL : Asc L) (hb : bytesOf fl ≤ 100000000) (hZ : ¬ Z w.heap.size)
  (hcl : Calls Tryz.prog 43 #[.pointer (some ⟨db, 0, none⟩)] (w.alloc (.cells #[.pointer (some ⟨db, 0, none⟩)] 23)) fun e w1 => (e = .returned (.int .i64 0) ∧ V.Keeps Z (w.alloc (.cells #[.pointer (some ⟨db, 0, none⟩)] 23)) w1 ∧ (∃ m, Q m ∧ m.names = dirS L none ∧ Holds m L fl ∧ V.IsDisk w1 F0 N db m) ∧ F.Tab w1 ∧ Pw w1) ∨ ∃ n, n ≠ 0 ∧ e = .returned (.int .i64 n) ∧ X n w1) :
  Calls Tryz.prog 10 #[.pointer (some ⟨db, 0, none⟩)] w fun e w' => (∃ w1 m, e = .returned (.tuple #[.pointer (some ⟨w1.heap.size, 0, none⟩), .int .i64 0]) ∧ V.Keeps Z w w1 ∧ Q m ∧ V.IsDisk w1 F0 N db m ∧ LogAt w' (fun k => w1.heap.size ≤ k) w1.heap.size (openS (some ⟨db, 0, none⟩) fl).2 (openS (some ⟨db, 0, none⟩) fl).1 ∧ w1.grownBy w' none) ∨ ∃ n, n ≠ 0 ∧ e = .returned (.tuple #[.pointer none, .int .i64 n]) ∧ X n w' := by
 have HCL := hid_mk (And.intro hcl (And.intro hZ hL))
 clear hL hcl hZ
 refine (callsIn_wide (n := 11)).1 ?_
 refine callsIn_of_wp_marks Tryz.func10 rfl trivial ?_ rfl
 simp only [Tryz.ntmps10, List.size_toArray, List.length_cons, List.length_nil, Nat.reduceAdd, Nat.reduceSub, Array.replicate_succ, Array.replicate_zero, List.push_toArray, List.append_toArray, List.nil_append, List.cons_append]
 gi_wp2_with fail
 refine ⟨trivial, (callsIn_wide.2 HCL.out.1).mono ?_⟩
 rintro e w0 (⟨rfl, hk0, ⟨m, hqm, hm, hfl, hd0⟩, ht0, hp0⟩ | ⟨n, hne, rfl, hx⟩)
 case inr =>
  have hq : (n != 0) = true := by simp [hne]
  have HX := hid_mk (And.intro hne hx)
  clear hne hx
  gi_wp2_with fail
  exact ⟨_, results_tmp2 rfl _ _ _, .inr ⟨n, HX.out.1, rfl, HX.out.2⟩⟩
 have hbq : V.Blk w0 w.heap.size #[.pointer (some ⟨db, 0, none⟩)] 23 := (heap_alloc_new w (.cells #[.pointer (some ⟨db, 0, none⟩)] 23) |> fun (b : V.Blk _ _ _ _) => b.keeps hk0 HCL.out.2.1)
 have HM := hid_mk (And.intro hm (And.intro HCL.out.2.2 hfl))
 have HQ := hid_mk hqm
 clear hm hfl hqm
 have q00 : w0.cell? ⟨w.heap.size, 0, none⟩ = some (.pointer (some ⟨db, 0, none⟩)) := by rw [hbq.cell]; rfl
 have HD := hid_mk (And.intro hd0 (And.intro ht0 hp0))
 have HKK := hid_mk (show V.Keeps Z w w0 from (V.Keeps.of_none (World.grownBy_alloc _ _ none)).then hk0)
 have HBQ := hid_mk hbq
 have HLT := hid_mk hbq.lt
 clear hd0 ht0 hp0 hk0 hbq
 gi_upto_region 5 with fail
 clear q00
 have HW := hid_mk (show V.Blk ((w0.alloc (.cells #[.pointer (some ⟨db, 0, none⟩), .int .i64 0, .int .i64 0, .bool false, .bool false, .bool false, .int .i64 0, .int .i64 0, .slice none 0 0] 76)).alloc (.cells #[.pointer (some ⟨w0.heap.size, 0, none⟩)] 25)) w.heap.size #[.pointer (some ⟨db, 0, none⟩)] 23 ∧
   V.Blk ((w0.alloc (.cells #[.pointer (some ⟨db, 0, none⟩), .int .i64 0, .int .i64 0, .bool false, .bool false, .bool false, .int .i64 0, .int .i64 0, .slice none 0 0] 76)).alloc (.cells #[.pointer (some ⟨w0.heap.size, 0, none⟩)] 25)) (w0.heap.size + 1) #[.pointer (some ⟨w0.heap.size, 0, none⟩)] 25 ∧
   LogAt ((w0.alloc (.cells #[.pointer (some ⟨db, 0, none⟩), .int .i64 0, .int .i64 0, .bool false, .bool false, .bool false, .int .i64 0, .int .i64 0, .slice none 0 0] 76)).alloc (.cells #[.pointer (some ⟨w0.heap.size, 0, none⟩)] 25)) (fun k => k = w0.heap.size) w0.heap.size ⟨some ⟨db, 0, none⟩, 0, 0, false, false, false⟩ LS.zero ∧
   w0.grownBy ((w0.alloc (.cells #[.pointer (some ⟨db, 0, none⟩), .int .i64 0, .int .i64 0, .bool false, .bool false, .bool false, .int .i64 0, .int .i64 0, .slice none 0 0] 76)).alloc (.cells #[.pointer (some ⟨w0.heap.size, 0, none⟩)] 25)) none ∧ ((w0.alloc (.cells #[.pointer (some ⟨db, 0, none⟩), .int .i64 0, .int .i64 0, .bool false, .bool false, .bool false, .int .i64 0, .int .i64 0, .slice none 0 0] 76)).alloc (.cells #[.pointer (some ⟨w0.heap.size, 0, none⟩)] 25)).heap.size = w0.heap.size + 2 from by
  have b2 := heap_alloc_new w0 (.cells #[.pointer (some ⟨db, 0, none⟩), .int .i64 0, .int .i64 0, .bool false, .bool false, .bool false, .int .i64 0, .int .i64 0, .slice none 0 0] 76)
  have b3 := heap_alloc_new (w0.alloc (.cells #[.pointer (some ⟨db, 0, none⟩), .int .i64 0, .int .i64 0, .bool false, .bool false, .bool false, .int .i64 0, .int .i64 0, .slice none 0 0] 76)) (.cells #[.pointer (some ⟨w0.heap.size, 0, none⟩)] 25)
  have g2 := World.grownBy_alloc w0 (.cells #[.pointer (some ⟨db, 0, none⟩), .int .i64 0, .int .i64 0, .bool false, .bool false, .bool false, .int .i64 0, .int .i64 0, .slice none 0 0] 76) none
  have g3 := World.grownBy_alloc (w0.alloc (.cells #[.pointer (some ⟨db, 0, none⟩), .int .i64 0, .int .i64 0, .bool false, .bool false, .bool false, .int .i64 0, .int .i64 0, .slice none 0 0] 76)) (.cells #[.pointer (some ⟨w0.heap.size, 0, none⟩)] 25) none
  simp only [World.size_alloc] at b3
  exact ⟨HBQ.out.kept (grown_trans g2 g3) (by simp), b3, log_new (V.Blk.kept b2 g3 (by simp)) _ rfl, grown_trans g2 g3, by simp⟩)
 generalize ((w0.alloc (.cells #[.pointer (some ⟨db, 0, none⟩), .int .i64 0, .int .i64 0, .bool false, .bool false, .bool false, .int .i64 0, .int .i64 0, .slice none 0 0] 76)).alloc (.cells #[.pointer (some ⟨w0.heap.size, 0, none⟩)] 25)) = w1 at *
 have q01 : w1.cell? ⟨w.heap.size, 0, none⟩ = some (.pointer (some ⟨db, 0, none⟩)) := by rw [HW.out.1.cell]; rfl
 gi_wp2_with fail
 clear q01
 refine ⟨trivial, (filesf_in _ db w1).mono ?_⟩
 rintro e w2 ⟨rfl, hw2⟩
 obtain ⟨fb, hfb⟩ : ∃ fb, fb = w1.heap.size := ⟨_, rfl⟩
 obtain ⟨lb, hlb⟩ : ∃ lb, lb = w0.heap.size := ⟨_, rfl⟩
 obtain ⟨cb, hcb⟩ : ∃ cb, cb = lb + 1 := ⟨_, rfl⟩
 obtain ⟨q, hq⟩ : ∃ q, q = w.heap.size := ⟨_, rfl⟩
 have H2 := hid_mk (show OB w2 db q lb cb fb ∧ LogAt w2 (fun k => k = lb) lb ⟨some ⟨db, 0, none⟩, 0, 0, false, false, false⟩ LS.zero ∧ w0.grownBy w2 none from by
  have hbn : V.Blk w2 w1.heap.size #[.pointer (some ⟨db, 0, none⟩)] 23 := by rw [hw2]; exact heap_alloc_new _ _
  have hg : w1.grownBy w2 none := by rw [hw2]; exact World.grownBy_alloc _ _ none
  subst hfb hcb hlb hq
  exact ⟨⟨HW.out.1.kept hg (by simp), HW.out.2.1.kept hg (by simp), hbn⟩, HW.out.2.2.1.kept hg, grown_trans HW.out.2.2.2.1 hg⟩)
 have HZ := hid_mk (show q = w.heap.size ∧ q < lb ∧ lb = w0.heap.size ∧ cb = lb + 1 ∧ fb = lb + 2 ∧ w2.heap.size = lb + 3 from by
  have h1 := HW.out.2.2.2.2
  have h2 := HLT.out
  refine ⟨hq, by omega, hlb, by omega, by omega, ?_⟩
  rw [hw2, World.size_alloc]; omega)
 rw [← hfb, ← hlb, ← hcb, ← hq]
 clear hw2 HW hfb hlb hcb hq
 gi_wp2_with fail
 obtain ⟨dk, hdk⟩ : ∃ dk : Option Addr, dk = some ⟨db, 0, none⟩ := ⟨_, rfl⟩
 have HDK := hid_mk hdk
 obtain ⟨ns, hns⟩ : ∃ ns, ns = L.map (·.1) := ⟨_, rfl⟩
 have HNS := hid_mk (show ns.length = fl.length ∧ V.sortedKeys m.names = namesOf ns ∧ (∀ i ∈ ns, 1 ≤ i ∧ i ≤ 99999999) ∧ ∀ (k i : Nat), ns[k]? = some i → ∃ f x, V.fileAt m.names (V.key (nmL i)) = some f ∧ m.files f = some x ∧ fl[k]? = some (i, x.data) from by
  obtain ⟨h1, h2, h3, h4⟩ := HM.out
  refine ⟨by rw [hns, List.length_map, h3], ?_, fun i hi => ?_, fun k i hk => ?_⟩
  ·rw [h1, keys_dir none h2, hns]
   simp [namesOf]
  ·rw [hns] at hi
   obtain ⟨q, hq, rfl⟩ := List.mem_map.1 hi
   exact h2.2 q hq
  ·rw [hns, List.getElem?_map, Option.map_eq_some_iff] at hk
   obtain ⟨q, hq, rfl⟩ := hk
   obtain ⟨x, hx, hf⟩ := h4 k q hq
   refine ⟨q.2, x, ?_, hx, hf⟩
   rw [h1]
   exact dir_S_some h2 (List.mem_of_getElem? hq))
 clear hns
 have hI0 : LogAt w2 (fun k => k = lb ∨ (0 < 0 ∧ 0 ≤ k)) lb (openS dk (fl.take 0)).2 (openS dk (fl.take 0)).1 := by
  rw [hdk]
  exact H2.out.2.1.wide (fun k hk => .inl hk)
 refine F.range_any rfl (by decide) (gf := 88) (lb := #[.pointer (some ⟨fb, 0, none⟩)]) rfl trivial (enters_of Tryz.func88 (by kernel_rfl) rfl)
  (fun (s : Nat × Nat) W => LogAt W (fun k => k = lb ∨ (0 < s.1 ∧ s.2 ≤ k)) lb (openS dk (fl.take s.1)).2 (openS dk (fl.take s.1)).1 ∧ w0.grownBy W none ∧ OB W db q lb cb fb ∧ (0 < s.1 → w2.heap.size + 2 ≤ s.2)) ?clI
  (fun _ _ => False) (fun _ _ _ _ h => h.elim)
  (KpO w2.heap.size) ?kt ?kb (0, 0) ⟨hI0, H2.out.2.2, H2.out.1, fun h => absurd h (by simp)⟩ (OTells w2.heap.size ns) (fun s vs s' W ⟨_, _, _, _, i, _, e⟩ => by rw [e]; rfl) (fun s => s.1 = ns.length) ?body ?iter ?done (fun _ _ _ _ h => h.elim)
 case clI =>
  rintro s X Y row ⟨h1, h2, h3, h4⟩ hg hr
  have hz := HZ.out
  have hb' : Bks X row := fun r e => (hr r e).2
  refine ⟨h1.book hg hb', ?_, h3.book hg hb', h4⟩
  cases row with
  | none => exact grown_trans h2 hg
  | some r => exact grown_new h2 hg (by have := (hr r rfl).1; omega)
 case kt => exact fun s X Y Z h1 h2 => ⟨Nat.le_trans h1.1 h2.1, fun k a b c => (h2.2 k a b c).trans (h1.2 k a b c)⟩
 case kb => exact fun s X o o' h1 h2 => ⟨by simp [World.putObj], fun k a b c => World.putObj_heap_other (by omega)⟩
 case iter =>
  intro l J JX hJI hJg hXg hY W hJ0 hsz
  exact callsIn_wide.2 (callsIn_wide.1 (files_in 9 l fb db N w2.heap.size F0 m ns hN HNS.out.2.1 HNS.out.2.2.1 J JX (fun A W hJ => HD.out.1.kept_none (hJI _ W hJ).2.1) (fun W hJ => (hJI _ W hJ).2.2.1.cells.2.2) (fun s W W' hj hg => hJg s W W' none hj hg (fun r e => by cases e)) (fun W W' hj hg => hXg W W' none hj hg (fun r e => by cases e)) hY W hJ0 hsz))
 case done =>
  rintro D s W hD hE ⟨h1, h2, h3, h4⟩ hK
  rw [hE, HNS.out.1, List.take_of_length_le (Nat.le_refl _)] at h1
  have hz := HZ.out
  have HX := hid_mk (show LogAt (W.putObj D (.deferred none)) (fun k => w0.heap.size ≤ k) lb (openS dk fl).2 (openS dk fl).1 ∧ w0.grownBy (W.putObj D (.deferred none)) none ∧ W.heap[D]? = some (.deferred (some [])) from by
   have gp := grownBy_putObj' W D (.deferred none)
   refine ⟨(h1.book gp (fun r e => by cases e; exact ⟨_, hK, .inr ⟨_, rfl⟩⟩)).wide (fun k hk => ?_), grown_new h2 gp (by omega), hK⟩
   rcases hk with hk | ⟨h0, hk⟩
   ·omega
   ·have := h4 (by have := HNS.out.1; omega); omega)
  obtain ⟨q0, q1, q2⟩ := h3.cells
  clear h1 h2 h3 h4 hD hE hK hI0 hz
  gi_wp2
  refine ⟨by simp, .inl ⟨_, _, rfl, run_takeDeferred HX.out.2.2, ?_⟩⟩
  refine ⟨_, results_tmp2 rfl _ _ _, .inl ⟨w0, m, ?_, HKK.out, HQ.out, HD.out.1, ?_, HX.out.2.1⟩⟩
  ·have hz := HZ.out
   rw [hz.2.2.1]
   rfl
  ·have hz := HZ.out
   rw [← hdk]
   have h9 := HX.out.1
   rw [hz.2.2.1] at h9
   exact h9
 case body =>
  rintro l s vs s' W rfl hsz ⟨h1, h2, h3, h4⟩ ⟨e1, e2, e3, e4, i, hi, rfl⟩ r hr
  obtain ⟨f, x, hf, hx, hfl⟩ := HNS.out.2.2.2 s.1 i hi
  have hio := HNS.out.2.2.1 i (List.mem_of_getElem? hi)
  have htk : fl.take (s.1 + 1) = fl.take s.1 ++ [(i, x.data)] := by rw [List.take_add_one, hfl]; rfl
  have hop := openS_snoc dk (fl.take s.1) (i, x.data)
  rw [← htk] at hop
  have hby := bytesOf_take fl (s.1 + 1)
  rw [htk, bytesOf_snoc] at hby
  have hsl := openS_len dk (fl.take s.1)
  have HOP := hid_mk hop
  obtain ⟨st, hst⟩ : ∃ st, st = (openS dk (fl.take s.1)).1 := ⟨_, rfl⟩
  obtain ⟨p, hpp⟩ : ∃ p, p = (openS dk (fl.take s.1)).2 := ⟨_, rfl⟩
  rw [← hst] at hsl
  rw [← hst, ← hpp] at h1
  have HST := hid_mk (And.intro hst hpp)
  have hbl : x.data.length ≤ 100000000 ∧ st.es.length + x.data.length + 1 ≤ 1000000000000 := by simp only at hby; omega
  have HALL := hid_mk (show ∀ o', LogAt (W.putObj (w2.heap.size + 1) o') (fun k => k = lb ∨ (0 < s.1 ∧ s.2 ≤ k)) lb p st ∧ w0.grownBy (W.putObj (w2.heap.size + 1) o') none ∧ OB (W.putObj (w2.heap.size + 1) o') db q lb cb fb ∧ w2.heap.size + 2 ≤ (W.putObj (w2.heap.size + 1) o').heap.size ∧ s'.2 ≤ (W.putObj (w2.heap.size + 1) o').heap.size from fun o' => by
   have gp := grownBy_putObj' W (w2.heap.size + 1) o'
   have hbk : Bks W (some (w2.heap.size + 1)) := fun r e => by cases e; exact ⟨_, hr, .inl ⟨_, rfl⟩⟩
   have hz := HZ.out
   exact ⟨h1.book gp hbk, grown_new h2 gp (by omega), h3.book gp hbk, Nat.le_trans hsz gp.size, Nat.le_trans e2 gp.size⟩)
  have HS := hid_mk (And.intro e1 (And.intro e3 (And.intro e4 h4)))
  have HF := hid_mk (And.intro hf hx)
  clear h1 h2 h3 h4 e1 e2 e3 e4 hi hr hsz hf hx hfl htk hop hby hsl hI0 hst hpp
  gi_wp2
  refine ⟨⟨rfl, rfl⟩, ⟨Nat.le_refl _, fun _ _ _ _ => rfl⟩, fun o' => ?_⟩
  have HY := hid_mk (HALL.out o')
  clear HALL
  generalize W.putObj (w2.heap.size + 1) o' = Y at *
  gi_upto_region 7 with fail
  refine wpIn_region_mix [(0, true), (1, true), (2, false), (3, false), (4, true), (5, true), (6, true), (7, true), (8, true)] (at0 Y (fun W => Y.grownBy W none)) (by kernel_rfl) (by kernel_rfl) (by kernel_rfl) rfl (by kernel_rfl) (shut_at0 (fun m => grown_drewN _ m none)) ⟨1, rfl⟩ ?_
  repeat (refine mix_rd1 rfl rfl (fun K hK => ?_); apply Exists.intro; refine ⟨fun W hW => ?_, ?_⟩; (obtain ⟨q0, q1, _⟩ := (HY.out.2.2.1.kept hW).cells; go_simp; rfl); (go_simp; refine hK _ _ ?_; clear hK K))
  refine mix_call rfl rfl 45 #[.int .i64 i] (fun W => by go_simp) ?_
  rintro X ⟨m1, rfl⟩
  have HG1 := hid_mk (grown_drewN Y m1 none)
  refine (name_any i (Y.drewN m1) hio.1 hio.2 (HD.out.2.2.kept (grown_trans HY.out.2.1 HG1.out))).mono ?_
  rintro e Y1 ⟨rfl, hg1⟩
  have G1 := hid_mk (show Y.grownBy Y1 none from grown_trans HG1.out hg1)
  clear hg1 HG1
  refine ⟨_, rfl, at0 Y1 (fun W => Y.grownBy W none), ⟨0, rfl⟩, shut_at0 (all_kept G1.out), fun _ h => h, ?_⟩
  go_simp
  refine mix_call rfl rfl 27 #[.pointer (some ⟨db, 0, none⟩), .string (nmL i)] (fun W => by go_simp) ?_
  rintro X ⟨m2, rfl⟩
  have HG2 := hid_mk (show Y.grownBy (Y1.drewN m2) none from grown_trans G1.out (grown_drewN Y1 m2 none))
  refine (V.read_ok N db F0 m (nmL i) f x (Y1.drewN m2) (HD.out.1.kept_none (grown_trans HY.out.2.1 HG2.out)) (size_L i) (right_L i) HF.out.1 HF.out.2).mono ?_
  rintro e Y2 ⟨v2, rfl, hr2, hg2⟩
  obtain ⟨a2, c2, rfl⟩ := row_shape hr2
  have G2 := hid_mk (show Y.grownBy Y2 none from grown_trans HG2.out hg2)
  have HO2 := hid_mk ((show Own Y2 (Y1.drewN m2).heap.size (.slice a2 x.data.length c2) x.data from hr2).byt)
  clear hr2 hg2 HG2 G1
  refine ⟨_, rfl, at0 Y2 (fun W => Y.grownBy W none), ⟨0, rfl⟩, shut_at0 (all_kept G2.out), fun _ h => h, ?_⟩
  go_simp
  repeat (refine mix_rd1 rfl rfl (fun K hK => ?_); apply Exists.intro; refine ⟨fun W hW => ?_, ?_⟩; (go_simp; rfl); (go_simp; refine hK _ _ ?_; clear hK K))
  refine mix_nil ?_
  rintro X ⟨m3, rfl⟩
  have HE := hid_mk (show LogAt (Y2.drewN m3) (fun k => (k = lb ∨ (0 < s.1 ∧ s.2 ≤ k)) ∧ k < (Y2.drewN m3).heap.size) lb p st ∧ w0.grownBy (Y2.drewN m3) none ∧ OB (Y2.drewN m3) db q lb cb fb ∧ Byt (Y2.drewN m3) (.slice a2 x.data.length c2) x.data ∧ Y.grownBy (Y2.drewN m3) none from by
   have g3 := grown_trans G2.out (grown_drewN Y2 m3 none)
   exact ⟨(HY.out.1.kept g3).bound, grown_trans HY.out.2.1 g3, HY.out.2.2.1.kept g3, HO2.out.kept (grown_drewN Y2 m3 none), g3⟩)
  clear G2 HO2
  generalize Y2.drewN m3 = Y3 at *
  gi_upto_region 8 with fail
  have HK3 := hid_mk (show ∀ W, Y3.grownBy W none → OB W db q lb cb fb from fun W hW => HE.out.2.2.1.kept hW)
  refine wpIn_region_mixL [(0, true), (1, true), (2, true), (3, true), (4, true), (5, true), (6, true), (7, true), (8, true), (9, false), (10, true), (11, true), (12, true)] 13 (at0 Y3 (fun W => OB W db q lb cb fb)) (by kernel_rfl) (by kernel_rfl) (by kernel_rfl) rfl (by kernel_rfl) rfl (by kernel_rfl) (shut_at0 (fun m => HK3.out _ (grown_drewN _ m none))) ⟨1, rfl⟩ ?_
  repeat (refine mix_rd1 rfl rfl (fun K hK => ?_); apply Exists.intro; refine ⟨fun W hW => ?_, ?_⟩; (obtain ⟨q0, q1, _⟩ := OB.cells hW; go_simp; rfl); (go_simp; refine hK _ _ ?_; clear hK K))
  refine mix_call rfl rfl 46 #[.pointer (some ⟨lb, 6, none⟩), .slice a2 x.data.length c2] (fun W => by go_simp) ?_
  rintro X ⟨m4, rfl⟩
  have G4 := hid_mk (grown_drewN Y3 m4 none)
  have hsz4 : (Y3.drewN m4).heap.size = Y3.heap.size := rfl
  have HZ4 := hid_mk hsz4
  have HL4 := hid_mk (HE.out.1.kept G4.out)
  have HB4 := hid_mk (HK3.out _ G4.out)
  have HY4 := hid_mk (show w0.grownBy (Y3.drewN m4) none ∧ Byt (Y3.drewN m4) (.slice a2 x.data.length c2) x.data ∧ Y.grownBy (Y3.drewN m4) none from ⟨grown_trans HE.out.2.1 G4.out, HE.out.2.2.2.1.kept G4.out, grown_trans HE.out.2.2.2.2 G4.out⟩)
  clear hsz4 HE HK3 G4
  generalize Y3.drewN m4 = Y4 at *
  refine (read_any (fun k => (k = lb ∨ (0 < s.1 ∧ s.2 ≤ k)) ∧ k < Y3.heap.size) lb p st (.slice a2 x.data.length c2) x.data Y4 HL4.out (fun k hk => by have := HZ4.out; have := hk.2; omega) HY4.out.2.1 (HD.out.2.1.kept HY4.out.1) hbl.1 hbl.2).mono ?_
  rintro e Y5 ⟨rfl, hl5, hk5⟩
  have HB5 := hid_mk (show OB Y5 db q lb cb fb from by
   have hz := HZ.out
   have hs := HS.out
   refine HB4.out.keeps hk5 ?_ ?_ ?_ <;> rintro ⟨h | ⟨h0, h⟩, _⟩ <;> first | omega | (have := hs.2.2.2 h0; omega))
  have H5 := hid_mk (And.intro hl5 hk5)
  clear hl5 hk5
  obtain ⟨wh, hwh⟩ : ∃ wh, wh = st.whole x.data := ⟨_, rfl⟩
  rw [← hwh]
  have HWH := hid_mk hwh
  clear hwh
  refine ⟨_, rfl, at0 Y5 (fun W => OB W db q lb cb fb), ⟨0, rfl⟩, shut_at0 (fun m => HB5.out.kept (grown_drewN _ m none)), fun _ h => h, ?_⟩
  go_simp
  repeat (refine mix_rd1 rfl rfl (fun K hK => ?_); apply Exists.intro; refine ⟨fun W hW => ?_, ?_⟩; (obtain ⟨q0, q1, _⟩ := OB.cells hW; go_simp; rfl); (go_simp; refine hK _ _ ?_; clear hK K))
  refine mix_nil ?_
  rintro X ⟨m6, rfl⟩
  have HL6 := hid_mk (H5.out.1.kept (grown_drewN Y5 m6 none))
  have HB6 := hid_mk (HB5.out.kept (grown_drewN Y5 m6 none))
  have HK6 := hid_mk (H5.out.2.then (V.Keeps.of_none (grown_drewN Y5 m6 none)))
  clear H5 HB5
  generalize Y5.drewN m6 = Y6 at *
  obtain ⟨v6, hf6⟩ := takeE_facts HL6.out
  obtain ⟨c0, c1, c2', c3, c4, c5, c6, c7, c8, cz⟩ := (hf6 Y6 (grown_refl _ _)).2.cells
  clear hf6 c6 c7 c8
  refine ⟨(((((Y6.setCell ⟨lb, 0, none⟩ (.pointer (some ⟨db, 0, none⟩))).setCell ⟨lb, 1, none⟩ (.int .i64 i)).setCell ⟨lb, 2, none⟩ (.int .i64 x.data.length)).setCell ⟨lb, 3, none⟩ (.bool wh)).setCell ⟨lb, 4, none⟩ (.bool false)).setCell ⟨lb, 5, none⟩ (.bool false), by go_simp, ?_⟩
  have HP := hid_mk (log_place (q := ⟨some ⟨db, 0, none⟩, i, x.data.length, wh, false, false⟩) HL6.out _ rfl)
  simp only at HP
  generalize (((((Y6.setCell ⟨lb, 0, none⟩ _).setCell ⟨lb, 1, none⟩ _).setCell ⟨lb, 2, none⟩ _).setCell ⟨lb, 3, none⟩ _).setCell ⟨lb, 4, none⟩ _).setCell ⟨lb, 5, none⟩ _ = Y7 at *
  clear c0 c1 c2' c3 c4 c5 cz
  go_simp
  gi_wp2_with fail
  have hz := HZ.out
  have hs := HS.out
  have hy := HY.out.2.2.2
  have hno : ∀ k, q ≤ k → k ≠ lb → k < s'.2 → ¬ ((k = lb ∨ (0 < s.1 ∧ s.2 ≤ k)) ∧ k < Y3.heap.size) := fun k hk1 hk2 hk3 h => by
   rcases h.1 with h | ⟨h, h'⟩
   ·exact hk2 h
   ·have := hs.2.1 h; omega
  have hsame : ∀ k, q ≤ k → k ≠ lb → k < s'.2 → Y7.heap[k]? = Y.heap[k]? := fun k hk1 hk2 hk3 => by
   have y4 := HY4.out.2.2
   have s4 := y4.size
   have s6 := HK6.out.size
   exact (HP.out.2.block k (by omega) (by simp; omega)).trans ((HK6.out.block k (by omega) (hno k hk1 hk2 hk3)).trans (y4.block k (by omega) (by simp)))
  have hgw : w0.grownBy Y7 none := by
   refine V.Keeps.grown (((V.Keeps.of_none HY4.out.1).trans HK6.out (fun k hk hn h => ?_)).trans (V.Keeps.one (Z := fun k => k = lb) HP.out.2 rfl) (fun k hk hn h => by omega))
   rcases h.1 with h | ⟨h0, h⟩
   ·omega
   ·have := hs.2.2.2 h0; omega
  have hszs : Y.heap.size ≤ Y7.heap.size := Nat.le_trans HY4.out.2.2.size (Nat.le_trans HK6.out.size HP.out.2.size)
  refine ⟨⟨hsame _ (by omega) (by omega) (by omega), hsame _ (by omega) (by omega) (by omega)⟩, ⟨hszs, fun k a1 a2 a3 => hsame k (by omega) (by omega) a1⟩, ?_, hgw, ?_, fun _ => hs.2.2.1⟩
  ·rw [hs.1, ← hdk, HOP.out, ← HST.out.1]
   simp only
   have hl7 := HP.out.1
   rw [HWH.out, ← hdk] at hl7
   refine hl7.wide (fun k hk => ?_)
   have y4 := HY4.out.2.2.size
   rcases hk with ⟨hk | ⟨h0, hk⟩, _⟩ | hk
   ·exact .inl hk
   ·exact .inr ⟨by omega, by rw [hs.2.1 h0]; exact hk⟩
   ·exact .inr ⟨by omega, by omega⟩
  ·refine HB6.out.keeps (V.Keeps.one (Z := fun k => k = lb) HP.out.2 rfl) ?_ ?_ ?_ <;> omega

set_option maxHeartbeats 2000000 in
theorem clean_some (N b t : Nat) (F0 : Nat → Prop) (m : V.Mem) (w : World) (h : V.IsDisk w F0 N b m) (hN : N < 1099511627776) (hf : V.fileAt m.names (V.key nmU) = some t) : Calls Tryz.prog 43 #[.pointer (some ⟨b, 0, none⟩)] w (V.Post F0 N b w (V.RemoveSpec nmU m)) := by
 obtain ⟨x, hx⟩ := h.rest.gN.at hf
 have HR := hid_mk (V.read_ok N b F0 m nmU t x w h size_tmp right_tmp hf hx)
 have HD := hid_mk h
 have HM := hid_mk (fun W (hW : V.IsDisk W F0 N b m) => V.remove_any N b F0 m nmU W hW hN size_tmp)
 unfold nmU at HR HM
 clear h hf hx
 go_enter Tryz.func43, Tryz.ntmps43
 go_wp2_with fail
 refine HR.out.mono ?_
 rintro e w1 ⟨v1, rfl, hr1, hg1⟩
 obtain ⟨a1, c1, rfl⟩ := row_shape hr1
 have G1 := hid_mk hg1
 clear hr1 hg1 HR
 go_wp2_with fail
 refine (HM.out w1 (HD.out.kept_none G1.out)).mono ?_
 rintro e w2 ⟨n, m', rfl, hS, hd, hk⟩
 have H2 := hid_mk (And.intro hS (And.intro hd hk))
 clear hS hd hk
 go_wp2_with fail
 go_ret
 exact ⟨n, m', rfl, H2.out.1, H2.out.2.1.monoF (fun k hk => hk.elim .inl (fun hk => .inr (Nat.le_trans G1.out.size hk))), (V.Keeps.of_none G1.out).then H2.out.2.2⟩
theorem cd_openG {w : World} {H : Nat → Prop} {N c db : Nat} {m : V.Mem} {s : LS} {L : List (Nat × Nat)} {b : Option Nat} (h : CD w H N c db m s L b) (hN : N + 1 < 1099511627776) (hc : c ≤ 90) (ht : Tb w) (hH : ∀ k, H k → 4 ≤ k) :
  Calls Tryz.prog 10 #[.pointer (some ⟨db, 0, none⟩)] w fun e w' => V.Keeps H w w' ∧ ((∃ lb m' p, e = .returned (.tuple #[.pointer (some ⟨lb, 0, none⟩), .int .i64 0]) ∧ w.heap.size ≤ lb ∧ LD w' (Gw H w) (N + 1) c db lb m' p s (fun u => u = s) L ∧ (m.fuse = -1 → m'.fuse = -1)) ∨ (e = .returned (.tuple #[.pointer none, .int .i64 9]) ∧ (∃ m', DK w' (Gw H w) (N + 1) c db m' (fun u => u = s)) ∧ m.fuse = 0)) := by
 have h0 := h
 obtain ⟨Z, hD, hC, hZ⟩ := h
 have hl := lens_of hD
 have hb := fls_bytes hl hC.asc hC.top
 cases b with
 | none =>
  refine (cd_open h0 (by omega) hc ht).mono ?_
  rintro e w' ⟨rfl, hg, p, hL⟩
  obtain ⟨Z', G', a1, a2, a3, a4⟩ := hL
  exact ⟨V.Keeps.of_none hg, .inl ⟨_, m, p, rfl, by omega, ⟨Z', G', ⟨a1.dsk.monoN (by omega), a1.log, a1.dk, a1.apart, a1.zb, a1.gb⟩, a2, a3, a4⟩, id⟩⟩
 | some t =>
  have hfa : V.fileAt m.names (V.key nmU) = some t := by rw [hC.names, dir_U]
  have hq : ¬ Z w.heap.size := fun hz => by have := (hZ _ hz).2; omega
  have hg0 : w.grownBy (w.alloc (.cells #[.pointer (some ⟨db, 0, none⟩)] 23)) none := World.grownBy_alloc _ _ none
  have hgz : (w.alloc (.cells #[.pointer (some ⟨db, 0, none⟩)] 23)).heap.size = w.heap.size + 1 := World.size_alloc _ _
  refine (open_gen (N + 1) db (fun k => Z k ∨ (w.alloc (.cells #[.pointer (some ⟨db, 0, none⟩)] 23)).heap.size ≤ k) Z (fun m' => m'.files = m.files ∧ (openS (some ⟨db, 0, none⟩) (fls m' L)).1 = s ∧ SK m' c (fun u => u = s) (openS (some ⟨db, 0, none⟩) (fls m' L)).2 s L ∧ (m.fuse = -1 → m'.fuse = -1)) L (fls m L) (fun n w1 => n = 9 ∧ V.Keeps Z w w1 ∧ m.fuse = 0 ∧ ∃ m', V.IsDisk w1 (fun k => Z k ∨ w.heap.size ≤ k) (N + 1) db m' ∧ Hf m' c (fun u => u = s)) w hN hC.asc (by omega) hq ?_).mono ?_
  ·refine (clean_some N db t Z m _ (hD.kept_none hg0) (by omega) hfa).mono ?_
   rintro e w1 ⟨n, m', rfl, hr, hd, hk⟩
   have hk' : V.Keeps Z w w1 := (V.Keeps.of_none hg0).then hk
   have ht1 : Tb w1 := ht.keeps hk' (fun k hz => hH k (hZ k hz).1)
   rcases hC.cleaned (some ⟨db, 0, none⟩) hr with ⟨rfl, c1, c2, c3, c4, c5⟩ | ⟨rfl, c1, c2⟩
   ·refine .inl ⟨rfl, hk, ⟨m', ⟨c2, c3, c4, c5⟩, c1, ?_, hd⟩, ht1.tab, ht1.pw⟩
    obtain ⟨a1, a2⟩ := hC.holds
    exact ⟨a1, fun k p hp => by rw [c2]; exact a2 k p hp⟩
   ·exact .inr ⟨9, by decide, rfl, rfl, hk', c2, m', hd.monoF (fun k hk => hk.elim .inl (fun h => .inr (by omega))), c1⟩
  ·rintro e w' (⟨w1, m', rfl, hk, ⟨c2, c3, c4, c5⟩, hd, hlog, hg⟩ | ⟨n, hn, rfl, rfl, hk, hf, m', hd, hh⟩)
   ·have e2 : fls m' L = fls m L := by unfold fls; rw [c2]
    rw [e2] at c3 c4
    rw [c3] at hlog
    have hlog' := hlog.bound
    have hd' := (hd.bound).kept_none hg
    refine ⟨(hk.then (V.Keeps.of_none hg)).mono (fun k hz => (hZ k hz).1), .inl ⟨w1.heap.size, m', _, rfl, hk.size, ⟨_, _, ⟨hd', hlog', ?_, fun k hk hz => ?_, fun k hk' => Nat.lt_of_lt_of_le hk'.2 hg.size, fun k hk' => hk'.2⟩, c4, ?_, fun k hk' => ?_⟩, c5⟩⟩
    ·rcases open_place (some ⟨db, 0, none⟩) m L with ⟨_, e⟩ | ⟨M, q, _, e⟩ <;> rw [e]
    ·have := hz.2
     have := hk.1
     omega
    ·rcases open_place (some ⟨db, 0, none⟩) m L with ⟨_, e⟩ | ⟨M, q, _, e⟩ <;> rw [e]
    ·rcases hk' with ⟨hz | hz, _⟩ | hz
     ·exact .inl (hZ k hz).1
     ·exact .inr (by omega)
     ·exact .inr (Nat.le_trans hk.size hz.1)
   ·exact ⟨hk.mono (fun k hz => (hZ k hz).1), .inr ⟨rfl, ⟨m', _, hd.bound, hh, fun k hz => ⟨hz.1.elim (fun h => .inl (hZ k h).1) .inr, hz.2⟩⟩, hf⟩⟩
end Go.Proofs.YtlpkphdgadgmiaaGreatDoor.W

namespace Go.Proofs.YtlpkphdgadgmiaaGreatDoor.W
open Go.RowKit Go.Maps Go.Shelf
set_option linter.unusedVariables false
set_option linter.unusedSimpArgs false
set_option maxRecDepth 100000

theorem esg_blk {W : World} {G : Nat → Prop} {g : Nat} {ps : List (Ent × Value)} (hb : W.heap[g]? = some (.cells (ps.flatMap entCells).toArray 51 (0, 0))) (ho : ∀ p ∈ ps, Own W 0 p.2 p.1.data ∧ p.1.data.length ≤ 140737488355328) (hg : G g) (hG : ∀ p ∈ ps, ∀ k, p.2.ownBlock = some k → G k) (hl : ps.length ≤ 1000000) : EsG W G (.slice (some ⟨g, 0, none⟩) ps.length ps.length) ps := by
 refine ⟨⟨entCells_len ps, .inr ⟨g, ps.length, _, rfl, Nat.zero_le _, hb, Nat.le_refl _, by unfold maxLen; omega, ?_, ?_⟩⟩, fun k e => by cases e; exact hg, ho, hG⟩
 ·rw [List.size_toArray, entCells_len]
 ·show List.take (ps.length * 4) (ps.flatMap entCells) = _
  rw [List.take_of_length_le (by rw [entCells_len]; exact Nat.le_refl _)]
def Hb (w w' : World) : Nat → Prop := fun k => w.heap.size ≤ k ∧ k < w'.heap.size
theorem hb_four {w w' : World} (h : Tb w) : ∀ k, Hb w w' k → 4 ≤ k := fun k hk => Nat.le_trans h.pw.four hk.1
theorem hb_grown {w a b : World} (h : w.grownBy a none) {c : World} (hk : V.Keeps (Hb w c) a b) : w.grownBy b none :=
 V.Keeps.grown ((V.Keeps.of_none h).then (hk.mono (fun k hk => hk.1)))
theorem ld_hb {w a b b' : World} {H : Nat → Prop} {N c db lb : Nat} {m : V.Mem} {p : Pl} {s : LS} {P : LS → Prop} {L : List (Nat × Nat)} (h : LD b (Gw (Hb w a) b') N c db lb m p s P L) (hg : w.grownBy b' none) : LD b (Hb w b) N c db lb m p s P L :=
 h.wide (fun k hk hh => ⟨hh.elim (·.1) (fun h => Nat.le_trans hg.size h), hk⟩)

def kn1 : Ent := ⟨1, 1, 2, [5]⟩
def kn2 : Ent := ⟨1, 2, 2, [6]⟩
def kn3 : Ent := ⟨2, 3, 2, [7]⟩
set_option maxHeartbeats 8000000 in
theorem knows_any (w : World) (ht : Tb w) : Calls Tryz.prog 12 #[] w fun e w' => e = .returned (.bool true) ∧ w.grownBy w' none := by
 have HT := hid_mk ht
 clear ht
 go_enter Tryz.func12, Tryz.ntmps12
 go_wp2_with fail
 refine (disk9_ok w).mono ?_
 rintro e w1 ⟨b, bn, bs, rfl, hd, hg⟩
 have H1 := hid_mk (show CD w1 (Hb w w1) 0 0 b (mem0 bn bs) LS.zero [] none ∧ w.grownBy w1 none from ⟨⟨_, hd.bound, ck_new bn bs, fun k hk => ⟨hk, hk.2⟩⟩, hg⟩)
 clear hd hg
 go_wp2_with fail
 refine (cd_open H1.out.1 (by omega) (by omega) (HT.out.kept H1.out.2)).mono ?_
 rintro e w2 ⟨rfl, hg, p2, hL⟩
 obtain ⟨lb, hlb⟩ : ∃ lb, lb = w1.heap.size + 1 := ⟨_, rfl⟩
 rw [← hlb] at hL ⊢
 have H2 := hid_mk (show LD w2 (Hb w w2) 0 0 b lb (mem0 bn bs) p2 LS.zero (fun u => u = LS.zero) [] ∧ w.grownBy w2 none from ⟨ld_hb (H := fun _ => True) hL H1.out.2, grown_trans H1.out.2 hg⟩)
 clear hL hg hlb H1
 go_wp2_with fail
 refine (show Calls Tryz.prog 47 #[.int .i64 1, .int .i64 1, .int .u8 5] w2 _ from entry47_ok 1 1 5 w2).mono ?_
 rintro e w3 ⟨a3, c3, rfl, ho3, hg3⟩
 have H3 := hid_mk (And.intro ho3 hg3)
 clear ho3 hg3
 go_wp2_with fail
 refine (show Calls Tryz.prog 47 #[.int .i64 1, .int .i64 2, .int .u8 6] w3 _ from entry47_ok 1 2 6 w3).mono ?_
 rintro e w4 ⟨a4, c4, rfl, ho4, hg4⟩
 have H4 := hid_mk (And.intro ho4 hg4)
 clear ho4 hg4
 have H5 := hid_mk (show w2.grownBy (w4.alloc (.cells #[.int .i64 1, .int .i64 1, .int .i64 2, .slice a3 1 c3, .int .i64 1, .int .i64 2, .int .i64 2, .slice a4 1 c4] 51)) none ∧ EsG (w4.alloc (.cells #[.int .i64 1, .int .i64 1, .int .i64 2, .slice a3 1 c3, .int .i64 1, .int .i64 2, .int .i64 2, .slice a4 1 c4] 51)) (fun k => w2.heap.size ≤ k) (.slice (some ⟨w4.heap.size, 0, none⟩) 2 2) [(kn1, .slice a3 1 c3), (kn2, .slice a4 1 c4)] from by
  have g5 := World.grownBy_alloc w4 (.cells #[.int .i64 1, .int .i64 1, .int .i64 2, .slice a3 1 c3, .int .i64 1, .int .i64 2, .int .i64 2, .slice a4 1 c4] 51) none
  have s3 := H3.out.2.size
  have s4 := H4.out.2.size
  refine ⟨grown_trans H3.out.2 (grown_trans H4.out.2 g5), esg_blk (ps := [(kn1, .slice a3 1 c3), (kn2, .slice a4 1 c4)]) (heap_alloc_new _ _) (fun p hp => ?_) (by show w2.heap.size ≤ _; omega) (fun p hp k e => ?_) (by simp)⟩
  ·simp only [List.mem_cons, List.not_mem_nil, or_false] at hp
   rcases hp with rfl | rfl
   ·exact ⟨row_base (H3.out.1.kept (grown_trans H4.out.2 g5) (.inl rfl)) (Nat.zero_le _), by show (1 : Nat) ≤ _; omega⟩
   ·exact ⟨row_base (H4.out.1.kept g5 (.inl rfl)) (Nat.zero_le _), by show (1 : Nat) ≤ _; omega⟩
  ·simp only [List.mem_cons, List.not_mem_nil, or_false] at hp
   rcases hp with rfl | rfl
   ·have := (own_at H3.out.1 e).1; show w2.heap.size ≤ k; omega
   ·have := (own_at H4.out.1 e).1; show w2.heap.size ≤ k; omega)
 go_wp2_with fail
 generalize w4.alloc (.cells _ 51) = w5 at *
 generalize w4.heap.size = g4 at *
 clear H3 H4
 refine (ld_append (H2.out.1.kept H5.out.1) (by omega) (by omega) (.slice (some ⟨g4, 0, none⟩) 2 2) [kn1, kn2] (fun W hk => ⟨((HT.out.kept H2.out.2).kept H5.out.1).keeps hk (hb_four HT.out), (H5.out.2.keeps hk (fun k h1 h2 => by have := h2.2; have : w2.heap.size ≤ k := h1; omega)).reads⟩) (by decide) (by decide) (by decide) (by decide)).mono ?_
 rintro e w6 ⟨n6, rfl, hk6, (⟨rfl, m6, p6, L6, hL6, hf6, hu6, _⟩ | ⟨rfl, _, hf6⟩ | ⟨rfl, hf6⟩)⟩
 case inr.inl => exact absurd rfl hf6
 case inr.inr =>
  exfalso
  rcases hf6 with h | h
  ·simp at h
  ·revert h
   have : used (mem0 bn bs) = 0 := rfl
   rw [this]
   decide +kernel
 have H6 := hid_mk (show LD w6 (Hb w w6) 4 1 b lb m6 p6 (LS.zero.more [kn1, kn2]) (fun u => u = LS.zero ∨ ∃ k, k ≤ 2 ∧ u = LS.zero.more ([kn1, kn2].take k)) L6 ∧ w.grownBy w6 none ∧ m6.fuse = -1 ∧ used m6 ≤ 1000 from
  ⟨ld_hb (H := fun _ => True) hL6 (grown_trans H2.out.2 H5.out.1), hb_grown (grown_trans H2.out.2 H5.out.1) hk6, hf6 rfl, by
   rw [hu6]
   have : used (mem0 bn bs) = 0 := rfl
   rw [this]
   decide +kernel⟩)
 clear hk6 hL6 hf6 hu6 H5 H2
 go_wp2_with fail
 refine (ld_sync H6.out.1 (by omega) (HT.out.kept H6.out.2.1)).mono ?_
 rintro e w7 ⟨n7, rfl, hk7, (⟨rfl, m7, p7, hL7, hf7, hu7⟩ | ⟨rfl, _, hf7⟩)⟩
 case inr => exfalso; rw [H6.out.2.2.1] at hf7; cases hf7
 have H7 := hid_mk (show LD w7 (Hb w w7) 5 1 b lb m7 p7 (LS.zero.more [kn1, kn2]) (fun u => u = LS.zero.more [kn1, kn2]) L6 ∧ w.grownBy w7 none ∧ m7.fuse = -1 ∧ used m7 ≤ 1000 from ⟨ld_hb (H := fun _ => True) hL7 H6.out.2.1, hb_grown H6.out.2.1 hk7, hf7 H6.out.2.2.1, by rw [hu7]; exact H6.out.2.2.2⟩)
 clear hk7 hL7 hf7 hu7 H6
 go_wp2_with fail
 refine (show Calls Tryz.prog 47 #[.int .i64 2, .int .i64 3, .int .u8 7] w7 _ from entry47_ok 2 3 7 w7).mono ?_
 rintro e w8 ⟨a8, c8, rfl, ho8, hg8⟩
 have H9 := hid_mk (show w7.grownBy (w8.alloc (.cells #[.int .i64 2, .int .i64 3, .int .i64 2, .slice a8 1 c8] 51)) none ∧ EsG (w8.alloc (.cells #[.int .i64 2, .int .i64 3, .int .i64 2, .slice a8 1 c8] 51)) (fun k => w7.heap.size ≤ k) (.slice (some ⟨w8.heap.size, 0, none⟩) 1 1) [(kn3, .slice a8 1 c8)] from by
  have g9 := World.grownBy_alloc w8 (.cells #[.int .i64 2, .int .i64 3, .int .i64 2, .slice a8 1 c8] 51) none
  have s8 := hg8.size
  refine ⟨grown_trans hg8 g9, esg_blk (ps := [(kn3, .slice a8 1 c8)]) (heap_alloc_new _ _) (fun p hp => ?_) (by show w7.heap.size ≤ _; omega) (fun p hp k e => ?_) (by simp)⟩
  ·simp only [List.mem_cons, List.not_mem_nil, or_false] at hp
   subst hp
   exact ⟨row_base (ho8.kept g9 (.inl rfl)) (Nat.zero_le _), by show (1 : Nat) ≤ _; omega⟩
  ·simp only [List.mem_cons, List.not_mem_nil, or_false] at hp
   subst hp
   have := (own_at ho8 e).1; show w7.heap.size ≤ k; omega)
 clear ho8 hg8
 go_wp2_with fail
 generalize w8.alloc (.cells _ 51) = w9 at *
 generalize w8.heap.size = g8 at *
 refine (ld_append (H7.out.1.kept H9.out.1) (by omega) (by omega) (.slice (some ⟨g8, 0, none⟩) 1 1) [kn3] (fun W hk => ⟨((HT.out.kept H7.out.2.1).kept H9.out.1).keeps hk (hb_four HT.out), (H9.out.2.keeps hk (fun k h1 h2 => by have := h2.2; have : w7.heap.size ≤ k := h1; omega)).reads⟩) (by decide) (by decide) (by decide) (by decide)).mono ?_
 rintro e w10 ⟨n10, rfl, hk10, (⟨rfl, m10, p10, L10, hL10, hf10, hu10, hlow⟩ | ⟨rfl, _, hf10⟩ | ⟨rfl, hf10⟩)⟩
 case inr.inl => exact absurd H7.out.2.2.1 hf10
 case inr.inr =>
  exfalso
  rcases hf10 with h | h
  ·have : L6.length ≤ 1 := by
    obtain ⟨Z, G, _, hS, _⟩ := H7.out.1
    exact hS.past.len
   omega
  ·have h1 := H7.out.2.2.2
   have h2 : (entsB [kn3]).length ≤ 1000 := by decide +kernel
   omega
 have H10 := hid_mk (And.intro (show LD w10 (Hb w w10) 9 2 b lb m10 p10 ((LS.zero.more [kn1, kn2]).more [kn3]) _ L10 ∧ w.grownBy w10 none from ⟨ld_hb (H := fun _ => True) hL10 (grown_trans H7.out.2.1 H9.out.1), hb_grown (grown_trans H7.out.2.1 H9.out.1) hk10⟩) hlow)
 clear hk10 hL10 hf10 hu10 hlow H9 H7
 have h3 : ((LS.zero.more [kn1, kn2]).more [kn3]).last = 3 := by decide
 have HL := hid_mk (ld_last H10.out.1.1)
 rw [h3] at HL
 clear h3
 go_wp2_with (go_at_call 11; refine (V.num_any _ _).mono ?_; rintro e w' ⟨rfl, rfl⟩)
 refine HL.out.mono ?_
 rintro e w11 ⟨rfl, hg11⟩
 have H11 := hid_mk (And.intro (H10.out.1.1.kept hg11) (And.intro (grown_trans H10.out.1.2 hg11) H10.out.2))
 clear hg11 HL H10
 go_wp2_with fail
 refine (ld_crash0 H11.out.1 H11.out.2.2 (by omega)).mono ?_
 rintro e w12 ⟨rfl, hk12, s12, m12, L12, b12, rfl, hC12, hf12⟩
 have H12 := hid_mk (show CD w12 (Hb w w12) 9 2 b m12 (LS.zero.more [kn1, kn2]) L12 b12 ∧ w.grownBy w12 none ∧ m12.fuse = -1 from ⟨hC12.wide (fun k hk hh => ⟨hh.elim (·.1) (fun h => Nat.le_trans H11.out.2.1.size h), hk⟩), hb_grown H11.out.2.1 hk12, hf12⟩)
 clear hk12 hC12 hf12 H11
 go_wp2_with fail
 refine (cd_openG H12.out.1 (by omega) (by omega) (HT.out.kept H12.out.2.1) (hb_four HT.out)).mono ?_
 rintro e w13 ⟨hk13, (⟨lb2, m13, p13, rfl, hle, hL13, _⟩ | ⟨rfl, _, hf13⟩)⟩
 case inr => exfalso; rw [H12.out.2.2] at hf13; cases hf13
 have H13 := hid_mk (show LD w13 (Hb w w13) 10 2 b lb2 m13 p13 (LS.zero.more [kn1, kn2]) _ L12 ∧ w.grownBy w13 none from ⟨ld_hb (H := fun _ => True) hL13 H12.out.2.1, hb_grown H12.out.2.1 hk13⟩)
 clear hk13 hL13 hle H12
 have h3 : (LS.zero.more [kn1, kn2]).last = 2 := by decide
 have HL := hid_mk (ld_last H13.out.1)
 rw [h3] at HL
 clear h3
 go_wp2_with (go_at_call 11; refine (V.num_any _ _).mono ?_; rintro e w' ⟨rfl, rfl⟩)
 refine HL.out.mono ?_
 rintro e w14 ⟨rfl, hg14⟩
 have H14 := hid_mk (And.intro (H13.out.1.kept hg14) (grown_trans H13.out.2 hg14))
 clear hg14 HL H13
 go_wp2_with fail
 obtain ⟨Z, G, hD14, _⟩ := H14.out.1
 refine (entries_ok G lb2 p13 (LS.zero.more [kn1, kn2]) 0 9 w14 hD14.log (by rw [hD14.dk]; rfl) (by omega) (by decide) (by decide) (by omega)).mono ?_
 rintro e w15 ⟨v15, ps15, rfl, hp15, he15⟩
 have hlen : ps15.length = 2 := by rw [← List.length_map (f := (·.1)), hp15]; rfl
 obtain ⟨a15, c15, rfl⟩ := row_shape he15.row
 rw [hlen]
 have G15 := hid_mk (grown_trans H14.out.2 he15.gr)
 clear hp15 he15 hD14 hlen
 go_wp2_with fail
 go_ret
 exact ⟨rfl, G15.out⟩
end Go.Proofs.YtlpkphdgadgmiaaGreatDoor.W
