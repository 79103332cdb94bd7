/- SeglogRoom: the pure side; the walk. -/
import Derived.Test.YtlpkphdgadgmiaaGreatDoorKs
namespace Go.Proofs.YtlpkphdgadgmiaaGreatDoor.W
open Go.RowKit Go.Maps Go.Shelf
set_option linter.unusedVariables false
set_option linter.unusedSimpArgs false
set_option maxRecDepth 100000

def rmE (sz i : Nat) : Ent := ⟨1, (i : Nat), 2, List.replicate sz 0⟩
def rmL (sz n : Nat) : List Ent := (List.range n).map fun j => rmE sz (j + 1)
theorem rmL_len (sz n : Nat) : (rmL sz n).length = n := by unfold rmL; simp
theorem rmL_snoc (sz n : Nat) : rmL sz (n + 1) = rmL sz n ++ [rmE sz (n + 1)] := by unfold rmL; rw [List.range_succ, List.map_append]; rfl
theorem rmL_mem {sz n : Nat} {x : Ent} (h : x ∈ rmL sz n) : ∃ j, j < n ∧ x = rmE sz (j + 1) := by
  unfold rmL at h
  obtain ⟨j, hj, rfl⟩ := List.mem_map.1 h
  exact ⟨j, List.mem_range.1 hj, rfl⟩
theorem rmE_right {sz i : Nat} (hs : sz ≤ 300) (h1 : 1 ≤ i) (h2 : i ≤ 100) : rightE (rmE sz i) = true := by
  rw [rightE_in (by unfold rmE; simp; omega)]
  show rightD 2 (List.replicate sz 0) = true
  rw [rightD_2]
  simp
  omega
theorem rmL_last (sz n : Nat) : lastT 0 (rmL sz n) ≤ 1 := by
  cases n with
  | zero => show (0 : Int) ≤ 1; omega
  | succ n => rw [rmL_snoc, lastT_app]; show (1 : Int) ≤ 1; omega
theorem rm_app {sz k : Nat} (hs : sz ≤ 300) (hk : k < 60) : appErr (LS.zero.more (rmL sz k)) [rmE sz (k + 1)] = 0 := by
  have hr := rmE_right (sz := sz) (i := k + 1) hs (by omega) (by omega)
  have hn : nextOk ((LS.zero.more (rmL sz k)).i + (LS.zero.more (rmL sz k)).es.length) (lastT (LS.zero.more (rmL sz k)).t (LS.zero.more (rmL sz k)).es) [rmE sz (k + 1)] = true := by
    show (decide ((((k + 1 : Nat) : Int)) = 0 + (([] ++ rmL sz k).length : Nat) + 1) && decide (lastT 0 ([] ++ rmL sz k) ≤ 1) && true) = true
    rw [List.nil_append, rmL_len, decide_eq_true (by omega), decide_eq_true (rmL_last sz k)]
    rfl
  unfold appErr
  rw [if_neg (by simp [hr]), if_neg (by rw [hn]; simp), if_neg]
  show ¬ 4096 < ([] ++ rmL sz k).length + 1
  rw [List.nil_append, rmL_len]
  omega
theorem rm_reb {sz n k : Nat} (hk : k < n) (hn : n ≤ 60) : (LS.zero.more (rmL sz n)).rebase ((n - k : Nat) : Int) 1 = ⟨((n - k : Nat) : Int), 1, (rmL sz n).drop (n - k)⟩ := by
  have hb : (LS.zero.more (rmL sz n)).hasB ((n - k : Nat) : Int) = true := by
    show (decide ((0 : Int) < ((n - k : Nat) : Int)) && decide (((n - k : Nat) : Int) ≤ 0 + (([] ++ rmL sz n).length : Nat))) = true
    rw [List.nil_append, rmL_len, decide_eq_true (by omega), decide_eq_true (by omega)]
    rfl
  have ht : (LS.zero.more (rmL sz n)).termAt ((n - k : Nat) : Int) = 1 := by
    unfold LS.termAt
    rw [if_neg (by show ¬ ((n - k : Nat) : Int) = 0; omega)]
    have e : (LS.zero.more (rmL sz n)).at ((n - k : Nat) : Int) = n - k - 1 := by
      show (((n - k : Nat) : Int) - 0 - 1).toNat = _
      omega
    rw [e]
    show ((([] ++ rmL sz n)[n - k - 1]?).map (·.term)).getD 0 = 1
    rw [List.nil_append]
    unfold rmL
    rw [List.getElem?_map, List.getElem?_range (by omega)]
    rfl
  unfold LS.rebase
  rw [hb, ht]
  simp
  show List.drop ((n - k : Nat) - (0 : Int)).toNat ([] ++ rmL sz n) = _
  rw [List.nil_append]
  congr 1
theorem rm_reb_ok {sz n k : Nat} (hk : k < n) (hn : n ≤ 60) : rebErr (LS.zero.more (rmL sz n)) ((n - k : Nat) : Int) 1 = 0 := by
  unfold rebErr
  rw [if_neg (by omega), if_neg (by show ¬ ((n - k : Nat) : Int) ≤ 0; omega)]
theorem ents_each {xs : List Ent} {B : Nat} (h : ∀ x ∈ xs, (entR1 x).length ≤ B) : (entsB xs).length ≤ xs.length * B := by
  induction xs with
  | nil => simp [entsB]
  | cons x xs ih =>
    have h1 := h x (by simp)
    have h2 := ih (fun y hy => h y (by simp [hy]))
    simp [entsB] at h2 ⊢
    rw [Nat.add_mul]
    omega
theorem rmE_bytes {sz i : Nat} (hs : sz ≤ 300) (h2 : i ≤ 100) : (entR1 (rmE sz i)).length ≤ sz + 37 := by
  unfold entR1
  rw [frm_len]
  unfold entB rmE txtB
  simp only [List.length_append, List.length_replicate]
  have a := numB_le (n := (1 : Int).toNat) (by decide)
  have b := numB_le (n := ((i : Nat) : Int).toNat) (by omega)
  have c := numB_le (n := (2 : Int).toNat) (by decide)
  have d := numB_le (n := sz) (by omega)
  omega
/-- What the one file holds. -/
theorem rm_used {sz n k : Nat} (hs : sz ≤ 300) (hk : k < n) (hn : n ≤ 60) : (rowR ((LS.zero.more (rmL sz n)).rebase ((n - k : Nat) : Int) 1).rcs).length ≤ 40 + k * (sz + 40) := by
  rw [rm_reb hk hn, rcs_bytes, List.length_append]
  have h1 := ents_each (xs := (rmL sz n).drop (n - k)) (B := sz + 37) (fun x hx => by
    obtain ⟨j, hj, rfl⟩ := rmL_mem (List.mem_of_mem_drop hx)
    exact rmE_bytes hs (by omega))
  have h2 : ((rmL sz n).drop (n - k)).length = k := by rw [List.length_drop, rmL_len]; omega
  rw [h2] at h1
  have h3 := frm_len 3 (numB (((n - k : Nat) : Int)).toNat ++ numB (1 : Int).toNat)
  have h4 := numB_le (n := (((n - k : Nat) : Int)).toNat) (by omega)
  have h5 := numB_le (n := (1 : Int).toNat) (by decide)
  rw [List.length_append] at h3
  have h6 : k * (sz + 37) ≤ k * (sz + 40) := Nat.mul_le_mul_left _ (by omega)
  show (baseB (((n - k : Nat) : Int)).toNat (1 : Int).toNat).length + (entsB ((rmL sz n).drop (n - k))).length ≤ _
  unfold baseB
  omega
theorem rm_room {k sz : Nat} (hs : sz ≤ 300) (hk : k ≤ 60) : k * (sz + 40) ≤ 20400 := by
  have h1 : k * (sz + 40) ≤ k * 340 := Nat.mul_le_mul_left _ (by omega)
  omega
end Go.Proofs.YtlpkphdgadgmiaaGreatDoor.W

/- SeglogRoom: the walk. -/
namespace Go.Proofs.YtlpkphdgadgmiaaGreatDoor.W
open Go.RowKit Go.Maps Go.Shelf
set_option linter.unusedVariables false
set_option linter.unusedSimpArgs false
set_option maxRecDepth 100000

set_option maxHeartbeats 16000000 in
theorem seglogRoom_walk (n0 s0 k0 : Int) (w : World) (ht : Tb w) : Calls Tryz.prog 7 #[.int .i64 n0, .int .i64 s0, .int .i64 k0] w fun e w' => e = .returned (.bool true) ∧ w.grownBy w' none := by
  have HT := hid_mk ht
  clear ht
  go_enter Tryz.func7, Tryz.ntmps7
  go_wp2_with fail
  refine (disk9_ok w).mono ?_
  rintro e w1 ⟨da, bn, bs, rfl, hd, hg⟩
  have H1 := hid_mk (show CD w1 (Hb w w1) 0 0 da (mem0 bn bs) LS.zero [] none ∧ w.grownBy w1 none from ⟨⟨_, hd.bound, ck_new bn bs, fun k hk => ⟨hk, hk.2⟩⟩, hg⟩)
  clear hd hg
  go_wp2_with fail
  refine (cd_open H1.out.1 (by omega) (by omega) (HT.out.kept H1.out.2)).mono ?_
  rintro e w2 ⟨rfl, hg, p2, hL⟩
  obtain ⟨la, hla⟩ : ∃ la, la = w1.heap.size + 1 := ⟨_, rfl⟩
  rw [← hla] at hL ⊢
  have H2 := hid_mk (show LD w2 (Hb w w2) 0 0 da la (mem0 bn bs) p2 LS.zero (fun u => u = LS.zero) [] ∧ w.grownBy w2 none from ⟨ld_hb (H := fun _ => True) hL H1.out.2, grown_trans H1.out.2 hg⟩)
  clear hL hg hla H1
  go_wp2_with (go_at_call 11; refine (num_any _ _).mono ?_; rintro e w' ⟨rfl, hw⟩; rw [hw]; clear hw)
  refine (knows_any w2 (HT.out.kept H2.out.2)).mono ?_
  rintro e w3 ⟨rfl, hg3⟩
  have H3 := hid_mk (show LD w3 (Hb w w3) 0 0 da la (mem0 bn bs) p2 LS.zero (fun u => u = LS.zero) [] ∧ w.grownBy w3 none from ⟨(H2.out.1.kept hg3).wide (fun k h1 h2 => ⟨h2.1, h1⟩), grown_trans H2.out.2 hg3⟩)
  clear hg3 H2
  obtain ⟨a1, a2, a3⟩ := twice_mod n0 60 (by omega) (by omega)
  obtain ⟨b1, b2, b3⟩ := twice_mod s0 300 (by omega) (by omega)
  have a4 := Int.emod_nonneg n0 (b := 60) (by omega)
  have a5 := Int.emod_lt_of_pos n0 (b := 60) (by omega)
  have b4 := Int.emod_nonneg s0 (b := 300) (by omega)
  have b5 := Int.emod_lt_of_pos s0 (b := 300) (by omega)
  go_upto_region 6 with fail
  obtain ⟨nn, hnn⟩ : ∃ nn : Nat, 1 + n0 % 60 = (nn : Int) := ⟨(1 + n0 % 60).toNat, by omega⟩
  rw [hnn]
  have hn1 : 1 ≤ nn ∧ nn ≤ 60 := by omega
  clear hnn a1 a2 a3 a4 a5
  go_upto_region 7 with fail
  obtain ⟨sz, hsz⟩ : ∃ sz : Nat, s0 % 300 = (sz : Int) := ⟨(s0 % 300).toNat, by omega⟩
  rw [hsz]
  have hs1 : sz < 300 := by omega
  clear hsz b1 b2 b3 b4 b5
  obtain ⟨a1, a2, a3⟩ := twice_mod k0 (nn : Int) (by omega) (by omega)
  have a4 := Int.emod_nonneg k0 (b := (nn : Int)) (by omega)
  have a5 := Int.emod_lt_of_pos k0 (b := (nn : Int)) (by omega)
  have hnz : ((nn : Int) == 0) = false := by simp; omega
  have hnz' : ¬ ((nn : Int) = 0) := by omega
  go_upto_region 8 with fail
  obtain ⟨kk, hkk⟩ : ∃ kk : Nat, k0 % (nn : Int) = (kk : Int) := ⟨(k0 % (nn : Int)).toNat, by omega⟩
  rw [hkk]
  have hk1 : kk < nn := by omega
  clear hkk a1 a2 a3 a4 a5 hnz hnz'
  go_wp2_with fail
  go_loopw [10] (fun iv W => ∃ k : Nat, k ≤ nn ∧ iv = .int .i64 (k + 1 : Nat) ∧ Hid (w.grownBy W none ∧ ∃ m p P L, LD W (Hb w W) (4 * k) k da la m p (LS.zero.more (rmL sz k)) P L ∧ m.fuse = -1 ∧ used m ≤ 5009 * k)) (fun iv _ => nn + 1 - (intOf iv).toNat)
  case atStart => exact ⟨0, Nat.zero_le _, rfl, hid_mk ⟨H3.out.2, mem0 bn bs, p2, _, _, H3.out.1, rfl, Nat.zero_le _⟩⟩
  case round =>
    obtain ⟨k, hk, rfl, HK⟩ := hrel
    rename World => wa
    clear H3
    by_cases hlt : k < nn
    · have hle : ((k + 1 : Nat) : Int) ≤ (nn : Int) := by omega
      have hle' : (k : Int) + 1 ≤ (nn : Int) := by omega
      obtain ⟨w4, hmk, hb4, hg4⟩ := F.made_bytes sz wa (by omega)
      have H4 := hid_mk (show Own w4 wa.heap.size (.slice (some ⟨wa.heap.size, 0, none⟩) sz sz) (List.replicate sz 0) ∧ wa.grownBy w4 none from ⟨⟨by simp [u8s], .inr ⟨wa.heap.size, sz, _, by simp, Nat.le_refl _, hb4, by simp, by unfold maxLen; omega, by simp [F.u8s], by simp [F.u8s, u8s]⟩⟩, hg4⟩)
      clear hb4 hg4
      have H5 := hid_mk (show wa.grownBy (w4.alloc (.cells #[.int .i64 1, .int .i64 ((k + 1 : Nat) : Int), .int .i64 2, .slice (some ⟨wa.heap.size, 0, none⟩) sz sz] 51)) none ∧ EsG (w4.alloc (.cells #[.int .i64 1, .int .i64 ((k + 1 : Nat) : Int), .int .i64 2, .slice (some ⟨wa.heap.size, 0, none⟩) sz sz] 51)) (fun j => wa.heap.size ≤ j) (.slice (some ⟨w4.heap.size, 0, none⟩) 1 1) [(rmE sz (k + 1), .slice (some ⟨wa.heap.size, 0, none⟩) sz sz)] from by
        have g9 := World.grownBy_alloc w4 (.cells #[.int .i64 1, .int .i64 ((k + 1 : Nat) : Int), .int .i64 2, .slice (some ⟨wa.heap.size, 0, none⟩) sz sz] 51) none
        have s8 := H4.out.2.size
        refine ⟨grown_trans H4.out.2 g9, esg_blk (ps := [(rmE sz (k + 1), .slice (some ⟨wa.heap.size, 0, none⟩) sz sz)]) (heap_alloc_new _ _) (fun p hp => ?_) (by show wa.heap.size ≤ _; omega) (fun p hp j e => ?_) (by simp)⟩
        · simp only [List.mem_cons, List.not_mem_nil, or_false] at hp
          subst hp
          exact ⟨row_base (H4.out.1.kept g9 (.inl rfl)) (Nat.zero_le _), by show (List.replicate sz 0).length ≤ _; simp; omega⟩
        · simp only [List.mem_cons, List.not_mem_nil, or_false] at hp
          subst hp
          have := (own_at H4.out.1 e).1; show wa.heap.size ≤ j; omega)
      go_wp2_with fail
      rw [show (k : Int) + 1 = ((k + 1 : Nat) : Int) by omega]
      clear hmk H4
      generalize w4.alloc (.cells _ 51) = w5 at *
      generalize w4.heap.size = g4 at *
      obtain ⟨m5, p5, P5, L5, hL5, hf5, hu5⟩ := HK.out.2
      have HLB := hid_mk (And.intro hL5 (And.intro hf5 hu5))
      clear hL5 hf5 hu5
      refine (ld_appendW (HLB.out.1.kept H5.out.1) (by omega) (by omega) (.slice (some ⟨g4, 0, none⟩) 1 1) [rmE sz (k + 1)] (by simp) (fun W hkW => ⟨((HT.out.kept HK.out.1).kept H5.out.1).keeps hkW (hb_four HT.out), (H5.out.2.keeps hkW (fun j h1 h2 => by have := h2.2; have : wa.heap.size ≤ j := h1; omega)).reads⟩) HLB.out.2.1 (fun h => by
        have h1 := HLB.out.2.2
        have h2 := ents_one_len (x := rmE sz (k + 1)) (by simpa using h)
        omega)).mono ?_
      rintro e w6 ⟨rfl, hk6, m6, p6, P6, L6, hL6, hf6, hu6⟩
      have he := rm_app (sz := sz) (k := k) (by omega) (by omega)
      have hr := rmE_right (sz := sz) (i := k + 1) (by omega) (by omega) (by omega)
      rw [he]
      rw [app_ok he, more_more, ← rmL_snoc] at hL6
      rw [if_pos he] at hu6
      have HN := hid_mk (show w.grownBy w6 none ∧ ∃ m p P L, LD w6 (Hb w w6) (4 * (k + 1)) (k + 1) da la m p (LS.zero.more (rmL sz (k + 1))) P L ∧ m.fuse = -1 ∧ used m ≤ 5009 * (k + 1) from ⟨hb_grown (grown_trans HK.out.1 H5.out.1) hk6, m6, p6, P6, L6, by
        rw [show 4 * (k + 1) = 4 * k + 4 by omega]
        exact hL6.wide (fun j h1 h2 => ⟨h2.1.elim (fun h => h.1) (fun h => by have := HK.out.1.size; have := H5.out.1.size; omega), h1⟩), hf6, by
        have h1 := HLB.out.2.2
        have h2 := ents_one_len hr
        omega⟩)
      clear hk6 hL6 hf6 hu6 he hr HLB H5
      go_wp2_with (go_at_call 11; refine (num_any _ _).mono ?_; rintro e w' ⟨rfl, hw⟩; rw [hw]; clear hw)
      go_roundw
      case rel => exact ⟨k + 1, by omega, by first | rfl | (congr 1; done) | (congr 1; omega), HN⟩
      case measure => simp [intOf]; omega
    · obtain rfl : k = nn := by omega
      have hle : ¬ ((k + 1 : Nat) : Int) ≤ (k : Int) := by omega
      have hle' : ¬ (k : Int) + 1 ≤ (k : Int) := by omega
      clear hlt hk
      obtain ⟨m5, p5, P5, L5, hL5, hf5, hu5⟩ := HK.out.2
      have HLB := hid_mk (And.intro hL5 (And.intro hf5 hu5))
      clear hL5 hf5 hu5
      go_wp2_with fail
      rw [show (k : Int) - (kk : Int) = ((k - kk : Nat) : Int) by omega]
      have HU := hid_mk (And.intro (rm_used (sz := sz) (n := k) (k := kk) (by omega) hk1 hn1.2) (rm_room (k := kk) (sz := sz) (by omega) (by omega)))
      refine (ld_rebaseW HLB.out.1 (by omega) (by omega) ((k - kk : Nat) : Int) 1 (fun W hkW => (HT.out.kept HK.out.1).keeps hkW (hb_four HT.out)) (by show ([] ++ rmL sz k).length ≤ _; rw [List.nil_append, rmL_len]; omega) (rm_reb_ok hk1 hn1.2) HLB.out.2.1 (by have h1 := HLB.out.2.2; have h2 := HU.out; omega)).mono ?_
      rintro e w6 ⟨rfl, hk6, m6, p6, f6, hL6, hf6, hu6⟩
      rw [rm_reb hk1 hn1.2] at hL6 hu6 HU
      have H6 := hid_mk (show LD w6 (fun j => Gw (Hb w wa) wa j ∧ j < w6.heap.size) (4 * k + 6 + k) (k + 1) da la m6 p6 ⟨((k - kk : Nat) : Int), 1, (rmL sz k).drop (k - kk)⟩ _ [(p5.num + 1, f6)] ∧ w.grownBy w6 none ∧ used m6 ≤ 40 + kk * (sz + 40) from ⟨hL6, hb_grown HK.out.1 hk6, by rw [hu6]; exact HU.out.1⟩)
      have HR := hid_mk HU.out.2
      clear hk6 hL6 hf6 hu6 HU HLB HK
      go_wp2_with (go_at_call 11; refine (num_any _ _).mono ?_; rintro e w' ⟨rfl, hw⟩; rw [hw]; clear hw)
      obtain ⟨⟨Ga, hlogA⟩, hdkA⟩ := H6.out.1.log
      have HLA := hid_mk (And.intro hlogA hdkA)
      clear hlogA hdkA
      refine (entries_any Ga la p6 _ 0 99 w6 HLA.out.1 HLA.out.2 (by omega) (by show (0 : Int) ≤ ((k - kk : Nat) : Int); omega) (by omega)).mono ?_
      rintro e w7 ⟨v7, ps7, rfl, hp7, he7⟩
      have hlen : ps7.length = kk := by
        rw [← List.length_map (f := (·.1)), hp7]
        show (List.take (99 : Int).toNat ((rmL sz k).drop (k - kk))).length = kk
        rw [List.length_take, List.length_drop, rmL_len]
        omega
      obtain ⟨a7, c7, rfl⟩ := row_shape he7.row
      rw [hlen]
      have G7 := hid_mk (And.intro (grown_trans H6.out.2.1 he7.gr) (H6.out.1.kept he7.gr))
      clear hp7 he7 hlen HLA
      go_wp2_with fail
      obtain ⟨Z7, G7', hD7, hS7, _⟩ := G7.out.2
      have H7 := hid_mk (show V.IsDisk w7 Z7 (4 * k + 6 + k) da m6 ∧ Maps.size m6.names = 1 from ⟨hD7.dsk, by rw [hS7.names, size_dir0]; rfl⟩)
      clear hD7 hS7
      refine (V.used_ok (4 * k + 6 + k) da Z7 m6 w7 H7.out.1 (by omega)).mono ?_
      rintro e w8 ⟨rfl, hg8⟩
      have hu8 : V.total m6.names (V.lenOf m6.files) ≤ 40 + kk * (sz + 40) := H6.out.2.2
      have G8 := hid_mk (And.intro (grown_trans G7.out.1 hg8) (H7.out.1.kept_none hg8))
      clear hg8
      generalize V.total m6.names (V.lenOf m6.files) = us at *
      have hrm := HR.out
      have e1 : (kk : Int) * ((sz : Int) + 40) = ((kk * (sz + 40) : Nat) : Int) := by rw [Int.natCast_mul]; rfl
      obtain ⟨pr, hpr⟩ : ∃ pr, pr = kk * (sz + 40) := ⟨_, rfl⟩
      rw [← hpr] at e1 hu8 hrm
      clear hpr
      have hq8 : (us : Int) ≤ 40 + (pr : Int) := by omega
      go_wp2_with fail
      refine (V.list_ok (4 * k + 6 + k) da Z7 m6 w8 G8.out.2 (by omega)).mono ?_
      rintro e w9 ⟨v9, rfl, hr9, hg9⟩
      rw [H7.out.2] at hr9
      obtain ⟨a9, c9, rfl⟩ := row_shape hr9
      have G9 := hid_mk (grown_trans G8.out.1 hg9)
      clear hr9 hg9
      go_wp2_with fail
      go_ret
      exact ⟨rfl, G9.out⟩
end Go.Proofs.YtlpkphdgadgmiaaGreatDoor.W
