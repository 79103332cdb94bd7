/- snaps: the names of files. -/
import Derived.Test.YtmlppjmpoanlkaaGreatDoorKe
import Derived.Test.YtmlppjmpoanlkaaGreatDoorSLay
import Derived.Lib.ItoaNum
import Derived.Laws.RangeString
namespace Go.Proofs.YtmlppjmpoanlkaaGreatDoor.W
open Go.RowKit Go.Maps
set_option linter.unusedVariables false
set_option linter.unusedSimpArgs false
set_option maxRecDepth 100000

/-- A number in n digits. -/
def digN : Nat → Nat → List UInt8
  | 0, _ => []
  | n + 1, i => digN n (i / 10) ++ [UInt8.ofNat (48 + i % 10)]
theorem digN_len : ∀ n i, (digN n i).length = n
  | 0, _ => rfl
  | n + 1, i => by simp [digN, digN_len n]
theorem digN_zero : ∀ n, digN n 0 = List.replicate n 48
  | 0 => rfl
  | n + 1 => by rw [digN, show 0 / 10 = 0 from rfl, digN_zero n, List.replicate_succ']; rfl
theorem digN_pad : ∀ n i, 1 ≤ n → i < 10 ^ n → (Lib.decDigits i).length ≤ n ∧ List.replicate (n - (Lib.decDigits i).length) 48 ++ Lib.decDigits i = digN n i
  | 0, _, h, _ => by omega
  | n + 1, i, _, hi => by
    by_cases h10 : i < 10
    · rw [Lib.decDigits_one h10]
      refine ⟨by simp, ?_⟩
      rw [digN, show i / 10 = 0 by omega, show i % 10 = i by omega, digN_zero]
      simp
    · have hn : 1 ≤ n := by
        rcases Nat.eq_zero_or_pos n with rfl | h
        · simp at hi; omega
        · exact h
      have hd : Lib.decDigits i = Lib.decDigits (i / 10) ++ [UInt8.ofNat (48 + i % 10)] := by rw [Lib.decDigits, dif_neg h10]
      have hi' : i / 10 < 10 ^ n := by
        rw [Nat.pow_succ] at hi
        exact Nat.div_lt_of_lt_mul (by omega)
      obtain ⟨h1, h2⟩ := digN_pad n (i / 10) hn hi'
      rw [hd]
      refine ⟨by simp; omega, ?_⟩
      rw [digN, ← h2, List.length_append, List.length_singleton, show n + 1 - ((Lib.decDigits (i / 10)).length + 1) = n - (Lib.decDigits (i / 10)).length by omega, List.append_assoc]
/-- The number that digits tell. -/
def valD (l : List UInt8) : Nat := l.foldl (fun a c => 10 * a + (c.toNat - 48)) 0
theorem digit_nat (i : Nat) : (UInt8.ofNat (48 + i % 10)).toNat = 48 + i % 10 := by
  rw [UInt8.toNat_ofNat']
  omega
theorem valD_digN : ∀ n i, i < 10 ^ n → valD (digN n i) = i
  | 0, i, h => by simp at h; subst h; rfl
  | n + 1, i, h => by
    have hi' : i / 10 < 10 ^ n := by
      rw [Nat.pow_succ] at h
      exact Nat.div_lt_of_lt_mul (by omega)
    have := valD_digN n (i / 10) hi'
    unfold valD at this ⊢
    rw [digN, List.foldl_append, this]
    simp only [List.foldl_cons, List.foldl_nil]
    rw [digit_nat]
    omega
theorem digN_mem : ∀ n i c, c ∈ digN n i → 48 ≤ c.toNat ∧ c.toNat ≤ 57
  | 0, _, c, h => by cases h
  | n + 1, i, c, h => by
    rw [digN, List.mem_append, List.mem_singleton] at h
    rcases h with h | rfl
    · exact digN_mem n _ c h
    · rw [digit_nat]; omega
theorem digN_inj {n i j : Nat} (hi : i < 10 ^ n) (hj : j < 10 ^ n) (h : digN n i = digN n j) : i = j := by
  rw [← valD_digN n i hi, ← valD_digN n j hj, h]
theorem lt_snoc : ∀ (a b : List UInt8) (x y : UInt8), a.length = b.length → (a ++ [x] < b ++ [y] ↔ a < b ∨ (a = b ∧ x < y))
  | [], [], x, y, _ => by simp [List.cons_lt_cons_iff]
  | c :: a, d :: b, x, y, h => by
    have ih := lt_snoc a b x y (by simpa using h)
    simp only [List.cons_append, List.cons_lt_cons_iff, ih, List.cons.injEq]
    clear h
    constructor
    · rintro (h1 | ⟨rfl, (h1 | ⟨rfl, h1⟩)⟩)
      · exact .inl (.inl h1)
      · exact .inl (.inr ⟨rfl, h1⟩)
      · exact .inr ⟨⟨rfl, rfl⟩, h1⟩
    · rintro ((h1 | ⟨rfl, h1⟩) | ⟨⟨rfl, rfl⟩, h1⟩)
      · exact .inl h1
      · exact .inr ⟨rfl, .inl h1⟩
      · exact .inr ⟨rfl, .inr ⟨rfl, h1⟩⟩
theorem digN_lt : ∀ n i j, i < 10 ^ n → j < 10 ^ n → (digN n i < digN n j ↔ i < j)
  | 0, i, j, hi, hj => by simp at hi hj; subst hi; subst hj; simp [digN]
  | n + 1, i, j, hi, hj => by
    have hi' : i / 10 < 10 ^ n := by
      rw [Nat.pow_succ] at hi
      exact Nat.div_lt_of_lt_mul (by omega)
    have hj' : j / 10 < 10 ^ n := by
      rw [Nat.pow_succ] at hj
      exact Nat.div_lt_of_lt_mul (by omega)
    rw [digN, digN, lt_snoc _ _ _ _ (by rw [digN_len, digN_len]), digN_lt n _ _ hi' hj', UInt8.lt_iff_toNat_lt, digit_nat, digit_nat]
    constructor
    · rintro (h | ⟨h1, h2⟩)
      · omega
      · have := digN_inj hi' hj' h1
        omega
    · intro h
      by_cases h1 : i / 10 < j / 10
      · exact .inl h1
      · refine .inr ⟨?_, by omega⟩
        rw [show i / 10 = j / 10 by omega]

def preL : List UInt8 := [115, 110, 97, 112, 45]
def nmS (i : Nat) : ByteArray := ⟨(preL ++ digN 13 i).toArray⟩
def nmU : ByteArray := ⟨#[115, 110, 97, 112, 46, 116, 109, 112]⟩

/-- The tables that names want. -/
def Pw (w : World) : Prop := Lib.TabIs Tryz.prog w "internal/strconv.uint64pow10" .u64 Lib.pow10Tab
theorem Pw.kept {w w' : World} (h : Pw w) (hg : w.grownBy w' none) : Pw w' := by
  unfold Pw Lib.TabIs World.var? at *
  obtain ⟨g, h1, h2⟩ := Option.bind_eq_some_iff.1 h
  refine Option.bind_eq_some_iff.2 ⟨g, h1, ?_⟩
  cases hh : w.heap[g]? with
  | none => rw [hh] at h2; simp at h2
  | some o => rw [hg.block g (Array.getElem?_eq_some_iff.1 hh).1 (by simp)]; rw [hh] at h2 ⊢; exact h2
theorem grow_grown (w : World) (k : Nat) (os : Array Obj) : w.grownBy (Sort.grow (w.drewN k) os) none := by
  refine grown_trans (grown_drewN w k none) ⟨rfl, rfl, rfl, by simp [Sort.grow], fun i hi _ => ?_⟩
  simp only [Sort.grow]
  rw [Array.getElem?_append_left hi]
theorem below_grown {w w' : World} (h : Below w.heap.size w w') : w.grownBy w' none := ⟨h.os, h.tape, h.output, h.size, fun k hk _ => h.block k hk⟩

theorem repeat_any (c : Nat) (w : World) (hc : c ≤ 13) : Calls Tryz.prog 99 #[.string ⟨#[48]⟩, .int .i64 c] w fun e w' => e = .returned (.string ⟨(List.replicate c 48).toArray⟩) ∧ w.grownBy w' none := by
  refine (Tryz.strings_Repeat ⟨#[48]⟩ c w (by omega) (by simp [ByteArray.size]; omega)).mono ?_
  rintro e w' ⟨rfl, hb⟩
  refine ⟨?_, below_grown hb⟩
  congr 4
  clear hb
  induction c with
  | zero => rfl
  | succ c ih => rw [Lib.repeatL, ih (by omega), List.replicate_succ]; rfl

set_option maxHeartbeats 1000000 in
theorem nameOf_any (i : Nat) (w : World) (h1 : 1 ≤ i) (h2 : i ≤ 1099511627775) (ht : Pw w) : Calls Tryz.prog 55 #[.int .i64 i] w fun e w' => e = .returned (.string (nmS i)) ∧ w.grownBy w' none := by
  have HT := hid_mk ht
  have hpad := digN_pad 13 i (by omega) (by omega)
  have HI := hid_mk (Tryz.strconv_Itoa i (by omega) (by omega) w ht)
  rw [show Lib.itoa (i : Int) = Lib.decDigits i by unfold Lib.itoa; rw [if_neg (by omega)]; rfl] at HI
  have HP := hid_mk hpad.2
  obtain ⟨l, hl⟩ : ∃ l, Lib.decDigits i = l := ⟨_, rfl⟩
  have hl13 : l.length ≤ 13 := by rw [← hl]; exact hpad.1
  rw [hl] at HI HP
  clear hl hpad ht
  go_enter Tryz.func55, Tryz.ntmps55
  go_wp2_with fail
  refine HI.out.mono ?_
  rintro e w1 ⟨rfl, k, os, hw⟩
  have H1 := hid_mk (show w.grownBy w1 none by rw [hw]; exact grow_grown w k os)
  clear hw HI
  have HR := hid_mk (repeat_any (13 - l.length) w1 (by omega))
  have hsub : ((13 : Int) - (l.length : Int)) = ((13 - l.length : Nat) : Int) := by omega
  rw [show List.replicate (13 - l.length) (48 : UInt8) = List.replicate (13 - l.length) 48 from rfl] at HR
  obtain ⟨z, hz⟩ : ∃ z, 13 - l.length = z := ⟨_, rfl⟩
  rw [hz] at HR HP hsub
  go_wp2_with fail
  try rw [hsub]
  refine HR.out.mono ?_
  rintro e w2 ⟨rfl, hg2⟩
  have H2 := hid_mk (grown_trans H1.out hg2)
  clear hg2 HR H1 hsub
  go_wp2_with fail
  go_ret
  refine ⟨?_, H2.out⟩
  unfold nmS
  rw [← HP.out]
  congr 2
  first | done | (apply ByteArray.ext; simp [preL, ByteArray.data_append])

theorem iter_grown (w : World) (s : ByteArray) (pos : Nat) : w.grownBy (w.iter s pos) none := by
  unfold World.iter
  exact World.grownBy_alloc _ _ _
theorem valD_snoc (l : List UInt8) (c : UInt8) : valD (l ++ [c]) = 10 * valD l + (c.toNat - 48) := by
  unfold valD
  rw [List.foldl_append]; rfl
theorem valD_lt : ∀ (n i : Nat) (k : Nat), k ≤ n → valD ((digN n i).take k) < 10 ^ k
  | n, i, 0, _ => by simp [valD]
  | n, i, k + 1, h => by
    have hl : k < (digN n i).length := by rw [digN_len]; omega
    rw [List.take_succ_eq_append_getElem hl, valD_snoc]
    have := valD_lt n i k (by omega)
    have hm := digN_mem n i _ (List.getElem_mem hl)
    rw [Nat.pow_succ]
    omega
theorem nmS_prefix (i : Nat) : Lib.hasPrefix (nmS i).data.toList preL = true ∧ Lib.trimPrefix (nmS i).data.toList preL = digN 13 i := by
  have h1 : Lib.hasPrefix (nmS i).data.toList preL = true := by
    unfold Lib.hasPrefix nmS
    simp
  refine ⟨h1, ?_⟩
  unfold Lib.trimPrefix
  rw [if_pos h1]
  unfold nmS
  simp [preL]

set_option maxHeartbeats 1000000 in
theorem indexOf_nm (i : Nat) (w : World) (h1 : 1 ≤ i) (h2 : i ≤ 1099511627775) : Calls Tryz.prog 90 #[.string (nmS i)] w fun e w' => e = .returned (.tuple #[.int .i64 i, .bool true]) ∧ w.grownBy w' none := by
  have HC := hid_mk (Tryz.strings_CutPrefix (nmS i) ⟨preL.toArray⟩ w)
  rw [show (⟨preL.toArray⟩ : ByteArray).data.toList = preL by simp, (nmS_prefix i).1, (nmS_prefix i).2] at HC
  obtain ⟨d, hd⟩ : ∃ d, digN 13 i = d := ⟨_, rfl⟩
  have HV := hid_mk (show valD d = i by rw [← hd]; exact valD_digN 13 i (by omega))
  have HM := hid_mk (show ∀ c ∈ d, 48 ≤ c.toNat ∧ c.toNat ≤ 57 by rw [← hd]; exact digN_mem 13 i)
  have HK := hid_mk (show ∀ k, k ≤ 13 → valD (d.take k) < 10 ^ k by rw [← hd]; exact valD_lt 13 i)
  have hdl : d.length = 13 := by rw [← hd]; exact digN_len 13 i
  rw [hd] at HC
  clear hd
  obtain ⟨nm, hnm⟩ : ∃ nm, nmS i = nm := ⟨_, rfl⟩
  rw [hnm] at HC ⊢
  clear hnm
  go_enter Tryz.func90, Tryz.ntmps90
  go_wp2_with (go_at_call 112; refine HC.out.mono ?_; rintro e w' ⟨rfl, rfl⟩)
  go_loopw [6] (fun n W => ∃ pos : Nat, pos ≤ 13 ∧ W = w'.iter ⟨d.toArray⟩ pos ∧ n = .int .i64 (valD (d.take pos) : Nat)) (fun _ W => 13 - W.iterPos w'.heap.size)
  case atStart => exact ⟨0, by omega, rfl, by simp [valD]⟩
  case round =>
    obtain ⟨pos, hp, rfl, rfl⟩ := hrel
    by_cases hlt : pos < 13
    · have hpd : pos < d.length := by omega
      have hps : pos < (⟨d.toArray⟩ : ByteArray).size := by simp [ByteArray.size]; omega
      have hat : ((⟨d.toArray⟩ : ByteArray)[pos]'hps) = d[pos] := by simp [ByteArray.getElem_eq_getElem_data]
      obtain ⟨hc1, hc2⟩ := HM.out d[pos] (List.getElem_mem hpd)
      have hnx : ∀ ty, (Instr.next (.pointer (some ⟨w'.heap.size, 0, none⟩)) true ty).run Tryz.prog (w'.iter ⟨d.toArray⟩ pos) = .ok (.tuple #[.bool true, .int .i64 pos, .int .i32 (d[pos].toNat : Nat)]) (w'.iter ⟨d.toArray⟩ (pos + 1)) := fun ty => by
        have := run_next_ascii (P := Tryz.prog) w' ⟨d.toArray⟩ pos ty hps (by rw [hat]; omega)
        rw [hat] at this
        exact this
      have hval : valD (d.take (pos + 1)) = 10 * valD (d.take pos) + (d[pos].toNat - 48) := by rw [List.take_succ_eq_append_getElem hpd, valD_snoc]
      have hb := HK.out pos (by omega)
      have hb' : 10 ^ pos ≤ 10 ^ 13 := Nat.pow_le_pow_right (by omega) (by omega)
      obtain ⟨c, hc⟩ : ∃ c, d[pos].toNat = c := ⟨_, rfl⟩
      obtain ⟨v, hv⟩ : ∃ v, valD (d.take pos) = v := ⟨_, rfl⟩
      rw [hc] at hnx hc1 hc2 hval
      rw [hv] at hb hval ⊢
      have hvb : v < 10000000000000 := Nat.lt_of_lt_of_le hb hb'
      have HVAL := hid_mk hval
      clear hval hb hb' hc hv hat hps hpd
      go_wp2_with fail
      exact ⟨⟨pos + 1, by omega, rfl, by rw [HVAL.out]; congr 1; omega⟩, by simp; omega⟩
    · have hnx : ∀ ty, (Instr.next (.pointer (some ⟨w'.heap.size, 0, none⟩)) true ty).run Tryz.prog (w'.iter ⟨d.toArray⟩ pos) = _ := fun ty => run_next_end w' ⟨d.toArray⟩ pos ty (by simp [ByteArray.size]; omega)
      have hv : valD (d.take pos) = i := by rw [List.take_of_length_le (by omega)]; exact HV.out
      rw [hv]
      clear hv
      go_wp2_with fail
      go_ret2
      rw [show decide ((i : Int) ≤ 1099511627775) = true from decide_eq_true (by omega)]
      exact ⟨rfl, iter_grown _ _ _⟩

set_option maxHeartbeats 1000000 in
theorem indexOf_tmp (w : World) : Calls Tryz.prog 90 #[.string nmU] w fun e w' => e = .returned (.tuple #[.int .i64 0, .bool false]) ∧ w' = w := by
  have HC := hid_mk (Tryz.strings_CutPrefix nmU ⟨preL.toArray⟩ w)
  rw [show Lib.hasPrefix nmU.data.toList (⟨preL.toArray⟩ : ByteArray).data.toList = false by decide] at HC
  go_enter Tryz.func90, Tryz.ntmps90
  go_wp2_with (go_at_call 112; refine HC.out.mono ?_; rintro e w' ⟨rfl, rfl⟩)
  go_ret2
  exact ⟨rfl, rfl⟩

end Go.Proofs.YtmlppjmpoanlkaaGreatDoor.W
