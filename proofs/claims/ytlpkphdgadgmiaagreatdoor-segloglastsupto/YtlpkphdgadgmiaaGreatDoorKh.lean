import Derived.Test.YtlpkphdgadgmiaaGreatDoorKa
import Derived.Lib.ItoaNum
import Derived.Shelf.Strings.Builder1
import Derived.Shelf.Strings.Builder2
import Derived.Shelf.Strings.Trim
import Derived.Shelf.Small.Utf8
import Derived.Shelf.Small.Bits
import Derived.Shelf.Small.Strs
import Derived.Shelf.Small.Wraps
import Derived.Shelf.Strings.BuilderF
import Derived.Shelf.Strconv.Atoi
import Derived.Shelf.Strconv.Itoa0
import Derived.Shelf.Strconv.Itoa1
import Derived.Shelf.LaysM
import Derived.Shelf.Strconv.Itoa2
import Derived.Shelf.Strconv.Itoa3
import Derived.Shelf.Strings.Prefix
import Derived.Shelf.Unicode.Decode
import Derived.Shelf.Strings.Runes
import Derived.Shelf.Strings.AsciiSet
import Derived.Shelf.Bits.Mul64
import Derived.Shelf.Strings.Repeat
import Derived.Shelf.Strings.SlTrimAscii
import Derived.Test.YtlpkphdgadgmiaaGreatDoorProg
import Derived.Test.YtlpkphdgadgmiaaGreatDoorSgR
import Derived.Laws.RangeString
import Derived.Test.YtlpkphdgadgmiaaGreatDoorVAnyB
namespace Go.Proofs.YtlpkphdgadgmiaaGreatDoor.W
open Go.RowKit Go.Maps
set_option linter.unusedVariables false
set_option linter.unusedSimpArgs false
set_option maxRecDepth 100000

def digN : Nat → Nat → List UInt8
 | 0, _ => []
 | n + 1, i => digN n (i / 10) ++ [UInt8.ofNat (48 + i % 10)]
theorem digN_len : ∀ n i, (digN n i).length = n
 | 0, _ => rfl
 | n + 1, i => by simp [digN, digN_len n]
theorem digN_zero : ∀ n, digN n 0 = List.replicate n 48
 | 0 => rfl
 | n + 1 => by rw [digN, show 0 / 10 = 0 from rfl, digN_zero n, List.replicate_succ']; rfl
theorem digN_pad : ∀ n i, 1 ≤ n → i < 10 ^ n → (Lib.decDigits i).length ≤ n ∧ List.replicate (n - (Lib.decDigits i).length) 48 ++ Lib.decDigits i = digN n i
 | 0, _, h, _ => by omega
 | n + 1, i, _, hi => by
  by_cases h10 : i < 10
  ·rw [Lib.decDigits_one h10]
   refine ⟨by simp, ?_⟩
   rw [digN, show i / 10 = 0 by omega, show i % 10 = i by omega, digN_zero]
   simp
  ·have hn : 1 ≤ n := by
    rcases Nat.eq_zero_or_pos n with rfl | h
    ·simp at hi; omega
    ·exact h
   have hd : Lib.decDigits i = Lib.decDigits (i / 10) ++ [UInt8.ofNat (48 + i % 10)] := by rw [Lib.decDigits, dif_neg h10]
   have hi' : i / 10 < 10 ^ n := by
    rw [Nat.pow_succ] at hi
    exact Nat.div_lt_of_lt_mul (by omega)
   obtain ⟨h1, h2⟩ := digN_pad n (i / 10) hn hi'
   rw [hd]
   refine ⟨by simp; omega, ?_⟩
   rw [digN, ← h2, List.length_append, List.length_singleton, show n + 1 - ((Lib.decDigits (i / 10)).length + 1) = n - (Lib.decDigits (i / 10)).length by omega, List.append_assoc]
def valD (l : List UInt8) : Nat := l.foldl (fun a c => 10 * a + (c.toNat - 48)) 0
theorem digit_nat (i : Nat) : (UInt8.ofNat (48 + i % 10)).toNat = 48 + i % 10 := by
 rw [UInt8.toNat_ofNat']
 omega
theorem valD_digN : ∀ n i, i < 10 ^ n → valD (digN n i) = i
 | 0, i, h => by simp at h; subst h; rfl
 | n + 1, i, h => by
  have hi' : i / 10 < 10 ^ n := by
   rw [Nat.pow_succ] at h
   exact Nat.div_lt_of_lt_mul (by omega)
  have := valD_digN n (i / 10) hi'
  unfold valD at this ⊢
  rw [digN, List.foldl_append, this]
  simp only [List.foldl_cons, List.foldl_nil]
  rw [digit_nat]
  omega
theorem digN_mem : ∀ n i c, c ∈ digN n i → 48 ≤ c.toNat ∧ c.toNat ≤ 57
 | 0, _, c, h => by cases h
 | n + 1, i, c, h => by
  rw [digN, List.mem_append, List.mem_singleton] at h
  rcases h with h | rfl
  ·exact digN_mem n _ c h
  ·rw [digit_nat]; omega
theorem digN_inj {n i j : Nat} (hi : i < 10 ^ n) (hj : j < 10 ^ n) (h : digN n i = digN n j) : i = j := by
 rw [← valD_digN n i hi, ← valD_digN n j hj, h]
theorem lt_snoc : ∀ (a b : List UInt8) (x y : UInt8), a.length = b.length → (a ++ [x] < b ++ [y] ↔ a < b ∨ (a = b ∧ x < y))
 | [], [], x, y, _ => by simp [List.cons_lt_cons_iff]
 | c :: a, d :: b, x, y, h => by
  have ih := lt_snoc a b x y (by simpa using h)
  simp only [List.cons_append, List.cons_lt_cons_iff, ih, List.cons.injEq]
  clear h
  constructor
  ·rintro (h1 | ⟨rfl, (h1 | ⟨rfl, h1⟩)⟩)
   ·exact .inl (.inl h1)
   ·exact .inl (.inr ⟨rfl, h1⟩)
   ·exact .inr ⟨⟨rfl, rfl⟩, h1⟩
  ·rintro ((h1 | ⟨rfl, h1⟩) | ⟨⟨rfl, rfl⟩, h1⟩)
   ·exact .inl h1
   ·exact .inr ⟨rfl, .inl h1⟩
   ·exact .inr ⟨rfl, .inr ⟨rfl, h1⟩⟩
theorem digN_lt : ∀ n i j, i < 10 ^ n → j < 10 ^ n → (digN n i < digN n j ↔ i < j)
 | 0, i, j, hi, hj => by simp at hi hj; subst hi; subst hj; simp [digN]
 | n + 1, i, j, hi, hj => by
  have hi' : i / 10 < 10 ^ n := by
   rw [Nat.pow_succ] at hi
   exact Nat.div_lt_of_lt_mul (by omega)
  have hj' : j / 10 < 10 ^ n := by
   rw [Nat.pow_succ] at hj
   exact Nat.div_lt_of_lt_mul (by omega)
  rw [digN, digN, lt_snoc _ _ _ _ (by rw [digN_len, digN_len]), digN_lt n _ _ hi' hj', UInt8.lt_iff_toNat_lt, digit_nat, digit_nat]
  constructor
  ·rintro (h | ⟨h1, h2⟩)
   ·omega
   ·have := digN_inj hi' hj' h1
    omega
  ·intro h
   by_cases h1 : i / 10 < j / 10
   ·exact .inl h1
   ·refine .inr ⟨?_, by omega⟩
    rw [show i / 10 = j / 10 by omega]

def preL : List UInt8 := [108, 111, 103, 45]
def nmL (i : Nat) : ByteArray := ⟨(preL ++ digN 8 i).toArray⟩
def nmU : ByteArray := ⟨#[108, 111, 103, 46, 116, 109, 112]⟩

theorem nmL_list (i : Nat) : (nmL i).data.toList = preL ++ digN 8 i := by unfold nmL; simp
theorem nmL_ne (i : Nat) : (nmL i).data.toList ≠ nmU.data.toList := by
 intro h
 have := congrArg List.length h
 rw [nmL_list] at this
 simp [preL, digN_len, nmU] at this
end Go.Proofs.YtlpkphdgadgmiaaGreatDoor.W

namespace Go.Proofs
open Go.Shelf
def Tryz.lays160_ren : Go.Shelf.Ren := ⟨fun | 160 => 129 | 232 => 158 | 231 => 157 | 227 => 159 | 234 => 161 | 233 => 160 | 236 => 163 | 235 => 162 | 228 => 185 | 271 => 188 | 151 => 187 | 197 => 186 | 120 => 221 | 152 => 220 | 260 => 219 | 137 => 238 | 119 => 239 | 224 => 240 | 225 => 241 | 217 => 247 | 266 => 248 | n => n, fun | 9 => 9 | 4 => 4 | 3 => 3 | 5 => 5 | 117 => 205 | 116 => 204 | 0 => 0 | 124 => 208 | 21 => 21 | 105 => 231 | 46 => 178 | 119 => 286 | 139 => 289 | 138 => 288 | n => n, fun | 3 => 5 | 4 => 6 | n => n⟩
theorem Tryz.lays160 : Go.Proofs.Lays.n160 Tryz.prog Tryz.lays160_ren := {
 mixed := by kernel_rfl
 f119 := Tryz.func239.trans (congrArg some (by kernel_rfl))
 f120 := Tryz.func221.trans (congrArg some (by kernel_rfl))
 f137 := Tryz.func238.trans (congrArg some (by kernel_rfl))
 f151 := Tryz.func187.trans (congrArg some (by kernel_rfl))
 f152 := Tryz.func220.trans (congrArg some (by kernel_rfl))
 f160 := Tryz.func129.trans (congrArg some (by kernel_rfl))
 f197 := Tryz.func186.trans (congrArg some (by kernel_rfl))
 f217 := Tryz.func247.trans (congrArg some (by kernel_rfl))
 f224 := Tryz.func240.trans (congrArg some (by kernel_rfl))
 f225 := Tryz.func241.trans (congrArg some (by kernel_rfl))
 f227 := Tryz.func159.trans (congrArg some (by kernel_rfl))
 f228 := Tryz.func185.trans (congrArg some (by kernel_rfl))
 f231 := Tryz.func157.trans (congrArg some (by kernel_rfl))
 f232 := Tryz.func158.trans (congrArg some (by kernel_rfl))
 f233 := Tryz.func160.trans (congrArg some (by kernel_rfl))
 f234 := Tryz.func161.trans (congrArg some (by kernel_rfl))
 f235 := Tryz.func162.trans (congrArg some (by kernel_rfl))
 f236 := Tryz.func163.trans (congrArg some (by kernel_rfl))
 f260 := Tryz.func219.trans (congrArg some (by kernel_rfl))
 f266 := Tryz.func248.trans (congrArg some (by kernel_rfl))
 f271 := Tryz.func188.trans (congrArg some (by kernel_rfl))
 t0 := Tryz.underlying0
 a0 := Tryz.isAgg0
 z0 := Tryz.sizeOf0
 v0 := Tryz.zeroValue0
 t3 := Tryz.underlying3
 a3 := Tryz.isAgg3
 z3 := Tryz.sizeOf3
 v3 := Tryz.zeroValue3
 t4 := Tryz.underlying4
 a4 := Tryz.isAgg4
 z4 := Tryz.sizeOf4
 v4 := Tryz.zeroValue4
 t5 := Tryz.underlying5
 a5 := Tryz.isAgg5
 z5 := Tryz.sizeOf5
 v5 := Tryz.zeroValue5
 t9 := Tryz.underlying9
 a9 := Tryz.isAgg9
 z9 := Tryz.sizeOf9
 v9 := Tryz.zeroValue9
 t21 := Tryz.underlying21
 a21 := Tryz.isAgg21
 z21 := Tryz.sizeOf21
 v21 := Tryz.zeroValue21
 t46 := Tryz.underlying178
 a46 := Tryz.isAgg178
 z46 := Tryz.sizeOf178
 v46 := Tryz.zeroValue178
 t105 := Tryz.underlying231
 a105 := Tryz.isAgg231
 z105 := Tryz.sizeOf231
 v105 := Tryz.zeroValue231
 t116 := Tryz.underlying204
 a116 := Tryz.isAgg204
 z116 := Tryz.sizeOf204
 t117 := Tryz.underlying205
 a117 := Tryz.isAgg205
 z117 := Tryz.sizeOf205
 v117 := Tryz.zeroValue205
 t119 := Tryz.underlying286
 a119 := Tryz.isAgg286
 z119 := Tryz.sizeOf286
 t124 := Tryz.underlying208
 a124 := Tryz.isAgg208
 z124 := Tryz.sizeOf208
 v124 := Tryz.zeroValue208
 t138 := Tryz.underlying288
 a138 := Tryz.isAgg288
 z138 := Tryz.sizeOf288
 v138 := Tryz.zeroValue288
 t139 := Tryz.underlying289
 a139 := Tryz.isAgg289
 z139 := Tryz.sizeOf289
 v139 := Tryz.zeroValue289
 g3 := by kernel_rfl
 g4 := by kernel_rfl }
open Go.RowKit in
def Tryz.lays103_ren : Go.Shelf.Ren := ⟨fun | 103 => 128 | 210 => 156 | 206 => 169 | n => n, fun | 9 => 9 | 4 => 4 | 24 => 171 | 3 => 3 | n => n, fun | n => n⟩
theorem Tryz.lays103 : Go.Proofs.Lays.n103 Tryz.prog Tryz.lays103_ren := {
 mixed := by kernel_rfl
 f103 := Tryz.func128.trans (congrArg some (by kernel_rfl))
 f206 := Tryz.func169.trans (congrArg some (by kernel_rfl))
 f210 := Tryz.func156.trans (congrArg some (by kernel_rfl))
 t3 := Tryz.underlying3
 a3 := Tryz.isAgg3
 z3 := Tryz.sizeOf3
 v3 := Tryz.zeroValue3
 t4 := Tryz.underlying4
 a4 := Tryz.isAgg4
 z4 := Tryz.sizeOf4
 v4 := Tryz.zeroValue4
 t9 := Tryz.underlying9
 a9 := Tryz.isAgg9
 z9 := Tryz.sizeOf9
 v9 := Tryz.zeroValue9
 t24 := Tryz.underlying171
 a24 := Tryz.isAgg171
 z24 := Tryz.sizeOf171
 v24 := Tryz.zeroValue171 }
open Go.RowKit in
theorem Tryz.strings_CutPrefix (s p : ByteArray) (w : World) :
  Calls Tryz.prog 128 #[.string s, .string p] w fun e w' => e = .returned (.tuple #[.string ⟨(Lib.trimPrefix s.data.toList p.data.toList).toArray⟩, .bool (Lib.hasPrefix s.data.toList p.data.toList)]) ∧ w' = w := Any.strings_CutPrefix Tryz.lays103 s p w
def Tryz.lays172_ren : Go.Shelf.Ren := ⟨fun | 172 => 130 | 244 => 164 | 245 => 165 | 247 => 189 | 279 => 190 | 280 => 191 | 281 => 192 | 282 => 193 | 287 => 222 | 316 => 223 | 171 => 90 | 205 => 224 | 321 => 242 | 322 => 243 | 243 => 131 | 246 => 166 | 283 => 194 | 284 => 195 | 285 => 196 | 286 => 197 | 129 => 217 | 317 => 225 | 318 => 226 | 319 => 227 | 320 => 228 | 337 => 244 | 338 => 245 | n => n, fun | 9 => 9 | 3 => 3 | 75 => 175 | 76 => 176 | 4 => 4 | 5 => 5 | 167 => 234 | 37 => 49 | 0 => 0 | 85 => 235 | 2 => 2 | 168 => 237 | 53 => 213 | 175 => 268 | 46 => 178 | 210 => 272 | 127 => 216 | 145 => 296 | 143 => 294 | 21 => 21 | 171 => 240 | 173 => 243 | 212 => 275 | 51 => 157 | 20 => 20 | 213 => 276 | 232 => 300 | 233 => 301 | 80 => 185 | n => n, fun | 15 => 1 | 16 => 2 | 17 => 3 | 18 => 7 | 19 => 8 | n => n⟩
theorem Tryz.lays172 : Go.Proofs.Lays.n172 Tryz.prog Tryz.lays172_ren := {
 mixed := by kernel_rfl
 f129 := Tryz.func217.trans (congrArg some (by kernel_rfl))
 f171 := Tryz.func90.trans (congrArg some (by kernel_rfl))
 f172 := Tryz.func130.trans (congrArg some (by kernel_rfl))
 f205 := Tryz.func224.trans (congrArg some (by kernel_rfl))
 f243 := Tryz.func131.trans (congrArg some (by kernel_rfl))
 f244 := Tryz.func164.trans (congrArg some (by kernel_rfl))
 f245 := Tryz.func165.trans (congrArg some (by kernel_rfl))
 f246 := Tryz.func166.trans (congrArg some (by kernel_rfl))
 f247 := Tryz.func189.trans (congrArg some (by kernel_rfl))
 f279 := Tryz.func190.trans (congrArg some (by kernel_rfl))
 f280 := Tryz.func191.trans (congrArg some (by kernel_rfl))
 f281 := Tryz.func192.trans (congrArg some (by kernel_rfl))
 f282 := Tryz.func193.trans (congrArg some (by kernel_rfl))
 f283 := Tryz.func194.trans (congrArg some (by kernel_rfl))
 f284 := Tryz.func195.trans (congrArg some (by kernel_rfl))
 f285 := Tryz.func196.trans (congrArg some (by kernel_rfl))
 f286 := Tryz.func197.trans (congrArg some (by kernel_rfl))
 f287 := Tryz.func222.trans (congrArg some (by kernel_rfl))
 f316 := Tryz.func223.trans (congrArg some (by kernel_rfl))
 f317 := Tryz.func225.trans (congrArg some (by kernel_rfl))
 f318 := Tryz.func226.trans (congrArg some (by kernel_rfl))
 f319 := Tryz.func227.trans (congrArg some (by kernel_rfl))
 f320 := Tryz.func228.trans (congrArg some (by kernel_rfl))
 f321 := Tryz.func242.trans (congrArg some (by kernel_rfl))
 f322 := Tryz.func243.trans (congrArg some (by kernel_rfl))
 f337 := Tryz.func244.trans (congrArg some (by kernel_rfl))
 f338 := Tryz.func245.trans (congrArg some (by kernel_rfl))
 t0 := Tryz.underlying0
 a0 := Tryz.isAgg0
 z0 := Tryz.sizeOf0
 v0 := Tryz.zeroValue0
 t2 := Tryz.underlying2
 a2 := Tryz.isAgg2
 z2 := Tryz.sizeOf2
 v2 := Tryz.zeroValue2
 t3 := Tryz.underlying3
 a3 := Tryz.isAgg3
 z3 := Tryz.sizeOf3
 v3 := Tryz.zeroValue3
 t4 := Tryz.underlying4
 a4 := Tryz.isAgg4
 z4 := Tryz.sizeOf4
 v4 := Tryz.zeroValue4
 t5 := Tryz.underlying5
 a5 := Tryz.isAgg5
 z5 := Tryz.sizeOf5
 v5 := Tryz.zeroValue5
 t9 := Tryz.underlying9
 a9 := Tryz.isAgg9
 z9 := Tryz.sizeOf9
 v9 := Tryz.zeroValue9
 t20 := Tryz.underlying20
 a20 := Tryz.isAgg20
 z20 := Tryz.sizeOf20
 v20 := Tryz.zeroValue20
 t21 := Tryz.underlying21
 a21 := Tryz.isAgg21
 z21 := Tryz.sizeOf21
 v21 := Tryz.zeroValue21
 t37 := Tryz.underlying49
 a37 := Tryz.isAgg49
 z37 := Tryz.sizeOf49
 v37 := Tryz.zeroValue49
 t46 := Tryz.underlying178
 a46 := Tryz.isAgg178
 z46 := Tryz.sizeOf178
 v46 := Tryz.zeroValue178
 t51 := Tryz.underlying157
 a51 := Tryz.isAgg157
 z51 := Tryz.sizeOf157
 v51 := Tryz.zeroValue157
 t53 := Tryz.underlying213
 a53 := Tryz.isAgg213
 z53 := Tryz.sizeOf213
 v53 := Tryz.zeroValue213
 t75 := Tryz.underlying175
 a75 := Tryz.isAgg175
 z75 := Tryz.sizeOf175
 v75 := Tryz.zeroValue175
 t76 := Tryz.underlying176
 a76 := Tryz.isAgg176
 z76 := Tryz.sizeOf176
 v76 := Tryz.zeroValue176
 t85 := Tryz.underlying235
 a85 := Tryz.isAgg235
 z85 := Tryz.sizeOf235
 v85 := Tryz.zeroValue235
 t127 := Tryz.underlying216
 a127 := Tryz.isAgg216
 z127 := Tryz.sizeOf216
 v127 := Tryz.zeroValue216
 t143 := Tryz.underlying294
 a143 := Tryz.isAgg294
 z143 := Tryz.sizeOf294
 v143 := Tryz.zeroValue294
 t145 := Tryz.underlying296
 a145 := Tryz.isAgg296
 z145 := Tryz.sizeOf296
 v145 := Tryz.zeroValue296
 t167 := Tryz.underlying234
 a167 := Tryz.isAgg234
 z167 := Tryz.sizeOf234
 v167 := Tryz.zeroValue234
 t168 := Tryz.underlying237
 a168 := Tryz.isAgg237
 z168 := Tryz.sizeOf237
 v168 := Tryz.zeroValue237
 t171 := Tryz.underlying240
 a171 := Tryz.isAgg240
 z171 := Tryz.sizeOf240
 v171 := Tryz.zeroValue240
 t173 := Tryz.underlying243
 a173 := Tryz.isAgg243
 z173 := Tryz.sizeOf243
 v173 := Tryz.zeroValue243
 t175 := Tryz.underlying268
 a175 := Tryz.isAgg268
 z175 := Tryz.sizeOf268
 v175 := Tryz.zeroValue268
 t210 := Tryz.underlying272
 a210 := Tryz.isAgg272
 z210 := Tryz.sizeOf272
 v210 := Tryz.zeroValue272
 t212 := Tryz.underlying275
 a212 := Tryz.isAgg275
 z212 := Tryz.sizeOf275
 v212 := Tryz.zeroValue275
 t213 := Tryz.underlying276
 a213 := Tryz.isAgg276
 z213 := Tryz.sizeOf276
 t232 := Tryz.underlying300
 a232 := Tryz.isAgg300
 z232 := Tryz.sizeOf300
 v232 := Tryz.zeroValue300
 t233 := Tryz.underlying301
 a233 := Tryz.isAgg301
 z233 := Tryz.sizeOf301
 v233 := Tryz.zeroValue301
 g15 := by kernel_rfl
 g16 := by kernel_rfl
 g17 := by kernel_rfl
 g18 := by kernel_rfl
 g19 := by kernel_rfl }
open Go.RowKit in
theorem Tryz.strconv_Atoi (s : ByteArray) (n : Int) (hl : s.size ≤ 18) (h : Lib.atoi s.data.toList = some n) (w : World) :
  Calls Tryz.prog 130 #[.string s] w fun e w' => e = .returned (.tuple #[.int .i64 n, .nilIface]) ∧ ∃ t, w' = Lib.bytesWorld w 5 t := Any.strconv_Atoi Tryz.lays172 s n hl h w
def Tryz.laysM171_ren : Go.Shelf.Ren := ⟨fun | 171 => 90 | 243 => 131 | 246 => 166 | 283 => 194 | 284 => 195 | 285 => 196 | 286 => 197 | 129 => 217 | 317 => 225 | 318 => 226 | 319 => 227 | 320 => 228 | 337 => 244 | 338 => 245 | n => n, fun | 3 => 3 | 9 => 9 | 2 => 2 | 4 => 4 | 171 => 240 | 0 => 0 | 53 => 213 | 37 => 49 | 5 => 5 | 173 => 243 | 212 => 275 | 51 => 157 | 20 => 20 | 213 => 276 | 46 => 178 | 232 => 300 | 233 => 301 | n => n, fun | 17 => 3 | 18 => 7 | 19 => 8 | n => n⟩
theorem Tryz.laysM171 : Go.Proofs.LaysM.n171 Tryz.prog Tryz.laysM171_ren := {
 mixed := by kernel_rfl
 f129 := Tryz.func217.trans (congrArg some (by kernel_rfl))
 f171 := Tryz.func90.trans (congrArg some (by kernel_rfl))
 f243 := Tryz.func131.trans (congrArg some (by kernel_rfl))
 f246 := Tryz.func166.trans (congrArg some (by kernel_rfl))
 f283 := Tryz.func194.trans (congrArg some (by kernel_rfl))
 f284 := Tryz.func195.trans (congrArg some (by kernel_rfl))
 f285 := Tryz.func196.trans (congrArg some (by kernel_rfl))
 f286 := Tryz.func197.trans (congrArg some (by kernel_rfl))
 f317 := Tryz.func225.trans (congrArg some (by kernel_rfl))
 f318 := Tryz.func226.trans (congrArg some (by kernel_rfl))
 f319 := Tryz.func227.trans (congrArg some (by kernel_rfl))
 f320 := Tryz.func228.trans (congrArg some (by kernel_rfl))
 f337 := Tryz.func244.trans (congrArg some (by kernel_rfl))
 f338 := Tryz.func245.trans (congrArg some (by kernel_rfl))
 t0 := Tryz.underlying0
 a0 := Tryz.isAgg0
 z0 := Tryz.sizeOf0
 v0 := Tryz.zeroValue0
 t2 := Tryz.underlying2
 a2 := Tryz.isAgg2
 z2 := Tryz.sizeOf2
 v2 := Tryz.zeroValue2
 t3 := Tryz.underlying3
 a3 := Tryz.isAgg3
 z3 := Tryz.sizeOf3
 v3 := Tryz.zeroValue3
 t4 := Tryz.underlying4
 a4 := Tryz.isAgg4
 z4 := Tryz.sizeOf4
 v4 := Tryz.zeroValue4
 t5 := Tryz.underlying5
 a5 := Tryz.isAgg5
 z5 := Tryz.sizeOf5
 v5 := Tryz.zeroValue5
 t9 := Tryz.underlying9
 a9 := Tryz.isAgg9
 z9 := Tryz.sizeOf9
 v9 := Tryz.zeroValue9
 t20 := Tryz.underlying20
 a20 := Tryz.isAgg20
 z20 := Tryz.sizeOf20
 v20 := Tryz.zeroValue20
 t37 := Tryz.underlying49
 a37 := Tryz.isAgg49
 z37 := Tryz.sizeOf49
 v37 := Tryz.zeroValue49
 t46 := Tryz.underlying178
 a46 := Tryz.isAgg178
 z46 := Tryz.sizeOf178
 v46 := Tryz.zeroValue178
 t51 := Tryz.underlying157
 a51 := Tryz.isAgg157
 z51 := Tryz.sizeOf157
 v51 := Tryz.zeroValue157
 t53 := Tryz.underlying213
 a53 := Tryz.isAgg213
 z53 := Tryz.sizeOf213
 v53 := Tryz.zeroValue213
 t171 := Tryz.underlying240
 a171 := Tryz.isAgg240
 z171 := Tryz.sizeOf240
 v171 := Tryz.zeroValue240
 t173 := Tryz.underlying243
 a173 := Tryz.isAgg243
 z173 := Tryz.sizeOf243
 v173 := Tryz.zeroValue243
 t212 := Tryz.underlying275
 a212 := Tryz.isAgg275
 z212 := Tryz.sizeOf275
 v212 := Tryz.zeroValue275
 t213 := Tryz.underlying276
 a213 := Tryz.isAgg276
 z213 := Tryz.sizeOf276
 t232 := Tryz.underlying300
 a232 := Tryz.isAgg300
 z232 := Tryz.sizeOf300
 v232 := Tryz.zeroValue300
 t233 := Tryz.underlying301
 a233 := Tryz.isAgg301
 z233 := Tryz.sizeOf301
 v233 := Tryz.zeroValue301
 g17 := by kernel_rfl
 g18 := by kernel_rfl
 g19 := by kernel_rfl
 i0 := by kernel_rfl
 i2 := by kernel_rfl
 i3 := by kernel_rfl
 i4 := by kernel_rfl
 i5 := by kernel_rfl
 i9 := by kernel_rfl
 i20 := by kernel_rfl
 i37 := by kernel_rfl
 i46 := by kernel_rfl
 i51 := by kernel_rfl
 i53 := by kernel_rfl
 i171 := by kernel_rfl
 i173 := by kernel_rfl
 i212 := by kernel_rfl
 i232 := by kernel_rfl
 i233 := by kernel_rfl
 m17 := by kernel_rfl
 m18 := by kernel_rfl
 m19 := by kernel_rfl }
open Go.RowKit Go.Sort Go.Lib in
theorem Tryz.strconv_Itoa (n : Int) (h0 : -9223372036854775808 ≤ n) (h1 : n ≤ 9223372036854775807) (w : World) (htab : Lib.TabIs Tryz.prog w "internal/strconv.uint64pow10" .u64 Lib.pow10Tab) :
  Calls Tryz.prog 90 #[.int .i64 n] w fun e w' => e = .returned (.string ⟨(Lib.itoa n).toArray⟩) ∧ ∃ k os, w' = grow (w.drewN k) os := Any.strconv_Itoa Tryz.laysM171 n h0 h1 w htab
def Tryz.lays105_ren : Go.Shelf.Ren := ⟨fun | 105 => 91 | 212 => 132 | 99 => 133 | 165 => 134 | 166 => 135 | 170 => 136 | 169 => 137 | 263 => 167 | 264 => 168 | 206 => 169 | 240 => 170 | 241 => 171 | 276 => 198 | 277 => 199 | n => n, fun | 9 => 9 | 3 => 3 | 4 => 4 | 20 => 20 | 0 => 0 | 46 => 178 | 109 => 179 | 5 => 5 | 72 => 184 | 76 => 176 | 51 => 157 | 146 => 211 | 53 => 213 | 148 => 214 | 70 => 182 | 37 => 49 | 75 => 175 | 127 => 216 | 164 => 245 | 80 => 185 | n => n, fun | n => n⟩
theorem Tryz.lays105 : Go.Proofs.Lays.n105 Tryz.prog Tryz.lays105_ren := {
 mixed := by kernel_rfl
 f99 := Tryz.func133.trans (congrArg some (by kernel_rfl))
 f105 := Tryz.func91.trans (congrArg some (by kernel_rfl))
 f165 := Tryz.func134.trans (congrArg some (by kernel_rfl))
 f166 := Tryz.func135.trans (congrArg some (by kernel_rfl))
 f169 := Tryz.func137.trans (congrArg some (by kernel_rfl))
 f170 := Tryz.func136.trans (congrArg some (by kernel_rfl))
 f206 := Tryz.func169.trans (congrArg some (by kernel_rfl))
 f212 := Tryz.func132.trans (congrArg some (by kernel_rfl))
 f240 := Tryz.func170.trans (congrArg some (by kernel_rfl))
 f241 := Tryz.func171.trans (congrArg some (by kernel_rfl))
 f263 := Tryz.func167.trans (congrArg some (by kernel_rfl))
 f264 := Tryz.func168.trans (congrArg some (by kernel_rfl))
 f276 := Tryz.func198.trans (congrArg some (by kernel_rfl))
 f277 := Tryz.func199.trans (congrArg some (by kernel_rfl))
 t0 := Tryz.underlying0
 a0 := Tryz.isAgg0
 z0 := Tryz.sizeOf0
 v0 := Tryz.zeroValue0
 t3 := Tryz.underlying3
 a3 := Tryz.isAgg3
 z3 := Tryz.sizeOf3
 v3 := Tryz.zeroValue3
 t4 := Tryz.underlying4
 a4 := Tryz.isAgg4
 z4 := Tryz.sizeOf4
 v4 := Tryz.zeroValue4
 t5 := Tryz.underlying5
 a5 := Tryz.isAgg5
 z5 := Tryz.sizeOf5
 v5 := Tryz.zeroValue5
 t9 := Tryz.underlying9
 a9 := Tryz.isAgg9
 z9 := Tryz.sizeOf9
 v9 := Tryz.zeroValue9
 t20 := Tryz.underlying20
 a20 := Tryz.isAgg20
 z20 := Tryz.sizeOf20
 v20 := Tryz.zeroValue20
 t37 := Tryz.underlying49
 a37 := Tryz.isAgg49
 z37 := Tryz.sizeOf49
 v37 := Tryz.zeroValue49
 t46 := Tryz.underlying178
 a46 := Tryz.isAgg178
 z46 := Tryz.sizeOf178
 v46 := Tryz.zeroValue178
 t51 := Tryz.underlying157
 a51 := Tryz.isAgg157
 z51 := Tryz.sizeOf157
 v51 := Tryz.zeroValue157
 t53 := Tryz.underlying213
 a53 := Tryz.isAgg213
 z53 := Tryz.sizeOf213
 v53 := Tryz.zeroValue213
 t70 := Tryz.underlying182
 a70 := Tryz.isAgg182
 z70 := Tryz.sizeOf182
 v70 := Tryz.zeroValue182
 t72 := Tryz.underlying184
 a72 := Tryz.isAgg184
 z72 := Tryz.sizeOf184
 v72 := Tryz.zeroValue184
 t75 := Tryz.underlying175
 a75 := Tryz.isAgg175
 z75 := Tryz.sizeOf175
 v75 := Tryz.zeroValue175
 t76 := Tryz.underlying176
 a76 := Tryz.isAgg176
 z76 := Tryz.sizeOf176
 v76 := Tryz.zeroValue176
 t109 := Tryz.underlying179
 a109 := Tryz.isAgg179
 z109 := Tryz.sizeOf179
 v109 := Tryz.zeroValue179
 t127 := Tryz.underlying216
 a127 := Tryz.isAgg216
 z127 := Tryz.sizeOf216
 v127 := Tryz.zeroValue216
 t146 := Tryz.underlying211
 a146 := Tryz.isAgg211
 z146 := Tryz.sizeOf211
 v146 := Tryz.zeroValue211
 t148 := Tryz.underlying214
 a148 := Tryz.isAgg214
 z148 := Tryz.sizeOf214
 v148 := Tryz.zeroValue214
 t164 := Tryz.underlying245
 a164 := Tryz.isAgg245
 z164 := Tryz.sizeOf245
 v164 := Tryz.zeroValue245 }
theorem Tryz.Builder_Extra_105 : Builder.Extra Tryz.prog Tryz.lays105_ren := {
 sizeBuilder := by kernel_rfl
 liesBuilder := by kernel_rfl
 t5 := Tryz.underlying5
 a5 := Tryz.isAgg5
 z5 := Tryz.sizeOf5
 v5 := Tryz.zeroValue5
 infoByte := by kernel_rfl
 cellsByte := by kernel_rfl
 sizeByte := by kernel_rfl
 neB5 := by decide }
open Go.RowKit Go.Lib in
theorem Tryz.strings_Repeat (s : ByteArray) (c : Nat) (w : World) (hc : c ≤ 9223372036854775807) (hlen : s.size * c ≤ 140737488355328) :
  Calls Tryz.prog 91 #[.string s, .int .i64 c] w fun e w' => e = .returned (.string ⟨(Lib.repeatL s.data.toList c).toArray⟩) ∧ Below w.heap.size w w' := Any.strings_Repeat Tryz.lays105 Tryz.Builder_Extra_105 s c w hc hlen
end Go.Proofs

namespace Go.Proofs.YtlpkphdgadgmiaaGreatDoor.W
open Go.RowKit Go.Maps
set_option linter.unusedVariables false
set_option linter.unusedSimpArgs false
set_option maxRecDepth 100000

def Pw (w : World) : Prop := Lib.TabIs Tryz.prog w "internal/strconv.uint64pow10" .u64 Lib.pow10Tab
theorem Pw.kept {w w' : World} (h : Pw w) (hg : w.grownBy w' none) : Pw w' := by
 unfold Pw Lib.TabIs World.var? at *
 obtain ⟨g, h1, h2⟩ := Option.bind_eq_some_iff.1 h
 refine Option.bind_eq_some_iff.2 ⟨g, h1, ?_⟩
 cases hh : w.heap[g]? with
 | none => rw [hh] at h2; simp at h2
 | some o => rw [hg.block g (Array.getElem?_eq_some_iff.1 hh).1 (by simp)]; rw [hh] at h2 ⊢; exact h2
theorem grow_grown (w : World) (k : Nat) (os : Array Obj) : w.grownBy (Sort.grow (w.drewN k) os) none := by
 refine grown_trans (grown_drewN w k none) ⟨rfl, rfl, rfl, by simp [Sort.grow], fun i hi _ => ?_⟩
 simp only [Sort.grow]
 rw [Array.getElem?_append_left hi]
theorem below_grown {w w' : World} (h : Below w.heap.size w w') : w.grownBy w' none := ⟨h.os, h.tape, h.output, h.size, fun k hk _ => h.block k hk⟩

theorem repeat_any (c : Nat) (w : World) (hc : c ≤ 8) : Calls Tryz.prog 91 #[.string ⟨#[48]⟩, .int .i64 c] w fun e w' => e = .returned (.string ⟨(List.replicate c 48).toArray⟩) ∧ w.grownBy w' none := by
 refine (Tryz.strings_Repeat ⟨#[48]⟩ c w (by omega) (by simp [ByteArray.size]; omega)).mono ?_
 rintro e w' ⟨rfl, hb⟩
 refine ⟨?_, below_grown hb⟩
 congr 4
 clear hb
 induction c with
 | zero => rfl
 | succ c ih => rw [Lib.repeatL, ih (by omega), List.replicate_succ]; rfl

set_option maxHeartbeats 1000000 in
theorem name_any (i : Nat) (w : World) (h1 : 1 ≤ i) (h2 : i ≤ 99999999) (ht : Pw w) : Calls Tryz.prog 45 #[.int .i64 i] w fun e w' => e = .returned (.string (nmL i)) ∧ w.grownBy w' none := by
 have HT := hid_mk ht
 have hpad := digN_pad 8 i (by omega) (by omega)
 have HI := hid_mk (Tryz.strconv_Itoa i (by omega) (by omega) w ht)
 rw [show Lib.itoa (i : Int) = Lib.decDigits i by unfold Lib.itoa; rw [if_neg (by omega)]; rfl] at HI
 have HP := hid_mk hpad.2
 obtain ⟨l, hl⟩ : ∃ l, Lib.decDigits i = l := ⟨_, rfl⟩
 have hl13 : l.length ≤ 8 := by rw [← hl]; exact hpad.1
 rw [hl] at HI HP
 clear hl hpad ht
 go_enter Tryz.func45, Tryz.ntmps45
 go_wp2_with fail
 refine HI.out.mono ?_
 rintro e w1 ⟨rfl, k, os, hw⟩
 have H1 := hid_mk (show w.grownBy w1 none by rw [hw]; exact grow_grown w k os)
 clear hw HI
 have HR := hid_mk (repeat_any (8 - l.length) w1 (by omega))
 have hsub : ((8 : Int) - (l.length : Int)) = ((8 - l.length : Nat) : Int) := by omega
 rw [show List.replicate (8 - l.length) (48 : UInt8) = List.replicate (8 - l.length) 48 from rfl] at HR
 obtain ⟨z, hz⟩ : ∃ z, 8 - l.length = z := ⟨_, rfl⟩
 rw [hz] at HR HP hsub
 go_wp2_with fail
 try rw [hsub]
 refine HR.out.mono ?_
 rintro e w2 ⟨rfl, hg2⟩
 have H2 := hid_mk (grown_trans H1.out hg2)
 clear hg2 HR H1 hsub
 go_wp2_with fail
 go_ret
 refine ⟨?_, H2.out⟩
 unfold nmL
 rw [← HP.out]
 congr 2
 first | done | (apply ByteArray.ext; simp [preL, ByteArray.data_append])

theorem nmL_prefix (i : Nat) : Lib.hasPrefix (nmL i).data.toList preL = true ∧ Lib.trimPrefix (nmL i).data.toList preL = digN 8 i := by
 have h1 : Lib.hasPrefix (nmL i).data.toList preL = true := by
  unfold Lib.hasPrefix nmL
  simp
 refine ⟨h1, ?_⟩
 unfold Lib.trimPrefix
 rw [if_pos h1]
 unfold nmL
 simp [preL]

end Go.Proofs.YtlpkphdgadgmiaaGreatDoor.W

namespace Go.Proofs.YtlpkphdgadgmiaaGreatDoor.W
open Go.RowKit Go.Maps
set_option linter.unusedVariables false
set_option linter.unusedSimpArgs false
set_option maxRecDepth 100000

theorem info204 : (Tryz.prog.info? 204).map (fun i => i.zero) = some (some (.agg (Array.replicate 256 (.bool false)))) := by kernel_rfl
theorem zero204 (w : World) : (zeroValue 204).run Tryz.prog w = .ok (.agg (Array.replicate 256 (.bool false))) w := by
 have h := info204
 cases hi : Tryz.prog.info? 204 with
 | none => rw [hi] at h; cases h
 | some i =>
  rw [hi] at h
  have hz : i.zero = some (.agg (Array.replicate 256 (.bool false))) := by simpa using h
  simp [zeroValue, typeInfo, Sem.run_bind, hi, hz]
def digS : ByteArray := ⟨#[48, 49, 50, 51, 52, 53, 54, 55, 56, 57]⟩
theorem dropWhile_all {p : UInt8 → Bool} : ∀ {l : List UInt8}, (∀ c ∈ l, p c = true) → l.dropWhile p = []
 | [], _ => rfl
 | c :: l, h => by rw [List.dropWhile_cons, if_pos (h c (by simp))]; exact dropWhile_all fun d hd => h d (by simp [hd])
theorem trim_all {l : List UInt8} (hc : ∀ c ∈ l, 48 ≤ c.toNat ∧ c.toNat ≤ 57) : Lib.trimS l digS.data.toList = [] := by
 have hm : ∀ c ∈ l, digS.data.toList.contains c = true := fun c h => by
  obtain ⟨h1, h2⟩ := hc c h
  have h3 : c.toNat = 48 ∨ c.toNat = 49 ∨ c.toNat = 50 ∨ c.toNat = 51 ∨ c.toNat = 52 ∨ c.toNat = 53 ∨ c.toNat = 54 ∨ c.toNat = 55 ∨ c.toNat = 56 ∨ c.toNat = 57 := by omega
  have h4 : c = UInt8.ofNat c.toNat := by simp
  rcases h3 with h | h | h | h | h | h | h | h | h | h <;> (rw [h4, h]; decide)
 have hr : Lib.trimRightS l digS.data.toList = [] := by
  unfold Lib.trimRightS
  rw [dropWhile_all fun c h => hm c (List.mem_reverse.1 h)]; rfl
 unfold Lib.trimS
 rw [hr]; rfl
theorem digitVal_of {c : UInt8} (h : 48 ≤ c.toNat ∧ c.toNat ≤ 57) : Lib.digitVal c = some (c.toNat - 48) := by
 unfold Lib.digitVal
 rw [if_pos h]
theorem decFrom_dig : ∀ (l : List UInt8) (acc : Nat), (∀ c ∈ l, 48 ≤ c.toNat ∧ c.toNat ≤ 57) → Lib.decFrom acc l = some (l.foldl (fun a c => 10 * a + (c.toNat - 48)) acc)
 | [], acc, _ => by simp [Lib.decFrom]
 | c :: l, acc, h => by
  unfold Lib.decFrom
  rw [digitVal_of (h c (by simp))]
  simp only [List.foldl_cons]
  rw [decFrom_dig l _ (fun d hd => h d (by simp [hd])), Nat.mul_comm]
theorem atoi_dig (n i : Nat) (hn : 1 ≤ n) (hi : i < 10 ^ n) : Lib.atoi (digN n i) = some (i : Int) := by
 have hm := digN_mem n i
 have hl := digN_len n i
 have hv := valD_digN n i hi
 generalize digN n i = d at *
 match d, hl with
 | [], hl => simp at hl; omega
 | c :: r, hl =>
  obtain ⟨h1, h2⟩ := hm c (by simp)
  have e1 : (c == 45) = false := by
   rw [beq_eq_false_iff_ne]; intro e; subst e; simp at h1
  have e2 : (c == 43) = false := by
   rw [beq_eq_false_iff_ne]; intro e; subst e; simp at h1
  simp only [Lib.atoi, e1, e2, Bool.false_eq_true, if_false]
  unfold Lib.decNat
  rw [if_neg (by simp), decFrom_dig _ _ (fun d hd => hm d hd)]
  unfold valD at hv
  simp only [Option.map_some]
  rw [hv]
theorem bytesWorld_grown (w : World) (e : TypeId) (s : ByteArray) : w.grownBy (Lib.bytesWorld w e s) none := ⟨rfl, rfl, rfl, by rw [Lib.bytesWorld_size]; omega, fun i hi _ => Lib.bytesWorld_at_old w e s i hi⟩
set_option maxHeartbeats 1000000 in
theorem numberOf_nm (i : Nat) (w : World) (h1 : 1 ≤ i) (h2 : i ≤ 99999999) : Calls Tryz.prog 89 #[.string (nmL i)] w fun e w' => e = .returned (.tuple #[.int .i64 i, .bool true]) ∧ w.grownBy w' none := by
 have HC := hid_mk (Tryz.strings_CutPrefix (nmL i) ⟨preL.toArray⟩ w)
 rw [show (⟨preL.toArray⟩ : ByteArray).data.toList = preL by simp, (nmL_prefix i).1, (nmL_prefix i).2] at HC
 have hat := atoi_dig 8 i (by omega) (by omega)
 have hm := digN_mem 8 i
 have hdl := digN_len 8 i
 generalize digN 8 i = d at *
 have hsz : (⟨d.toArray⟩ : ByteArray).size = 8 := by simp [ByteArray.size, hdl]
 have hasc : ∀ c ∈ digS.data.toList, c.toNat < 128 := by decide
 have HT : Hid (∀ W, Calls Tryz.prog 129 #[.string ⟨d.toArray⟩, .string digS] W fun e w' => e = .returned (.string ⟨#[]⟩) ∧ W.grownBy w' none) := hid_mk (fun W => by
  have := Any.strings_Trim_set Tryz.lays160 zero204 (by kernel_rfl) ⟨d.toArray⟩ digS W (by decide) (by omega) (by omega) (by decide) (fun j b h => hasc b (List.mem_of_getElem? h))
  refine Calls.mono this ?_
  rintro e w' ⟨rfl, q, rfl⟩
  rw [show (⟨d.toArray⟩ : ByteArray).data.toList = d by simp, trim_all hm]
  exact ⟨rfl, grown_trans (grown_trans (World.grownBy_alloc _ _ none) (World.grownBy_alloc _ _ none)) (grown_drewN _ _ none)⟩)
 clear hasc
 have HA := hid_mk (fun W => Tryz.strconv_Atoi ⟨d.toArray⟩ i (by omega) (by simpa using hat) W)
 clear hat hm
 generalize hs : (⟨d.toArray⟩ : ByteArray) = ds at *
 clear hs
 obtain ⟨nm, hnm⟩ : ∃ nm, nmL i = nm := ⟨_, rfl⟩
 rw [hnm] at HC ⊢
 clear hnm
 go_enter Tryz.func89, Tryz.ntmps89
 go_wp2_with (go_at_call 128; refine HC.out.mono ?_; rintro e w' ⟨rfl, rfl⟩)
 refine (HT.out _).mono ?_
 rintro e w2 ⟨rfl, hg⟩
 have HG2 := hid_mk hg
 clear hg HT HC
 go_wp2_with fail
 refine (HA.out _).mono ?_
 rintro e w3 ⟨rfl, t, hw⟩
 have HG3 := hid_mk (show w2.grownBy w3 none by rw [hw]; exact bytesWorld_grown _ _ _)
 clear hw HA
 have h1' : (0 : Int) < i := by omega
 go_wp2
 rw [show decide (0 < i) = true from decide_eq_true (by omega)]
 go_ret2
 exact ⟨rfl, grown_trans HG2.out HG3.out⟩
end Go.Proofs.YtlpkphdgadgmiaaGreatDoor.W

namespace Go.Proofs.YtlpkphdgadgmiaaGreatDoor.W
open Go.RowKit Go.Maps Go.Shelf Go.Sort
set_option linter.unusedVariables false
set_option linter.unusedSimpArgs false
set_option maxRecDepth 100000

def Asc (L : List (Nat × Nat)) : Prop := (L.Pairwise fun p q => p.1 < q.1) ∧ ∀ p ∈ L, 1 ≤ p.1 ∧ p.1 ≤ 99999999
def entS (p : Nat × Nat) : Lit × DataW Unit := (V.key (nmL p.1), .lit (.int .i64 (p.2 : Nat)))
def entU : Option Nat → List (Lit × DataW Unit)
 | some f => [(V.key nmU, .lit (.int .i64 (f : Nat)))]
 | none => []
def dirS (L : List (Nat × Nat)) (b : Option Nat) : DataW Unit := .map (L.map entS ++ entU b)

theorem key_eq {s t : ByteArray} : (V.key s).sameKey (V.key t) = decide (s.data.toList = t.data.toList) := by
 show (s.data.toList == t.data.toList) = _
 by_cases h : s.data.toList = t.data.toList
 ·rw [h]; simp
 ·rw [decide_eq_false h]; exact beq_false_of_ne h
theorem key_SS {i j : Nat} (hi : i ≤ 99999999) (hj : j ≤ 99999999) : (V.key (nmL i)).sameKey (V.key (nmL j)) = decide (i = j) := by
 rw [key_eq]
 congr 1
 rw [nmL_list, nmL_list]
 refine propext ⟨fun h => digN_inj (n := 8) (by omega) (by omega) (by simpa using h), fun h => by rw [h]⟩
theorem key_SU (i : Nat) : (V.key (nmL i)).sameKey (V.key nmU) = false := by rw [key_eq]; exact decide_eq_false (nmL_ne i)
theorem key_US (i : Nat) : (V.key nmU).sameKey (V.key (nmL i)) = false := by rw [key_eq]; exact decide_eq_false (fun h => nmL_ne i h.symm)
theorem key_UU : (V.key nmU).sameKey (V.key nmU) = true := by rw [key_eq]; simp
theorem before_eq (a b : List UInt8) : bytesBefore a b = decide (a < b) := by
 induction a generalizing b with
 | nil => cases b <;> simp [bytesBefore]
 | cons x a ih =>
  cases b with
  | nil => simp [bytesBefore]
  | cons y b =>
   rw [bytesBefore]
   by_cases h1 : x < y
   ·simp [h1, List.cons_lt_cons_iff]
   ·by_cases h2 : x = y
    ·subst h2; simp [ih, List.cons_lt_cons_iff]
    ·simp [h1, h2, List.cons_lt_cons_iff]
theorem S_lt_S {i j : Nat} (hi : i ≤ 99999999) (hj : j ≤ 99999999) : (nmL i).data.toList < (nmL j).data.toList ↔ i < j := by
 rw [nmL_list, nmL_list]
 simp only [preL, List.cons_append, List.nil_append, List.cons_lt_cons_iff]
 simp [digN_lt 8 i j (by omega) (by omega)]
theorem S_lt_U (i : Nat) : (nmL i).data.toList < nmU.data.toList := by
 rw [nmL_list]
 simp [preL, nmU, List.cons_lt_cons_iff]
theorem U_not_S (i : Nat) : ¬ nmU.data.toList < (nmL i).data.toList := List.lt_asymm (S_lt_U i)

theorem insert_last {x : Lit × DataW Unit} : ∀ {es : List (Lit × DataW Unit)}, (∀ p ∈ es, x.1.before p.1 = false) → DataW.insert x es = es ++ [x]
 | [], _ => rfl
 | p :: es, h => by
  rw [DataW.insert, h p List.mem_cons_self]
  simp only [Bool.false_eq_true, if_false, List.cons_append]
  rw [insert_last (fun q hq => h q (List.mem_cons_of_mem _ hq))]
theorem filter_S_U (L : List (Nat × Nat)) : (L.map entS).filter (fun p => !p.1.sameKey (V.key nmU)) = L.map entS := by
 rw [List.filter_eq_self]
 intro p hp
 obtain ⟨q, hq, rfl⟩ := List.mem_map.1 hp
 simp [entS, key_SU]
theorem dir_delU (L : List (Nat × Nat)) (b : Option Nat) : (dirS L b).del (V.key nmU) = dirS L none := by
 unfold dirS DataW.del
 simp only
 rw [List.filter_append, filter_S_U]
 cases b <;> simp [entU, key_UU]
theorem dir_putU (L : List (Nat × Nat)) (b : Option Nat) (f : Nat) : (dirS L b).put (V.key nmU) (.lit (.int .i64 (f : Nat))) = dirS L (some f) := by
 have h := dir_delU L b
 unfold dirS DataW.del at h
 unfold dirS DataW.put
 simp only at h ⊢
 injection h with h
 rw [h, insert_last]
 ·simp [entU]
 ·intro p hp
  simp only [entU, List.append_nil] at hp
  obtain ⟨q, hq, rfl⟩ := List.mem_map.1 hp
  show bytesBefore _ _ = false
  rw [before_eq]
  exact decide_eq_false (U_not_S q.1)
theorem dir_putS {L : List (Nat × Nat)} {i f : Nat} (hL : Asc L) (hi : ∀ p ∈ L, p.1 < i) (h2 : i ≤ 99999999) : (dirS L none).put (V.key (nmL i)) (.lit (.int .i64 (f : Nat))) = dirS (L ++ [(i, f)]) none := by
 unfold dirS DataW.put
 simp only [entU, List.append_nil]
 have e : (L.map entS).filter (fun p => !p.1.sameKey (V.key (nmL i))) = L.map entS := by
  rw [List.filter_eq_self]
  intro p hp
  obtain ⟨q, hq, rfl⟩ := List.mem_map.1 hp
  have := hi q hq
  simp [entS, key_SS (hL.2 q hq).2 h2]
  omega
 rw [e, insert_last]
 ·simp [entS]
 ·intro p hp
  obtain ⟨q, hq, rfl⟩ := List.mem_map.1 hp
  show bytesBefore _ _ = false
  rw [before_eq]
  exact decide_eq_false (fun h => by have := (S_lt_S h2 (hL.2 q hq).2).1 h; have := hi q hq; omega)
def without (i : Nat) (L : List (Nat × Nat)) : List (Nat × Nat) := L.filter fun p => p.1 ≠ i
theorem dir_delS {L : List (Nat × Nat)} {b : Option Nat} {i : Nat} (hL : Asc L) (h2 : i ≤ 99999999) : (dirS L b).del (V.key (nmL i)) = dirS (without i L) b := by
 unfold dirS DataW.del without
 simp only
 rw [List.filter_append]
 congr 2
 ·rw [List.filter_map]
  congr 1
  apply List.filter_congr
  intro p hp
  simp [entS, key_SS (hL.2 p hp).2 h2]
 ·cases b <;> simp [entU, key_US]
theorem Asc.snoc {L : List (Nat × Nat)} (h : Asc L) {i f : Nat} (hi : ∀ p ∈ L, p.1 < i) (h1 : 1 ≤ i) (h2 : i ≤ 99999999) : Asc (L ++ [(i, f)]) := by
 refine ⟨List.pairwise_append.2 ⟨h.1, by simp, fun p hp q hq => ?_⟩, fun p hp => ?_⟩
 ·simp at hq; subst hq; exact hi p hp
 ·rcases List.mem_append.1 hp with hp | hp
  ·exact h.2 p hp
  ·simp at hp; subst hp; exact ⟨h1, h2⟩

theorem fileAt_find (es : List (Lit × DataW Unit)) (k : Lit) : V.fileAt (.map es) k = match es.find? (fun p => p.1.sameKey k) with | some p => (match p.2 with | .lit (.int .i64 z) => if 0 ≤ z then some z.toNat else none | _ => none) | none => none := by
 unfold V.fileAt DataW.atKey
 simp only
 cases es.find? (fun p => p.1.sameKey k) with
 | none => rfl
 | some p => rfl
theorem dir_U (L : List (Nat × Nat)) (b : Option Nat) : V.fileAt (dirS L b) (V.key nmU) = b := by
 unfold dirS
 rw [fileAt_find, List.find?_append]
 have e : (L.map entS).find? (fun p => p.1.sameKey (V.key nmU)) = none := by
  rw [List.find?_eq_none]
  intro p hp
  obtain ⟨q, hq, rfl⟩ := List.mem_map.1 hp
  simp [entS, key_SU]
 rw [e]
 cases b <;> simp [entU, key_UU]
theorem dir_S_none {L : List (Nat × Nat)} {b : Option Nat} {i : Nat} (hL : Asc L) (h2 : i ≤ 99999999) (hn : ∀ p ∈ L, p.1 ≠ i) : V.fileAt (dirS L b) (V.key (nmL i)) = none := by
 unfold dirS
 rw [fileAt_find, List.find?_append]
 have e : (L.map entS).find? (fun p => p.1.sameKey (V.key (nmL i))) = none := by
  rw [List.find?_eq_none]
  intro p hp
  obtain ⟨q, hq, rfl⟩ := List.mem_map.1 hp
  simp [entS, key_SS (hL.2 q hq).2 h2, hn q hq]
 rw [e]
 cases b <;> simp [entU, key_US]
theorem dir_S_some : ∀ {L : List (Nat × Nat)} {b : Option Nat} {i f : Nat}, Asc L → (i, f) ∈ L → V.fileAt (dirS L b) (V.key (nmL i)) = some f := by
 intro L b i f hL hm
 have h2 := (hL.2 _ hm).2
 unfold dirS
 rw [fileAt_find, List.find?_append]
 have e : (L.map entS).find? (fun p => p.1.sameKey (V.key (nmL i))) = some (entS (i, f)) := by
  clear b
  induction L with
  | nil => cases hm
  | cons q L ih =>
   rw [List.map_cons, List.find?_cons]
   rcases List.mem_cons.1 hm with rfl | hm'
   ·simp [entS, key_SS h2 h2]
   ·have hlt := (List.pairwise_cons.1 hL.1).1 _ hm'
    have : (entS q).1.sameKey (V.key (nmL i)) = false := by
     simp only [entS]
     rw [key_SS (hL.2 q List.mem_cons_self).2 h2]
     exact decide_eq_false (by have : q.1 < i := hlt; omega)
    rw [this]
    exact ih ⟨(List.pairwise_cons.1 hL.1).2, fun p hp => hL.2 p (List.mem_cons_of_mem _ hp)⟩ hm'
 rw [e]
 simp [entS]
theorem keys_dir {L : List (Nat × Nat)} (b : Option Nat) (hL : Asc L) : V.sortedKeys (dirS L b) = L.map (fun p => (nmL p.1).data.toList) ++ (match b with | some _ => [nmU.data.toList] | none => []) := by
 have e : strKeys (dirS L b) = L.map (fun p => (nmL p.1).data.toList) ++ (match b with | some _ => [nmU.data.toList] | none => []) := by
  unfold dirS strKeys
  simp only [List.map_append, List.map_map]
  cases b <;> rfl
 unfold V.sortedKeys
 rw [e]
 apply List.mergeSort_of_pairwise
 refine List.pairwise_append.2 ⟨?_, by cases b <;> simp, fun x hx y hy => ?_⟩
 ·rw [List.pairwise_map]
  exact (hL.1.imp_of_mem (fun hp hq h => by
   simp only [decide_eq_true_eq]
   exact List.le_of_lt ((S_lt_S (hL.2 _ hp).2 (hL.2 _ hq).2).2 h)))
 ·obtain ⟨p, hp, rfl⟩ := List.mem_map.1 hx
  cases b with
  | none => cases hy
  | some f =>
   simp at hy
   subst hy
   simp only [decide_eq_true_eq]
   exact List.le_of_lt (S_lt_U p.1)
end Go.Proofs.YtlpkphdgadgmiaaGreatDoor.W
