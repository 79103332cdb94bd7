/- The document's Restore. -/
import Derived.Test.YtpncbehabfkhkaaRbQ
import Derived.Deep.CutBlock
namespace Go.Proofs.Ytpncbehabfkhkaa.W
open Go.RowKit Go.Maps Go.WideMaps Go.WideElems
set_option linter.unusedVariables false
set_option linter.unusedSimpArgs false
set_option maxRecDepth 100000

def RRestPost (w : World) (x : Option Ab) (e : Ending) (W' : World) : Prop :=
  match x with
  | none => e = .returned (.tuple #[.pointer none, .int .i64 21]) ∧ w.grownBy W' none
  | some a => ∃ b m, e = .returned (.tuple #[.pointer (some ⟨b, 0, none⟩), .int .i64 0]) ∧ IsR W' (fun k => w.heap.size ≤ k) b m ∧ m.ab = a ∧ w.grownBy W' none
theorem wp_rrec {W : World} {rv : Value} {n : Nat} {xs : List Value} (h : W.ownsRow 0 22 1 rv n xs) (xv : Value) (h1 : xv.oneCell' = true) (hl : n ≤ 4000000000000) {ops : Array Oper} {rest : List Oper} {o : Oper} {a : Act} {Q : Exit → Act → World → Prop} (hgd : o.guard = none) (s y : Operand)
    (ho : o.op = .call { callee := .builtin .append, args := #[s, y], argTypes := #[55, 55] }) (hs : a.eval s = rv) (hy : a.eval y = .slice (some ⟨W.heap.size, 0, none⟩) 1 1)
    (hc : ∀ a' c' W', Hid (W'.ownsRow 0 22 1 (.slice a' (n + 1) c') (n + 1) (xs ++ [xv]) ∧ (W.alloc (.cells #[xv] 22)).grownBy W' rv.ownBlock ∧ ((Value.slice a' (n + 1) c').ownBlock = rv.ownBlock ∨ (Value.slice a' (n + 1) c').ownBlock = some (W.alloc (.cells #[xv] 22)).heap.size)) → wpList Try.prog ops Q rest (a.put o.dst (.slice a' (n + 1) c')) W') :
    wpList Try.prog ops Q (o :: rest) a (W.alloc (.cells #[xv] 22)) := by
  have hb : Blk (W.alloc (.cells #[xv] 22)) W.heap.size #[xv] 22 := heap_alloc_new W _
  obtain ⟨a', c', W', hrun, r1, r2, r3⟩ := run_rrec (W := W.alloc (.cells #[xv] 22)) (owns_kept h (World.grownBy_alloc W _ none) (fun _ _ _ => by simp)) xv h1 W.heap.size (by rw [hb.cell]; rfl) hl s y ho hs hy
  refine wpList_plain hgd fun K hK => ?_
  unfold Oper.wp
  rw [hrun]
  exact hK _ _ (hc a' c' W' (hid_mk ⟨r1, r2, r3⟩))
set_option maxHeartbeats 16000000 in
theorem rrest_ok (sp : Nat) (a : Option Addr) (c : Nat) (l : List UInt8) (w : World) (h1 : 1 ≤ sp) (h2 : sp ≤ 1099511627776) (hb : Byt w (.slice a l.length c) l) (hl : l.length ≤ 1048576) :
    Calls Try.prog 24 #[.int .i64 sp, .slice a l.length c] w (RRestPost w (restA sp l)) := by
  have HB := hid_mk hb
  clear hb
  obtain ⟨R, hR⟩ : ∃ R, R = restA sp l := ⟨_, rfl⟩
  rw [← hR]
  have HR0 := hid_mk hR
  clear hR
  go_enter Try.func24, Try.ntmps24
  go_wp2_with fail
  refine (rnew_ok sp w h1 h2).mono ?_
  rintro e W1 ⟨b, rfl, hR, hg⟩
  have H1 := hid_mk (And.intro hR hg)
  clear hR hg
  go_wp2_with fail
  refine (rnew_any _ l W1 (HB.out.kept H1.out.2) (by omega)).mono ?_
  rintro e W2 ⟨rb, rfl, hr, hg⟩
  have H2 := hid_mk (show RRS w W2 W1.heap.size W2.heap.size b rb (newR sp) ⟨l, 0⟩ W2.heap.size from ⟨grown_trans H1.out.2 hg, (H1.out.1.bound.kept hg).wide (fun k hk => ⟨⟨hk.1, .inl hk.2⟩, by have := hg.size; have := hk.2; omega⟩), hr, H1.out.2.size, Nat.le_refl _, Nat.le_refl _⟩)
  clear hr hg H1
  go_wp2_with fail
  refine (rnum_any _ _ _ _ _ H2.out.rd).mono ?_
  rintro e W3 ⟨rfl, hr, hg, -⟩
  have H3 := hid_mk (H2.out.read hr hg)
  clear hr hg H2
  obtain ⟨c0, c1, c2, c3, c4, cf⟩ := H3.out.isR.cells
  go_wp2_with fail
  clear c0 c1 c2 c3 c4 cf
  have H4 := hid_mk (H3.out.setAp (readN ⟨l, 0⟩).1)
  clear H3
  refine (rnum_any _ _ _ _ _ H4.out.rd).mono ?_
  rintro e W4 ⟨rfl, hr, hg, -⟩
  have H5 := hid_mk (H4.out.read hr hg)
  clear hr hg H4
  obtain ⟨c0, c1, c2, c3, c4, cf⟩ := H5.out.isR.cells
  go_wp2_with fail
  clear c0 c1 c2 c3 c4 cf
  have H6 := hid_mk (H5.out.setSt (readN (readN ⟨l, 0⟩).2).1)
  clear H5
  refine (rnum_any _ _ _ _ _ H6.out.rd).mono ?_
  rintro e W5 ⟨rfl, hr, hg, -⟩
  have H7 := hid_mk (H6.out.read hr hg)
  clear hr hg H6
  go_wp2_with fail
  refine (rnum_any _ _ _ _ _ H7.out.rd).mono ?_
  rintro e W6 ⟨rfl, hr, hg, -⟩
  have H8 := hid_mk (H7.out.read hr hg)
  clear hr hg H7
  have hR := HR0.out
  clear HR0
  unfold restA sesA at hR
  have L0 := readN_lt ⟨l, 0⟩
  have L1 := readN_lt (readN ⟨l, 0⟩).2
  have L2 := readN_lt (readN (readN ⟨l, 0⟩).2).2
  have L3 := readN_lt (readN (readN (readN ⟨l, 0⟩).2).2).2
  generalize readN (readN (readN (readN ⟨l, 0⟩).2).2).2 = x4 at *
  generalize (readN (readN (readN ⟨l, 0⟩).2).2).1 = nx at *
  generalize (readN (readN ⟨l, 0⟩).2).1 = st at *
  generalize (readN ⟨l, 0⟩).1 = ap at *
  obtain ⟨n, s4⟩ := x4
  simp only at *
  have HR := hid_mk hR
  clear hR
  have H9 := hid_mk (show RRS w W6 W1.heap.size W2.heap.size b rb ⟨sp, ap, st, .slice none 0 0, .slice none 0 0, [], []⟩ s4 W6.heap.size from H8.out.up)
  clear H8
  generalize W1.heap.size = M at *
  generalize W2.heap.size = N at *
  obtain ⟨okb, hokb⟩ : ∃ okb : Bool, okb = decide (ap ≤ 1099511627775 ∧ st ≤ nx ∧ nx ≤ 1099511627775 ∧ n ≤ 16) := ⟨_, rfl⟩
  have c1 : W6.cell? ⟨b, 1, none⟩ = some (.int .i64 ap) := H9.out.isR.cells.2.1
  have c2 : W6.cell? ⟨b, 2, none⟩ = some (.int .i64 st) := H9.out.isR.cells.2.2.1
  go_upto_region 9 with fail
  go_cut [10] (fun s10 wx => s10 = .bool okb ∧ wx = W6)
  case first =>
    as_aux_lemma =>
      by_cases q1 : ap ≤ 1099511627775
      · have q1' : (ap : Int) < 1099511627776 := by omega
        by_cases q2 : st ≤ nx
        · have q2' : (st : Int) ≤ nx := by omega
          by_cases q3 : nx ≤ 1099511627775
          · have q3' : (nx : Int) < 1099511627776 := by omega
            by_cases q4 : n ≤ 16
            · have q4' : (n : Int) ≤ 16 := by omega
              have HO := hid_mk (show okb = true by rw [hokb]; simp [q1, q2, q3, q4])
              clear hokb q1 q2 q3 q4
              go_wp2_with fail
              go_meet
              case rel => exact ⟨by rw [HO.out], rfl⟩
            · have q4' : ¬ (n : Int) ≤ 16 := by omega
              have HO := hid_mk (show okb = false by rw [hokb]; simp [q4])
              clear hokb q1 q2 q3 q4
              go_wp2_with fail
              go_meet
              case rel => exact ⟨by rw [HO.out], rfl⟩
          · have q3' : ¬ (nx : Int) < 1099511627776 := by omega
            have HO := hid_mk (show okb = false by rw [hokb]; simp [q3])
            clear hokb q1 q2 q3
            go_wp2_with fail
            go_meet
            case rel => exact ⟨by rw [HO.out], rfl⟩
        · have q2' : ¬ (st : Int) ≤ nx := by omega
          have HO := hid_mk (show okb = false by rw [hokb]; simp [q2])
          clear hokb q1 q2
          go_wp2_with fail
          go_meet
          case rel => exact ⟨by rw [HO.out], rfl⟩
      · have q1' : ¬ (ap : Int) < 1099511627776 := by omega
        have HO := hid_mk (show okb = false by rw [hokb]; simp [q1])
        clear hokb q1
        go_wp2_with fail
        go_meet
        case rel => exact ⟨by rw [HO.out], rfl⟩
  case rest =>
    obtain ⟨rfl, rfl⟩ := hcut
    clear c1 c2
    have HR1 : Hid (R = if okb then sesT sp ap st nx [] n 0 s4 else none) := hid_mk (by
      rw [HR.out, hokb]
      by_cases q1 : ap ≤ 1099511627775 ∧ st ≤ nx ∧ nx ≤ 1099511627775 ∧ n ≤ 16
      · rw [if_neg (by omega), if_neg (by omega), if_pos (by simp [q1])]
        unfold sesT recT
        cases readSes nx ap n 0 s4 with
        | none => rfl
        | some x =>
          simp only
          cases recA (nx - st) x.2 <;> simp
      · by_cases q2 : 1099511627775 < ap ∨ 1099511627775 < nx ∨ nx < st
        · rw [if_pos q2, if_neg (by simpa using q1)]
        · rw [if_neg q2, if_pos (by omega), if_neg (by simpa using q1)])
    have HOK : Hid (okb = true → ap ≤ 1099511627775 ∧ st ≤ nx ∧ nx ≤ 1099511627775 ∧ n ≤ 16) := hid_mk (by rw [hokb]; intro h; simpa using h)
    clear HR hokb
    have HS0 := hid_mk (show RRS w wc M N b rb ⟨sp, ap, st, .slice none 0 0, .slice none 0 0, [], []⟩ s4 wc.heap.size ∧ R = (if okb then sesT sp ap st nx [] (n - 0) (lastN []) s4 else none) from ⟨H9.out, HR1.out⟩)
    clear H9 HR1
    go_upto_block 0 with fail
    go_cut [10] (fun s10 wx => ∃ (ok : Bool) (m : Rf) (s : St), s10 = .bool ok ∧ Hid (RRS w wx M N b rb m s wx.heap.size ∧ m.sp = sp ∧ m.ap = ap ∧ m.st = st ∧ m.rv = .slice none 0 0 ∧ m.rs = [] ∧ (ok = true → ap ≤ 1099511627775 ∧ st ≤ nx ∧ nx ≤ 1099511627775 ∧ n ≤ 16) ∧ R = (if ok then recT sp ap st m.ss [] (nx - st) s else none)))
    case first =>
      go_wp2_with fail
      go_loopg [10, 11] n (fun g okv iv W => ∃ (i : Nat) (ok : Bool) (m : Rf) (s : St), i ≤ n ∧ g = n - i ∧ okv = .bool ok ∧ iv = .int .i64 i ∧ Hid (RRS w W M N b rb m s W.heap.size ∧ m.sp = sp ∧ m.ap = ap ∧ m.st = st ∧ m.rv = .slice none 0 0 ∧ m.rs = [] ∧ m.ss.length = i ∧ (ok = true → ap ≤ 1099511627775 ∧ st ≤ nx ∧ nx ≤ 1099511627775 ∧ n ≤ 16) ∧ R = (if ok then sesT sp ap st nx m.ss (n - i) (lastN m.ss) s else none)))
      case atStart => exact ⟨0, okb, _, _, Nat.zero_le _, rfl, rfl, rfl, hid_mk ⟨HS0.out.1, rfl, rfl, rfl, rfl, rfl, rfl, HOK.out, HS0.out.2⟩⟩
      case round =>
        clear HS0 HOK
        obtain ⟨i, ok, m, s, hi, hgi, rfl, rfl, H⟩ := hrel
        rename World => W
        by_cases hlt : i < n
        · have hlt' : (i : Int) < n := by omega
          cases ok
          · go_wp2_with fail
            go_meet
            case rel => exact ⟨false, m, s, rfl, hid_mk ⟨H.out.1, H.out.2.1, H.out.2.2.1, H.out.2.2.2.1, H.out.2.2.2.2.1, H.out.2.2.2.2.2.1, (fun h => by cases h), by have h1 := H.out.2.2.2.2.2.2.2.2; simpa using h1⟩⟩
          · go_wp2_with fail
            refine (rnum_any _ _ _ _ _ H.out.1.rd).mono ?_
            rintro e V1 ⟨rfl, hr, hg, -⟩
            have HV1 := hid_mk (H.out.1.read hr hg)
            clear hr hg
            obtain ⟨y1, hy1⟩ : ∃ y1, y1 = readN s := ⟨_, rfl⟩
            rw [← hy1] at HV1 ⊢
            have LY1 : y1.1 < 281474976710656 := by rw [hy1]; exact readN_lt s
            have HY1 := hid_mk hy1
            clear hy1
            obtain ⟨sn, s1⟩ := y1
            simp only at *
            go_wp2_with fail
            obtain ⟨q, hq⟩ : ∃ q, q = V1.heap.size := ⟨_, rfl⟩
            have H1b := hid_mk (show RRS w (V1.alloc (.cells #[.int .i64 sn, .int .i64 0, .int .i64 0, .int .i64 0] 90)) M N b rb m s1 W.heap.size ∧ Blk (V1.alloc (.cells #[.int .i64 sn, .int .i64 0, .int .i64 0, .int .i64 0] 90)) q #[.int .i64 sn, .int .i64 0, .int .i64 0, .int .i64 0] 90 from ⟨HV1.out.kept (World.grownBy_alloc _ _ none), by rw [hq]; exact heap_alloc_new V1 _⟩)
            have HQ0 := hid_mk (show W.heap.size ≤ q by rw [hq]; exact HV1.out.top)
            rw [← hq]
            obtain ⟨B, hB⟩ : ∃ B, B = W.heap.size := ⟨_, rfl⟩
            rw [← hB] at H1b HQ0
            have HQ := hid_mk HQ0.out
            clear hq HV1 hB HQ0
            generalize (V1.alloc (.cells #[.int .i64 sn, .int .i64 0, .int .i64 0, .int .i64 0] 90)) = U1 at *
            refine (rnum_any _ _ _ _ _ H1b.out.1.rd).mono ?_
            rintro e V2 ⟨rfl, hr, hg, -⟩
            have H2 := hid_mk (show RRS w V2 M N b rb m (readN s1).2 B ∧ Blk V2 q #[.int .i64 sn, .int .i64 0, .int .i64 0, .int .i64 0] 90 from ⟨H1b.out.1.read hr hg, H1b.out.2.kept hg (by have := H1b.out.1.rd.hi; have := H1b.out.1.hi; have := HQ.out; simp; omega)⟩)
            clear hr hg H1b
            obtain ⟨y2, hy2⟩ : ∃ y, y = readN s1 := ⟨_, rfl⟩
            rw [← hy2] at H2 ⊢
            have LY2 : y2.1 < 281474976710656 := by rw [hy2]; exact readN_lt s1
            have HY2 := hid_mk hy2
            clear hy2
            obtain ⟨sq, s2⟩ := y2
            simp only at H2 LY2
            have e0 : V2.cell? ⟨q, 0, none⟩ = #[.int .i64 sn, .int .i64 0, .int .i64 0, .int .i64 0][0]? := H2.out.2.cell 0
            have e1 : V2.cell? ⟨q, 1, none⟩ = #[.int .i64 sn, .int .i64 0, .int .i64 0, .int .i64 0][1]? := H2.out.2.cell 1
            have e2 : V2.cell? ⟨q, 2, none⟩ = #[.int .i64 sn, .int .i64 0, .int .i64 0, .int .i64 0][2]? := H2.out.2.cell 2
            have e3 : V2.cell? ⟨q, 3, none⟩ = #[.int .i64 sn, .int .i64 0, .int .i64 0, .int .i64 0][3]? := H2.out.2.cell 3
            have ef := fun j => H2.out.2.frozen j
            simp only [List.getElem?_toArray, List.getElem?_cons_zero, List.getElem?_cons_succ] at e0 e1 e2 e3
            go_wp2_with fail
            clear e0 e1 e2 e3 ef
            have H2b := hid_mk (show RRS w (V2.setCell ⟨q, 1, none⟩ (.int .i64 sq)) M N b rb m s2 B ∧ Blk (V2.setCell ⟨q, 1, none⟩ (.int .i64 sq)) q #[.int .i64 sn, .int .i64 sq, .int .i64 0, .int .i64 0] 90 from ⟨H2.out.1.above HQ.out (grown_setCell _ _ _ _), H2.out.2.set 1 _⟩)
            clear H2
            generalize (V2.setCell ⟨q, 1, none⟩ (.int .i64 sq)) = U2 at *
            refine (rnum_any _ _ _ _ _ H2b.out.1.rd).mono ?_
            rintro e V3 ⟨rfl, hr, hg, -⟩
            have H3 := hid_mk (show RRS w V3 M N b rb m (readN s2).2 B ∧ Blk V3 q #[.int .i64 sn, .int .i64 sq, .int .i64 0, .int .i64 0] 90 from ⟨H2b.out.1.read hr hg, H2b.out.2.kept hg (by have := H2b.out.1.rd.hi; have := H2b.out.1.hi; have := HQ.out; simp; omega)⟩)
            clear hr hg H2b
            obtain ⟨y3, hy3⟩ : ∃ y, y = readN s2 := ⟨_, rfl⟩
            rw [← hy3] at H3 ⊢
            have LY3 : y3.1 < 281474976710656 := by rw [hy3]; exact readN_lt s2
            have HY3 := hid_mk hy3
            clear hy3
            obtain ⟨sr, s3⟩ := y3
            simp only at H3 LY3
            have e0 : V3.cell? ⟨q, 0, none⟩ = #[.int .i64 sn, .int .i64 sq, .int .i64 0, .int .i64 0][0]? := H3.out.2.cell 0
            have e1 : V3.cell? ⟨q, 1, none⟩ = #[.int .i64 sn, .int .i64 sq, .int .i64 0, .int .i64 0][1]? := H3.out.2.cell 1
            have e2 : V3.cell? ⟨q, 2, none⟩ = #[.int .i64 sn, .int .i64 sq, .int .i64 0, .int .i64 0][2]? := H3.out.2.cell 2
            have e3 : V3.cell? ⟨q, 3, none⟩ = #[.int .i64 sn, .int .i64 sq, .int .i64 0, .int .i64 0][3]? := H3.out.2.cell 3
            have ef := fun j => H3.out.2.frozen j
            simp only [List.getElem?_toArray, List.getElem?_cons_zero, List.getElem?_cons_succ] at e0 e1 e2 e3
            go_wp2_with fail
            clear e0 e1 e2 e3 ef
            have H3b := hid_mk (show RRS w (V3.setCell ⟨q, 2, none⟩ (.int .i64 sr)) M N b rb m s3 B ∧ Blk (V3.setCell ⟨q, 2, none⟩ (.int .i64 sr)) q #[.int .i64 sn, .int .i64 sq, .int .i64 sr, .int .i64 0] 90 from ⟨H3.out.1.above HQ.out (grown_setCell _ _ _ _), H3.out.2.set 2 _⟩)
            clear H3
            generalize (V3.setCell ⟨q, 2, none⟩ (.int .i64 sr)) = U3 at *
            refine (rnum_any _ _ _ _ _ H3b.out.1.rd).mono ?_
            rintro e V4 ⟨rfl, hr, hg, -⟩
            have H4 := hid_mk (show RRS w V4 M N b rb m (readN s3).2 B ∧ Blk V4 q #[.int .i64 sn, .int .i64 sq, .int .i64 sr, .int .i64 0] 90 from ⟨H3b.out.1.read hr hg, H3b.out.2.kept hg (by have := H3b.out.1.rd.hi; have := H3b.out.1.hi; have := HQ.out; simp; omega)⟩)
            clear hr hg H3b
            obtain ⟨y4, hy4⟩ : ∃ y, y = readN s3 := ⟨_, rfl⟩
            rw [← hy4] at H4 ⊢
            have LY4 : y4.1 < 281474976710656 := by rw [hy4]; exact readN_lt s3
            have HY4 := hid_mk hy4
            clear hy4
            obtain ⟨su, s5⟩ := y4
            simp only at H4 LY4
            have e0 : V4.cell? ⟨q, 0, none⟩ = #[.int .i64 sn, .int .i64 sq, .int .i64 sr, .int .i64 0][0]? := H4.out.2.cell 0
            have e1 : V4.cell? ⟨q, 1, none⟩ = #[.int .i64 sn, .int .i64 sq, .int .i64 sr, .int .i64 0][1]? := H4.out.2.cell 1
            have e2 : V4.cell? ⟨q, 2, none⟩ = #[.int .i64 sn, .int .i64 sq, .int .i64 sr, .int .i64 0][2]? := H4.out.2.cell 2
            have e3 : V4.cell? ⟨q, 3, none⟩ = #[.int .i64 sn, .int .i64 sq, .int .i64 sr, .int .i64 0][3]? := H4.out.2.cell 3
            have ef := fun j => H4.out.2.frozen j
            simp only [List.getElem?_toArray, List.getElem?_cons_zero, List.getElem?_cons_succ] at e0 e1 e2 e3
            go_upto_region 17 with fail
            clear e0 e1 e2 e3 ef
            have H4b := hid_mk (show RRS w (V4.setCell ⟨q, 3, none⟩ (.int .i64 su)) M N b rb m s5 B ∧ Blk (V4.setCell ⟨q, 3, none⟩ (.int .i64 su)) q #[.int .i64 sn, .int .i64 sq, .int .i64 sr, .int .i64 su] 90 from ⟨H4.out.1.above HQ.out (grown_setCell _ _ _ _), H4.out.2.set 3 _⟩)
            clear H4
            generalize (V4.setCell ⟨q, 3, none⟩ (.int .i64 su)) = U4 at *
            obtain ⟨okn, hokn⟩ : ∃ okn, okn = sesOk nx ap (lastN m.ss) ⟨sn, sq, sr, su⟩ := ⟨_, rfl⟩
            have HOKN := hid_mk hokn
            clear hokn
            have e0 : U4.cell? ⟨q, 0, none⟩ = some (.int .i64 sn) := H4b.out.2.cell 0
            have e1 : U4.cell? ⟨q, 1, none⟩ = some (.int .i64 sq) := H4b.out.2.cell 1
            have e2 : U4.cell? ⟨q, 2, none⟩ = some (.int .i64 sr) := H4b.out.2.cell 2
            have e3 : U4.cell? ⟨q, 3, none⟩ = some (.int .i64 su) := H4b.out.2.cell 3
            have b1 : U4.cell? ⟨b, 1, none⟩ = some (.int .i64 ap) := by rw [← H.out.2.2.1]; exact H4b.out.1.isR.cells.2.1
            have b4 : U4.cell? ⟨b, 4, none⟩ = some m.sv := H4b.out.1.isR.cells.2.2.2.2.1
            go_cut [10] (fun s10 wx => ∃ kk, s10 = .bool okn ∧ wx = U4.drewN kk)
            case first =>
              as_aux_lemma =>
                by_cases h1s : 1 ≤ sn
                · have h1sc : (1 : Int) ≤ sn := by omega
                  by_cases h2s : sn ≤ ap
                  · have h2sc : (sn : Int) ≤ ap := by omega
                    by_cases h3 : sq ≤ 1099511627775
                    · have h3c : (sq : Int) < 1099511627776 := by omega
                      by_cases h4 : sr < nx
                      · have h4c : (sr : Int) < nx := by omega
                        by_cases h5 : sn ≤ su
                        · have h5c : (sn : Int) ≤ su := by omega
                          by_cases h6 : su ≤ ap
                          · have h6c : (su : Int) ≤ ap := by omega
                            rcases Nat.eq_zero_or_pos i with hi0 | hi0
                            · have HLN := hid_mk (show lastN m.ss = 0 by rw [List.length_eq_zero_iff.1 (H.out.2.2.2.2.2.2.1.trans hi0)]; rfl)
                              have hi0c : ((i : Int) == 0) = true := by simp [hi0]
                              have HI0 := hid_mk hi0
                              clear hi0
                              have HO := hid_mk (show okn = true by
                                rw [HOKN.out]
                                unfold sesOk
                                simp only [Bool.and_eq_true, decide_eq_true_iff]
                                have := HLN.out
                                omega)
                              clear HOKN HLN
                              go_quiet (fail)
                              go_wp2_with fail
                              go_meet
                              case rel => exact ⟨_, by rw [HO.out], rfl⟩
                            · obtain ⟨g, cap, cur, hsv, _, _, _, _, _, hix, hcc⟩ := H4b.out.1.isR.at (i - 1) (by rw [H.out.2.2.2.2.2.2.1]; omega)
                              have HLN0 := hid_mk (lastN_at m.ss (i - 1) (by rw [H.out.2.2.2.2.2.2.1]; omega))
                              have p0 := hcc 0 (by omega)
                              simp only [Sn.cs, List.getElem?_cons_zero, Nat.add_zero] at p0
                              rw [H.out.2.2.2.2.2.2.1] at hsv
                              rw [hsv] at hix b4
                              rw [show ((i - 1 : Nat) : Int) = (i : Int) - 1 by omega] at hix
                              generalize (m.ss[i - 1]'(by rw [H.out.2.2.2.2.2.2.1]; omega)).n = pv at *
                              generalize (i - 1) * 4 = po at *
                              clear hcc hsv
                              have hi0c : ((i : Int) == 0) = false := by simp; omega
                              have HI0 := hid_mk hi0
                              have hi1 : (1 : Int) ≤ i := by omega
                              clear hi0
                              have HLN := hid_mk HLN0.out
                              clear HLN0
                              by_cases h7 : pv < sn
                              · have h7c : (pv : Int) < sn := by omega
                                have HO := hid_mk (show okn = true by
                                  rw [HOKN.out]
                                  unfold sesOk
                                  simp only [Bool.and_eq_true, decide_eq_true_iff]
                                  have := HLN.out
                                  omega)
                                clear HOKN HLN
                                go_quiet (fail)
                                go_wp2_with fail
                                go_meet
                                case rel => exact ⟨_, by rw [HO.out], rfl⟩
                              · have h7c : ¬ (pv : Int) < sn := by omega
                                have HO := hid_mk (show okn = false by
                                  rw [HOKN.out]
                                  unfold sesOk
                                  rw [Bool.eq_false_iff]; simp only [ne_eq, Bool.and_eq_true, decide_eq_true_iff]
                                  have := HLN.out
                                  omega)
                                clear HOKN HLN
                                go_quiet (fail)
                                go_wp2_with fail
                                go_meet
                                case rel => exact ⟨_, by rw [HO.out], rfl⟩
                          · have h6c : ¬ (su : Int) ≤ ap := by omega
                            have HLN := hid_mk trivial
                            have HO := hid_mk (show okn = false by
                              rw [HOKN.out]
                              unfold sesOk
                              rw [Bool.eq_false_iff]; simp only [ne_eq, Bool.and_eq_true, decide_eq_true_iff]
                              have := HLN.out
                              omega)
                            clear HOKN HLN
                            go_quiet (fail)
                            go_wp2_with fail
                            go_meet
                            case rel => exact ⟨_, by rw [HO.out], rfl⟩
                        · have h5c : ¬ (sn : Int) ≤ su := by omega
                          have HLN := hid_mk trivial
                          have HO := hid_mk (show okn = false by
                            rw [HOKN.out]
                            unfold sesOk
                            rw [Bool.eq_false_iff]; simp only [ne_eq, Bool.and_eq_true, decide_eq_true_iff]
                            have := HLN.out
                            omega)
                          clear HOKN HLN
                          go_quiet (fail)
                          go_wp2_with fail
                          go_meet
                          case rel => exact ⟨_, by rw [HO.out], rfl⟩
                      · have h4c : ¬ (sr : Int) < nx := by omega
                        by_cases h4b : sr = 0
                        · subst h4b
                          obtain rfl : nx = 0 := by omega
                          clear h4c
                          by_cases h5 : sn ≤ su
                          · have h5c : (sn : Int) ≤ su := by omega
                            by_cases h6 : su ≤ ap
                            · have h6c : (su : Int) ≤ ap := by omega
                              rcases Nat.eq_zero_or_pos i with hi0 | hi0
                              · have HLN := hid_mk (show lastN m.ss = 0 by rw [List.length_eq_zero_iff.1 (H.out.2.2.2.2.2.2.1.trans hi0)]; rfl)
                                have hi0c : ((i : Int) == 0) = true := by simp [hi0]
                                have HI0 := hid_mk hi0
                                clear hi0
                                have HO := hid_mk (show okn = true by
                                  rw [HOKN.out]
                                  unfold sesOk
                                  simp only [Bool.and_eq_true, decide_eq_true_iff]
                                  have := HLN.out
                                  omega)
                                clear HOKN HLN
                                go_quiet (fail)
                                go_wp2_with fail
                                go_meet
                                case rel => exact ⟨_, by rw [HO.out], rfl⟩
                              · obtain ⟨g, cap, cur, hsv, _, _, _, _, _, hix, hcc⟩ := H4b.out.1.isR.at (i - 1) (by rw [H.out.2.2.2.2.2.2.1]; omega)
                                have HLN0 := hid_mk (lastN_at m.ss (i - 1) (by rw [H.out.2.2.2.2.2.2.1]; omega))
                                have p0 := hcc 0 (by omega)
                                simp only [Sn.cs, List.getElem?_cons_zero, Nat.add_zero] at p0
                                rw [H.out.2.2.2.2.2.2.1] at hsv
                                rw [hsv] at hix b4
                                rw [show ((i - 1 : Nat) : Int) = (i : Int) - 1 by omega] at hix
                                generalize (m.ss[i - 1]'(by rw [H.out.2.2.2.2.2.2.1]; omega)).n = pv at *
                                generalize (i - 1) * 4 = po at *
                                clear hcc hsv
                                have hi0c : ((i : Int) == 0) = false := by simp; omega
                                have HI0 := hid_mk hi0
                                have hi1 : (1 : Int) ≤ i := by omega
                                clear hi0
                                have HLN := hid_mk HLN0.out
                                clear HLN0
                                by_cases h7 : pv < sn
                                · have h7c : (pv : Int) < sn := by omega
                                  have HO := hid_mk (show okn = true by
                                    rw [HOKN.out]
                                    unfold sesOk
                                    simp only [Bool.and_eq_true, decide_eq_true_iff]
                                    have := HLN.out
                                    omega)
                                  clear HOKN HLN
                                  go_quiet (fail)
                                  go_wp2_with fail
                                  go_meet
                                  case rel => exact ⟨_, by rw [HO.out], rfl⟩
                                · have h7c : ¬ (pv : Int) < sn := by omega
                                  have HO := hid_mk (show okn = false by
                                    rw [HOKN.out]
                                    unfold sesOk
                                    rw [Bool.eq_false_iff]; simp only [ne_eq, Bool.and_eq_true, decide_eq_true_iff]
                                    have := HLN.out
                                    omega)
                                  clear HOKN HLN
                                  go_quiet (fail)
                                  go_wp2_with fail
                                  go_meet
                                  case rel => exact ⟨_, by rw [HO.out], rfl⟩
                            · have h6c : ¬ (su : Int) ≤ ap := by omega
                              have HLN := hid_mk trivial
                              have HO := hid_mk (show okn = false by
                                rw [HOKN.out]
                                unfold sesOk
                                rw [Bool.eq_false_iff]; simp only [ne_eq, Bool.and_eq_true, decide_eq_true_iff]
                                have := HLN.out
                                omega)
                              clear HOKN HLN
                              go_quiet (fail)
                              go_wp2_with fail
                              go_meet
                              case rel => exact ⟨_, by rw [HO.out], rfl⟩
                          · have h5c : ¬ (sn : Int) ≤ su := by omega
                            have HLN := hid_mk trivial
                            have HO := hid_mk (show okn = false by
                              rw [HOKN.out]
                              unfold sesOk
                              rw [Bool.eq_false_iff]; simp only [ne_eq, Bool.and_eq_true, decide_eq_true_iff]
                              have := HLN.out
                              omega)
                            clear HOKN HLN
                            go_quiet (fail)
                            go_wp2_with fail
                            go_meet
                            case rel => exact ⟨_, by rw [HO.out], rfl⟩
                        · have h4d : ((sr : Int) == 0) = false := by simp [h4b]
                          have HLN := hid_mk trivial
                          have HO := hid_mk (show okn = false by
                            rw [HOKN.out]
                            unfold sesOk
                            rw [Bool.eq_false_iff]; simp only [ne_eq, Bool.and_eq_true, decide_eq_true_iff]
                            have := HLN.out
                            omega)
                          clear HOKN HLN
                          go_quiet (fail)
                          go_wp2_with fail
                          go_meet
                          case rel => exact ⟨_, by rw [HO.out], rfl⟩
                    · have h3c : ¬ (sq : Int) < 1099511627776 := by omega
                      have HLN := hid_mk trivial
                      have HO := hid_mk (show okn = false by
                        rw [HOKN.out]
                        unfold sesOk
                        rw [Bool.eq_false_iff]; simp only [ne_eq, Bool.and_eq_true, decide_eq_true_iff]
                        have := HLN.out
                        omega)
                      clear HOKN HLN
                      go_quiet (fail)
                      go_wp2_with fail
                      go_meet
                      case rel => exact ⟨_, by rw [HO.out], rfl⟩
                  · have h2sc : ¬ (sn : Int) ≤ ap := by omega
                    have HLN := hid_mk trivial
                    have HO := hid_mk (show okn = false by
                      rw [HOKN.out]
                      unfold sesOk
                      rw [Bool.eq_false_iff]; simp only [ne_eq, Bool.and_eq_true, decide_eq_true_iff]
                      have := HLN.out
                      omega)
                    clear HOKN HLN
                    go_quiet (fail)
                    go_wp2_with fail
                    go_meet
                    case rel => exact ⟨_, by rw [HO.out], rfl⟩
                · have h1sc : ¬ (1 : Int) ≤ sn := by omega
                  have HLN := hid_mk trivial
                  have HO := hid_mk (show okn = false by
                    rw [HOKN.out]
                    unfold sesOk
                    rw [Bool.eq_false_iff]; simp only [ne_eq, Bool.and_eq_true, decide_eq_true_iff]
                    have := HLN.out
                    omega)
                  clear HOKN HLN
                  go_quiet (fail)
                  go_wp2_with fail
                  go_meet
                  case rel => exact ⟨_, by rw [HO.out], rfl⟩
            case rest =>
              as_aux_lemma =>
                obtain ⟨kk, rfl, rfl⟩ := hcut
                clear e0 e1 e2 e3 b1 b4
                have H5 := hid_mk (show RRS w (U4.drewN kk) M N b rb m s5 B ∧ Blk (U4.drewN kk) q #[.int .i64 sn, .int .i64 sq, .int .i64 sr, .int .i64 su] 90 from ⟨H4b.out.1.kept (grown_drewN _ _ none), H4b.out.2.kept (grown_drewN _ _ none) (by simp)⟩)
                clear H4b
                generalize U4.drewN kk = w5 at *
                obtain ⟨sa, sc, hsv⟩ := row_shape H5.out.1.isR.ses
                have HSV := hid_mk hsv
                have HNB : ∀ k, m.sv.ownBlock = some k → k ≠ q := fun k e h => by
                  have h1 := (H5.out.1.isR.zs k e).2
                  have h2 := HQ.out
                  omega
                have HC : ∀ W0, w5.grownBy W0 m.sv.ownBlock → W0.cell? ⟨b, 4, none⟩ = some (.slice sa m.ss.length sc) ∧ W0.cell? ⟨q, 0, none⟩ = some (.int .i64 sn) ∧ W0.cell? ⟨q, 1, none⟩ = some (.int .i64 sq) ∧ W0.cell? ⟨q, 2, none⟩ = some (.int .i64 sr) ∧ W0.cell? ⟨q, 3, none⟩ = some (.int .i64 su) := fun W0 hW => by
                  have hb := H5.out.1.isR.blk.kept hW (own_tag H5.out.1.isR.ses H5.out.1.isR.blk (by decide))
                  have hq := H5.out.2.kept hW (fun e => HNB q e.symm rfl)
                  exact ⟨by rw [hb.cell, ← hsv]; rfl, by rw [hq.cell]; rfl, by rw [hq.cell]; rfl, by rw [hq.cell]; rfl, by rw [hq.cell]; rfl⟩
                clear hsv
                have hsl : m.ss.length ≤ 16 := by have h1 := H.out.2.2.2.2.2.2.1; have h2 := (H.out.2.2.2.2.2.2.2.1 (by first | rfl | trivial)).2.2.2; omega
                go_upto_region 18 with fail
                refine Last.wp_region_mix 10 [(0, true), (1, true), (2, true), (3, true), (4, true), (5, true), (6, false), (7, false), (8, false), (9, false), (10, false)] (Last.at0 w5 (fun W0 => w5.grownBy W0 m.sv.ownBlock)) (by kernel_rfl) (by kernel_rfl) rfl (by kernel_rfl) (Last.shut_at0 (fun m => grown_drewN _ m _)) ⟨1, rfl⟩ ?_
                repeat (refine Last.mix_rd1 rfl rfl (fun K hK => ?_); apply Exists.intro; refine ⟨fun W0 hW => ?_, ?_⟩; (obtain ⟨f4, g0, g1, g2, g3⟩ := HC W0 hW; go_simp; rfl); (go_simp; refine hK _ _ ?_; clear hK K))
                refine l_new w5 _ #[.int .i64 sn, .int .i64 sq, .int .i64 sr, .int .i64 su] 90 1 rfl rfl (fun W => by go_simp) ?_
                intro gB wB HB'
                refine ⟨Last.at0 wB (fun W0 => w5.grownBy W0 m.sv.ownBlock), ⟨0, rfl⟩, Last.shut_at0 (fun mm => grown_any (grown_trans HB'.out.1 (grown_drewN _ mm none)) _), .inr (fun _ h => h), ?_⟩
                refine l_rses wB _ rfl rfl (sv := m.sv) (ss := m.ss) (owns_kept H5.out.1.isR.ses HB'.out.1 (fun _ _ _ => by simp)) ⟨sn, sq, sr, su⟩ gB HB'.out.2.1 (by omega) (.tmp 142) (.tmp 144) rfl HSV.out.symm rfl ?_
                intro m4 a9 c9 w9 H9
                refine ⟨Last.at0 w9 (fun W0 => w5.grownBy W0 m.sv.ownBlock), ⟨0, rfl⟩, Last.shut_at0 (fun mm => grown_trans (grown_trans (grown_any (grown_trans HB'.out.1 (grown_drewN _ m4 none)) _) H9.out.1) (grown_drewN _ mm _)), .inr (fun _ h => h), ?_⟩
                refine Last.mix_do rfl rfl ?_
                rintro W0 ⟨m5, rfl⟩
                refine ⟨.pointer (some ⟨b, 0, none⟩), w9.drewN m5, by go_simp, Last.at0 w9 (fun W0 => w5.grownBy W0 m.sv.ownBlock), ⟨m5, rfl⟩, Last.shut_at0 (fun mm => grown_trans (grown_trans (grown_any (grown_trans HB'.out.1 (grown_drewN _ m4 none)) _) H9.out.1) (grown_drewN _ mm _)), .inr (fun _ h => h), ?_⟩
                refine Last.mix_do rfl rfl ?_
                rintro W0 ⟨m6, rfl⟩
                refine ⟨.pointer (some ⟨b, 4, none⟩), w9.drewN m6, by go_simp, Last.at0 w9 (fun W0 => w5.grownBy W0 m.sv.ownBlock), ⟨m6, rfl⟩, Last.shut_at0 (fun mm => grown_trans (grown_trans (grown_any (grown_trans HB'.out.1 (grown_drewN _ m4 none)) _) H9.out.1) (grown_drewN _ mm _)), .inr (fun _ h => h), ?_⟩
                refine Last.mix_skip rfl rfl ?_
                rintro W0 ⟨m7, rfl⟩
                have HI := hid_mk (H5.out.1.isR.kept (grown_trans HB'.out.1 (grown_drewN wB m4 none)))
                have H9B : Blk (w9.drewN m7) b #[.int .i64 m.sp, .int .i64 m.ap, .int .i64 m.st, m.rv, m.sv] 81 := (HI.out.blk.kept H9.out.1 (own_tag HI.out.ses HI.out.blk (by decide))).kept (grown_drewN _ _ none) (by simp)
                have f3 : (w9.drewN m7).cell? ⟨b, 4, none⟩ = some m.sv := by rw [H9B.cell]; rfl
                have fz := H9B.frozen 4
                have hset := H9B.set 4 (.slice a9 (m.ss.length + 1) c9)
                refine ⟨(w9.drewN m7).setCell ⟨b, 4, none⟩ (.slice a9 (m.ss.length + 1) c9), by go_simp, Last.at0 ((w9.drewN m7).setCell ⟨b, 4, none⟩ (.slice a9 (m.ss.length + 1) c9)) (fun _ => True), ⟨0, rfl⟩, Last.shut_at0 (fun _ => trivial), .inl rfl, ?_⟩
                refine Last.mix_nil ?_
                rintro W0 ⟨m8, rfl⟩
                have HN := hid_mk (show RRS w (((w9.drewN m7).setCell ⟨b, 4, none⟩ (.slice a9 (m.ss.length + 1) c9)).drewN m8) M N b rb { m with sv := .slice a9 (m.ss.length + 1) c9, ss := m.ss ++ [⟨sn, sq, sr, su⟩] } s5 (((w9.drewN m7).setCell ⟨b, 4, none⟩ (.slice a9 (m.ss.length + 1) c9)).drewN m8).heap.size from
                  H5.out.1.sess (grown_trans HB'.out.1 (grown_drewN wB m4 none)) (grown_trans H9.out.1 (grown_drewN w9 m7 _)) (grown_trans (grown_setCell _ _ _ _) (grown_drewN _ _ _)) _ _ (owns_kept H9.out.2.1 (grown_drewN w9 m7 none) (fun _ _ _ => by simp)) H9.out.2.2 (hset.kept (grown_drewN _ m8 none) (by simp)))
                have HRn := hid_mk (show R = (if okn then sesT sp ap st nx (m.ss ++ [⟨sn, sq, sr, su⟩]) (n - (i + 1)) (lastN (m.ss ++ [⟨sn, sq, sr, su⟩])) s5 else none) by
                  have h1 := H.out.2.2.2.2.2.2.2.2
                  rw [if_pos (by first | rfl | trivial), show n - i = (n - (i + 1)) + 1 by omega, sesT_succ] at h1
                  have h2 : sesR s = (⟨sn, sq, sr, su⟩, s5) := by
                    unfold sesR
                    rw [← HY1.out]
                    simp only
                    rw [← HY2.out]
                    simp only
                    rw [← HY3.out]
                    simp only
                    rw [← HY4.out]
                  rw [h2] at h1
                  rw [h1, HOKN.out, lastN_snoc])
                clear hset fz f3 H9B HI H9 HB' HC HNB H5
                generalize (((w9.drewN m7).setCell ⟨b, 4, none⟩ (.slice a9 (m.ss.length + 1) c9)).drewN m8) = w10 at *
                go_wp2_with fail
                go_roundg (n - (i + 1))
                case measure => omega
                case rel => exact ⟨i + 1, okn, _, _, by omega, rfl, rfl, by go_num, hid_mk ⟨HN.out, H.out.2.1, H.out.2.2.1, H.out.2.2.2.1, H.out.2.2.2.2.1, H.out.2.2.2.2.2.1, by simp [H.out.2.2.2.2.2.2.1], fun _ => H.out.2.2.2.2.2.2.2.1 (by first | rfl | trivial), HRn.out⟩⟩
        · have hlt' : ¬ (i : Int) < n := by omega
          go_wp2_with fail
          go_meet
          case rel => exact ⟨ok, m, s, rfl, hid_mk ⟨H.out.1, H.out.2.1, H.out.2.2.1, H.out.2.2.2.1, H.out.2.2.2.2.1, H.out.2.2.2.2.2.1, H.out.2.2.2.2.2.2.2.1, by have h1 := H.out.2.2.2.2.2.2.2.2; rw [show n - i = 0 by omega] at h1; cases ok; exact h1; rw [if_pos rfl, sesT_zero] at h1; rw [if_pos rfl]; exact h1⟩⟩
    case rest =>
      as_aux_lemma =>
        obtain ⟨ok, m, s, rfl, H⟩ := hcut
        rename World => X
        clear HS0 HOK
        have c2 : X.cell? ⟨b, 2, none⟩ = some (.int .i64 st) := by rw [← H.out.2.2.2.1]; exact H.out.1.isR.cells.2.2.1
        go_wp2_with fail
        clear c2
        go_loopg [10, 13] (nx - st) (fun g okv iv W => ∃ (j : Nat) (ok : Bool) (m : Rf) (s : St), (j = 0 ∨ st + j ≤ nx) ∧ g = nx - st - j ∧ okv = .bool ok ∧ iv = .int .i64 ((st + j : Nat) : Int) ∧ Hid (RRS w W M N b rb m s W.heap.size ∧ m.sp = sp ∧ m.ap = ap ∧ m.st = st ∧ m.rs.length = j ∧ (ok = true → ap ≤ 1099511627775 ∧ st ≤ nx ∧ nx ≤ 1099511627775 ∧ n ≤ 16) ∧ R = (if ok then recT sp ap st m.ss (m.rs.map Prod.snd) (nx - st - j) s else none)))
        case atStart => exact ⟨0, ok, m, s, .inl rfl, rfl, rfl, rfl, hid_mk ⟨H.out.1, H.out.2.1, H.out.2.2.1, H.out.2.2.2.1, by rw [H.out.2.2.2.2.2.1]; rfl, H.out.2.2.2.2.2.2.1, by have h1 := H.out.2.2.2.2.2.2.2; rw [H.out.2.2.2.2.2.1]; exact h1⟩⟩
        case round =>
          clear H
          obtain ⟨j, ok, m, s, hj, hgj, rfl, rfl, H⟩ := hrel
          rename World => W
          clear X
          by_cases hlt : st + j < nx
          · have hlt' : ((st + j : Nat) : Int) < nx := by omega
            cases ok
            · have HRN := hid_mk (show R = none by have h1 := H.out.2.2.2.2.2.2; simpa using h1)
              go_wp2_with fail
              go_ret2
              rw [HRN.out]
              exact ⟨rfl, H.out.1.gr⟩
            · go_wp2_with fail
              refine (rbyt_any _ _ _ _ _ H.out.1.rd (by have := H.out.1.hi; omega)).mono ?_
              rintro e V1 ⟨xv, rfl, hx, hr, hg⟩
              obtain ⟨xa, xc, rfl⟩ := row_shape hx
              have H1 := hid_mk (show RRS w V1 M N b rb m (readB s).2 W.heap.size ∧ Own V1 W.heap.size (.slice xa (readB s).1.length xc) (readB s).1 from ⟨H.out.1.read hr hg, hx⟩)
              clear hr hg hx
              obtain ⟨okn, hokn⟩ : ∃ okn, okn = recOk s := ⟨_, rfl⟩
              have HRn := hid_mk (show R = (if okn then recT sp ap st m.ss (m.rs.map Prod.snd ++ [(readB s).1]) (nx - st - (j + 1)) (readB s).2 else none) by
                have h1 := H.out.2.2.2.2.2.2
                rw [if_pos (by first | rfl | trivial), show nx - st - j = (nx - st - (j + 1)) + 1 by omega, recT_succ] at h1
                rw [h1, hokn])
              unfold recOk at hokn
              obtain ⟨y, hy⟩ : ∃ y, y = readB s := ⟨_, rfl⟩
              rw [← hy] at hokn HRn H1 ⊢
              obtain ⟨d, s1⟩ := y
              clear hy
              simp only at hokn HRn H1 ⊢
              obtain ⟨xl, hxl⟩ : ∃ xl, xl = d.length := ⟨_, rfl⟩
              rw [← hxl] at H1 hokn ⊢
              have HXL := hid_mk hxl
              clear hxl
              obtain ⟨bv, Bs, atp, hblk, _⟩ := H1.out.1.rd.blk
              obtain ⟨_, _, r2, _⟩ := rr_cells hblk
              clear hblk
              obtain ⟨ra, rc, hrv⟩ := row_shape H1.out.1.isR.row
              have HRV := hid_mk hrv
              have b3 : V1.cell? ⟨b, 3, none⟩ = some (.slice ra m.rs.length rc) := by rw [← hrv]; exact H1.out.1.isR.cells.2.2.2.1
              have bf := H1.out.1.isR.cells.2.2.2.2.2
              clear hrv
              have hjl : m.rs.length ≤ 1099511627775 := by
                have h1 := H.out.2.2.2.2.1
                have h2 := H.out.2.2.2.2.2.1 (by first | rfl | trivial)
                omega
              go_upto_region 23 with fail
              go_cut [10] (fun s10 wx => s10 = .bool okn ∧ wx = V1)
              case first =>
                by_cases g1 : s1.e = 0
                · have g1' : ((s1.e : Int) == 0) = true := by simp [g1]
                  by_cases g2 : xl ≤ 1024
                  · have g2' : (xl : Int) ≤ 1024 := by omega
                    have HO := hid_mk (show okn = true by rw [hokn]; simp [g1, g2])
                    have HG := hid_mk g1
                    clear hokn g1 g2
                    go_wp2_with fail
                    go_meet
                    case rel => exact ⟨by rw [HO.out], rfl⟩
                  · have g2' : ¬ (xl : Int) ≤ 1024 := by omega
                    have HO := hid_mk (show okn = false by rw [hokn]; simp [g2])
                    have HG := hid_mk g1
                    clear hokn g1 g2
                    go_wp2_with fail
                    go_meet
                    case rel => exact ⟨by rw [HO.out], rfl⟩
                · have g1' : ((s1.e : Int) == 0) = false := by simp [g1]
                  have HO := hid_mk (show okn = false by rw [hokn]; simp [g1])
                  clear hokn g1
                  go_wp2_with fail
                  go_meet
                  case rel => exact ⟨by rw [HO.out], rfl⟩
              case rest =>
                obtain ⟨rfl, rfl⟩ := hcut
                clear hokn r2
                rename World => V
                have b3' : ∀ W9, V.grownBy W9 m.rv.ownBlock → W9.cell? ⟨b, 3, none⟩ = some (.slice ra m.rs.length rc) ∧ ∀ z, W9.frozen? ⟨b, z, none⟩ = false := fun W9 hW => by
                  have hb := H1.out.1.isR.blk.kept hW (own_tag H1.out.1.isR.row H1.out.1.isR.blk (by decide))
                  exact ⟨by rw [hb.cell, ← HRV.out]; rfl, fun z => hb.frozen z⟩
                go_wp2_with (at_builtin; refine wp_rrec (rv := m.rv) (n := m.rs.length) (xs := m.rs.map Prod.fst) H1.out.1.isR.row (.slice xa xl xc) rfl (by omega) rfl _ _ rfl HRV.out.symm rfl ?_; intro a9 c9 W9 H9; obtain ⟨k3, kf⟩ := b3' W9 (grown_trans (grown_any (World.grownBy_alloc _ _ none) _) H9.out.2.1))
                have H9B : Blk W9 b #[.int .i64 m.sp, .int .i64 m.ap, .int .i64 m.st, m.rv, m.sv] 81 := by
                  have hk := H1.out.1.isR.kept (World.grownBy_alloc V (.cells #[.slice xa xl xc] 22) none)
                  exact hk.blk.kept H9.out.2.1 (own_tag hk.row hk.blk (by decide))
                have HN := hid_mk (H1.out.1.recd (World.grownBy_alloc V (.cells #[.slice xa xl xc] 22) none) H9.out.2.1 (grown_setCell W9 b 3 (.slice a9 (m.rs.length + 1) c9)) (.slice a9 (m.rs.length + 1) c9) (.slice xa xl xc) d H1.out.2 H9.out.1 H9.out.2.2 (H9B.set 3 _))
                go_roundg (nx - st - (j + 1))
                case measure => omega
                case rel => exact ⟨j + 1, okn, _, _, by omega, rfl, rfl, by go_num, hid_mk ⟨HN.out, H.out.2.1, H.out.2.2.1, H.out.2.2.2.1, by simp [H.out.2.2.2.2.1], fun _ => H.out.2.2.2.2.2.1 (by first | rfl | trivial), by have h1 := HRn.out; simpa using h1⟩⟩
          · have hlt' : ¬ ((st + j : Nat) : Int) < nx := by omega
            cases ok
            · have HRN := hid_mk (show R = none by have h1 := H.out.2.2.2.2.2.2; simpa using h1)
              go_wp2_with fail
              go_ret2
              rw [HRN.out]
              exact ⟨rfl, H.out.1.gr⟩
            · have HE := hid_mk (show R = (if endE s = 0 then some ⟨sp, ap, st, m.ss, m.rs.map Prod.snd⟩ else none) by
                have h1 := H.out.2.2.2.2.2.2
                rw [if_pos (by first | rfl | trivial), show nx - st - j = 0 by omega, recT_zero] at h1
                exact h1)
              go_wp2_with fail
              refine (rend_any _ _ _ _ _ H.out.1.rd).mono ?_
              rintro e V1 ⟨rfl, kk, rfl⟩
              by_cases he : endE s = 0
              · have HE2 := hid_mk (HE.out.trans (if_pos he))
                rw [he]
                clear HE he
                go_wp2_with fail
                go_ret2
                rw [HE2.out]
                exact ⟨b, m, rfl, (H.out.1.isR.kept (grown_drewN _ _ none)).wide (fun k hk => hk.1.1), by unfold Rf.ab; rw [H.out.2.1, H.out.2.2.1, H.out.2.2.2.1], grown_trans H.out.1.gr (grown_drewN _ _ none)⟩
              · have HE2 := hid_mk (HE.out.trans (if_neg he))
                have he' : ((endE s : Int) == 0) = false := by simp; omega
                have he2 : ((endE s : Int) != 0) = true := by simp; omega
                generalize endE s = es at *
                clear HE he
                go_wp2_with fail
                go_ret2
                rw [HE2.out]
                exact ⟨rfl, grown_trans H.out.1.gr (grown_drewN _ _ none)⟩
end Go.Proofs.Ytpncbehabfkhkaa.W
