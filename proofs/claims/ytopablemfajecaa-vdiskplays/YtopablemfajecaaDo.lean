/- do: an Op on a disk. -/
import Derived.Test.YtopablemfajecaaSureP
namespace Go.Proofs.Ytopablemfajecaa
open Go.RowKit Go.Maps Go.WideMaps Go.WideElems
set_option linter.unusedVariables false
set_option linter.unusedSimpArgs false

/-- What a call leaves, seen from ahead of blocks that were laid for it. -/
theorem Post.ahead {F : Nat → Prop} {N b : Nat} {w w0 w' : World} {S : Int → Mem → Prop} {e : Ending} (h : Post F N b w0 S e w') (hg : w.grownBy w0 none) : Post F N b w S e w' := by
  obtain ⟨n, m', he, hS, hI, hk⟩ := h
  exact ⟨n, m', he, hS, hI.monoF (fun k hk => by rcases hk with h | h; exact .inl h; exact .inr (Nat.le_trans hg.size h)), (Keeps.of_none hg).trans hk (fun _ _ h => h)⟩

theorem do_0 (N b : Nat) (F : Nat → Prop) (m : Mem) (n : Int) (s t : ByteArray) (l : List UInt8) (Bv Cv : Value) (w : World) (h : IsDisk w F N b m) (hN : N < 2199023255552) (hs : s.size ≤ maxLen) (ht : t.size ≤ maxLen) (hl : l.length ≤ 140737488355328) (hsrc0 : SrcB w Bv l) (hBv : ∃ a l c, Bv = .slice a l c) (hCv : ∃ a l c, Cv = .slice a l c) :
    Calls Try.prog 26 #[.pointer (some ⟨b, 0, none⟩), .agg #[.int .i64 0, .string s, .string t, Bv, .int .i64 n, Cv]] w (Post F N b w (DoSpec 0 s t l m)) := by
  obtain ⟨a1, l1, c1, rfl⟩ := hBv
  obtain ⟨a2, l2, c2, rfl⟩ := hCv
  have hg0 := World.grownBy_alloc w (.cells #[.int .i64 0, .string s, .string t, .slice a1 l1 c1, .int .i64 n, .slice a2 l2 c2] 35) none
  have hI := h.kept_none hg0
  have hsrc := hsrc0.kept_none hg0
  have HC := hid_mk (create_any N b F m s _ hI hN hs)
  have HG := hid_mk hg0
  clear h hN hs ht hl hsrc0 hsrc hI hg0
  go_enter Try.func26, Try.ntmps26
  go_wp2_with fail
  refine HC.out.mono ?_
  rintro e w2 ⟨n2, m2, rfl, hS, hI2, hk2⟩
  have HP := hid_mk (Post.ahead (w := w) (F := F) (N := N) (b := b) (S := DoSpec 0 s t l m) (e := .returned (.int .i64 n2)) ⟨n2, m2, rfl, .inl ⟨rfl, hS⟩, hI2, hk2⟩ HG.out)
  clear hS hI2 hk2
  go_wp2_with (go_at_call 11; refine (num_any _ _).mono ?_; rintro e w2 ⟨rfl, rfl⟩)
  go_ret
  exact HP.out

theorem do_1 (N b : Nat) (F : Nat → Prop) (m : Mem) (n : Int) (s t : ByteArray) (l : List UInt8) (Bv Cv : Value) (w : World) (h : IsDisk w F N b m) (hN : N < 2199023255552) (hs : s.size ≤ maxLen) (ht : t.size ≤ maxLen) (hl : l.length ≤ 140737488355328) (hsrc0 : SrcB w Bv l) (hBv : ∃ a l c, Bv = .slice a l c) (hCv : ∃ a l c, Cv = .slice a l c) :
    Calls Try.prog 26 #[.pointer (some ⟨b, 0, none⟩), .agg #[.int .i64 1, .string s, .string t, Bv, .int .i64 n, Cv]] w (Post F N b w (DoSpec 1 s t l m)) := by
  obtain ⟨a1, l1, c1, rfl⟩ := hBv
  obtain ⟨a2, l2, c2, rfl⟩ := hCv
  have hg0 := World.grownBy_alloc w (.cells #[.int .i64 1, .string s, .string t, .slice a1 l1 c1, .int .i64 n, .slice a2 l2 c2] 35) none
  have hI := h.kept_none hg0
  have hsrc := hsrc0.kept_none hg0
  have HC := hid_mk (append_any N b F m s l _ _ hI hN hs hl hsrc)
  have HG := hid_mk hg0
  clear h hN hs ht hl hsrc0 hsrc hI hg0
  go_enter Try.func26, Try.ntmps26
  go_wp2_with fail
  refine HC.out.mono ?_
  rintro e w2 ⟨n2, m2, rfl, hS, hI2, hk2⟩
  have HP := hid_mk (Post.ahead (w := w) (F := F) (N := N) (b := b) (S := DoSpec 1 s t l m) (e := .returned (.int .i64 n2)) ⟨n2, m2, rfl, .inr (.inl ⟨rfl, hS⟩), hI2, hk2⟩ HG.out)
  clear hS hI2 hk2
  go_wp2_with (go_at_call 11; refine (num_any _ _).mono ?_; rintro e w2 ⟨rfl, rfl⟩)
  go_ret
  exact HP.out

theorem do_2 (N b : Nat) (F : Nat → Prop) (m : Mem) (n : Int) (s t : ByteArray) (l : List UInt8) (Bv Cv : Value) (w : World) (h : IsDisk w F N b m) (hN : N < 2199023255552) (hs : s.size ≤ maxLen) (ht : t.size ≤ maxLen) (hl : l.length ≤ 140737488355328) (hsrc0 : SrcB w Bv l) (hBv : ∃ a l c, Bv = .slice a l c) (hCv : ∃ a l c, Cv = .slice a l c) :
    Calls Try.prog 26 #[.pointer (some ⟨b, 0, none⟩), .agg #[.int .i64 2, .string s, .string t, Bv, .int .i64 n, Cv]] w (Post F N b w (DoSpec 2 s t l m)) := by
  obtain ⟨a1, l1, c1, rfl⟩ := hBv
  obtain ⟨a2, l2, c2, rfl⟩ := hCv
  have hg0 := World.grownBy_alloc w (.cells #[.int .i64 2, .string s, .string t, .slice a1 l1 c1, .int .i64 n, .slice a2 l2 c2] 35) none
  have hI := h.kept_none hg0
  have hsrc := hsrc0.kept_none hg0
  have HC := hid_mk (sync_any N b F m s _ hI hs)
  have HG := hid_mk hg0
  clear h hN hs ht hl hsrc0 hsrc hI hg0
  go_enter Try.func26, Try.ntmps26
  go_wp2_with fail
  refine HC.out.mono ?_
  rintro e w2 ⟨n2, m2, rfl, hS, hI2, hk2⟩
  have HP := hid_mk (Post.ahead (w := w) (F := F) (N := N) (b := b) (S := DoSpec 2 s t l m) (e := .returned (.int .i64 n2)) ⟨n2, m2, rfl, .inr (.inr (.inl ⟨rfl, hS⟩)), hI2, hk2⟩ HG.out)
  clear hS hI2 hk2
  go_wp2_with (go_at_call 11; refine (num_any _ _).mono ?_; rintro e w2 ⟨rfl, rfl⟩)
  go_ret
  exact HP.out

theorem do_3 (N b : Nat) (F : Nat → Prop) (m : Mem) (n : Int) (s t : ByteArray) (l : List UInt8) (Bv Cv : Value) (w : World) (h : IsDisk w F N b m) (hN : N < 2199023255552) (hs : s.size ≤ maxLen) (ht : t.size ≤ maxLen) (hl : l.length ≤ 140737488355328) (hsrc0 : SrcB w Bv l) (hBv : ∃ a l c, Bv = .slice a l c) (hCv : ∃ a l c, Cv = .slice a l c) :
    Calls Try.prog 26 #[.pointer (some ⟨b, 0, none⟩), .agg #[.int .i64 3, .string s, .string t, Bv, .int .i64 n, Cv]] w (Post F N b w (DoSpec 3 s t l m)) := by
  obtain ⟨a1, l1, c1, rfl⟩ := hBv
  obtain ⟨a2, l2, c2, rfl⟩ := hCv
  have hg0 := World.grownBy_alloc w (.cells #[.int .i64 3, .string s, .string t, .slice a1 l1 c1, .int .i64 n, .slice a2 l2 c2] 35) none
  have hI := h.kept_none hg0
  have hsrc := hsrc0.kept_none hg0
  have HC := hid_mk (syncdir_any N b F m _ hI)
  have HG := hid_mk hg0
  clear h hN hs ht hl hsrc0 hsrc hI hg0
  go_enter Try.func26, Try.ntmps26
  go_wp2_with fail
  refine HC.out.mono ?_
  rintro e w2 ⟨n2, m2, rfl, hS, hI2, hk2⟩
  have HP := hid_mk (Post.ahead (w := w) (F := F) (N := N) (b := b) (S := DoSpec 3 s t l m) (e := .returned (.int .i64 n2)) ⟨n2, m2, rfl, .inr (.inr (.inr (.inl ⟨rfl, hS⟩))), hI2, hk2⟩ HG.out)
  clear hS hI2 hk2
  go_wp2_with (go_at_call 11; refine (num_any _ _).mono ?_; rintro e w2 ⟨rfl, rfl⟩)
  go_ret
  exact HP.out

theorem do_4 (N b : Nat) (F : Nat → Prop) (m : Mem) (n : Int) (s t : ByteArray) (l : List UInt8) (Bv Cv : Value) (w : World) (h : IsDisk w F N b m) (hN : N < 2199023255552) (hs : s.size ≤ maxLen) (ht : t.size ≤ maxLen) (hl : l.length ≤ 140737488355328) (hsrc0 : SrcB w Bv l) (hBv : ∃ a l c, Bv = .slice a l c) (hCv : ∃ a l c, Cv = .slice a l c) :
    Calls Try.prog 26 #[.pointer (some ⟨b, 0, none⟩), .agg #[.int .i64 4, .string s, .string t, Bv, .int .i64 n, Cv]] w (Post F N b w (DoSpec 4 s t l m)) := by
  obtain ⟨a1, l1, c1, rfl⟩ := hBv
  obtain ⟨a2, l2, c2, rfl⟩ := hCv
  have hg0 := World.grownBy_alloc w (.cells #[.int .i64 4, .string s, .string t, .slice a1 l1 c1, .int .i64 n, .slice a2 l2 c2] 35) none
  have hI := h.kept_none hg0
  have hsrc := hsrc0.kept_none hg0
  have HC := hid_mk (rename_any N b F m s t _ hI hN hs ht)
  have HG := hid_mk hg0
  clear h hN hs ht hl hsrc0 hsrc hI hg0
  go_enter Try.func26, Try.ntmps26
  go_wp2_with fail
  refine HC.out.mono ?_
  rintro e w2 ⟨n2, m2, rfl, hS, hI2, hk2⟩
  have HP := hid_mk (Post.ahead (w := w) (F := F) (N := N) (b := b) (S := DoSpec 4 s t l m) (e := .returned (.int .i64 n2)) ⟨n2, m2, rfl, .inr (.inr (.inr (.inr (.inl ⟨rfl, hS⟩)))), hI2, hk2⟩ HG.out)
  clear hS hI2 hk2
  go_wp2_with (go_at_call 11; refine (num_any _ _).mono ?_; rintro e w2 ⟨rfl, rfl⟩)
  go_ret
  exact HP.out

theorem do_5 (N b : Nat) (F : Nat → Prop) (m : Mem) (n : Int) (s t : ByteArray) (l : List UInt8) (Bv Cv : Value) (w : World) (h : IsDisk w F N b m) (hN : N < 2199023255552) (hs : s.size ≤ maxLen) (ht : t.size ≤ maxLen) (hl : l.length ≤ 140737488355328) (hsrc0 : SrcB w Bv l) (hBv : ∃ a l c, Bv = .slice a l c) (hCv : ∃ a l c, Cv = .slice a l c) :
    Calls Try.prog 26 #[.pointer (some ⟨b, 0, none⟩), .agg #[.int .i64 5, .string s, .string t, Bv, .int .i64 n, Cv]] w (Post F N b w (DoSpec 5 s t l m)) := by
  obtain ⟨a1, l1, c1, rfl⟩ := hBv
  obtain ⟨a2, l2, c2, rfl⟩ := hCv
  have hg0 := World.grownBy_alloc w (.cells #[.int .i64 5, .string s, .string t, .slice a1 l1 c1, .int .i64 n, .slice a2 l2 c2] 35) none
  have hI := h.kept_none hg0
  have hsrc := hsrc0.kept_none hg0
  have HC := hid_mk (remove_any N b F m s _ hI hN hs)
  have HG := hid_mk hg0
  clear h hN hs ht hl hsrc0 hsrc hI hg0
  go_enter Try.func26, Try.ntmps26
  go_wp2_with fail
  refine HC.out.mono ?_
  rintro e w2 ⟨n2, m2, rfl, hS, hI2, hk2⟩
  have HP := hid_mk (Post.ahead (w := w) (F := F) (N := N) (b := b) (S := DoSpec 5 s t l m) (e := .returned (.int .i64 n2)) ⟨n2, m2, rfl, .inr (.inr (.inr (.inr (.inr (.inl ⟨rfl, hS⟩))))), hI2, hk2⟩ HG.out)
  clear hS hI2 hk2
  go_wp2_with (go_at_call 11; refine (num_any _ _).mono ?_; rintro e w2 ⟨rfl, rfl⟩)
  go_ret
  exact HP.out

theorem do_else (N b : Nat) (F : Nat → Prop) (m : Mem) (kd n : Int) (s t : ByteArray) (l : List UInt8) (Bv Cv : Value) (w : World) (h : IsDisk w F N b m) (hk : kd < 0 ∨ 5 < kd) (hBv : ∃ a l c, Bv = .slice a l c) (hCv : ∃ a l c, Cv = .slice a l c) :
    Calls Try.prog 26 #[.pointer (some ⟨b, 0, none⟩), .agg #[.int .i64 kd, .string s, .string t, Bv, .int .i64 n, Cv]] w (Post F N b w (DoSpec kd s t l m)) := by
  obtain ⟨a1, l1, c1, rfl⟩ := hBv
  obtain ⟨a2, l2, c2, rfl⟩ := hCv
  have HP := hid_mk (Post.same (S := DoSpec kd s t l m) h (World.grownBy_alloc w (.cells #[.int .i64 kd, .string s, .string t, .slice a1 l1 c1, .int .i64 n, .slice a2 l2 c2] 35) none) (.inr (.inr (.inr (.inr (.inr (.inr ⟨hk, rfl, rfl⟩)))))))
  have k0 : (kd == 0) = false := by simp; omega
  have k1 : (kd == 1) = false := by simp; omega
  have k2 : (kd == 2) = false := by simp; omega
  have k3 : (kd == 3) = false := by simp; omega
  have k4 : (kd == 4) = false := by simp; omega
  have k5 : (kd == 5) = false := by simp; omega
  clear h hk
  go_enter Try.func26, Try.ntmps26
  go_wp2
  go_ret
  exact HP.out

theorem do_any (N b : Nat) (F : Nat → Prop) (m : Mem) (kd n : Int) (s t : ByteArray) (l : List UInt8) (Bv Cv : Value) (w : World) (h : IsDisk w F N b m) (hN : N < 2199023255552) (hs : s.size ≤ maxLen) (ht : t.size ≤ maxLen) (hl : l.length ≤ 140737488355328) (hsrc : SrcB w Bv l) (hBv : ∃ a l c, Bv = .slice a l c) (hCv : ∃ a l c, Cv = .slice a l c) :
    Calls Try.prog 26 #[.pointer (some ⟨b, 0, none⟩), .agg #[.int .i64 kd, .string s, .string t, Bv, .int .i64 n, Cv]] w (Post F N b w (DoSpec kd s t l m)) := by
  by_cases hk : kd < 0 ∨ 5 < kd
  · exact do_else N b F m kd n s t l Bv Cv w h hk hBv hCv
  · have hc : kd = 0 ∨ kd = 1 ∨ kd = 2 ∨ kd = 3 ∨ kd = 4 ∨ kd = 5 := by omega
    rcases hc with rfl | rfl | rfl | rfl | rfl | rfl
    · exact do_0 N b F m n s t l Bv Cv w h hN hs ht hl hsrc hBv hCv
    · exact do_1 N b F m n s t l Bv Cv w h hN hs ht hl hsrc hBv hCv
    · exact do_2 N b F m n s t l Bv Cv w h hN hs ht hl hsrc hBv hCv
    · exact do_3 N b F m n s t l Bv Cv w h hN hs ht hl hsrc hBv hCv
    · exact do_4 N b F m n s t l Bv Cv w h hN hs ht hl hsrc hBv hCv
    · exact do_5 N b F m n s t l Bv Cv w h hN hs ht hl hsrc hBv hCv

end Go.Proofs.Ytopablemfajecaa
