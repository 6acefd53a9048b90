import Derived.Test.YtlbcnmcfljaijaaQF36
import Derived.Test.YtlbcnmcfljaijaaQF34
namespace Go.Proofs.Ytlbcnmcfljaijaa
open Go.RowKit
set_option linter.unusedSimpArgs false
set_option linter.unusedVariables false

def CasesC (part : Bool) (t : ByteArray) (f : Nat) : Prop := ∀ (rb base a deep : Nat) (lv : Value) (l : List Nd) (bad : Bool) (w : World) (n : Nd), f + deep = 11 → l.length ≤ 40 → SrAt w rb base t part a lv l bad →
  Calls Try.prog 83 #[.pointer (some ⟨rb, 0, none⟩), .agg #[.int .i64 n.op, .string n.name, .string n.peer, .int .i64 n.many, .int .i64 n.sort], .int .i64 (deep : Int)] w fun e w' => e = .returned (.tuple #[]) ∧ SrRes w w' rb base t part (casesS (oneS part f) n (stS t a l bad))
theorem noded (w W : World) (o m s : Int) (x y : ByteArray) (h : W = w.alloc (.cells #[.int .i64 o, .string x, .string y, .int .i64 m, .int .i64 s] 87)) : Apart w W [] ∧ BoxL W w.heap.size [.int .i64 o, .string x, .string y, .int .i64 m, .int .i64 s] := by
  subst h
  exact ⟨below_apart (malloc1 w _), BoxL.new w [.int .i64 o, .string x, .string y, .int .i64 m, .int .i64 s] 87⟩
set_option maxRecDepth 100000 in
set_option maxHeartbeats 2000000 in
theorem sr_one_msg (t : ByteArray) (f rb base a deep : Nat) (lv : Value) (l : List Nd) (w : World) (ht : t.size ≤ 8000) (hcs : CasesC false t f) (hd : f + 1 + deep = 12) (hl : l.length ≤ 40) (X : ByteArray) (hX : ba ((t.toList.drop a).takeWhile inW) = X) (hn1 : (X.toList == [101, 110, 100]) = false) (hn2 : (X.toList == [114, 101, 99]) = false) (hq : isQ [62] t (wdA t a) false = true) (hs : SrAt w rb base t false a lv l false) :
    Calls Try.prog 71 #[.pointer (some ⟨rb, 0, none⟩), .int .i64 (deep : Int)] w fun e w' => e = .returned (.tuple #[]) ∧ SrRes w w' rb base t false (casesS (oneS false f) ⟨3, X, ba (wdS (stS t (isA [62] t (wdA t a) false) l false)), 0, 0⟩ (mustS [123] (skW (stS t (isA [62] t (wdA t a) false) l false)))) := by
  simp only [sk_st, must_st, wdS_st, push_st]
  have c4 := hs.box.cell 4 _ rfl
  have c2 := hs.box.cell 2 _ rfl
  have HW := t_word ht hs
  rw [hX] at HW
  have HWD := hide HW
  obtain ⟨p, c, rfl⟩ := owns_shape hs.row
  have HSZ := hide hs.sz
  have HT := hide ht
  have hd2 : deep ≤ 11 := by omega
  obtain ⟨A2, hA2⟩ : ∃ x, isA [62] t (wdA t a) false = x := ⟨_, rfl⟩
  rw [hA2]
  obtain ⟨Y, hY⟩ : ∃ x, ba ((t.toList.drop A2).takeWhile inW) = x := ⟨_, rfl⟩
  rw [hY]
  obtain ⟨fin, hfin⟩ : ∃ x, casesS (oneS false f) ⟨3, X, Y, 0, 0⟩ (stS t (isA [123] t (wdA t A2) false) l !isQ [123] t (wdA t A2) false) = x := ⟨_, rfl⟩
  rw [hfin]
  have HQ : Hid (∀ w1, SrAt w1 rb base t false (wdA t a) (.slice p l.length c) l false → Calls Try.prog 82 #[.pointer (some ⟨rb, 0, none⟩), .string ⟨#[62]⟩] w1 fun e w' => e = .returned (.bool true) ∧ SrAt w' rb base t false A2 (.slice p l.length c) l false ∧ Apart w1 w' [rb]) := hide (fun w1 h1 => by
    have := t_isT [62] (by simp) ht hq h1
    rw [hA2] at this
    exact this)
  have HW2 : Hid (∀ w1, SrAt w1 rb base t false A2 (.slice p l.length c) l false → Calls Try.prog 80 #[.pointer (some ⟨rb, 0, none⟩)] w1 fun e w' => e = .returned (.string Y) ∧ SrAt w' rb base t false (wdA t A2) (.slice p l.length c) l false ∧ Apart w1 w' [rb]) := hide (fun w1 h1 => by
    have := t_word ht h1
    rw [hY] at this
    exact this)
  have HC : Hid (∀ w1, SrAt w1 rb base t false (isA [123] t (wdA t A2) false) (.slice p l.length c) l (!isQ [123] t (wdA t A2) false) → Calls Try.prog 83 #[.pointer (some ⟨rb, 0, none⟩), .agg #[.int .i64 3, .string X, .string Y, .int .i64 0, .int .i64 0], .int .i64 (deep : Int)] w1 fun e w' => e = .returned (.tuple #[]) ∧ SrRes w1 w' rb base t false fin) := hide (fun w1 h1 => by
    have := hcs rb base _ deep _ _ _ w1 ⟨3, X, Y, 0, 0⟩ (by omega) hl h1
    rw [hfin] at this
    exact this)
  have HS0 := hide hs
  clear hs HW hX ht hcs hd hA2 hY hfin hq
  go_enter Try.func71, Try.ntmps71
  go_wp2_with (first
    | (go_at_call 80; (fail_if_success (have := HS1)); refine HWD.out.mono ?_; rintro e w1 ⟨rfl, hs1, ha1⟩; have HS1 := hide hs1; have HA1 := hide ha1; have d3 := hs1.box.cell 3 _ rfl; have dz := hs1.box.fz; clear hs1 ha1)
    | (go_at_call 82; refine (HQ.out _ HS1.out).mono ?_; rintro e w2 ⟨rfl, hs2, ha2⟩; have HS2 := hide hs2; have HA2 := hide ha2; clear hs2 ha2 d3 dz)
    | (go_at_call 80; have HM2 := HS2; refine (HW2.out _ HS2.out).mono ?_; rintro e w3 ⟨rfl, hs3, ha3⟩; have HS3 := hide hs3; have HA3 := hide ha3; have l3 := hs3.box.lt; clear hs3 ha3)
    | (go_at_call 81; go_must (obtain ⟨W4, hW4⟩ : ∃ W4, W4 = w3.alloc (.cells #[.int .i64 3, .string X, .string Y, .int .i64 0, .int .i64 0] 87) := ⟨_, rfl⟩; rw [← hW4]; have HW4 := hide hW4; clear hW4; have HN4 := hide (noded w3 W4 3 0 0 X Y HW4.out); refine (t_must [123] (by simp) HT.out (HS3.out.keep HN4.out.1)).mono ?_; rintro e w5 ⟨rfl, hs5, ha5⟩; have HS5 := hide hs5; have HA5 := hide ha5; have HN5 := hide (HN4.out.2.keep ha5 (by have := HS3.out.box.lt; simp; omega)); have n0 := HN5.out.cell 0 _ rfl; have n1 := HN5.out.cell 1 _ rfl; have n2 := HN5.out.cell 2 _ rfl; have n3 := HN5.out.cell 3 _ rfl; have n4 := HN5.out.cell 4 _ rfl; clear hs5 ha5))
    | (go_at_call 83; refine (HC.out _ HS5.out).mono ?_; rintro e w6 ⟨rfl, hr6⟩; have HR6 := hide hr6; clear hr6))
  go_end0
  obtain ⟨a9, lv9, l9, b9, h1, h2, h3⟩ := HR6.out
  have k1 := ((skept1 HA1.out HSZ.out).trans (skept1 HA2.out HS1.out.sz)).trans (skept1 HA3.out HS2.out.sz)
  have k2 := (HN4.out.1.skept (rb := rb) HS3.out.sz (by simp)).trans (skept1 HA5.out (HS3.out.keep HN4.out.1).sz)
  exact ⟨rfl, a9, lv9, l9, b9, h1, h2, (k1.trans k2).trans h3⟩
set_option maxRecDepth 100000 in
set_option maxHeartbeats 2000000 in
theorem sr_one_send (t : ByteArray) (f rb base a deep : Nat) (lv : Value) (l : List Nd) (w : World) (ht : t.size ≤ 8000) (hcs : CasesC true t f) (hd : f + 1 + deep = 12) (hl : l.length ≤ 40) (X : ByteArray) (hX : ba ((t.toList.drop a).takeWhile inW) = X) (hn1 : (X.toList == [101, 110, 100]) = false) (hn2 : (X.toList == [114, 101, 99]) = false) (hq : isQ [33, 123] t (wdA t a) false = true) (hs : SrAt w rb base t true a lv l false) :
    Calls Try.prog 71 #[.pointer (some ⟨rb, 0, none⟩), .int .i64 (deep : Int)] w fun e w' => e = .returned (.tuple #[]) ∧ SrRes w w' rb base t true (casesS (oneS true f) ⟨5, noT, X, 0, 0⟩ (stS t (isA [33, 123] t (wdA t a) false) l false)) := by
  have c4 := hs.box.cell 4 _ rfl
  have c2 := hs.box.cell 2 _ rfl
  have HW := t_word ht hs
  rw [hX] at HW
  have HWD := hide HW
  obtain ⟨p, c, rfl⟩ := owns_shape hs.row
  have HSZ := hide hs.sz
  have HT := hide ht
  have hd2 : deep ≤ 11 := by omega
  obtain ⟨A2, hA2⟩ : ∃ x, isA [33, 123] t (wdA t a) false = x := ⟨_, rfl⟩
  rw [hA2]
  obtain ⟨fin, hfin⟩ : ∃ x, casesS (oneS true f) ⟨5, noT, X, 0, 0⟩ (stS t A2 l false) = x := ⟨_, rfl⟩
  rw [hfin]
  have HQ : Hid (∀ w1, SrAt w1 rb base t true (wdA t a) (.slice p l.length c) l false → Calls Try.prog 82 #[.pointer (some ⟨rb, 0, none⟩), .string ⟨#[33, 123]⟩] w1 fun e w' => e = .returned (.bool true) ∧ SrAt w' rb base t true A2 (.slice p l.length c) l false ∧ Apart w1 w' [rb]) := hide (fun w1 h1 => by
    have := t_isT [33, 123] (by simp) ht hq h1
    rw [hA2] at this
    exact this)
  have HC : Hid (∀ w1, SrAt w1 rb base t true A2 (.slice p l.length c) l false → Calls Try.prog 83 #[.pointer (some ⟨rb, 0, none⟩), .agg #[.int .i64 5, .string ⟨#[]⟩, .string X, .int .i64 0, .int .i64 0], .int .i64 (deep : Int)] w1 fun e w' => e = .returned (.tuple #[]) ∧ SrRes w1 w' rb base t true fin) := hide (fun w1 h1 => by
    have := hcs rb base _ deep _ _ _ w1 ⟨5, noT, X, 0, 0⟩ (by omega) hl h1
    rw [hfin] at this
    exact this)
  clear hs HW hX ht hcs hd hA2 hfin hq
  go_enter Try.func71, Try.ntmps71
  go_wp2_with (first
    | (go_at_call 80; (fail_if_success (have := HS1)); refine HWD.out.mono ?_; rintro e w1 ⟨rfl, hs1, ha1⟩; have HS1 := hide hs1; have HA1 := hide ha1; have d3 := hs1.box.cell 3 _ rfl; have dz := hs1.box.fz; clear hs1 ha1)
    | (go_at_call 82; refine (HQ.out _ HS1.out).mono ?_; rintro e w2 ⟨rfl, hs2, ha2⟩; have HS2 := hide hs2; have HA2 := hide ha2; clear hs2 ha2 d3 dz)
    | (go_at_call 83; refine (HC.out _ HS2.out).mono ?_; rintro e w6 ⟨rfl, hr6⟩; have HR6 := hide hr6; clear hr6))
  go_end0
  obtain ⟨a9, lv9, l9, b9, h1, h2, h3⟩ := HR6.out
  exact ⟨rfl, a9, lv9, l9, b9, h1, h2, ((skept1 HA1.out HSZ.out).trans (skept1 HA2.out HS1.out.sz)).trans h3⟩
set_option maxRecDepth 100000 in
set_option maxHeartbeats 2000000 in
theorem sr_one_recv (t : ByteArray) (f rb base a deep : Nat) (lv : Value) (l : List Nd) (w : World) (ht : t.size ≤ 8000) (hcs : CasesC true t f) (hd : f + 1 + deep = 12) (hl : l.length ≤ 40) (X : ByteArray) (hX : ba ((t.toList.drop a).takeWhile inW) = X) (hn1 : (X.toList == [101, 110, 100]) = false) (hn2 : (X.toList == [114, 101, 99]) = false) (hf : isQ [33, 123] t (wdA t a) false = false) (hq : isQ [63, 123] t (wdA t a) false = true) (hs : SrAt w rb base t true a lv l false) :
    Calls Try.prog 71 #[.pointer (some ⟨rb, 0, none⟩), .int .i64 (deep : Int)] w fun e w' => e = .returned (.tuple #[]) ∧ SrRes w w' rb base t true (casesS (oneS true f) ⟨6, noT, X, 0, 0⟩ (stS t (isA [63, 123] t (wdA t a) false) l false)) := by
  have c4 := hs.box.cell 4 _ rfl
  have c2 := hs.box.cell 2 _ rfl
  have HW := t_word ht hs
  rw [hX] at HW
  have HWD := hide HW
  obtain ⟨p, c, rfl⟩ := owns_shape hs.row
  have HSZ := hide hs.sz
  have HT := hide ht
  have hd2 : deep ≤ 11 := by omega
  have HF := hide hf
  obtain ⟨A2, hA2⟩ : ∃ x, isA [63, 123] t (wdA t a) false = x := ⟨_, rfl⟩
  rw [hA2]
  obtain ⟨fin, hfin⟩ : ∃ x, casesS (oneS true f) ⟨6, noT, X, 0, 0⟩ (stS t A2 l false) = x := ⟨_, rfl⟩
  rw [hfin]
  have HQ : Hid (∀ w1, SrAt w1 rb base t true (wdA t a) (.slice p l.length c) l false → Calls Try.prog 82 #[.pointer (some ⟨rb, 0, none⟩), .string ⟨#[63, 123]⟩] w1 fun e w' => e = .returned (.bool true) ∧ SrAt w' rb base t true A2 (.slice p l.length c) l false ∧ Apart w1 w' [rb]) := hide (fun w1 h1 => by
    have := t_isT [63, 123] (by simp) ht hq h1
    rw [hA2] at this
    exact this)
  have HC : Hid (∀ w1, SrAt w1 rb base t true A2 (.slice p l.length c) l false → Calls Try.prog 83 #[.pointer (some ⟨rb, 0, none⟩), .agg #[.int .i64 6, .string ⟨#[]⟩, .string X, .int .i64 0, .int .i64 0], .int .i64 (deep : Int)] w1 fun e w' => e = .returned (.tuple #[]) ∧ SrRes w1 w' rb base t true fin) := hide (fun w1 h1 => by
    have := hcs rb base _ deep _ _ _ w1 ⟨6, noT, X, 0, 0⟩ (by omega) hl h1
    rw [hfin] at this
    exact this)
  clear hs HW hX ht hcs hd hA2 hfin hq hf
  go_enter Try.func71, Try.ntmps71
  go_wp2_with (first
    | (go_at_call 80; (fail_if_success (have := HS1)); refine HWD.out.mono ?_; rintro e w1 ⟨rfl, hs1, ha1⟩; have HS1 := hide hs1; have HA1 := hide ha1; have d3 := hs1.box.cell 3 _ rfl; have dz := hs1.box.fz; clear hs1 ha1)
    | (go_at_call 82; (fail_if_success (have := HS8)); refine (t_isF [33, 123] (by simp) HT.out HF.out HS1.out).mono ?_; rintro e w8 ⟨rfl, hs8, ha8⟩; have HS8 := hide hs8; have HA8 := hide ha8; clear d3 dz; have d3 := hs8.box.cell 3 _ rfl; have dz := hs8.box.fz; clear hs8 ha8)
    | (go_at_call 82; have HM8 := HS8; refine (HQ.out _ HS8.out).mono ?_; rintro e w2 ⟨rfl, hs2, ha2⟩; have HS2 := hide hs2; have HA2 := hide ha2; clear hs2 ha2 d3 dz)
    | (go_at_call 83; refine (HC.out _ HS2.out).mono ?_; rintro e w6 ⟨rfl, hr6⟩; have HR6 := hide hr6; clear hr6))
  go_end0
  obtain ⟨a9, lv9, l9, b9, h1, h2, h3⟩ := HR6.out
  exact ⟨rfl, a9, lv9, l9, b9, h1, h2, (((skept1 HA1.out HSZ.out).trans (skept1 HA8.out HS1.out.sz)).trans (skept1 HA2.out HS8.out.sz)).trans h3⟩
end Go.Proofs.Ytlbcnmcfljaijaa
namespace Go.Proofs.Ytlbcnmcfljaijaa
open Go.RowKit
set_option linter.unusedSimpArgs false
set_option linter.unusedVariables false

theorem SrAt.drew {W : World} {rb base : Nat} {t : ByteArray} {part : Bool} {a : Nat} {lv : Value} {l : List Nd} {bad : Bool} (h : SrAt W rb base t part a lv l bad) : SrAt W.drew rb base t part a lv l bad := h.keep (Apart.refl _).drew
set_option maxRecDepth 100000 in
set_option maxHeartbeats 2000000 in
theorem sr_one_rec (part : Bool) (t : ByteArray) (f rb base a deep : Nat) (lv : Value) (l : List Nd) (w : World) (ht : t.size ≤ 8000) (hone : OneC part t f) (hd : f + 1 + deep = 12) (hl : l.length ≤ 40) (X : ByteArray) (hX : ba ((t.toList.drop a).takeWhile inW) = X) (hn1 : (X.toList == [101, 110, 100]) = false) (hn2 : (X.toList == [114, 101, 99]) = true) (hs : SrAt w rb base t part a lv l false) :
    Calls Try.prog 71 #[.pointer (some ⟨rb, 0, none⟩), .int .i64 (deep : Int)] w fun e w' => e = .returned (.tuple #[]) ∧ SrRes w w' rb base t part (oneS part f (mustS [46] (pushS ⟨2, ba (wdS (mustS [32] (skW (stS t a l false)))), noT, 0, 0⟩ (skW (mustS [32] (skW (stS t a l false))))))) := by
  simp only [sk_st, must_st, wdS_st, push_st]
  have c4 := hs.box.cell 4 _ rfl
  have c2 := hs.box.cell 2 _ rfl
  have HW := t_word ht hs
  rw [hX] at HW
  have HWD := hide HW
  obtain ⟨p, c, rfl⟩ := owns_shape hs.row
  obtain ⟨i0, hi, hz0, hz1, hz2⟩ := info_parts Try.infoNd
  have HI := hide (And.intro hi (And.intro hz0 (And.intro hz1 hz2)))
  have HSZ := hide hs.sz
  have HT := hide ht
  have HONE := hide hone
  have hd2 : deep ≤ 11 := by omega
  have HD := hide hd
  obtain ⟨A2, hA2⟩ : ∃ x, isA [32] t (wdA t a) false = x := ⟨_, rfl⟩
  obtain ⟨B2, hB2⟩ : ∃ x, isQ [32] t (wdA t a) false = x := ⟨_, rfl⟩
  rw [hA2, hB2]
  obtain ⟨Y, hY⟩ : ∃ x, ba ((t.toList.drop A2).takeWhile inW) = x := ⟨_, rfl⟩
  rw [hY]
  obtain ⟨fin, hfin⟩ : ∃ x, oneS part f (stS t (isA [46] t (wdA t A2) !B2) (l ++ [⟨2, Y, noT, 0, 0⟩]) !isQ [46] t (wdA t A2) !B2) = x := ⟨_, rfl⟩
  rw [hfin]
  have HM1 : Hid (∀ w1, SrAt w1 rb base t part (wdA t a) (.slice p l.length c) l false → Calls Try.prog 81 #[.pointer (some ⟨rb, 0, none⟩), .string ⟨#[32]⟩] w1 fun e w' => e = .returned (.tuple #[]) ∧ SrAt w' rb base t part A2 (.slice p l.length c) l (!B2) ∧ Apart w1 w' [rb]) := hide (fun w1 h1 => by
    have := t_must [32] (by simp) ht h1
    rw [hA2, hB2] at this
    exact this)
  have HW2 : Hid (∀ w1, SrAt w1 rb base t part A2 (.slice p l.length c) l (!B2) → Calls Try.prog 80 #[.pointer (some ⟨rb, 0, none⟩)] w1 fun e w' => e = .returned (.string Y) ∧ SrAt w' rb base t part (wdA t A2) (.slice p l.length c) l (!B2) ∧ Apart w1 w' [rb]) := hide (fun w1 h1 => by
    have := t_word ht h1
    rw [hY] at this
    exact this)
  have HO : Hid (∀ w1 lv1, SrAt w1 rb base t part (isA [46] t (wdA t A2) !B2) lv1 (l ++ [⟨2, Y, noT, 0, 0⟩]) (!isQ [46] t (wdA t A2) !B2) → Calls Try.prog 71 #[.pointer (some ⟨rb, 0, none⟩), .int .i64 (deep + 1 : Int)] w1 fun e w' => e = .returned (.tuple #[]) ∧ SrRes w1 w' rb base t part fin) := hide (fun w1 lv1 h1 => by
    have := hone rb base _ (deep + 1) lv1 _ _ w1 (by omega) (by simp; omega) h1
    rw [hfin] at this
    exact this)
  clear hs HW hi hz0 hz1 hz2 hX ht hone hd hA2 hB2 hY hfin
  go_enter Try.func71, Try.ntmps71
  go_wp2_with (first
    | (go_at_call 80; (fail_if_success (have := HS1)); refine HWD.out.mono ?_; rintro e w1 ⟨rfl, hs1, ha1⟩; have HS1 := hide hs1; have HA1 := hide ha1; clear hs1 ha1)
    | (go_at_call 81; (fail_if_success (have := HS2)); refine (HM1.out _ HS1.out).mono ?_; rintro e w2 ⟨rfl, hs2, ha2⟩; have HS2 := hide hs2; have HA2 := hide ha2; have d2 := hs2.box.cell 2 _ rfl; have dz := hs2.box.fz; clear hs2 ha2))
  have HK2 := hide ((skept1 HA1.out HSZ.out).trans (skept1 HA2.out HS1.out.sz))
  go_region_law (first
    | (go_simp; go_at_call 80; refine (HW2.out _ (by first | exact HS2.out.drew | exact HS2.out)).mono ?_; rintro e w3 ⟨rfl, hs3, ha3⟩; have HS3 := hide hs3; have HA3 := hide (show Apart w2 w3 [rb] from ⟨ha3.os, ha3.tape, ha3.output, ha3.size, ha3.block⟩); have f2 := hs3.box.cell 2 _ rfl; have fz := hs3.box.fz; have l3 := hs3.box.lt; clear hs3 ha3)
    | (refine stepM_at rfl (.tmp 60) (.tmp 64) 61 rfl base 87 i0 (.agg #[.int .i64 0, .string ByteArray.empty, .string ByteArray.empty, .int .i64 0, .int .i64 0]) 5 56 Try.underlying61 HI.out.1 HI.out.2.1 HI.out.2.2.1 HI.out.2.2.2 rfl (by decide) (.slice p l.length c) l.length (l.flatMap Nd.cells) (by simp [Act.eval]) (owns_below HS3.out.row (malloc1 _ _)) ⟨w3.heap.size, 0, none⟩ 1 1 (Nd.cells ⟨2, Y, noT, 0, 0⟩) (by simp [Act.eval]) rfl (node_new _ ⟨2, Y, noT, 0, 0⟩) (Nd.cells_one _) (by unfold maxLen; omega) (by omega) (by have := HS3.out.sz; simp; omega) ?_; intro v7 w7 hown7 hgr7 hat7; have HP := hide (HS3.out.push ⟨2, Y, noT, 0, 0⟩ _ hown7 hgr7 hat7); have e2 := HP.out.2.2.cell 2 _ rfl; have ez := HP.out.2.2.fz; obtain ⟨p7, c7, rfl⟩ := owns_shape hown7; clear hown7 hgr7 hat7)
    | fail)
  all_goals
    have HK3 := hide ((HK2.out.trans (skept1 HA3.out HS2.out.sz)).trans HP.out.2.1)
    go_wp2_with (first
      | (go_at_call 81; have HM9 := HP; refine (t_must [46] (by simp) HT.out HP.out.1).mono ?_; rintro e w8 ⟨rfl, hs8, ha8⟩; have HS8 := hide hs8; have HA8 := hide ha8; clear hs8 ha8)
      | (go_at_call 71; refine (HO.out _ _ HS8.out).mono ?_; rintro e w9 ⟨rfl, hr9⟩; have HR9 := hide hr9; clear hr9))
    go_end0
    obtain ⟨a9, lv9, l9, b9, h1, h2, h3⟩ := HR9.out
    exact ⟨rfl, a9, lv9, l9, b9, h1, h2, (HK3.out.trans (skept1 HA8.out HP.out.1.sz)).trans h3⟩
end Go.Proofs.Ytlbcnmcfljaijaa
namespace Go.Proofs.Ytlbcnmcfljaijaa
open Go.RowKit

theorem head_of {n : Nat} : ∀ p : Pn (n + 1), ∃ h X, rowN (n + 1) p = h :: X ∧ ((h.op == 6) = true → ∃ a0 l, p = .talk ⟨6, a0, h.peer⟩ l) ∧ ((h.op == 6) = false → hearN p = none) := by
  refine Pn.cases (fun x => ?_) (fun x q => ?_) (fun t l => ?_)
  · cases x with
    | none => exact ⟨_, _, rfl, (fun h => by cases h), fun _ => rfl⟩
    | some x => exact ⟨_, _, rfl, (fun h => by cases h), fun _ => rfl⟩
  · exact ⟨_, _, row_loop x q, (fun h => by cases h), fun _ => rfl⟩
  · obtain ⟨op, a, b⟩ := t
    refine ⟨_, _, row_talk _ l, (fun h => ?_), fun h => ?_⟩
    · have h' : op = 6 := by simpa using h
      subst h'
      exact ⟨a, l, rfl⟩
    · show (if (op == 6) = true then some (b, l) else none) = none
      have h' : (op == 6) = false := h
      rw [h']
      rfl
theorem merge_s : ∀ n : Nat, MergeSCalls n := by
  intro n
  induction n with
  | zero =>
    intro S x y u v w hS hx hy h4x h4y hl hu hv
    obtain ⟨h, e, ho⟩ : ∃ h, rowN 0 x = [h] ∧ (h.op == 6) = false := by cases x <;> exact ⟨_, rfl, rfl⟩
    obtain ⟨h', e', ho'⟩ : ∃ h, rowN 0 y = [h] ∧ (h.op == 6) = false := by cases y <;> exact ⟨_, rfl, rfl⟩
    have := s_merge_no 0 S x y u v w hS h h' [] [] e e' hl hu hv (.inr (by rw [ho]; rfl))
    rw [mergeN]
    exact this
  | succ n ih =>
    intro S x y u v w hS hx hy h4x h4y hl hu hv
    obtain ⟨h, X, e, hs, hn⟩ := head_of x
    obtain ⟨h', Y, e', hs', hn'⟩ := head_of y
    cases hr : rowEq (rowN (n + 1) x) (rowN (n + 1) y) with
    | true =>
      have := s_merge_no (n + 1) S x y u v w hS h h' X Y e e' hl hu hv (.inl hr)
      rw [mergeN, if_pos hr]
      rw [if_pos hr] at this
      exact this
    | false =>
      cases hc : (h.op == 6 && h'.op == 6 && (h.peer.toList == h'.peer.toList)) with
      | false =>
        have := s_merge_no (n + 1) S x y u v w hS h h' X Y e e' hl hu hv (.inr hc)
        rw [hr] at this
        have hm : mergeN (n + 1) x y = none := by
          rw [mergeN, hr]
          cases h1 : (h.op == 6) with
          | false => rw [hn h1]; rfl
          | true =>
            obtain ⟨a0, l, ex⟩ := hs h1
            cases h2 : (h'.op == 6) with
            | false => rw [hn' h2]; cases hearN x <;> rfl
            | true =>
              obtain ⟨b0, l', ey⟩ := hs' h2
              rw [h1, h2] at hc
              have hc' : (h.peer.toList == h'.peer.toList) = false := hc
              have e1 : hearN x = some (h.peer, l) := by rw [ex]; rfl
              have e2 : hearN y = some (h'.peer, l') := by rw [ey]; rfl
              rw [e1, e2]
              simp only [hc', Bool.false_eq_true, if_false]
        rw [hm]
        exact this
      | true =>
        simp only [Bool.and_eq_true] at hc
        obtain ⟨⟨h1, h2⟩, h3⟩ := hc
        obtain ⟨a0, cs, ex⟩ := hs h1
        obtain ⟨b0, ds, ey⟩ := hs' h2
        obtain ⟨pa, hpa⟩ : ∃ pa, h.peer = pa := ⟨_, rfl⟩
        obtain ⟨pb, hpb⟩ : ∃ pb, h'.peer = pb := ⟨_, rfl⟩
        rw [hpa] at ex h3
        rw [hpb] at ey h3
        subst ex
        subst ey
        have hx' : tkOk ⟨6, a0, pa⟩ ∧ cs ≠ [] ∧ ∀ b ∈ cs, shapeN n b.p := hx
        have hy' : tkOk ⟨6, b0, pb⟩ ∧ ds ≠ [] ∧ ∀ b ∈ ds, shapeN n b.p := hy
        have h4x' : cs.length ≤ 4 ∧ ∀ b ∈ cs, fourN n b.p := h4x
        have h4y' : ds.length ≤ 4 ∧ ∀ b ∈ ds, fourN n b.p := h4y
        have := s_merge_hear n S ih a0 pa b0 pb cs ds ⟨hx'.2.1, h4x'.1, fun x hm => ⟨hx'.2.2 x hm, h4x'.2 x hm⟩⟩ ⟨hy'.2.1, fun x hm => ⟨hy'.2.2 x hm, h4y'.2 x hm⟩⟩ u v w hS hl hu hv hr h3
        rw [takes_hear pa cs ds h4x'.1] at this
        have hm : mergeN (n + 1) (.talk ⟨6, a0, pa⟩ cs) (.talk ⟨6, b0, pb⟩ ds) = hearO n pa (mergeBy (mergeN n) cs ds) := by
          rw [mergeN, hr]
          show (if (pa.toList == pb.toList) = true then (match mergeBy (mergeN n) cs ds with
            | some l => if l.length ≤ 4 then some (Pn.talk ⟨6, noT, pa⟩ l) else none
            | none => none) else none) = _
          rw [if_pos h3]
          unfold hearO
          cases mergeBy (mergeN n) cs ds <;> rfl
        rw [hm]
        exact this
end Go.Proofs.Ytlbcnmcfljaijaa
