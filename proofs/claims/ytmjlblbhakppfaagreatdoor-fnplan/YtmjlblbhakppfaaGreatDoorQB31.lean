/- inWord and addWord of the program. -/
import Derived.Test.YtmjlblbhakppfaaGreatDoorQB29
import Derived.Maps.AppendAt
import Derived.Test.YtmjlblbhakppfaaGreatDoorQB30
import Derived.Deep.QuietTactic
import Derived.BigQuiet
import Derived.Deep.LoopGhost
namespace Go.Proofs.YtmjlblbhakppfaaGreatDoor
open Go.RowKit
set_option linter.unusedSimpArgs false

/-- a rune of a word -/
def inR (r : Int) : Bool := decide (r < 128) && (letB r || digB r || r == 95)
theorem in_word (r : Int) (w : World) (h0 : 0 ≤ r) (h1 : r ≤ 1114111) :
    Calls Tryz.prog 73 #[.int .i32 r] w fun e w' => e = .returned (.bool (inR r)) ∧ w' = w := by
  by_cases hr : r < 128
  · have hw : IntKind.u8.wrap r = r := by simp [IntKind.wrap, IntKind.bits, IntKind.signed]; omega
    have hng : ¬ 128 ≤ r := by omega
    obtain ⟨q1, hq1⟩ : ∃ q, letB r = q := ⟨_, rfl⟩
    obtain ⟨q2, hq2⟩ : ∃ q, digB r = q := ⟨_, rfl⟩
    have HL : Hid (∀ W, Calls Tryz.prog 86 #[.int .u8 r] W fun e w' => e = .returned (.bool q1) ∧ w' = W) := hide (fun W => by rw [← hq1]; exact is_letter r W)
    have HD : Hid (∀ W, Calls Tryz.prog 87 #[.int .u8 r] W fun e w' => e = .returned (.bool q2) ∧ w' = W) := hide (fun W => by rw [← hq2]; exact is_digit r W)
    have HQ : Hid (inR r = (q1 || q2 || r == 95)) := hide (by unfold inR; rw [hq1, hq2, decide_eq_true hr, Bool.true_and])
    clear hq1 hq2
    cases q1
    · cases q2
      · go_enter Tryz.func73, Tryz.ntmps73
        go_wp2_with (first
          | (go_at_call 87; refine (HD.out _).mono ?_; rintro e w2 ⟨rfl, rfl⟩)
          | (go_at_call 86; refine (HL.out _).mono ?_; rintro e w1 ⟨rfl, rfl⟩))
        go_ret
        exact ⟨ret_bool (by rw [HQ.out]; rfl), rfl⟩
      · go_enter Tryz.func73, Tryz.ntmps73
        go_wp2_with (first
          | (go_at_call 87; refine (HD.out _).mono ?_; rintro e w2 ⟨rfl, rfl⟩)
          | (go_at_call 86; refine (HL.out _).mono ?_; rintro e w1 ⟨rfl, rfl⟩))
        go_ret
        exact ⟨ret_bool (by rw [HQ.out]; rfl), rfl⟩
    · go_enter Tryz.func73, Tryz.ntmps73
      go_wp2_with (first
        | (go_at_call 86; refine (HL.out _).mono ?_; rintro e w1 ⟨rfl, rfl⟩))
      go_ret
      exact ⟨ret_bool (by rw [HQ.out]; rfl), rfl⟩
  · have HQ : Hid (inR r = false) := hide (by unfold inR; rw [decide_eq_false hr]; rfl)
    go_enter Tryz.func73, Tryz.ntmps73
    go_wp2_with fail
    go_ret
    exact ⟨ret_bool HQ.out, rfl⟩
/-- words in memory, and the bytes of the word at hand -/
def SwOwn (w : World) (base : Nat) (v : Value) (l : List ByteArray) : Prop := w.ownsRow base 9 1 v l.length (l.map Value.string)
def ByOwn (w : World) (base : Nat) (v : Value) (l : List UInt8) : Prop := w.ownsRow base 5 1 v l.length (l.map fun c => .int .u8 (c.toNat : Int))
theorem Tryz.infoStr : (Tryz.prog.info? 9).map (fun i => (i.zero, i.size, i.bytes)) = some (some (.string ⟨#[]⟩), 1, 16) := by kernel_rfl
set_option maxRecDepth 100000 in
theorem add_word (all : List ByteArray) (wd : List UInt8) (av wv : Value) (w : World) (base : Nat) (hl : all.length ≤ 30000) (hl2 : wd.length ≤ 30000) (hb : base ≤ w.heap.size) (ha : SwOwn w base av all) (hw : ByOwn w base wv wd) :
    Calls Tryz.prog 74 #[av, wv] w fun e w' => ∃ v', e = .returned v' ∧ SwOwn w' base v' (addW all wd) ∧ Apart w w' (vblocks av) ∧ ∀ b ∈ vblocks v', b ∈ vblocks av ∨ w.heap.size ≤ b := by
  have HA := hide ha
  have HW := hide hw
  obtain ⟨ap, ac, rfl⟩ := owns_shape ha
  obtain ⟨wp, wc, rfl⟩ := owns_shape hw
  by_cases hne : wd = []
  · subst hne
    clear ha hw
    go_enter Tryz.func74, Tryz.ntmps74
    go_wp2_with fail
    go_ret
    exact ⟨_, rfl, HA.out, (Apart.refl _).sub (by simp), fun b hb => .inl hb⟩
  · have hpos : 0 < wd.length := by cases wd with | nil => exact absurd rfl hne | cons a b => simp
    obtain ⟨g, hg⟩ : ∃ g, wp = some ⟨g, 0, none⟩ := by
      rcases hw.2 with ⟨e, h0⟩ | ⟨g, cap, cur, e, _⟩
      · omega
      · injection e with e1 e2 e3
        exact ⟨g, e1⟩
    subst hg
    have hcv : (convert 22 9 (.slice (some ⟨g, 0, none⟩) wd.length wc)).run Tryz.prog w = .ok (.string (ba wd)) w := by
      refine run_convert_bytes_back (P := Tryz.prog) w 22 9 5 ⟨g, 0, none⟩ wc wd Tryz.underlying22 Tryz.underlying5 Tryz.underlying9 (fun j hj => ?_)
      have := owns_cell hw rfl j (.int .u8 (wd[j].toNat : Int)) (by rw [List.getElem?_map, List.getElem?_eq_getElem hj]; rfl)
      have e : (⟨g, 0, none⟩ : Addr).add j = ⟨g, j, none⟩ := by unfold Addr.add; simp; omega
      rw [e]
      exact this
    obtain ⟨s, hs⟩ : ∃ s, ba wd = s := ⟨_, rfl⟩
    rw [hs] at hcv
    have HS := hide hs
    have HNE := hide hne
    have hnz : ¬ (wd.length : Int) = 0 := by omega
    obtain ⟨i0, hi, hz0, hz1, hz2⟩ := info_parts Tryz.infoStr
    have HI := hide (And.intro hi (And.intro hz0 (And.intro hz1 hz2)))
    clear hi hz0 hz1 hz2 ha hw hs hne
    go_enter Tryz.func74, Tryz.ntmps74
    go_wp2_with (at_builtin; refine wpList_append_own_at _ rfl (.tmp 9) (.tmp 12) 30 rfl base 9 i0 (.string ⟨#[]⟩) 1 16 Tryz.underlying30 HI.out.1 HI.out.2.1 HI.out.2.2.1 HI.out.2.2.2 rfl (by decide) (.slice ap all.length ac) all.length (all.map Value.string) rfl (owns_below HA.out (malloc1 _ _)) ⟨w.heap.size, 0, none⟩ 1 1 [.string s] rfl rfl (cell_one_new _ _ _) (by simp [Value.oneCell']) (by unfold maxLen; omega) (by omega) (by simp; omega) ?_; intro v7 w7 hown7 hgr7 _ hat7; have HR7 := hide (row_sub HA.out _ hown7 hgr7 hat7); have HO7 := hide hown7; obtain ⟨p7, c7, rfl⟩ := owns_shape hown7; clear hown7 hgr7 hat7)
    go_ret
    refine ⟨_, rfl, ?_, HR7.out.1, HR7.out.2⟩
    rw [add_some HNE.out, HS.out]
    unfold SwOwn
    rw [List.length_append, List.map_append]
    exact HO7.out
end Go.Proofs.YtmjlblbhakppfaaGreatDoor
/- The specification's reader: is, must, word. -/
namespace Go.Proofs.YtmjlblbhakppfaaGreatDoor
open Go.RowKit
set_option linter.unusedSimpArgs false
set_option linter.unusedVariables false

/-- the reader's cells -/
def srC (t : ByteArray) (at_ : Nat) (lv : Value) (part bad : Bool) : List Value := [.string t, .int .i64 (at_ : Int), lv, .bool part, .bool bad]
theorem ext_list (t : ByteArray) (a b : Nat) : (t.extract a b).toList = (t.toList.drop a).take (b - a) := by
  simp only [Go.ByteArray.toList_eq, ByteArray.data_extract, Array.toList_extract]
theorem pre_eq (x r : List UInt8) (h : x.length ≤ r.length) : x.isPrefixOf r = decide (r.take x.length = x) := by
  rw [Bool.eq_iff_iff, decide_eq_true_eq, List.isPrefixOf_iff_prefix, List.prefix_iff_eq_take]
  exact eq_comm
theorem apart_drewN (w : World) (n : Nat) : Apart w (w.drewN n) [] := ⟨rfl, rfl, rfl, Nat.le_refl _, fun _ _ _ => rfl⟩
/-- what is(x) tells, and where it stands then -/
def isQ (x : List UInt8) (t : ByteArray) (at_ : Nat) (bad : Bool) : Bool := !bad && x.isPrefixOf (t.toList.drop at_)
def isA (x : List UInt8) (t : ByteArray) (at_ : Nat) (bad : Bool) : Nat := if isQ x t at_ bad then at_ + x.length else at_
theorem pre_ext {x : List UInt8} {t : ByteArray} {at_ : Nat} (hl : at_ + x.length ≤ t.size) : x.isPrefixOf (t.toList.drop at_) = true ↔ t.extract at_ (at_ + x.length) = ba x := by
  have e : t.toList.length = t.size := by rw [Go.ByteArray.toList_eq]; rfl
  rw [pre_eq _ _ (by rw [List.length_drop]; omega), decide_eq_true_eq]
  have h1 : (t.toList.drop at_).take x.length = (t.extract at_ (at_ + x.length)).toList := by rw [ext_list]; congr 1; omega
  rw [h1]
  constructor
  · intro h
    apply tl_inj
    rw [h, ba_list]
  · intro h
    rw [h, ba_list]
set_option maxRecDepth 100000 in
set_option maxHeartbeats 1000000 in
theorem sr_is (x : List UInt8) (t : ByteArray) (at_ rb : Nat) (lv : Value) (part bad : Bool) (w : World) (hx : x.length ≤ 8000) (ht : t.size ≤ 8000) (hat : at_ ≤ t.size) (hb : BoxL w rb [.string t, .int .i64 (at_ : Int), lv, .bool part, .bool bad]) :
    Calls Tryz.prog 123 #[.pointer (some ⟨rb, 0, none⟩), .string (ba x)] w fun e w' => e = .returned (.bool (isQ x t at_ bad)) ∧ Apart w w' [rb] ∧ BoxL w' rb [.string t, .int .i64 (isA x t at_ bad : Int), lv, .bool part, .bool bad] := by
  have b0 := hb.cell 0 _ rfl
  have b1 := hb.cell 1 _ rfl
  have b4 := hb.cell 4 _ rfl
  have bz := hb.fz
  have hsz : (ba x).size = x.length := sz_ba x
  obtain ⟨X, hX⟩ : ∃ X, ba x = X := ⟨_, rfl⟩
  have HX := hide hX
  rw [hX] at hsz ⊢
  clear hX
  have HSZ := hide hsz
  have hsx : X.size ≤ 8000 := by omega
  have HA : Hid (isA x t at_ bad = if isQ x t at_ bad then at_ + X.size else at_) := hide (by rw [hsz]; rfl)
  obtain ⟨A, hA⟩ : ∃ A, isA x t at_ bad = A := ⟨_, rfl⟩
  rw [hA] at HA ⊢
  clear hA
  obtain ⟨q, hq⟩ : ∃ q, isQ x t at_ bad = q := ⟨_, rfl⟩
  have HQ := hide hq
  rw [hq] at HA ⊢
  cases bad
  · by_cases hl : at_ + x.length ≤ t.size
    · have hd : decide ((at_ : Int) + (X.size : Int) ≤ (t.size : Int)) = true := by rw [decide_eq_true_eq]; omega
      have hi : (at_ : Int) + (X.size : Int) ≤ (t.size : Int) := by omega
      have hpe := pre_ext hl
      rw [HX.out, ← hsz] at hpe
      by_cases he : t.extract at_ (at_ + X.size) = X
      · have hqt : q = true := by rw [← hq]; unfold isQ; rw [hpe.2 he]; rfl
        subst hqt
        clear hsz hx hl hq hpe
        go_enter Tryz.func123, Tryz.ntmps123
        go_wp2_with fail
        go_quiet (fail)
        go_wp2_with fail
        go_ret
        refine ⟨rfl, ((apart_drewN _ _).weak.setCell _ _), ?_⟩
        rw [HA.out]
        exact (hb.keep (apart_drewN w _) (by simp)).set 1 (by simp) _
      · have hqt : q = false := by rw [← hq]; unfold isQ; rw [Bool.eq_false_iff]; intro h; exact he (hpe.1 (by simpa using h))
        subst hqt
        have hdf : decide (t.extract at_ (at_ + X.size) = X) = false := by rw [decide_eq_false_iff_not]; exact he
        clear hsz hx hl hq hpe
        have HE := hide he
        go_enter Tryz.func123, Tryz.ntmps123
        go_wp2_with fail
        go_quiet (fail)
        go_wp2_with fail
        all_goals first
          | exact absurd (tl_inj (eq_of_beq ‹((t.extract at_ (at_ + X.size)).toList == X.toList) = true›)) HE.out
          | (go_ret
             refine ⟨rfl, (apart_drewN _ _).weak, ?_⟩
             rw [HA.out]
             exact hb.keep (apart_drewN w _) (by simp))

    · have hd : decide ((at_ : Int) + (X.size : Int) ≤ (t.size : Int)) = false := by rw [decide_eq_false_iff_not]; omega
      have hqt : q = false := by
        rw [← hq]; unfold isQ; rw [Bool.eq_false_iff]; intro h
        simp only [Bool.not_false, Bool.true_and] at h
        have := (List.isPrefixOf_iff_prefix.1 h).length_le
        have e : t.toList.length = t.size := by rw [Go.ByteArray.toList_eq]; rfl
        rw [List.length_drop] at this
        omega
      subst hqt
      clear hsz hx hl hq
      go_enter Tryz.func123, Tryz.ntmps123
      go_wp2_with fail
      go_quiet (fail)
      go_wp2_with fail
      go_ret
      refine ⟨rfl, (apart_drewN _ _).weak, ?_⟩
      rw [HA.out]
      exact hb.keep (apart_drewN w _) (by simp)
  · have hqt : q = false := by rw [← hq]; rfl
    subst hqt
    clear hq
    go_enter Tryz.func123, Tryz.ntmps123
    go_wp2_with fail
    go_region
    go_wp2_with fail
    go_ret
    refine ⟨rfl, ((Apart.refl _).sub (by simp)).drew, ?_⟩
    rw [HA.out]
    exact hb.keep (Apart.refl w).drew (by simp)
end Go.Proofs.YtmjlblbhakppfaaGreatDoor
/- The specification's reader: must, word. -/
namespace Go.Proofs.YtmjlblbhakppfaaGreatDoor
open Go.RowKit
set_option linter.unusedSimpArgs false
set_option linter.unusedVariables false

theorem sr_must (x : List UInt8) (t : ByteArray) (at_ rb : Nat) (lv : Value) (part bad : Bool) (w : World) (hx : x.length ≤ 8000) (ht : t.size ≤ 8000) (hat : at_ ≤ t.size) (hb : BoxL w rb [.string t, .int .i64 (at_ : Int), lv, .bool part, .bool bad]) :
    Calls Tryz.prog 122 #[.pointer (some ⟨rb, 0, none⟩), .string (ba x)] w fun e w' => e = .returned (.tuple #[]) ∧ Apart w w' [rb] ∧ BoxL w' rb [.string t, .int .i64 (isA x t at_ bad : Int), lv, .bool part, .bool (!isQ x t at_ bad)] := by
  have CI := hide (sr_is x t at_ rb lv part bad w hx ht hat hb)
  obtain ⟨X, hX⟩ : ∃ X, ba x = X := ⟨_, rfl⟩
  rw [hX] at CI ⊢
  clear hX
  obtain ⟨A, hA⟩ : ∃ A, isA x t at_ bad = A := ⟨_, rfl⟩
  rw [hA] at CI ⊢
  clear hA
  obtain ⟨q, hq⟩ : ∃ q, isQ x t at_ bad = q := ⟨_, rfl⟩
  have HQ := hide hq
  rw [hq] at CI ⊢
  clear hq hb
  cases q
  · go_enter Tryz.func122, Tryz.ntmps122
    go_wp2_with (go_at_call 123; refine CI.out.mono ?_; rintro e w1 ⟨rfl, ha1, hb1⟩; have HA1 := hide ha1; have HB1 := hide hb1; have b4 := hb1.cell 4 _ rfl; have bz := hb1.fz; clear ha1 hb1)
    go_end0
    exact ⟨rfl, (HA1.out.setCell _ _), HB1.out.set 4 (by simp) _⟩
  · have hbf : bad = false := by
      have := HQ.out
      unfold isQ at this
      cases bad
      · rfl
      · cases this
    subst hbf
    go_enter Tryz.func122, Tryz.ntmps122
    go_wp2_with (go_at_call 123; refine CI.out.mono ?_; rintro e w1 ⟨rfl, ha1, hb1⟩; have HA1 := hide ha1; have HB1 := hide hb1; have b4 := hb1.cell 4 _ rfl; have bz := hb1.fz; clear ha1 hb1)
    go_end0
    exact ⟨rfl, HA1.out, HB1.out⟩
theorem inW_dec (c : UInt8) : (decide (97 ≤ (c.toNat : Int)) && decide ((c.toNat : Int) ≤ 122) || decide (48 ≤ (c.toNat : Int)) && decide ((c.toNat : Int) ≤ 57) || decide ((c.toNat : Int) = 95)) = inW c := by
  unfold inW
  rw [Bool.eq_iff_iff]
  simp only [Bool.or_eq_true, Bool.and_eq_true, decide_eq_true_eq, beq_iff_eq]
  omega
theorem tk_end {r : List UInt8} {k : Nat} (h : ∀ c ∈ r.take k, inW c = true) (he : k = r.length ∨ ∃ c, r[k]? = some c ∧ inW c = false) : r.takeWhile inW = r.take k ∧ (r.takeWhile inW).length = min k r.length := by
  have e : r.takeWhile inW = r.take k := by
    induction r generalizing k with
    | nil => simp
    | cons a r ih =>
      cases k with
      | zero =>
        rcases he with h0 | ⟨c, hc, hw⟩
        · cases h0
        · simp at hc
          subst hc
          rw [List.takeWhile_cons, hw]
          rfl
      | succ k =>
        have h1 := h a (by simp)
        rw [List.takeWhile_cons, h1, List.take_succ_cons]
        simp only [if_true]
        rw [ih (k := k) (fun c hc => h c (by rw [List.take_succ_cons]; exact List.mem_cons_of_mem _ hc)) (by
          rcases he with h0 | ⟨c, hc, hw⟩
          · left; simpa using h0
          · right; exact ⟨c, by simpa using hc, hw⟩)]
  exact ⟨e, by rw [e, List.length_take]⟩
theorem tk_more {r : List UInt8} {k : Nat} {c : UInt8} (h : ∀ c ∈ r.take k, inW c = true) (hc : r[k]? = some c) (hw : inW c = true) : ∀ c ∈ r.take (k + 1), inW c = true := fun d hd => by
  obtain ⟨hk, e⟩ := List.getElem?_eq_some_iff.1 hc
  rw [List.take_succ_eq_append_getElem hk] at hd
  rcases List.mem_append.1 hd with hd | hd
  · exact h d hd
  · simp at hd
    rw [hd, e]
    exact hw
theorem drop_get {t : ByteArray} {at_ k P : Nat} (hP : at_ + k = P) (hlt : P < t.size) {c : UInt8} (h : t[P] = c) : (t.toList.drop at_)[k]? = some c := by
  rw [List.getElem?_drop, hP]
  have e : t.toList.length = t.size := by rw [Go.ByteArray.toList_eq]; rfl
  rw [List.getElem?_eq_getElem (by omega), ← h]
  simp only [Go.ByteArray.toList_eq]
  rfl
theorem wd_out {t : ByteArray} {at_ k P : Nat} (hP : at_ + k = P) (hle : P ≤ t.size) (h : ∀ c ∈ (t.toList.drop at_).take k, inW c = true) (he : P = t.size ∨ ∃ c, (t.toList.drop at_)[k]? = some c ∧ inW c = false) : t.extract at_ P = ba ((t.toList.drop at_).takeWhile inW) ∧ at_ + ((t.toList.drop at_).takeWhile inW).length = P := by
  have e : t.toList.length = t.size := by rw [Go.ByteArray.toList_eq]; rfl
  obtain ⟨h1, h2⟩ := tk_end h (by
    rcases he with he | he
    · left; rw [List.length_drop]; omega
    · exact .inr he)
  refine ⟨?_, by rw [h2, List.length_drop]; omega⟩
  apply tl_inj
  rw [ext_list, ba_list, h1]
  congr 1
  omega
theorem ap_step {w wr : World} {rb : Nat} (h : Apart w wr [rb]) (n : Nat) (y : Value) : Apart w ((wr.drewN n).setCell ⟨rb, 1, none⟩ y) [rb] := Apart.setCell (w' := wr.drewN n) ⟨h.os, h.tape, h.output, h.size, h.block⟩ 1 y
theorem bx_step {wr : World} {rb : Nat} {a b c d e : Value} (h : BoxL wr rb [a, b, c, d, e]) (n : Nat) (y : Value) : BoxL ((wr.drewN n).setCell ⟨rb, 1, none⟩ y) rb [a, y, c, d, e] := BoxL.set (w := wr.drewN n) (vs := [a, b, c, d, e]) ⟨h.cell, h.fz, h.lt⟩ 1 (by simp) y
def wdA (t : ByteArray) (at_ : Nat) : Nat := at_ + ((t.toList.drop at_).takeWhile inW).length
set_option maxRecDepth 100000 in
set_option maxHeartbeats 1000000 in
theorem sr_word (t : ByteArray) (at_ rb : Nat) (lv : Value) (part bad : Bool) (w : World) (ht : t.size ≤ 8000) (hat : at_ ≤ t.size) (hb : BoxL w rb [.string t, .int .i64 (at_ : Int), lv, .bool part, .bool bad]) :
    Calls Tryz.prog 121 #[.pointer (some ⟨rb, 0, none⟩)] w fun e w' => e = .returned (.string (ba ((t.toList.drop at_).takeWhile inW))) ∧ Apart w w' [rb] ∧ BoxL w' rb [.string t, .int .i64 (wdA t at_ : Int), lv, .bool part, .bool bad] := by
  have b1 := hb.cell 1 _ rfl
  have HB := hide hb
  clear hb
  go_enter Tryz.func121, Tryz.ntmps121
  go_wp2_with fail
  go_loopg [] t.size (fun gf wx => ∃ k, Apart w wx [rb] ∧ BoxL wx rb [.string t, .int .i64 ((at_ + k : Nat) : Int), lv, .bool part, .bool bad] ∧ at_ + k ≤ t.size ∧ (∀ c ∈ (t.toList.drop at_).take k, inW c = true) ∧ t.size ≤ at_ + k + gf)
  case atStart => exact ⟨0, (Apart.refl _).weak, HB.out, hat, by simp, by omega⟩
  case round =>
    obtain ⟨k, hA, hB, hk, hal, hfu⟩ := hrel
    obtain ⟨P, hP⟩ : ∃ P, at_ + k = P := ⟨_, rfl⟩
    have HP := hide hP
    rw [hP] at hB hk hfu
    have HAL := hide hal
    have HA := hide hA
    have HB := hide hB
    have c0 := hB.cell 0 _ rfl
    have c1 := hB.cell 1 _ rfl
    have bz := hB.fz
    clear hP hal hA hB
    by_cases hlt : P < t.size
    · obtain ⟨g', rfl⟩ : ∃ g', gk = g' + 1 := ⟨gk - 1, by omega⟩
      go_wp2_with fail
      go_quiet (fail)
      go_wp2_with fail
      go_quiet (fail)
      obtain ⟨cc, hcc⟩ : ∃ cc, t[P] = cc := ⟨_, rfl⟩
      rw [hcc]
      have HCC := hide hcc
      clear hcc
      have hc8 := cc.toNat_lt
      go_wp2_with fail
      all_goals first
        | (have hw : inW cc = true := by
             clear HA HB HAL HP HCC c0 c1 bz
             cases hv : inW cc
             · exfalso
               rw [← inW_dec] at hv
               simp only [Bool.or_eq_false_iff, Bool.and_eq_false_iff, decide_eq_false_iff_not, Bool.not_eq_true', Bool.not_eq_false', decide_eq_true_eq, beq_iff_eq, beq_eq_false_iff_ne, ne_eq] at *
               omega
             · rfl
           go_roundg g'
           case measure => omega
           case rel =>
             have hP := HP.out
             refine ⟨k + 1, ap_step HA.out _ _, ?_, by omega, tk_more HAL.out (drop_get hP hlt HCC.out) hw, by omega⟩
             rw [show ((at_ + (k + 1) : Nat) : Int) = (P : Int) + 1 by omega]
             exact bx_step HB.out _ _)
        | (have hw : inW cc = false := by
             clear HA HB HAL HP HCC c0 c1 bz
             cases hv : inW cc
             · rfl
             · exfalso
               rw [← inW_dec] at hv
               simp only [Bool.or_eq_true, Bool.and_eq_true, decide_eq_false_iff_not, Bool.not_eq_true', Bool.not_eq_false', decide_eq_true_eq, beq_iff_eq, beq_eq_false_iff_ne, ne_eq] at *
               omega
           obtain ⟨w1, w2⟩ := wd_out HP.out hk HAL.out (.inr ⟨cc, drop_get HP.out hlt HCC.out, hw⟩)
           have hP : at_ ≤ P := by have := HP.out; omega
           have HW1 := hide w1
           have HW2 := hide w2
           clear w1 w2
           go_quiet (fail)
           go_wp2_with fail
           go_ret
           refine ⟨ret_str HW1.out.symm, ⟨HA.out.os, HA.out.tape, HA.out.output, HA.out.size, HA.out.block⟩, ?_⟩
           unfold wdA
           rw [HW2.out]
           exact ⟨HB.out.cell, HB.out.fz, HB.out.lt⟩)
    · go_wp2_with fail
      go_quiet (fail)
      go_wp2_with fail
      go_quiet (fail)
      go_wp2_with fail
      obtain ⟨w1, w2⟩ := wd_out HP.out hk HAL.out (.inl (by omega))
      go_ret
      refine ⟨ret_str w1.symm, ⟨HA.out.os, HA.out.tape, HA.out.output, HA.out.size, HA.out.block⟩, ?_⟩
      unfold wdA
      rw [w2]
      exact ⟨HB.out.cell, HB.out.fz, HB.out.lt⟩
end Go.Proofs.YtmjlblbhakppfaaGreatDoor
