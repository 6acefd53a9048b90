import Derived.Test.YtmjlblbhakppfaaGreatDoorQP19
import Derived.Test.YtmjlblbhakppfaaGreatDoorQP21
import Derived.Test.YtmjlblbhakppfaaGreatDoorQP15
import Derived.Test.YtmjlblbhakppfaaGreatDoorQP14
namespace Go.Proofs.YtmjlblbhakppfaaGreatDoor
open Go.RowKit

def talkW (x : ByteArray) (ms : List ByteArray) : Nd × List ByteArray := match skM [62] ms with
  | some m2 => (⟨3, x, hdM m2, 0, 0⟩, m2.tail)
  | none => match skM [33] ms with
    | some m2 => (⟨5, noT, x, 0, 0⟩, m2)
    | none => match skM [63] ms with
      | some m2 => (⟨6, noT, x, 0, 0⟩, m2)
      | none => (⟨1, x, noT, 0, 0⟩, ms)
theorem set5_ap (w : World) (b : Nat) (y0 y1 y2 y3 y4 : Value) : Apart w (((((w.setCell ⟨b, 0, none⟩ y0).setCell ⟨b, 1, none⟩ y1).setCell ⟨b, 2, none⟩ y2).setCell ⟨b, 3, none⟩ y3).setCell ⟨b, 4, none⟩ y4) [b] :=
  Apart.setCell (Apart.setCell (Apart.setCell (Apart.setCell (setCell_apart w b 0 y0) 1 y1) 2 y2) 3 y3) 4 y4
theorem set5_bx {w : World} {b : Nat} {a0 a1 a2 a3 a4 : Value} (h : BoxL w b [a0, a1, a2, a3, a4]) (y0 y1 y2 y3 y4 : Value) : BoxL (((((w.setCell ⟨b, 0, none⟩ y0).setCell ⟨b, 1, none⟩ y1).setCell ⟨b, 2, none⟩ y2).setCell ⟨b, 3, none⟩ y3).setCell ⟨b, 4, none⟩ y4) b [y0, y1, y2, y3, y4] :=
  ((((h.set 0 (by simp) y0).set 1 (by simp) y1).set 2 (by simp) y2).set 3 (by simp) y3).set 4 (by simp) y4
set_option maxRecDepth 100000 in
set_option maxHeartbeats 1000000 in
theorem m_talk (x : ByteArray) (ms : List ByteArray) (w : World) (mb tb : Nat) (htb : tb < w.heap.size) (h : MsAt w mb tb ms) :
    Calls Tryz.prog 71 #[.pointer (some ⟨mb, 0, none⟩), .string x] w fun e w' => e = .returned (talkW x ms).1.val ∧ MsAt w' mb tb (talkW x ms).2 ∧ Apart w w' [mb] := by
  have H := hide h
  have HTB := hide htb
  have HBM : Hid (mb < w.heap.size) := hide (by obtain ⟨_, _, hb, _⟩ := h.at_; exact hb.lt)
  have HX := hide (BoxL.new w [.int .i64 0, .string ⟨#[]⟩, .string ⟨#[]⟩, .int .i64 0, .int .i64 0] 45)
  have HS : Hid (∀ (t : List UInt8) (s : ByteArray) (ms : List ByteArray) (W : World), s = ba t → MsAt W mb tb ms → Calls Tryz.prog 70 #[.pointer (some ⟨mb, 0, none⟩), .string s] W fun e w' => e = .returned (.bool (skM t ms).isSome) ∧ MsAt w' mb tb ((skM t ms).getD ms) ∧ Apart W w' [mb]) := hide (fun t s ms W hs hm => by rw [hs]; exact m_skip t ms W mb tb hm)
  clear h htb
  have HNE : Hid (w.heap.size ∉ [mb]) := hide (by have := HBM.out; simp; omega)
  have H0 : Hid (MsAt (w.alloc (.cells #[.int .i64 0, .string ⟨#[]⟩, .string ⟨#[]⟩, .int .i64 0, .int .i64 0] 45)) mb tb ms) := hide (H.out.below (malloc1 _ _))
  unfold talkW
  cases h1 : skM [62] ms with
  | some m2 =>
    have H1 := hide h1
    clear h1
    go_enter Tryz.func71, Tryz.ntmps71
    go_wp2_with (first
      | (go_at_call 69; refine (m_take m2 _ mb tb HM1.out).mono ?_; rintro e w2 ⟨rfl, hm2, ha2⟩; have HM2 := hide hm2; have HA2 := hide ha2; have HX2 := hide (HX1.out.keep ha2 HNE.out); have z0 := HX2.out.cell 0 _ rfl; have z1 := HX2.out.cell 1 _ rfl; have z2 := HX2.out.cell 2 _ rfl; have z3 := HX2.out.cell 3 _ rfl; have z4 := HX2.out.cell 4 _ rfl; have fz := HX2.out.fz; clear hm2 ha2)
      | (go_at_call 70; refine (HS.out [62] _ ms _ rfl H0.out).mono ?_; rw [H1.out]; rintro e w1 ⟨rfl, hm1, ha1⟩; have HM1 : Hid (MsAt w1 mb tb m2) := hide hm1; have HA1 := hide ha1; have HX1 := hide (HX.out.keep ha1 HNE.out); clear hm1 ha1))
    have hX := set5_bx HX2.out (.int .i64 3) (.string x) (.string (hdM m2)) (.int .i64 0) (.int .i64 0)
    have hA5 := set5_ap w2 w.heap.size (.int .i64 3) (.string x) (.string (hdM m2)) (.int .i64 0) (.int .i64 0)
    obtain ⟨W, hW⟩ : ∃ W, W = (((((w2.setCell ⟨w.heap.size, 0, none⟩ (.int .i64 3)).setCell ⟨w.heap.size, 1, none⟩ (.string x)).setCell ⟨w.heap.size, 2, none⟩ (.string (hdM m2))).setCell ⟨w.heap.size, 3, none⟩ (.int .i64 0)).setCell ⟨w.heap.size, 4, none⟩ (.int .i64 0)) := ⟨_, rfl⟩
    rw [← hW] at hX hA5 ⊢
    clear hW
    have k0 := hX.cell 0 _ rfl
    have k1 := hX.cell 1 _ rfl
    have k2 := hX.cell 2 _ rfl
    have k3 := hX.cell 3 _ rfl
    have k4 := hX.cell 4 _ rfl
    have hAll := (((below_apart (malloc1 w (.cells #[.int .i64 0, .string ⟨#[]⟩, .string ⟨#[]⟩, .int .i64 0, .int .i64 0] 45))).trans HA1.out).trans HA2.out).trans hA5
    have hbm := HBM.out
    have htb := HTB.out
    refine bodyPost_ret_by (v := .agg #[.int .i64 3, .string x, .string (hdM m2), .int .i64 0, .int .i64 0]) ?_ rfl ⟨rfl, HM2.out.keep hA5 (by simp; omega) (by simp; omega), ⟨hAll.os, hAll.tape, hAll.output, hAll.size, fun b hb hn => hAll.block b hb (by simp at hn ⊢; omega)⟩⟩
    unfold results
    go_simp
  | none =>
    have H1 := hide h1
    clear h1
    cases h2 : skM [33] ms with
    | some m2 =>
      have H2 := hide h2
      clear h2
      go_enter Tryz.func71, Tryz.ntmps71
      go_wp2_with (first
        | (go_at_call 70; (fail_if_success (have := HA2)); refine (HS.out [33] _ ms _ rfl HM1.out).mono ?_; rw [H2.out]; rintro e w2 ⟨rfl, hm2, ha2⟩; have HM2 : Hid (MsAt w2 mb tb m2) := hide hm2; have HA2 := hide ha2; have HX2 := hide (HX1.out.keep ha2 HNE.out); have z0 := HX2.out.cell 0 _ rfl; have z1 := HX2.out.cell 1 _ rfl; have z2 := HX2.out.cell 2 _ rfl; have z3 := HX2.out.cell 3 _ rfl; have z4 := HX2.out.cell 4 _ rfl; have fz := HX2.out.fz; clear hm2 ha2)
        | (go_at_call 70; (fail_if_success (have := HA1)); refine (HS.out [62] _ ms _ rfl H0.out).mono ?_; rw [H1.out]; rintro e w1 ⟨rfl, hm1, ha1⟩; have HM1 : Hid (MsAt w1 mb tb ms) := hide hm1; have HA1 := hide ha1; have HX1 := hide (HX.out.keep ha1 HNE.out);  clear hm1 ha1))
      have hX := set5_bx HX2.out (.int .i64 5) (.string ⟨#[]⟩) (.string x) (.int .i64 0) (.int .i64 0)
      have hA5 := set5_ap w2 w.heap.size (.int .i64 5) (.string ⟨#[]⟩) (.string x) (.int .i64 0) (.int .i64 0)
      obtain ⟨W, hW⟩ : ∃ W, W = (((((w2.setCell ⟨w.heap.size, 0, none⟩ (.int .i64 5)).setCell ⟨w.heap.size, 1, none⟩ (.string ⟨#[]⟩)).setCell ⟨w.heap.size, 2, none⟩ (.string x)).setCell ⟨w.heap.size, 3, none⟩ (.int .i64 0)).setCell ⟨w.heap.size, 4, none⟩ (.int .i64 0)) := ⟨_, rfl⟩
      rw [← hW] at hX hA5 ⊢
      clear hW
      have k0 := hX.cell 0 _ rfl
      have k1 := hX.cell 1 _ rfl
      have k2 := hX.cell 2 _ rfl
      have k3 := hX.cell 3 _ rfl
      have k4 := hX.cell 4 _ rfl
      have hAll := (((below_apart (malloc1 w (.cells #[.int .i64 0, .string ⟨#[]⟩, .string ⟨#[]⟩, .int .i64 0, .int .i64 0] 45))).trans HA1.out).trans HA2.out).trans hA5
      have hbm := HBM.out
      have htb := HTB.out
      refine bodyPost_ret_by (v := .agg #[.int .i64 5, .string ⟨#[]⟩, .string x, .int .i64 0, .int .i64 0]) ?_ rfl ⟨rfl, HM2.out.keep hA5 (by simp; omega) (by simp; omega), ⟨hAll.os, hAll.tape, hAll.output, hAll.size, fun b hb hn => hAll.block b hb (by simp at hn ⊢; omega)⟩⟩
      unfold results
      go_simp
    | none =>
      have H2 := hide h2
      clear h2
      cases h3 : skM [63] ms with
      | some m2 =>
        have H3 := hide h3
        clear h3
        go_enter Tryz.func71, Tryz.ntmps71
        go_wp2_with (first
          | (go_at_call 70; (fail_if_success (have := HA3)); refine (HS.out [63] _ ms _ rfl HM2.out).mono ?_; rw [H3.out]; rintro e w3 ⟨rfl, hm3, ha3⟩; have HM3 : Hid (MsAt w3 mb tb m2) := hide hm3; have HA3 := hide ha3; have HX3 := hide (HX2.out.keep ha3 HNE.out); have z0 := HX3.out.cell 0 _ rfl; have z1 := HX3.out.cell 1 _ rfl; have z2 := HX3.out.cell 2 _ rfl; have z3 := HX3.out.cell 3 _ rfl; have z4 := HX3.out.cell 4 _ rfl; have fz := HX3.out.fz; clear hm3 ha3)
          | (go_at_call 70; (fail_if_success (have := HA2)); refine (HS.out [33] _ ms _ rfl HM1.out).mono ?_; rw [H2.out]; rintro e w2 ⟨rfl, hm2, ha2⟩; have HM2 : Hid (MsAt w2 mb tb ms) := hide hm2; have HA2 := hide ha2; have HX2 := hide (HX1.out.keep ha2 HNE.out);  clear hm2 ha2)
          | (go_at_call 70; (fail_if_success (have := HA1)); refine (HS.out [62] _ ms _ rfl H0.out).mono ?_; rw [H1.out]; rintro e w1 ⟨rfl, hm1, ha1⟩; have HM1 : Hid (MsAt w1 mb tb ms) := hide hm1; have HA1 := hide ha1; have HX1 := hide (HX.out.keep ha1 HNE.out);  clear hm1 ha1))
        have hX := set5_bx HX3.out (.int .i64 6) (.string ⟨#[]⟩) (.string x) (.int .i64 0) (.int .i64 0)
        have hA5 := set5_ap w3 w.heap.size (.int .i64 6) (.string ⟨#[]⟩) (.string x) (.int .i64 0) (.int .i64 0)
        obtain ⟨W, hW⟩ : ∃ W, W = (((((w3.setCell ⟨w.heap.size, 0, none⟩ (.int .i64 6)).setCell ⟨w.heap.size, 1, none⟩ (.string ⟨#[]⟩)).setCell ⟨w.heap.size, 2, none⟩ (.string x)).setCell ⟨w.heap.size, 3, none⟩ (.int .i64 0)).setCell ⟨w.heap.size, 4, none⟩ (.int .i64 0)) := ⟨_, rfl⟩
        rw [← hW] at hX hA5 ⊢
        clear hW
        have k0 := hX.cell 0 _ rfl
        have k1 := hX.cell 1 _ rfl
        have k2 := hX.cell 2 _ rfl
        have k3 := hX.cell 3 _ rfl
        have k4 := hX.cell 4 _ rfl
        have hAll := ((((below_apart (malloc1 w (.cells #[.int .i64 0, .string ⟨#[]⟩, .string ⟨#[]⟩, .int .i64 0, .int .i64 0] 45))).trans HA1.out).trans HA2.out).trans HA3.out).trans hA5
        have hbm := HBM.out
        have htb := HTB.out
        refine bodyPost_ret_by (v := .agg #[.int .i64 6, .string ⟨#[]⟩, .string x, .int .i64 0, .int .i64 0]) ?_ rfl ⟨rfl, HM3.out.keep hA5 (by simp; omega) (by simp; omega), ⟨hAll.os, hAll.tape, hAll.output, hAll.size, fun b hb hn => hAll.block b hb (by simp at hn ⊢; omega)⟩⟩
        unfold results
        go_simp
      | none =>
        have H3 := hide h3
        clear h3
        go_enter Tryz.func71, Tryz.ntmps71
        go_wp2_with (first
          | (go_at_call 70; (fail_if_success (have := HA3)); refine (HS.out [63] _ ms _ rfl HM2.out).mono ?_; rw [H3.out]; rintro e w3 ⟨rfl, hm3, ha3⟩; have HM3 : Hid (MsAt w3 mb tb ms) := hide hm3; have HA3 := hide ha3; have HX3 := hide (HX2.out.keep ha3 HNE.out); have z0 := HX3.out.cell 0 _ rfl; have z1 := HX3.out.cell 1 _ rfl; have z2 := HX3.out.cell 2 _ rfl; have z3 := HX3.out.cell 3 _ rfl; have z4 := HX3.out.cell 4 _ rfl; have fz := HX3.out.fz; clear hm3 ha3)
          | (go_at_call 70; (fail_if_success (have := HA2)); refine (HS.out [33] _ ms _ rfl HM1.out).mono ?_; rw [H2.out]; rintro e w2 ⟨rfl, hm2, ha2⟩; have HM2 : Hid (MsAt w2 mb tb ms) := hide hm2; have HA2 := hide ha2; have HX2 := hide (HX1.out.keep ha2 HNE.out);  clear hm2 ha2)
          | (go_at_call 70; (fail_if_success (have := HA1)); refine (HS.out [62] _ ms _ rfl H0.out).mono ?_; rw [H1.out]; rintro e w1 ⟨rfl, hm1, ha1⟩; have HM1 : Hid (MsAt w1 mb tb ms) := hide hm1; have HA1 := hide ha1; have HX1 := hide (HX.out.keep ha1 HNE.out);  clear hm1 ha1))
        have hX := set5_bx HX3.out (.int .i64 1) (.string x) (.string ⟨#[]⟩) (.int .i64 0) (.int .i64 0)
        have hA5 := set5_ap w3 w.heap.size (.int .i64 1) (.string x) (.string ⟨#[]⟩) (.int .i64 0) (.int .i64 0)
        obtain ⟨W, hW⟩ : ∃ W, W = (((((w3.setCell ⟨w.heap.size, 0, none⟩ (.int .i64 1)).setCell ⟨w.heap.size, 1, none⟩ (.string x)).setCell ⟨w.heap.size, 2, none⟩ (.string ⟨#[]⟩)).setCell ⟨w.heap.size, 3, none⟩ (.int .i64 0)).setCell ⟨w.heap.size, 4, none⟩ (.int .i64 0)) := ⟨_, rfl⟩
        rw [← hW] at hX hA5 ⊢
        clear hW
        have k0 := hX.cell 0 _ rfl
        have k1 := hX.cell 1 _ rfl
        have k2 := hX.cell 2 _ rfl
        have k3 := hX.cell 3 _ rfl
        have k4 := hX.cell 4 _ rfl
        have hAll := ((((below_apart (malloc1 w (.cells #[.int .i64 0, .string ⟨#[]⟩, .string ⟨#[]⟩, .int .i64 0, .int .i64 0] 45))).trans HA1.out).trans HA2.out).trans HA3.out).trans hA5
        have hbm := HBM.out
        have htb := HTB.out
        refine bodyPost_ret_by (v := .agg #[.int .i64 1, .string x, .string ⟨#[]⟩, .int .i64 0, .int .i64 0]) ?_ rfl ⟨rfl, HM3.out.keep hA5 (by simp; omega) (by simp; omega), ⟨hAll.os, hAll.tape, hAll.output, hAll.size, fun b hb hn => hAll.block b hb (by simp at hn ⊢; omega)⟩⟩
        unfold results
        go_simp
set_option maxRecDepth 100000 in
theorem m_sort (x : ByteArray) (w : World) (hw : SortW w) :
    Calls Tryz.prog 72 #[.string x] w fun e w' => e = .returned (.int .i64 (sortI x)) ∧ w' = w := by
  obtain ⟨c0, c1, c2⟩ := hw
  obtain ⟨s0, hs0⟩ : ∃ s, ba [110, 111, 110, 101] = s := ⟨_, rfl⟩
  obtain ⟨s1, hs1⟩ : ∃ s, ba [105, 110, 116] = s := ⟨_, rfl⟩
  obtain ⟨s2, hs2⟩ : ∃ s, ba [116, 101, 120, 116] = s := ⟨_, rfl⟩
  rw [hs0] at c0
  rw [hs1] at c1
  rw [hs2] at c2
  have HS : Hid (∀ t s, ba t = s → ((s.toList == x.toList) = (x.toList == t))) := hide (fun t s h => by rw [← h, ba_list, Bool.beq_comm])
  obtain ⟨q0, hq0⟩ : ∃ q, (s0.toList == x.toList) = q := ⟨_, rfl⟩
  obtain ⟨q1, hq1⟩ : ∃ q, (s1.toList == x.toList) = q := ⟨_, rfl⟩
  obtain ⟨q2, hq2⟩ : ∃ q, (s2.toList == x.toList) = q := ⟨_, rfl⟩
  have HI : Hid (sortI x = if q0 then 0 else if q1 then 1 else if q2 then 2 else -1) := hide (by
    unfold sortI
    rw [← HS.out _ _ hs0, ← HS.out _ _ hs1, ← HS.out _ _ hs2, hq0, hq1, hq2])
  clear HS hs0 hs1 hs2
  have i0 : ∀ (a b c : ByteArray) (W : World), (Instr.index 124 (.agg #[.string a, .string b, .string c]) (.int .i64 0)).run Tryz.prog W = .ok (.string a) W := fun a b c W => by kernel_rfl
  have i1 : ∀ (a b c : ByteArray) (W : World), (Instr.index 124 (.agg #[.string a, .string b, .string c]) (.int .i64 1)).run Tryz.prog W = .ok (.string b) W := fun a b c W => by kernel_rfl
  have i2 : ∀ (a b c : ByteArray) (W : World), (Instr.index 124 (.agg #[.string a, .string b, .string c]) (.int .i64 2)).run Tryz.prog W = .ok (.string c) W := fun a b c W => by kernel_rfl
  go_enter Tryz.func72, Tryz.ntmps72
  go_wp2_with fail
  go_loopw [6] (fun i wr => wr = w ∧ (i = .int .i64 0 ∨ (i = .int .i64 1 ∧ q0 = false) ∨ (i = .int .i64 2 ∧ q0 = false ∧ q1 = false) ∨ (i = .int .i64 3 ∧ q0 = false ∧ q1 = false ∧ q2 = false))) (fun i _ => 3 - (intOf i).toNat)
  case atStart => exact ⟨rfl, .inl rfl⟩
  case round =>
    obtain ⟨rfl, rfl | ⟨rfl, e0⟩ | ⟨rfl, e0, e1⟩ | ⟨rfl, e0, e1, e2⟩⟩ := hrel
    · cases q0
      · go_wp2_with fail
        go_roundw
        case rel => refine ⟨?_, .inr (.inl ⟨rfl, ?_⟩)⟩ <;> first | trivial | rfl
        case measure => simp [intOf]
      · go_wp2_with fail
        go_ret
        exact ⟨ret_int (by rw [HI.out]; rfl), rfl⟩
    · subst e0
      cases q1
      · go_wp2_with fail
        go_roundw
        case rel => refine ⟨?_, .inr (.inr (.inl ⟨rfl, ?_, ?_⟩))⟩ <;> first | trivial | rfl
        case measure => simp [intOf]
      · go_wp2_with fail
        go_ret
        exact ⟨ret_int (by rw [HI.out]; rfl), rfl⟩
    · subst e0 e1
      cases q2
      · go_wp2_with fail
        go_roundw
        case rel => refine ⟨?_, .inr (.inr (.inr ⟨rfl, ?_, ?_, ?_⟩))⟩ <;> first | trivial | rfl
        case measure => simp [intOf]
      · go_wp2_with fail
        go_ret
        exact ⟨ret_int (by rw [HI.out]; rfl), rfl⟩
    · subst e0 e1 e2
      go_wp2_with fail
      go_ret
      exact ⟨ret_int (by rw [HI.out]; rfl), rfl⟩
end Go.Proofs.YtmjlblbhakppfaaGreatDoor
namespace Go.Proofs.YtmjlblbhakppfaaGreatDoor
open Go.RowKit

theorem itext_calls (part : Bool) (f : Nat) : ITextCalls part f := by
  induction f with
  | zero =>
    intro st l r v w B hlen hst h40 hr hB hv hsw
    obtain ⟨ao, cap, rfl, hc1, hc2, hrow⟩ := hv
    cases l with
    | nil => cases hr
    | cons n l1 =>
      obtain ⟨b, o, rfl, hbB, hrow⟩ := hrow (by simp)
      obtain ⟨op, name, peer, many, sort⟩ := n
      by_cases o0 : op = 0
      · subst o0
        by_cases h1 : cap = 1
        · exact itext0_a part 0 st name peer many sort l1 r w B b o cap hlen hst h40 hr hB hbB hc1 hc2 h1 hrow hsw
        · exact itext0_b part 0 st name peer many sort l1 r w B b o cap hlen hst h40 hr hB hbB hc1 hc2 h1 hrow hsw
      · by_cases o1 : op = 1
        · subst o1
          by_cases h1 : cap = 1
          · exact itext1_a part 0 st name peer many sort l1 r w B b o cap hlen hst h40 hr hB hbB hc1 hc2 h1 hrow hsw
          · exact itext1_b part 0 st name peer many sort l1 r w B b o cap hlen hst h40 hr hB hbB hc1 hc2 h1 hrow hsw
        · rw [ahead_t0 o0 o1] at hr; cases hr
  | succ f ih =>
    intro st l r v w B hlen hst h40 hr hB hv hsw
    have hih : ∀ g, f + 1 = g + 1 → ITextCalls part g := fun g h => by cases h; exact ih
    obtain ⟨ao, cap, rfl, hc1, hc2, hrow⟩ := hv
    cases l with
    | nil => cases hr
    | cons n l1 =>
      obtain ⟨b, o, rfl, hbB, hrow⟩ := hrow (by simp)
      obtain ⟨op, name, peer, many, sort⟩ := n
      by_cases o0 : op = 0
      · subst o0
        by_cases h1 : cap = 1
        · exact itext0_a part (f + 1) st name peer many sort l1 r w B b o cap hlen hst h40 hr hB hbB hc1 hc2 h1 hrow hsw
        · exact itext0_b part (f + 1) st name peer many sort l1 r w B b o cap hlen hst h40 hr hB hbB hc1 hc2 h1 hrow hsw
      · by_cases o1 : op = 1
        · subst o1
          by_cases h1 : cap = 1
          · exact itext1_a part (f + 1) st name peer many sort l1 r w B b o cap hlen hst h40 hr hB hbB hc1 hc2 h1 hrow hsw
          · exact itext1_b part (f + 1) st name peer many sort l1 r w B b o cap hlen hst h40 hr hB hbB hc1 hc2 h1 hrow hsw
        · by_cases o2 : op = 2
          · subst o2
            by_cases h1 : cap = 1
            · exact itext2_a part (f + 1) hih st name peer many sort l1 r w B b o cap hlen hst h40 hr hB hbB hc1 hc2 h1 hrow hsw
            · exact itext2_b part (f + 1) hih st name peer many sort l1 r w B b o cap hlen hst h40 hr hB hbB hc1 hc2 h1 hrow hsw
          · by_cases o3 : op = 3
            · subst o3
              by_cases h1 : cap = 1
              · exact itext3_a part (f + 1) hih st name peer many sort l1 r w B b o cap hlen hst h40 hr hB hbB hc1 hc2 h1 hrow hsw
              · exact itext3_b part (f + 1) hih st name peer many sort l1 r w B b o cap hlen hst h40 hr hB hbB hc1 hc2 h1 hrow hsw
            · by_cases o5 : op = 5
              · subst o5
                by_cases h1 : cap = 1
                · exact itext5_a part (f + 1) hih st name peer many sort l1 r w B b o cap hlen hst h40 hr hB hbB hc1 hc2 h1 hrow hsw
                · exact itext5_b part (f + 1) hih st name peer many sort l1 r w B b o cap hlen hst h40 hr hB hbB hc1 hc2 h1 hrow hsw
              · by_cases o6 : op = 6
                · subst o6
                  by_cases h1 : cap = 1
                  · exact itext6_a part (f + 1) hih st name peer many sort l1 r w B b o cap hlen hst h40 hr hB hbB hc1 hc2 h1 hrow hsw
                  · exact itext6_b part (f + 1) hih st name peer many sort l1 r w B b o cap hlen hst h40 hr hB hbB hc1 hc2 h1 hrow hsw
                · exfalso
                  rw [ahead_x o0 o1 o2 (by cases part <;> simp [talkS, o3, o5, o6])] at hr
                  cases hr

theorem part_text (ns : List Nd) (v : Value) (w : World) (fit : ∀ n ∈ ns, n.fit) (hv : SlAt w w.heap.size v ns) (hsw : SortW w) :
    Calls Tryz.prog 23 #[v] w fun e w' => e = .returned (.string (textV true ns)) ∧ Below w.heap.size w w' := by
  have HV := hide hv
  have HF := hide fit
  have HSW := hide hsw
  obtain ⟨ao, cap, rfl, hc, hm, hr⟩ := hv
  obtain ⟨rb, hrb⟩ : ∃ rb, rightB true ns = rb := ⟨_, rfl⟩
  have HRB := hide hrb
  clear hr fit hrb hsw
  cases rb
  · have HE : Hid (textV true ns = ⟨#[]⟩) := hide (by rw [textV, HRB.out]; rfl)
    go_enter Tryz.func23, Tryz.ntmps23
    go_wp2_with (go_at_call 30; refine (part_right ns _ _ HF.out HV.out).mono ?_; rintro e w1 ⟨rfl, hb1⟩; rw [HRB.out]; have HB1 := hide hb1; clear hb1)
    go_ret
    exact ⟨ret_str HE.out, HB1.out⟩
  · have HE : Hid (textV true ns = (textF 10 ns).1) := hide (by rw [textV, HRB.out]; rfl)
    have HAH := hide (right_ahead HRB.out)
    go_enter Tryz.func23, Tryz.ntmps23
    go_wp2_with (first | (go_at_call 30; refine (part_right ns _ _ HF.out HV.out).mono ?_; rintro e w1 ⟨rfl, hb1⟩; rw [HRB.out]; have HB1 := hide hb1; clear hb1) | (go_at_call 38; refine (itext_calls true 10 [] ns [] _ _ w.heap.size rfl (fun _ h => by cases h) HAH.out.2 HAH.out.1 HB1.out.size (HV.out.carry HB1.out) (HSW.out.carry HB1.out)).mono ?_; rintro e w2 ⟨⟨v2, rfl, hs2⟩, hb2⟩; have HB2 := hide hb2; clear hb2 hs2))
    go_ret
    exact ⟨ret_str HE.out, HB1.out.trans (HB2.out.mono HB1.out.size)⟩

theorem s_partText (ns : List Nd) (v : Value) (w : World) (fit : ∀ n ∈ ns, n.fit) (hv : SlAt w w.heap.size v ns) :
    Calls Tryz.prog 29 #[v] w fun e w' => e = .returned (.string (textV true ns)) ∧ Below w.heap.size w w' := by
  have HV := hide hv
  have HF := hide fit
  obtain ⟨ao, cap, rfl, hc, hm, hr⟩ := hv
  clear hr fit hc hm
  go_enter Tryz.func29, Tryz.ntmps29
  go_wp2_with (go_at_call 46; refine (s_whole true ns _ _ HF.out HV.out).mono ?_; rintro e w1 ⟨rfl, hb1⟩; have HB1 := hide hb1; clear hb1)
  go_ret
  exact ⟨rfl, HB1.out⟩
end Go.Proofs.YtmjlblbhakppfaaGreatDoor
