/- NetBytes of the program. -/
import Derived.Test.YtbilbpmbegoibaaNetBS
import Derived.Test.YtbilbpmbegoibaaNetJ
namespace Go.Proofs.Ytbilbpmbegoibaa
open Go.RowKit
attribute [local go_sem ↓] Go.wp_at_zero Go.wp_at_succ

set_option maxRecDepth 100000 in
set_option maxHeartbeats 1000000 in
theorem sealed_msg {m : RMsg} {s : ByteArray} (hs : sealS (msgP m) = s) (hm : msgB m = true) (w : World) :
    Calls Try.prog 49 #[m.val] w fun e w' => e = .returned (.string s) ∧ Below w.heap.size w w' := by
  obtain ⟨n1, n2, n3, n4, n5⟩ := msg_name hm
  have hz := msgP_size hm
  have HSO := hide (show -9223372036854775808 ≤ m.sort ∧ m.sort ≤ 9223372036854775807 from ⟨by omega, by omega⟩)
  obtain ⟨s1, hs1⟩ : ∃ s, textS m.frm = s := ⟨_, rfl⟩
  obtain ⟨s2, hs2⟩ : ∃ s, textS m.to = s := ⟨_, rfl⟩
  obtain ⟨s3, hs3⟩ : ∃ s, textS m.label = s := ⟨_, rfl⟩
  obtain ⟨s4, hs4⟩ : ∃ s, putS m.sort = s := ⟨_, rfl⟩
  have hz1 : s1.size ≤ 30 := by rw [← hs1]; exact textS_size _ (name_short n1)
  have hz2 : s2.size ≤ 30 := by rw [← hs2]; exact textS_size _ (name_short n2)
  have hz3 : s3.size ≤ 30 := by rw [← hs3]; exact textS_size _ (name_short n3)
  have hz4 : s4.size ≤ 10 := by rw [← hs4]; exact putS_size _
  have HP : Hid (msgP m = joinS [s1, s2, s3, s4]) := hide (by rw [msgP, hs1, hs2, hs3, hs4])
  have HS1 := hide hs1
  have HS2 := hide hs2
  have HS3 := hide hs3
  have HS4 := hide hs4
  have HS := hide hs
  have HL1 := hide (show m.frm.size ≤ maxLen by have := name_short n1; unfold maxLen; omega)
  have HL2 := hide (show m.to.size ≤ maxLen by have := name_short n2; unfold maxLen; omega)
  have HL3 := hide (show m.label.size ≤ maxLen by have := name_short n3; unfold maxLen; omega)
  have HL5 := hide (show (msgP m).size ≤ maxLen by unfold maxLen; omega)
  have HTOT : Hid (totTo [s1, s2, s3, s4] [s1, s2, s3, s4].length ≤ 1000000) := hide (by simp [totTo]; omega)
  clear hs1 hs2 hs3 hs4 hs hm n1 n2 n3 n4 n5 hz
  unfold RMsg.val
  go_enter Try.func49, Try.ntmps49
  go_wp2_with fail
  refine wp_region_tail 12 (by kernel_rfl) (by kernel_rfl) (fun W hW => ?_)
  simp only [List.take_succ_cons, List.take_zero, List.drop_succ_cons, List.drop_zero]
  have hne := grown_some W
  have HBW : Hid (Below w.heap.size w W) := hide (by rw [hW]; exact malloc1 _ _)
  have f0 := grown_cell (w := W) (b := w.heap.size) (o := 0) (v := .string m.frm) (by rw [hW]; simp)
  have f1 := grown_cell (w := W) (b := w.heap.size) (o := 1) (v := .string m.to) (by rw [hW]; simp)
  have f2 := grown_cell (w := W) (b := w.heap.size) (o := 2) (v := .string m.label) (by rw [hW]; simp)
  have f3 := grown_cell (w := W) (b := w.heap.size) (o := 3) (v := .int .i64 m.sort) (by rw [hW]; simp)
  clear hW
  repeat (go_big_quiet_step (first
    | (go_at_call_of 48 m.frm; exact grown_more (ip_text HS1.out _ HL1.out))
    | (go_at_call_of 48 m.to; exact grown_more (ip_text HS2.out _ HL2.out))
    | (go_at_call_of 48 m.label; exact grown_more (ip_text HS3.out _ HL3.out))
    | (go_at_call 47; exact grown_more (ip_put HS4.out _ HSO.out))))
  refine wpQuiet_nil ?_
  intro w2 hw2
  have HB2 : Hid (Below w.heap.size w w2) := hide (HBW.out.trans (hw2.mono HBW.out.size))
  clear hw2 hne f0 f1 f2 f3
  go_wp2_with (first
    | (go_at_call 50; have hjn := join_any [s1, s2, s3, s4] w2.heap.size 4 (w2.alloc (.cells #[.string s1, .string s2, .string s3, .string s4] 9)) (by simp) (fun i hi => by have h4 : i < 4 := hi; rcases i with _ | _ | _ | _ | i; all_goals first | (exfalso; omega) | simp) HTOT.out (by simp); refine hjn.mono ?_; rintro e w3 ⟨rfl, hb3⟩; have HB3 : Hid (Below w.heap.size w w3) := hide ((HB2.out.alloc HB2.out.size _).trans (hb3.mono (by have := HB2.out.size; simp; omega))); rw [← HP.out]; clear hb3 hjn)
    | (go_at_call 81; refine (ip_seal HS.out _ HL5.out).mono ?_; rintro e w4 ⟨rfl, hb4⟩; have HB4 := hide (HB3.out.trans (hb4.mono HB3.out.size)); clear hb4))
  go_ret
  exact ⟨rfl, HB4.out⟩
end Go.Proofs.Ytbilbpmbegoibaa
