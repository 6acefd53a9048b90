/- ownNet: a list made anew. -/
import Derived.Test.YtonafcifolddjaaGreatDoorQB20
import Derived.Test.YtonafcifolddjaaGreatDoorQB19
import Derived.Test.YtonafcifolddjaaGreatDoorQB13
import Derived.Test.YtonafcifolddjaaGreatDoorQB22
import Derived.Test.YtonafcifolddjaaGreatDoorQB18
namespace Go.Proofs.YtonafcifolddjaaGreatDoor
open Go.RowKit
attribute [local go_sem ↓] Go.wp_at_zero Go.wp_at_succ

set_option maxRecDepth 100000 in
set_option maxHeartbeats 1000000 in
theorem own_net (l : List RMsg) (v : Value) (w : World) (h4 : l.length ≤ 4096) (hf : ∀ m ∈ l, m.fit) (hv : RMsgSl w w.heap.size v l) :
    Calls Tryz.prog 37 #[v] w fun e w' => ∃ v', e = .returned v' ∧ RMsgOwn w' w.heap.size v' l ∧ Below w.heap.size w w' := by
  have HF := hide hf
  obtain ⟨i0, hi, hz0, hz1, hz2⟩ := info_parts Tryz.infoRMsg
  have HI := hide (And.intro hi (And.intro hz0 (And.intro hz1 hz2)))
  obtain ⟨ao, cap, rfl, hc, hm, hr⟩ := hv
  have HR := hide hr
  clear hr hf hi hz0 hz1 hz2
  go_enter Tryz.func37, Tryz.ntmps37
  go_wp2_with fail
  go_loopw [3, 8] (fun all i wr => ∃ k : Nat, k ≤ l.length ∧ i = .int .i64 k ∧ wr.ownsRow w.heap.size 25 4 all k ((l.take k).flatMap RMsg.cells) ∧ Below w.heap.size w wr) (fun _ i _ => l.length - (intOf i).toNat)
  case atStart => exact ⟨0, Nat.zero_le _, rfl, RMsgOwn.nil _ _, Below.refl _ _⟩
  case round =>
    obtain ⟨k, hk, rfl, hown, hbel⟩ := hrel
    have HOWN := hide hown
    have HBEL := hide hbel
    obtain ⟨p, cp, rfl⟩ := owns_shape hown
    clear hown hbel
    by_cases hlt : k < l.length
    · obtain ⟨b, o, rfl, hbB, hrow⟩ := HR.out (by intro h; simp [h] at hlt)
      have hnode := (hrow.get k hlt).carry hbB HBEL.out
      have HTK : Hid (l.take (k + 1) = l.take k ++ [l[k]]) := hide (List.take_succ_eq_append_getElem hlt)
      have hmem : l[k] ∈ l := List.getElem_mem hlt
      obtain ⟨x1, hx1⟩ : ∃ x1, x1 = l[k] := ⟨_, rfl⟩
      rw [← hx1] at hnode hmem HTK
      have HFX := hide (HF.out x1 hmem)
      obtain ⟨d0, d1, d2, d3⟩ := hnode
      clear hx1 hrow hmem
      go_wp2_with (first
        | (go_at_call 38; refine (own_msg x1 _ HFX.out).mono ?_; rintro e w3 ⟨rfl, hb3⟩; have HB3 : Hid (Below wr.heap.size wr w3) := hide ((malloc1 _ _).trans (hb3.mono (by simp))); clear hb3; unfold RMsg.val)
        | (at_builtin; refine wpList_append_own _ rfl (.tmp 12) (.tmp 15) 23 rfl w.heap.size 25 i0 (.agg #[.string ByteArray.empty, .string ByteArray.empty, .string ByteArray.empty, .int .i64 0]) 4 56 Tryz.underlying23 HI.out.1 HI.out.2.1 HI.out.2.2.1 HI.out.2.2.2 rfl (by decide) (.slice p k cp) k ((l.take k).flatMap RMsg.cells) rfl (owns_below HOWN.out (HB3.out.trans ((malloc1 _ _).mono HB3.out.size))) ⟨w3.heap.size, 0, none⟩ 1 1 x1.cells rfl rfl (fun j u hj => new_row1 _ _ _ j u hj) (RMsg.cells_one _) (by unfold maxLen; omega) (by omega) (by have := HB3.out.size; have := HBEL.out.size; simp; omega) ?_; intro v4 w4 hown4 hgr4 _; have HOWN4 := hide hown4; have HGR4 := hide hgr4; clear hown4 hgr4))
      go_roundw
      case rel =>
        have hA : Apart wr w4 (vblocks (.slice p k cp)) := by
          have := (below_apart (HB3.out.trans ((malloc1 w3 _).mono HB3.out.size))).trans (grownBy_apart HGR4.out)
          rwa [List.nil_append] at this
        refine ⟨k + 1, hlt, by go_num, ?_, HBEL.out.trans (hA.below HBEL.out.size (owns_fresh HOWN.out).lo)⟩
        rw [HTK.out, List.flatMap_append]
        simpa using HOWN4.out
      case measure => simp [intOf]; omega
    · have HK : Hid (RMsgOwn wr w.heap.size (.slice p k cp) l) := hide (by
        have := HOWN.out
        rw [List.take_of_length_le (by omega)] at this
        unfold RMsgOwn
        rwa [show l.length = k by omega])
      go_wp2_with fail
      go_ret
      exact ⟨_, rfl, HK.out, HBEL.out⟩
end Go.Proofs.YtonafcifolddjaaGreatDoor
/- NetBytes of the program. -/
namespace Go.Proofs.YtonafcifolddjaaGreatDoor
open Go.RowKit
attribute [local go_sem ↓] Go.wp_at_zero Go.wp_at_succ

set_option maxRecDepth 100000 in
set_option maxHeartbeats 1000000 in
theorem sealed_msg {m : RMsg} {s : ByteArray} (hs : sealS (msgP m) = s) (hm : msgB m = true) (w : World) :
    Calls Tryz.prog 45 #[m.val] w fun e w' => e = .returned (.string s) ∧ Below w.heap.size w w' := by
  obtain ⟨n1, n2, n3, n4, n5⟩ := msg_name hm
  have hz := msgP_size hm
  have HSO := hide (show -9223372036854775808 ≤ m.sort ∧ m.sort ≤ 9223372036854775807 from ⟨by omega, by omega⟩)
  obtain ⟨s1, hs1⟩ : ∃ s, textS m.frm = s := ⟨_, rfl⟩
  obtain ⟨s2, hs2⟩ : ∃ s, textS m.to = s := ⟨_, rfl⟩
  obtain ⟨s3, hs3⟩ : ∃ s, textS m.label = s := ⟨_, rfl⟩
  obtain ⟨s4, hs4⟩ : ∃ s, putS m.sort = s := ⟨_, rfl⟩
  have hz1 : s1.size ≤ 30 := by rw [← hs1]; exact textS_size _ (name_short n1)
  have hz2 : s2.size ≤ 30 := by rw [← hs2]; exact textS_size _ (name_short n2)
  have hz3 : s3.size ≤ 30 := by rw [← hs3]; exact textS_size _ (name_short n3)
  have hz4 : s4.size ≤ 10 := by rw [← hs4]; exact putS_size _
  have HP : Hid (msgP m = joinS [s1, s2, s3, s4]) := hide (by rw [msgP, hs1, hs2, hs3, hs4])
  have HS1 := hide hs1
  have HS2 := hide hs2
  have HS3 := hide hs3
  have HS4 := hide hs4
  have HS := hide hs
  have HL1 := hide (show m.frm.size ≤ maxLen by have := name_short n1; unfold maxLen; omega)
  have HL2 := hide (show m.to.size ≤ maxLen by have := name_short n2; unfold maxLen; omega)
  have HL3 := hide (show m.label.size ≤ maxLen by have := name_short n3; unfold maxLen; omega)
  have HL5 := hide (show (msgP m).size ≤ maxLen by unfold maxLen; omega)
  have HTOT : Hid (totTo [s1, s2, s3, s4] [s1, s2, s3, s4].length ≤ 1000000) := hide (by simp [totTo]; omega)
  clear hs1 hs2 hs3 hs4 hs hm n1 n2 n3 n4 n5 hz
  unfold RMsg.val
  go_enter Tryz.func45, Tryz.ntmps45
  go_wp2_with fail
  refine wp_region_tail 12 (by kernel_rfl) (by kernel_rfl) (fun W hW => ?_)
  simp only [List.take_succ_cons, List.take_zero, List.drop_succ_cons, List.drop_zero]
  have hne := grown_some W
  have HBW : Hid (Below w.heap.size w W) := hide (by rw [hW]; exact malloc1 _ _)
  have f0 := grown_cell (w := W) (b := w.heap.size) (o := 0) (v := .string m.frm) (by rw [hW]; simp)
  have f1 := grown_cell (w := W) (b := w.heap.size) (o := 1) (v := .string m.to) (by rw [hW]; simp)
  have f2 := grown_cell (w := W) (b := w.heap.size) (o := 2) (v := .string m.label) (by rw [hW]; simp)
  have f3 := grown_cell (w := W) (b := w.heap.size) (o := 3) (v := .int .i64 m.sort) (by rw [hW]; simp)
  clear hW
  repeat (go_big_quiet_step (first
    | (go_at_call_of 44 m.frm; exact grown_more (ip_text HS1.out _ HL1.out))
    | (go_at_call_of 44 m.to; exact grown_more (ip_text HS2.out _ HL2.out))
    | (go_at_call_of 44 m.label; exact grown_more (ip_text HS3.out _ HL3.out))
    | (go_at_call 43; exact grown_more (ip_put HS4.out _ HSO.out))))
  refine wpQuiet_nil ?_
  intro w2 hw2
  have HB2 : Hid (Below w.heap.size w w2) := hide (HBW.out.trans (hw2.mono HBW.out.size))
  clear hw2 hne f0 f1 f2 f3
  go_wp2_with (first
    | (go_at_call 46; have hjn := join_any [s1, s2, s3, s4] w2.heap.size 4 (w2.alloc (.cells #[.string s1, .string s2, .string s3, .string s4] 9)) (by simp) (fun i hi => by have h4 : i < 4 := hi; rcases i with _ | _ | _ | _ | i; all_goals first | (exfalso; omega) | simp) HTOT.out (by simp); refine hjn.mono ?_; rintro e w3 ⟨rfl, hb3⟩; have HB3 : Hid (Below w.heap.size w w3) := hide ((HB2.out.alloc HB2.out.size _).trans (hb3.mono (by have := HB2.out.size; simp; omega))); rw [← HP.out]; clear hb3 hjn)
    | (go_at_call 78; refine (ip_seal HS.out _ HL5.out).mono ?_; rintro e w4 ⟨rfl, hb4⟩; have HB4 := hide (HB3.out.trans (hb4.mono HB3.out.size)); clear hb4))
  go_ret
  exact ⟨rfl, HB4.out⟩
end Go.Proofs.YtonafcifolddjaaGreatDoor
