/- MsgRight, of the program and of the specification. -/
import Derived.Test.YtonafcifolddjaaDoorNetM
namespace Go.Proofs.YtonafcifolddjaaDoor
open Go.RowKit

set_option maxRecDepth 10000 in
set_option maxHeartbeats 1000000 in
theorem s_msg {q : Bool} {m : RMsg} (hq : msgB m = q) (hok : m.ok) (w : World) :
    Calls Tryd.prog 26 #[m.val] w fun e w' => e = .returned (.bool q) ∧ Below w.heap.size w w' := by
  have HOK := hide hok
  obtain ⟨a, ha⟩ : ∃ a, nameB m.frm = a := ⟨_, rfl⟩
  obtain ⟨b, hb⟩ : ∃ b, nameB m.to = b := ⟨_, rfl⟩
  obtain ⟨c, hc⟩ : ∃ c, nameB m.label = c := ⟨_, rfl⟩
  obtain ⟨d, hd⟩ : ∃ d, (m.frm.toList == m.to.toList) = d := ⟨_, rfl⟩
  obtain ⟨s, hs⟩ : ∃ s, sortM m.sort = s := ⟨_, rfl⟩
  have HQ : Hid (q = (a && (b && (c && (!d && s))))) := hide (by rw [← hq, msgB, ha, hb, hc, hd, hs])
  have HA := hide ha
  have HB := hide hb
  have HC := hide hc
  have HS := hide hs
  clear hq hok ha hb hc hs
  unfold RMsg.val
  cases a
  case' true => cases b
  case' true.true => cases c
  case' true.true.true => cases d
  all_goals
    go_enter Tryd.func26, Tryd.ntmps26
    go_wp2_with (first
      | (go_at_call_of 48 m.frm; refine (sn_name HA.out HOK.out.1 _).mono ?_; rintro e w' ⟨rfl, rfl⟩)
      | (go_at_call_of 48 m.to; refine (sn_name HB.out HOK.out.2.1 _).mono ?_; rintro e w' ⟨rfl, rfl⟩)
      | (go_at_call_of 48 m.label; refine (sn_name HC.out HOK.out.2.2 _).mono ?_; rintro e w' ⟨rfl, rfl⟩)
      | (go_at_call 49; refine (sb_sort HS.out _).mono ?_; rintro e w' ⟨rfl, rfl⟩))
    go_ret
    exact ⟨ret_bool (by rw [HQ.out]; simp [*]), malloc1 _ _⟩

set_option maxRecDepth 10000 in
set_option maxHeartbeats 1000000 in
theorem i_msg {q : Bool} {m : RMsg} (hq : msgB m = q) (hok : m.ok) (w : World) :
    Calls Tryd.prog 29 #[m.val] w fun e w' => e = .returned (.bool q) ∧ Below w.heap.size w w' := by
  have HOK := hide hok
  obtain ⟨a, ha⟩ : ∃ a, nameB m.frm = a := ⟨_, rfl⟩
  obtain ⟨b, hb⟩ : ∃ b, nameB m.to = b := ⟨_, rfl⟩
  obtain ⟨c, hc⟩ : ∃ c, nameB m.label = c := ⟨_, rfl⟩
  obtain ⟨d, hd⟩ : ∃ d, (m.frm.toList == m.to.toList) = d := ⟨_, rfl⟩
  obtain ⟨s, hs⟩ : ∃ s, sortM m.sort = s := ⟨_, rfl⟩
  have HQ : Hid (q = (a && (b && (c && (!d && s))))) := hide (by rw [← hq, msgB, ha, hb, hc, hd, hs])
  have HA := hide ha
  have HB := hide hb
  have HC := hide hc
  have HS := hide hs
  clear hq hok ha hb hc hs
  unfold RMsg.val
  cases a
  case' true => cases b
  case' true.true => cases c
  case' true.true.true => cases d
  all_goals
    go_enter Tryd.func29, Tryd.ntmps29
    go_wp2_with (first
      | (go_at_call_of 51 m.frm; refine (in_name HA.out HOK.out.1 _).mono ?_; rintro e w' ⟨rfl, rfl⟩)
      | (go_at_call_of 51 m.to; refine (in_name HB.out HOK.out.2.1 _).mono ?_; rintro e w' ⟨rfl, rfl⟩)
      | (go_at_call_of 51 m.label; refine (in_name HC.out HOK.out.2.2 _).mono ?_; rintro e w' ⟨rfl, rfl⟩)
      | (go_at_call 52; refine (ib_sort HS.out _).mono ?_; rintro e w' ⟨rfl, rfl⟩))
    go_ret
    exact ⟨ret_bool (by rw [HQ.out]; simp [*]), malloc1 _ _⟩
end Go.Proofs.YtonafcifolddjaaDoor
