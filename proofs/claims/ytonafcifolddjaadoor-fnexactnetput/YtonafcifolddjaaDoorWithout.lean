/- without: a list without one of its messages. -/
import Derived.Test.YtonafcifolddjaaDoorSeeT
import Derived.ArgAppend
import Derived.Laws.AppendOwnNone
namespace Go.Proofs.YtonafcifolddjaaDoor
open Go.RowKit
attribute [local go_sem ↓] Go.wp_at_zero Go.wp_at_succ

theorem RMsgs.take {w : World} {b : Nat} : ∀ {l : List RMsg} {o : Nat} (k : Nat), RMsgs w b o l → RMsgs w b o (l.take k)
  | [], _, k, _ => by rw [List.take_nil]; trivial
  | _ :: _, _, 0, _ => trivial
  | _ :: _, _, k + 1, h => ⟨h.1, RMsgs.take k h.2⟩
theorem RMsgs.drop {w : World} {b : Nat} : ∀ {l : List RMsg} {o : Nat} (k : Nat), RMsgs w b o l → RMsgs w b (o + k * 4) (l.drop k)
  | [], _, k, _ => by rw [List.drop_nil]; trivial
  | _ :: _, o, 0, h => by simpa using h
  | _ :: l, o, k + 1, h => by
    have := RMsgs.drop k h.2
    rw [show o + 4 + k * 4 = o + (k + 1) * 4 by omega] at this
    exact this
set_option maxRecDepth 100000 in
set_option maxHeartbeats 1000000 in
theorem i_without (l : List RMsg) (k : Nat) (v : Value) (w : World) (hk : k < l.length) (h4 : l.length ≤ 4096) (hv : RMsgSl w w.heap.size v l) :
    Calls Tryd.prog 41 #[v, .int .i64 (k : Int)] w fun e w' => ∃ v', e = .returned v' ∧ RMsgSl w' w'.heap.size v' (l.eraseIdx k) ∧ Below w.heap.size w w' := by
  obtain ⟨i0, hi, hz0, hz1, hz2⟩ := info_parts Tryd.infoRMsg
  have HI := hide (And.intro hi (And.intro hz0 (And.intro hz1 hz2)))
  obtain ⟨ao, cap, rfl, hc, hm, hr⟩ := hv
  obtain ⟨b, o, rfl, hbB, hrow⟩ := hr (by intro h; simp [h] at hk)
  have HROW := hide hrow
  have HE := hide (List.eraseIdx_eq_take_drop_succ l k)
  clear hr hi hz0 hz1 hz2 hrow
  go_enter Tryd.func41, Tryd.ntmps41
  go_wp2_with fail
  refine wp_region_tail 8 (by kernel_rfl) (by kernel_rfl) (fun W hW => ?_)
  simp only [List.take_succ_cons, List.take_zero, List.drop_succ_cons, List.drop_zero]
  have hne := grown_some W
  have HWE := hide hW
  clear hW
  repeat (go_big_quiet_step (fail))
  refine wpQuiet_nil ?_
  intro w2 hw2
  have HB2 : Hid (Below w.heap.size w w2) := hide (by rw [HWE.out] at hw2; exact hw2)
  clear hw2 hne HWE
  obtain ⟨m, hmm⟩ : ∃ m, l.length - (k + 1) = m := ⟨_, rfl⟩
  obtain ⟨ad, had, had2⟩ : ∃ ad : Addr, (if cap = k + 1 then some (⟨b, o, none⟩ : Addr) else some ⟨b, o + (k + 1) * 4, none⟩) = some ad ∧ (0 < m → ad = ⟨b, o + (k + 1) * 4, none⟩) := by
    by_cases h : cap = k + 1
    · exact ⟨_, if_pos h, fun hm0 => absurd hm0 (by omega)⟩
    · exact ⟨_, if_neg h, fun _ => rfl⟩
  rw [had, hmm]
  obtain ⟨c2, hc2⟩ : ∃ c2, cap - (k + 1) = c2 := ⟨_, rfl⟩
  rw [hc2]
  have HMM := hide hmm
  have HR2 := hide (HROW.out.carry hbB HB2.out)
  have hol : ((l.take k).flatMap RMsg.cells).length = k * 4 := by rw [msgs_len, List.length_take]; omega
  have hnl : ((l.drop (k + 1)).flatMap RMsg.cells).length = m * 4 := by rw [msgs_len, List.length_drop, hmm]
  have HOE : Hid ((l.take k).flatMap RMsg.cells ++ (l.drop (k + 1)).flatMap RMsg.cells = (l.eraseIdx k).flatMap RMsg.cells ∧ (l.eraseIdx k).length = k + m) := hide ⟨by rw [HE.out, List.flatMap_append], by rw [HE.out, List.length_append, List.length_take, List.length_drop]; omega⟩
  refine wpList_append_arg w2 rfl (.tmp 8) (.tmp 12) 27 rfl 28 i0 (.agg #[.string ByteArray.empty, .string ByteArray.empty, .string ByteArray.empty, .int .i64 0]) 4 56 Tryd.underlying27 HI.out.1 HI.out.2.1 HI.out.2.2.1 HI.out.2.2.2 rfl (by decide) b o k k ((l.take k).flatMap RMsg.cells) rfl hol (fun j u hj => ?_) ad m c2 ((l.drop (k + 1)).flatMap RMsg.cells) rfl hnl (fun j u hj => ?_) (msgs_one _) (fun hle j hj => ?_) (by unfold maxLen; omega) (by omega) (fun hle => ?_) (fun hlt v3 w3 hown3 hgr3 => ?_)
  · have := msgs_cell (HR2.out.take k) j u hj
    rwa [show ((⟨b, o, none⟩ : Addr).add j) = ⟨b, o + j, none⟩ by unfold Addr.add; split <;> simp_all] at this
  · have hm0 : 0 < m := by
      have := (List.getElem?_eq_some_iff.1 hj).1
      omega
    rw [had2 hm0]
    exact msgs_cell (HR2.out.drop (k + 1)) j u hj
  · omega
  · obtain rfl : m = 0 := by omega
    have hd : l.drop (k + 1) = [] := List.drop_eq_nil_of_le (by omega)
    have HEE : Hid (l.eraseIdx k = l.take k) := hide (by rw [HE.out, hd, List.append_nil])
    have hsc : w2.setCells b (o + k * 4) ((l.drop (k + 1)).flatMap RMsg.cells) = w2 := by rw [hd]; rfl
    rw [hsc]
    clear hol hnl had2 had hmm hc2 hd hsc
    go_wp2_with fail
    go_ret
    refine ⟨_, rfl, ?_, HB2.out⟩
    rw [HEE.out]
    exact ⟨some ⟨b, o, none⟩, k, by rw [List.length_take, Nat.min_eq_left (by omega)]; rfl, by rw [List.length_take]; omega, by rw [List.length_take]; omega, fun _ => ⟨b, o, rfl, Nat.lt_of_lt_of_le hbB HB2.out.size, HR2.out.take k⟩⟩
  · have HB3 : Hid (Below w.heap.size w w3) := hide (HB2.out.trans (((Apart.grown_none hgr3).below (Nat.le_refl _) (by simp)).mono HB2.out.size))
    have HS3 : Hid (RMsgSl w3 w3.heap.size v3 (l.eraseIdx k)) := hide (by
      have h3 : RMsgOwn w3 w2.heap.size v3 (l.eraseIdx k) := by
        unfold RMsgOwn
        rw [HOE.out.2, ← HOE.out.1]
        exact hown3
      exact h3.sl (by rw [HOE.out.2]; omega))
    clear hol hnl had2 had hmm hc2 hown3 hgr3
    go_wp2_with fail
    go_ret
    exact ⟨_, rfl, HS3.out, HB3.out⟩
end Go.Proofs.YtonafcifolddjaaDoor
