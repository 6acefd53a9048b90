/- NetRight of the specification. -/
import Derived.Test.YtonafcifolddjaaDoorMsgI
import Derived.Test.YtonafcifolddjaaDoorGrown
namespace Go.Proofs.YtonafcifolddjaaDoor
open Go.RowKit

set_option maxHeartbeats 1000000 in
theorem s_count (l : List RMsg) (f t : ByteArray) (v : Value) (w : World) (h36 : l.length ≤ 4096) (hv : RMsgSl w w.heap.size v l) :
    Calls Tryd.prog 47 #[v, .string f, .string t] w fun e w' => e = .returned (.int .i64 (cntM f t l : Nat)) ∧ Below w.heap.size w w' := by
  obtain ⟨ao, cap, rfl, hc, hm, hr⟩ := hv
  have HR := hide hr
  clear hr
  have HCT := hide (show cntM f t l = cntM f t (l.take l.length) by rw [List.take_length])
  go_enter Tryd.func47, Tryd.ntmps47
  go_wp2_with fail
  go_loopw [7, 8] (fun n i wr => ∃ k : Nat, k ≤ l.length ∧ i = .int .i64 k ∧ n = .int .i64 (cntM f t (l.take k) : Nat) ∧ Below w.heap.size w wr) (fun _ i _ => l.length - (intOf i).toNat)
  case atStart => exact ⟨0, Nat.zero_le _, rfl, rfl, Below.refl _ _⟩
  case round =>
    obtain ⟨k, hk, rfl, rfl, hbel⟩ := hrel
    have HBEL := hide hbel
    have hcl : cntM f t (l.take k) ≤ 4096 := Nat.le_trans (cntM_le f t _) (by rw [List.length_take]; omega)
    clear hbel
    by_cases hlt : k < l.length
    · obtain ⟨b, o, rfl, hbB, hrow⟩ := HR.out (by intro h; simp [h] at hlt)
      have hnode := (hrow.get k hlt).carry hbB HBEL.out
      have HSU := hide (cntM_succ f t hlt)
      obtain ⟨x1, hx1⟩ : ∃ x1, x1 = l[k] := ⟨_, rfl⟩
      rw [← hx1] at hnode HSU
      obtain ⟨c0, c1, c2, c3⟩ := hnode
      obtain ⟨p, hp⟩ : ∃ p, (x1.frm.toList == f.toList) = p := ⟨_, rfl⟩
      obtain ⟨q, hq⟩ : ∃ q, (x1.to.toList == t.toList) = q := ⟨_, rfl⟩
      have HI : Hid (isMsg f t x1 = (p && q)) := hide (by rw [isMsg, hp, hq])
      obtain ⟨c, hcc⟩ : ∃ c, cntM f t (l.take k) = c := ⟨_, rfl⟩
      rw [hcc] at hcl HSU ⊢
      clear hx1 hrow hcc
      cases p
      all_goals cases q
      all_goals
        go_wp2_with fail
        go_roundw
        case rel => exact ⟨k + 1, by omega, by go_num, by rw [HSU.out, HI.out]; first | rfl | go_num, by first | exact HBEL.out | exact HBEL.out.drew⟩
        case measure => simp [intOf]; omega
    · have hkl : k = l.length := by omega
      subst hkl
      go_wp2_with fail
      go_ret
      exact ⟨ret_int (by rw [HCT.out]), HBEL.out⟩
theorem s_count_at {c : Nat} {l : List RMsg} {f t : ByteArray} (hc : cntM f t l = c) (v : Value) (w : World) (h36 : l.length ≤ 4096) (hv : RMsgSl w w.heap.size v l) :
    Calls Tryd.prog 47 #[v, .string f, .string t] w fun e w' => e = .returned (.int .i64 (c : Nat)) ∧ Below w.heap.size w w' := by subst hc; exact s_count l f t v w h36 hv

set_option maxHeartbeats 1000000 in
theorem s_net {q : Bool} {l : List RMsg} (hq : netB l = q) (v : Value) (w : World) (hok : ∀ m ∈ l, m.ok) (hv : RMsgSl w w.heap.size v l) :
    Calls Tryd.prog 25 #[v] w fun e w' => e = .returned (.bool q) ∧ Below w.heap.size w w' := by
  have HQ := hide hq
  have HOK := hide hok
  have HV : Hid (∀ W, Below w.heap.size w W → RMsgSl W W.heap.size v l) := hide (fun W hb => (hv.carry hb).up hb.size)
  have hlm := hv.lenm
  obtain ⟨ao, cap, rfl, hc, hm, hr⟩ := hv
  have HR := hide hr
  clear hr hq hok
  by_cases h36 : 36 < l.length
  · go_enter Tryd.func25, Tryd.ntmps25
    go_wp2_with fail
    go_ret
    exact ⟨ret_bool (by rw [← HQ.out]; exact net_long h36), Below.refl _ _⟩
  · go_enter Tryd.func25, Tryd.ntmps25
    go_wp2_with fail
    go_loopw [3] (fun i wr => ∃ k : Nat, k ≤ l.length ∧ i = .int .i64 k ∧ (∀ j (h : j < l.length), j < k → msgB l[j] = true ∧ cntM l[j].frm l[j].to l ≤ 3) ∧ Below w.heap.size w wr) (fun i _ => l.length - (intOf i).toNat)
    case atStart => exact ⟨0, Nat.zero_le _, rfl, fun j _ h => absurd h (by omega), Below.refl _ _⟩
    case round =>
      obtain ⟨k, hk, rfl, hall, hbel⟩ := hrel
      have HBEL := hide hbel
      have HALL := hide hall
      clear hbel hall
      by_cases hlt : k < l.length
      · obtain ⟨b, o, rfl, hbB, hrow⟩ := HR.out (by intro h; simp [h] at hlt)
        have hnode := (hrow.get k hlt).carry hbB HBEL.out
        have hmem : l[k] ∈ l := List.getElem_mem hlt
        obtain ⟨x1, hx1⟩ : ∃ x1, x1 = l[k] := ⟨_, rfl⟩
        have HX1 := hide hx1
        rw [← hx1] at hnode hmem
        have HMEM := hide hmem
        have HOK1 := hide (HOK.out x1 hmem)
        obtain ⟨c0, c1, c2, c3⟩ := hnode
        obtain ⟨p, hp⟩ : ∃ p, msgB x1 = p := ⟨_, rfl⟩
        have HP := hide hp
        obtain ⟨c, hcc⟩ : ∃ c, cntM x1.frm x1.to l = c := ⟨_, rfl⟩
        have HCC := hide hcc
        have hcl : c ≤ 36 := by rw [← hcc]; exact Nat.le_trans (cntM_le _ _ _) (by omega)
        clear hx1 hrow hcc hp hmem
        cases p
        · go_wp2_with fail
          refine wp_region_grown (by kernel_rfl) (by kernel_rfl) (fun W hW => ?_)
          have hne := grown_some W
          have f0 := grown_cell (w := W) (by rw [hW]; exact c0)
          have f1 := grown_cell (w := W) (by rw [hW]; exact c1)
          have f2 := grown_cell (w := W) (by rw [hW]; exact c2)
          have f3 := grown_cell (w := W) (by rw [hW]; exact c3)
          have HBW : Hid (Below w.heap.size w W) := hide (by rw [hW]; exact HBEL.out)
          clear hW
          repeat (go_big_quiet_step ((go_at_call 26; exact grown_more (s_msg (m := x1) HP.out HOK1.out _))))
          refine wpQuiet_nil ?_
          intro w1 hw1
          have HW1 := hide hw1
          clear hw1 hne f0 f1 f2 f3
          go_wp2_with fail
          go_ret
          exact ⟨ret_bool (by rw [← HQ.out]; exact net_msg HMEM.out HP.out), HBW.out.trans (HW1.out.mono HBW.out.size)⟩
        · by_cases h3 : 3 < c
          all_goals
            go_wp2_with fail
            refine wp_region_grown (by kernel_rfl) (by kernel_rfl) (fun W hW => ?_)
            have hne := grown_some W
            have f0 := grown_cell (w := W) (by rw [hW]; exact c0)
            have f1 := grown_cell (w := W) (by rw [hW]; exact c1)
            have f2 := grown_cell (w := W) (by rw [hW]; exact c2)
            have f3 := grown_cell (w := W) (by rw [hW]; exact c3)
            have HBW : Hid (Below w.heap.size w W) := hide (by rw [hW]; exact HBEL.out)
            clear hW
            repeat (go_big_quiet_step (first
              | (go_at_call 26; exact grown_more (s_msg (m := x1) HP.out HOK1.out _))
              | (go_at_call 47; exact grown_more (s_count_at HCC.out _ _ (by omega) ((HV.out _ (HBW.out.trans ((Grown.bel _).mono HBW.out.size))))))))
            refine wpQuiet_nil ?_
            intro w1 hw1
            have HB2 : Hid (Below w.heap.size w w1) := hide (HBW.out.trans (hw1.mono HBW.out.size))
            clear hw1 hne f0 f1 f2 f3
            go_wp2_with fail
          · go_ret
            exact ⟨ret_bool (by rw [← HQ.out]; exact net_full HMEM.out (by rw [HCC.out]; exact h3)), HB2.out⟩
          · go_roundw
            case rel =>
              refine ⟨k + 1, by omega, by go_num, fun j hj hjk => ?_, HB2.out⟩
              by_cases e : j = k
              · subst e; rw [← HX1.out, HCC.out]; exact ⟨HP.out, by omega⟩
              · exact HALL.out j hj (by omega)
            case measure => simp [intOf]; omega
      · go_wp2_with fail
        go_ret
        refine ⟨ret_bool ?_, HBEL.out⟩
        rw [← HQ.out]
        refine net_yes (by omega) (fun m hm => ?_) (fun m hm => ?_)
        · obtain ⟨j, hj, rfl⟩ := List.getElem_of_mem hm
          exact (HALL.out j hj (by omega)).1
        · obtain ⟨j, hj, rfl⟩ := List.getElem_of_mem hm
          exact (HALL.out j hj (by omega)).2
end Go.Proofs.YtonafcifolddjaaDoor
