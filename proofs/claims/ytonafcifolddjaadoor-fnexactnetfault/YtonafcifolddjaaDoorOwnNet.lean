/- ownNet: a list made anew. -/
import Derived.Test.YtonafcifolddjaaDoorErrI
import Derived.Test.YtonafcifolddjaaDoorOwnRMsg
import Derived.Test.YtonafcifolddjaaDoorStrRow
namespace Go.Proofs.YtonafcifolddjaaDoor
open Go.RowKit
attribute [local go_sem ↓] Go.wp_at_zero Go.wp_at_succ

set_option maxRecDepth 100000 in
set_option maxHeartbeats 1000000 in
theorem own_net (l : List RMsg) (v : Value) (w : World) (h4 : l.length ≤ 4096) (hf : ∀ m ∈ l, m.fit) (hv : RMsgSl w w.heap.size v l) :
    Calls Tryd.prog 38 #[v] w fun e w' => ∃ v', e = .returned v' ∧ RMsgOwn w' w.heap.size v' l ∧ Below w.heap.size w w' := by
  have HF := hide hf
  obtain ⟨i0, hi, hz0, hz1, hz2⟩ := info_parts Tryd.infoRMsg
  have HI := hide (And.intro hi (And.intro hz0 (And.intro hz1 hz2)))
  obtain ⟨ao, cap, rfl, hc, hm, hr⟩ := hv
  have HR := hide hr
  clear hr hf hi hz0 hz1 hz2
  go_enter Tryd.func38, Tryd.ntmps38
  go_wp2_with fail
  go_loopw [3, 8] (fun all i wr => ∃ k : Nat, k ≤ l.length ∧ i = .int .i64 k ∧ wr.ownsRow w.heap.size 28 4 all k ((l.take k).flatMap RMsg.cells) ∧ Below w.heap.size w wr) (fun _ i _ => l.length - (intOf i).toNat)
  case atStart => exact ⟨0, Nat.zero_le _, rfl, RMsgOwn.nil _ _, Below.refl _ _⟩
  case round =>
    obtain ⟨k, hk, rfl, hown, hbel⟩ := hrel
    have HOWN := hide hown
    have HBEL := hide hbel
    obtain ⟨p, cp, rfl⟩ := owns_shape hown
    clear hown hbel
    by_cases hlt : k < l.length
    · obtain ⟨b, o, rfl, hbB, hrow⟩ := HR.out (by intro h; simp [h] at hlt)
      have hnode := (hrow.get k hlt).carry hbB HBEL.out
      have HTK : Hid (l.take (k + 1) = l.take k ++ [l[k]]) := hide (List.take_succ_eq_append_getElem hlt)
      have hmem : l[k] ∈ l := List.getElem_mem hlt
      obtain ⟨x1, hx1⟩ : ∃ x1, x1 = l[k] := ⟨_, rfl⟩
      rw [← hx1] at hnode hmem HTK
      have HFX := hide (HF.out x1 hmem)
      obtain ⟨d0, d1, d2, d3⟩ := hnode
      clear hx1 hrow hmem
      go_wp2_with (first
        | (go_at_call 39; refine (own_msg x1 _ HFX.out).mono ?_; rintro e w3 ⟨rfl, hb3⟩; have HB3 : Hid (Below wr.heap.size wr w3) := hide ((malloc1 _ _).trans (hb3.mono (by simp))); clear hb3; unfold RMsg.val)
        | (at_builtin; refine wpList_append_own _ rfl (.tmp 12) (.tmp 15) 27 rfl w.heap.size 28 i0 (.agg #[.string ByteArray.empty, .string ByteArray.empty, .string ByteArray.empty, .int .i64 0]) 4 56 Tryd.underlying27 HI.out.1 HI.out.2.1 HI.out.2.2.1 HI.out.2.2.2 rfl (by decide) (.slice p k cp) k ((l.take k).flatMap RMsg.cells) rfl (owns_below HOWN.out (HB3.out.trans ((malloc1 _ _).mono HB3.out.size))) ⟨w3.heap.size, 0, none⟩ 1 1 x1.cells rfl rfl (fun j u hj => new_row1 _ _ _ j u hj) (RMsg.cells_one _) (by unfold maxLen; omega) (by omega) (by have := HB3.out.size; have := HBEL.out.size; simp; omega) ?_; intro v4 w4 hown4 hgr4 _; have HOWN4 := hide hown4; have HGR4 := hide hgr4; clear hown4 hgr4))
      go_roundw
      case rel =>
        have hA : Apart wr w4 (vblocks (.slice p k cp)) := by
          have := (below_apart (HB3.out.trans ((malloc1 w3 _).mono HB3.out.size))).trans (grownBy_apart HGR4.out)
          rwa [List.nil_append] at this
        refine ⟨k + 1, hlt, by go_num, ?_, HBEL.out.trans (hA.below HBEL.out.size (owns_fresh HOWN.out).lo)⟩
        rw [HTK.out, List.flatMap_append]
        simpa using HOWN4.out
      case measure => simp [intOf]; omega
    · have HK : Hid (RMsgOwn wr w.heap.size (.slice p k cp) l) := hide (by
        have := HOWN.out
        rw [List.take_of_length_le (by omega)] at this
        unfold RMsgOwn
        rwa [show l.length = k by omega])
      go_wp2_with fail
      go_ret
      exact ⟨_, rfl, HK.out, HBEL.out⟩
end Go.Proofs.YtonafcifolddjaaDoor
