/- How much of the size is left behind a row of Msgs; such a row as a law holds it. -/
import Derived.Test.YtonafcifolddjaaDoorMarkMsg
import Derived.Test.YtonafcifolddjaaDoorSep
namespace Go.Proofs.YtonafcifolddjaaDoor
open Go.RowKit

set_option maxHeartbeats 400000 in
theorem sz2_msg (x : RMsg) (left : Int) (w : World) (ok : x.ok) (hl : 0 ≤ left) (hm : left ≤ 1048576) :
    Calls Tryd.prog 8 #[x.val, .int .i64 left] w fun e w' => ∃ r : Int, e = .returned (.int .i64 r) ∧ r ≤ 1048576 ∧ (0 ≤ r → r ≤ left ∧ x.fit) ∧ Below w.heap.size w w' := by
  unfold RMsg.ok maxLen at ok
  have HFI := hide (show x.fit = (x.frm.size ≤ 1048576 ∧ x.to.size ≤ 1048576 ∧ x.label.size ≤ 1048576) from rfl)
  unfold RMsg.val
  by_cases a2 : left - x.frm.size < 0
  · go_enter Tryd.func8, Tryd.ntmps8
    go_wp2_with fail
    go_ret
    exact ⟨_, rfl, by omega, fun h => absurd h (by omega), malloc1 _ _⟩
  · skip
    by_cases a4 : left - x.frm.size - x.to.size < 0
    · go_enter Tryd.func8, Tryd.ntmps8
      go_wp2_with fail
      go_ret
      exact ⟨_, rfl, by omega, fun h => absurd h (by omega), malloc1 _ _⟩
    · skip
      by_cases a6 : left - x.frm.size - x.to.size - x.label.size < 0
      · go_enter Tryd.func8, Tryd.ntmps8
        go_wp2_with fail
        go_ret
        exact ⟨_, rfl, by omega, fun h => absurd h (by omega), malloc1 _ _⟩
      · skip
        go_enter Tryd.func8, Tryd.ntmps8
        go_wp2_with fail
        go_ret
        exact ⟨_, rfl, by omega, fun h => ⟨by omega, by rw [HFI.out]; omega⟩, malloc1 _ _⟩

set_option maxHeartbeats 400000 in
theorem sz2_msgs (l : List RMsg) (left : Int) (ao : Option Addr) (cap : Nat) (w : World) (ok : ∀ x ∈ l, x.ok) (hl : l.length ≤ maxLen) (h0 : 0 ≤ left) (h1 : left ≤ 1048576) (hr : l ≠ [] → ∃ b o, ao = some ⟨b, o, none⟩ ∧ b < w.heap.size ∧ RMsgs w b o l) :
    Calls Tryd.prog 7 #[.slice ao l.length cap, .int .i64 left] w fun e w' => ∃ r : Int, e = .returned (.int .i64 r) ∧ r ≤ 1048576 ∧ (0 ≤ r → r + (l.length : Int) ≤ left ∧ ∀ x ∈ l, x.fit) ∧ Below w.heap.size w w' := by
  have HR := hide hr
  have HOK := hide ok
  unfold maxLen at hl
  clear hr ok
  by_cases hle : (l.length : Int) ≤ left
  · go_enter Tryd.func7, Tryd.ntmps7
    go_wp2_with fail
    go_loopw [1, 5] (fun lf i wr => ∃ (k : Nat) (z : Int), k ≤ l.length ∧ i = .int .i64 k ∧ lf = .int .i64 z ∧ 0 ≤ z ∧ z ≤ 1048576 ∧ z + (l.length : Int) ≤ left ∧ (∀ j (h : j < l.length), j < k → l[j].fit) ∧ Below w.heap.size w wr)
      (fun _ i _ => l.length - (intOf i).toNat)
    case atStart => exact ⟨0, left - (l.length : Int), Nat.zero_le _, rfl, rfl, by omega, by omega, by omega, fun j _ h => absurd h (by omega), Below.refl _ _⟩
    case round =>
      obtain ⟨k, z, hk, rfl, rfl, hl0, hl1, hl2, hall, hbel⟩ := hrel
      have HA := hide hall
      have HBEL := hide hbel
      have hszr := hbel.size
      clear hall hbel
      by_cases hlt : k < l.length
      · obtain ⟨b, o, rfl, hbB, hrow⟩ := HR.out (by intro h; simp [h] at hlt)
        have hnode := (hrow.get k hlt).carry hbB HBEL.out
        obtain ⟨x1, hx1⟩ : ∃ x1, x1 = l[k] := ⟨_, rfl⟩
        rw [← hx1] at hnode
        have HN := hide hx1
        have HN1 := hide (show x1.ok by rw [hx1]; exact HOK.out _ (List.getElem_mem hlt))
        clear hx1 hrow
        have hbw : b < wr.heap.size := hnode.lt
        obtain ⟨c0, c1, c2, c3⟩ := hnode
        go_wp2_with (go_at_call 8; refine (sz2_msg x1 z _ HN1.out hl0 hl1).mono ?_; rintro e w1 ⟨r, rfl, hr1, hrf, hb1⟩; have HRF := hide hrf; have HB1 := hide hb1; clear hrf hb1)
        all_goals
          first
            | (go_ret
               exact ⟨_, rfl, by omega, fun h => absurd h (by omega), HBEL.out.trans (HB1.out.mono hszr)⟩)
            | (go_roundw
               case rel =>
                 refine ⟨k + 1, r, by omega, by go_num, rfl, by omega, hr1, by have := (HRF.out (by omega)).1; omega, fun j hj hjk => ?_, HBEL.out.trans (HB1.out.mono hszr)⟩
                 by_cases hjk' : j = k
                 · subst hjk'; rw [← HN.out]; exact (HRF.out (by omega)).2
                 · exact HA.out j hj (by omega)
               case measure => simp [intOf]; omega)
      · go_wp2_with fail
        go_ret
        refine ⟨_, rfl, by omega, fun _ => ⟨hl2, fun x hx => ?_⟩, HBEL.out⟩
        obtain ⟨j, hj, rfl⟩ := List.getElem_of_mem hx
        exact HA.out j hj (by omega)
  · go_enter Tryd.func7, Tryd.ntmps7
    go_wp2_with fail
    go_ret
    exact ⟨_, rfl, by omega, fun h => absurd h (by omega), Below.refl _ _⟩


theorem RMsgSl.sep {w w' : World} {v : Value} {x : List RMsg} {l : List Nat} (h : RMsgSl w w.heap.size v x) (ha : Apart w w' l) (hd : ∀ b ∈ vblocks v, b ∉ l) : RMsgSl w' w'.heap.size v x := by
  have H := h
  obtain ⟨a1, c1, rfl, _⟩ := h
  exact H.keep ha.size (fun b hb hlt => ha.block b hlt (hd b ((own_blocks rfl).1 hb)))
theorem RMsgSl.far {w w' : World} {v : Value} {x : List RMsg} {l : List Nat} (h : RMsgSl w w.heap.size v x) (ha : Apart w w' l) (hd : ∀ b ∈ l, w.heap.size ≤ b) : RMsgSl w' w'.heap.size v x := by
  have H := h
  obtain ⟨a1, c1, rfl, _⟩ := h
  exact H.keep ha.size (fun b hb hlt => ha.block b hlt (fun hm => absurd (hd b hm) (by omega)))
theorem RMsgSl.shape {w : World} {B : Nat} {v : Value} {x : List RMsg} (h : RMsgSl w B v x) : ∃ p c, v = .slice p x.length c := by
  obtain ⟨a1, c1, e, _⟩ := h
  exact ⟨a1, c1, e⟩
theorem msgs_to (l : List RMsg) (ao : Option Addr) (cap : Nat) (w : World) (hl : l.length ≤ 1048576) (hr : l ≠ [] → ∃ b o, ao = some ⟨b, o, none⟩ ∧ b < w.heap.size ∧ RMsgs w b o l) :
    Calls Tryd.prog 10 #[.slice ao l.length cap] w fun e w' => ∃ v', e = .returned v' ∧ RMsgSl w' w'.heap.size v' l ∧ Fresh w.heap.size w' v' ∧ Below w.heap.size w w' :=
  (to_msgs l ao cap w hl hr).mono fun e w' ⟨v', h1, h2, h3, h4⟩ => by
    obtain ⟨p, c, rfl⟩ := h2.shape
    exact ⟨_, h1, h2, fresh_slice h3, h4⟩
theorem msgs_mark (k0 : Nat) (ns : List RMsg) (v : Value) (w : World) (lo : Nat) (h1 : 1 ≤ k0) (hk : k0 + ns.length * 4 ≤ 5900000) (hv : RMsgSl w w.heap.size v ns) (hf : Fresh lo w v) :
    Calls Tryd.prog 15 #[v, .int .i64 k0] w fun e w' => e = .returned (.int .i64 ((k0 + ns.length * 4 : Nat) : Int)) ∧ RMsgSl w' w'.heap.size v (markRMsgs k0 ns.length) ∧ Apart w w' (vblocks v) := by
  obtain ⟨p, c, rfl⟩ := hv.shape
  exact (mark_msgs k0 ns _ w lo h1 hk hv hf.own).mono fun e w' ⟨h1, h2, h3⟩ => ⟨h1, h2, grownBy_apart h3⟩
end Go.Proofs.YtonafcifolddjaaDoor
