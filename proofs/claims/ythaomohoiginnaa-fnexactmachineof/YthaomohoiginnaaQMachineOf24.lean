/- How much of the size is left behind a row of States; such a row as a law holds it. -/
import Derived.Test.YthaomohoiginnaaQMachineOf23
import Derived.Test.YthaomohoiginnaaQMachineOf20
import Derived.Test.YthaomohoiginnaaQMachineOf21
namespace Go.Proofs.Ythaomohoiginnaa
open Go.RowKit

set_option maxHeartbeats 400000 in
theorem sz2_state (x : RState) (left : Int) (w : World) (ok : x.ok) (hl : 0 ≤ left) (hm : left ≤ 1048576) :
    Calls Try.prog 116 #[x.val, .int .i64 left] w fun e w' => ∃ r : Int, e = .returned (.int .i64 r) ∧ r ≤ 1048576 ∧ (0 ≤ r → r ≤ left ∧ x.fit) ∧ Below w.heap.size w w' := by
  unfold RState.ok maxLen at ok
  have HFI := hide (show x.fit = (x.peer.size ≤ 1048576) from rfl)
  unfold RState.val
  by_cases a2 : left - x.peer.size < 0
  · go_enter Try.func116, Try.ntmps116
    go_wp2_with fail
    go_ret
    exact ⟨_, rfl, by omega, fun h => absurd h (by omega), malloc1 _ _⟩
  · skip
    go_enter Try.func116, Try.ntmps116
    go_wp2_with fail
    go_ret
    exact ⟨_, rfl, by omega, fun h => ⟨by omega, by rw [HFI.out]; omega⟩, malloc1 _ _⟩

set_option maxHeartbeats 400000 in
theorem sz2_states (l : List RState) (left : Int) (ao : Option Addr) (cap : Nat) (w : World) (ok : ∀ x ∈ l, x.ok) (hl : l.length ≤ maxLen) (h0 : 0 ≤ left) (h1 : left ≤ 1048576) (hr : l ≠ [] → ∃ b o, ao = some ⟨b, o, none⟩ ∧ b < w.heap.size ∧ RStates w b o l) :
    Calls Try.prog 69 #[.slice ao l.length cap, .int .i64 left] w fun e w' => ∃ r : Int, e = .returned (.int .i64 r) ∧ r ≤ 1048576 ∧ (0 ≤ r → r + (l.length : Int) ≤ left ∧ ∀ x ∈ l, x.fit) ∧ Below w.heap.size w w' := by
  have HR := hide hr
  have HOK := hide ok
  unfold maxLen at hl
  clear hr ok
  by_cases hle : (l.length : Int) ≤ left
  · go_enter Try.func69, Try.ntmps69
    go_wp2_with fail
    go_loopw [1, 5] (fun lf i wr => ∃ (k : Nat) (z : Int), k ≤ l.length ∧ i = .int .i64 k ∧ lf = .int .i64 z ∧ 0 ≤ z ∧ z ≤ 1048576 ∧ z + (l.length : Int) ≤ left ∧ (∀ j (h : j < l.length), j < k → l[j].fit) ∧ Below w.heap.size w wr)
      (fun _ i _ => l.length - (intOf i).toNat)
    case atStart => exact ⟨0, left - (l.length : Int), Nat.zero_le _, rfl, rfl, by omega, by omega, by omega, fun j _ h => absurd h (by omega), Below.refl _ _⟩
    case round =>
      obtain ⟨k, z, hk, rfl, rfl, hl0, hl1, hl2, hall, hbel⟩ := hrel
      have HA := hide hall
      have HBEL := hide hbel
      have hszr := hbel.size
      clear hall hbel
      by_cases hlt : k < l.length
      · obtain ⟨b, o, rfl, hbB, hrow⟩ := HR.out (by intro h; simp [h] at hlt)
        have hnode := (hrow.get k hlt).carry hbB HBEL.out
        obtain ⟨x1, hx1⟩ : ∃ x1, x1 = l[k] := ⟨_, rfl⟩
        rw [← hx1] at hnode
        have HN := hide hx1
        have HN1 := hide (show x1.ok by rw [hx1]; exact HOK.out _ (List.getElem_mem hlt))
        clear hx1 hrow
        have hbw : b < wr.heap.size := hnode.lt
        obtain ⟨c0, c1⟩ := hnode
        go_wp2_with (go_at_call 116; refine (sz2_state x1 z _ HN1.out hl0 hl1).mono ?_; rintro e w1 ⟨r, rfl, hr1, hrf, hb1⟩; have HRF := hide hrf; have HB1 := hide hb1; clear hrf hb1)
        all_goals
          first
            | (go_ret
               exact ⟨_, rfl, by omega, fun h => absurd h (by omega), HBEL.out.trans (HB1.out.mono hszr)⟩)
            | (go_roundw
               case rel =>
                 refine ⟨k + 1, r, by omega, by go_num, rfl, by omega, hr1, by have := (HRF.out (by omega)).1; omega, fun j hj hjk => ?_, HBEL.out.trans (HB1.out.mono hszr)⟩
                 by_cases hjk' : j = k
                 · subst hjk'; rw [← HN.out]; exact (HRF.out (by omega)).2
                 · exact HA.out j hj (by omega)
               case measure => simp [intOf]; omega)
      · go_wp2_with fail
        go_ret
        refine ⟨_, rfl, by omega, fun _ => ⟨hl2, fun x hx => ?_⟩, HBEL.out⟩
        obtain ⟨j, hj, rfl⟩ := List.getElem_of_mem hx
        exact HA.out j hj (by omega)
  · go_enter Try.func69, Try.ntmps69
    go_wp2_with fail
    go_ret
    exact ⟨_, rfl, by omega, fun h => absurd h (by omega), Below.refl _ _⟩


theorem RStateSl.sep {w w' : World} {v : Value} {x : List RState} {l : List Nat} (h : RStateSl w w.heap.size v x) (ha : Apart w w' l) (hd : ∀ b ∈ vblocks v, b ∉ l) : RStateSl w' w'.heap.size v x := by
  have H := h
  obtain ⟨a1, c1, rfl, _⟩ := h
  exact H.keep ha.size (fun b hb hlt => ha.block b hlt (hd b ((own_blocks rfl).1 hb)))
theorem RStateSl.far {w w' : World} {v : Value} {x : List RState} {l : List Nat} (h : RStateSl w w.heap.size v x) (ha : Apart w w' l) (hd : ∀ b ∈ l, w.heap.size ≤ b) : RStateSl w' w'.heap.size v x := by
  have H := h
  obtain ⟨a1, c1, rfl, _⟩ := h
  exact H.keep ha.size (fun b hb hlt => ha.block b hlt (fun hm => absurd (hd b hm) (by omega)))
theorem RStateSl.shape {w : World} {B : Nat} {v : Value} {x : List RState} (h : RStateSl w B v x) : ∃ p c, v = .slice p x.length c := by
  obtain ⟨a1, c1, e, _⟩ := h
  exact ⟨a1, c1, e⟩
theorem states_to (l : List RState) (ao : Option Addr) (cap : Nat) (w : World) (hl : l.length ≤ 1048576) (hr : l ≠ [] → ∃ b o, ao = some ⟨b, o, none⟩ ∧ b < w.heap.size ∧ RStates w b o l) :
    Calls Try.prog 74 #[.slice ao l.length cap] w fun e w' => ∃ v', e = .returned v' ∧ RStateSl w' w'.heap.size v' l ∧ Fresh w.heap.size w' v' ∧ Below w.heap.size w w' :=
  (to_states l ao cap w hl hr).mono fun e w' ⟨v', h1, h2, h3, h4⟩ => by
    obtain ⟨p, c, rfl⟩ := h2.shape
    exact ⟨_, h1, h2, fresh_slice h3, h4⟩
theorem states_mark (k0 : Nat) (ns : List RState) (v : Value) (w : World) (lo : Nat) (h1 : 1 ≤ k0) (hk : k0 + ns.length * 2 ≤ 5900000) (hv : RStateSl w w.heap.size v ns) (hf : Fresh lo w v) :
    Calls Try.prog 133 #[v, .int .i64 k0] w fun e w' => e = .returned (.int .i64 ((k0 + ns.length * 2 : Nat) : Int)) ∧ RStateSl w' w'.heap.size v (markRStates k0 ns.length) ∧ Apart w w' (vblocks v) := by
  obtain ⟨p, c, rfl⟩ := hv.shape
  exact (mark_states k0 ns _ w lo h1 hk hv hf.own).mono fun e w' ⟨h1, h2, h3⟩ => ⟨h1, h2, grownBy_apart h3⟩
end Go.Proofs.Ythaomohoiginnaa
/- Rows of States that one makes oneself. -/
namespace Go.Proofs.Ythaomohoiginnaa
open Go.RowKit

def RState.cells (x : RState) : List Value := [.int .i64 x.kind, .string x.peer]
theorem RState.cells_len (x : RState) : x.cells.length = 2 := rfl
theorem RState.cells_one (x : RState) : ∀ u ∈ x.cells, u.oneCell' = true := by
  intro u hu
  simp [RState.cells] at hu
  rcases hu with rfl | rfl <;> rfl
def RStateOwn (w : World) (base : Nat) (v : Value) (l : List RState) : Prop := w.ownsRow base 98 2 v l.length (l.flatMap RState.cells)
theorem RStateOwn.sl {w : World} {base : Nat} {v : Value} {l : List RState} (h : RStateOwn w base v l) (hl : l.length ≤ 4294967296) : RStateSl w w.heap.size v l := by
  have H := h
  obtain ⟨_, hh⟩ := h
  rcases hh with ⟨rfl, h0⟩ | ⟨gb, cap, cur, rfl, hg, hblk, hc, _⟩
  · have : l = [] := List.length_eq_zero_iff.1 h0
    subst this
    exact ⟨none, 0, rfl, Nat.le_refl _, by simp, fun h => absurd rfl h⟩
  · refine ⟨_, _, rfl, hc, hl, fun _ => ⟨gb, 0, rfl, (Array.getElem?_eq_some_iff.1 hblk).1, RStates.of w gb l 0 (fun j hj => ?_)⟩⟩
    rw [Nat.zero_add]
    have e := fun i (hi : i < 2) (x : Value) (hx : (l[j].cells)[i]? = some x) => owns_cell H rfl (j * 2 + i) x ((flat_get RState.cells 2 RState.cells_len l j hj i hi).trans hx)
    exact ⟨e 0 (by omega) _ rfl, e 1 (by omega) _ rfl⟩
theorem RStateOwn.keep {w w' : World} {base : Nat} {v : Value} {x : List RState} {l : List Nat} (h : RStateOwn w base v x) (ha : Apart w w' l) (hd : ∀ b ∈ vblocks v, b ∉ l) : RStateOwn w' base v x := owns_keep h ha hd
theorem RStateOwn.below {w w' : World} {base : Nat} {v : Value} {x : List RState} (h : RStateOwn w base v x) (hb : Below w.heap.size w w') : RStateOwn w' base v x := owns_below h hb
theorem RStateOwn.fresh {w : World} {base : Nat} {v : Value} {x : List RState} (h : RStateOwn w base v x) : Fresh base w v := owns_fresh h
theorem RStateOwn.nil (w : World) (base : Nat) : RStateOwn w base (.slice none 0 0) [] := owns_nil w base _ _
theorem RStateOwn.snoc {w : World} {base : Nat} {v : Value} {l : List RState} {x : RState} (h : w.ownsRow base 98 2 v (l.length + 1) (l.flatMap RState.cells ++ x.cells)) : RStateOwn w base v (l ++ [x]) := by
  unfold RStateOwn
  rw [List.length_append, List.length_singleton, List.flatMap_append]
  simpa using h
end Go.Proofs.Ythaomohoiginnaa
