/- The law's own helpers: how great a row of Nodes is; whether two are alike. -/
import Derived.Test.YtmlkfnclniamiaaQPartOf15
import Derived.Test.YtmlkfnclniamiaaRows
import Derived.Test.YtmlkfnclniamiaaQPartOf00
import Derived.Deep.RegionWith
import Derived.Deep.LoopGhost
import Derived.Laws.Rows
import Derived.Laws.MakeOwn
import Derived.Deep.Slices
import Derived.ChangeArms
import Derived.ChangeSame
namespace Go.Proofs.Ytmlkfnclniamiaa
open Go.RowKit

set_option maxHeartbeats 400000 in
theorem sz_node (n : Nd) (left : Int) (w : World) (ok : n.ok) (hl : 0 ≤ left) (hm : left ≤ 1048576) :
    Calls Try.prog 40 #[n.val, .int .i64 left] w fun e w' => ∃ r : Int, e = .returned (.int .i64 r) ∧ r ≤ 1048576 ∧ (0 ≤ r → n.fit) ∧ Below w.heap.size w w' := by
  obtain ⟨h1, h2⟩ := ok
  unfold maxLen at h1 h2
  have HFI := hide (show n.fit = (n.name.size ≤ 1048576 ∧ n.peer.size ≤ 1048576) from rfl)
  unfold Nd.val
  by_cases a1 : left - n.name.size < 0
  · go_enter Try.func40, Try.ntmps40
    go_wp2_with fail
    go_ret
    exact ⟨_, rfl, by omega, fun h => absurd h (by omega), alloc1 _ _⟩
  · by_cases a2 : left - n.name.size - n.peer.size < 0
    · go_enter Try.func40, Try.ntmps40
      go_wp2_with fail
      go_ret
      exact ⟨_, rfl, by omega, fun h => absurd h (by omega), alloc1 _ _⟩
    · go_enter Try.func40, Try.ntmps40
      go_wp2_with fail
      go_ret
      exact ⟨_, rfl, by omega, fun h => by rw [HFI.out]; omega, alloc1 _ _⟩

set_option maxHeartbeats 400000 in
theorem sz_nodes (ns : List Nd) (ao : Option Addr) (cap : Nat) (w : World) (ok : ∀ n ∈ ns, n.ok) (hl : ns.length ≤ maxLen) (hr : ns ≠ [] → ∃ b o, ao = some ⟨b, o, none⟩ ∧ b < w.heap.size ∧ RowAt w b o ns) :
    Calls Try.prog 10 #[.slice ao ns.length cap, .int .i64 1048576] w fun e w' => ∃ r : Int, e = .returned (.int .i64 r) ∧ (0 ≤ r → ns.length ≤ 1048576 ∧ ∀ n ∈ ns, n.fit) ∧ Below w.heap.size w w' := by
  have HR := hide hr
  have HOK := hide ok
  unfold maxLen at hl
  clear hr ok
  by_cases h0 : ns.length ≤ 1048576
  · go_enter Try.func10, Try.ntmps10
    go_wp2_with fail
    go_loopw [1, 5] (fun lf i wr => ∃ (k : Nat) (l : Int), k ≤ ns.length ∧ i = .int .i64 k ∧ lf = .int .i64 l ∧ 0 ≤ l ∧ l ≤ 1048576 ∧ (∀ j (h : j < ns.length), j < k → ns[j].fit) ∧ Below w.heap.size w wr)
      (fun _ i _ => ns.length - (intOf i).toNat)
    case atStart => exact ⟨0, 1048576 - (ns.length : Int), Nat.zero_le _, rfl, rfl, by omega, by omega, fun j _ h => absurd h (by omega), Below.refl _ _⟩
    case round =>
      obtain ⟨k, l, hk, rfl, rfl, hl0, hl1, hall, hbel⟩ := hrel
      have HA := hide hall
      have HBEL := hide hbel
      have hszr := hbel.size
      clear hall hbel
      by_cases hlt : k < ns.length
      · obtain ⟨b, o, rfl, hbB, hrow⟩ := HR.out (by intro h; simp [h] at hlt)
        have hnode := (hrow.get k hlt).carry hbB HBEL.out
        obtain ⟨n1, hn1⟩ : ∃ n1, n1 = ns[k] := ⟨_, rfl⟩
        rw [← hn1] at hnode
        have HN := hide hn1
        have HN1 := hide (show n1.ok by rw [hn1]; exact HOK.out _ (List.getElem_mem hlt))
        clear hn1 hrow
        have hbw : b < wr.heap.size := hnode.lt
        obtain ⟨c0, c1, c2, c3, c4⟩ := hnode
        go_wp2_with (go_at_call 40; refine (sz_node n1 l _ HN1.out hl0 hl1).mono ?_; rintro e w1 ⟨r, rfl, hr1, hrf, hb1⟩; have HRF := hide hrf; have HB1 := hide hb1; clear hrf hb1)
        all_goals
          first
            | (go_ret
               exact ⟨_, rfl, fun h => absurd h (by omega), HBEL.out.trans (HB1.out.mono hszr)⟩)
            | (go_roundw
               case rel =>
                 refine ⟨k + 1, r, by omega, by go_num, rfl, by omega, hr1, fun j hj hjk => ?_, HBEL.out.trans (HB1.out.mono hszr)⟩
                 by_cases hjk' : j = k
                 · subst hjk'; rw [← HN.out]; exact HRF.out (by omega)
                 · exact HA.out j hj (by omega)
               case measure => simp [intOf]; omega)
      · go_wp2_with fail
        go_ret
        refine ⟨_, rfl, fun _ => ⟨h0, fun n hn => ?_⟩, HBEL.out⟩
        obtain ⟨j, hj, rfl⟩ := List.getElem_of_mem hn
        exact HA.out j hj (by omega)
  · go_enter Try.func10, Try.ntmps10
    go_wp2_with fail
    go_ret
    exact ⟨_, rfl, fun h => absurd h (by omega), Below.refl _ _⟩

theorem eq_node (n : Nd) (w : World) :
    Calls Try.prog 45 #[n.val, n.val] w fun e w' => e = .returned (.bool true) ∧ Below w.heap.size w w' := by
  unfold Nd.val
  go_enter Try.func45, Try.ntmps45
  go_wp2_with fail
  go_ret
  exact ⟨rfl, (alloc1 _ _).trans ((alloc1 _ _).mono (by simp))⟩

set_option maxHeartbeats 400000 in
theorem eq_nodes (ns : List Nd) (v u : Value) (w : World) (hv : SlAt w w.heap.size v ns) (hu : SlAt w w.heap.size u ns) :
    Calls Try.prog 14 #[v, u] w fun e w' => e = .returned (.bool true) ∧ Below w.heap.size w w' := by
  obtain ⟨ao, cap, rfl, hc, hm, hr⟩ := hv
  obtain ⟨ao', cap', rfl, hc', hm', hr'⟩ := hu
  have HR := hide hr
  have HR' := hide hr'
  clear hr hr'
  go_enter Try.func14, Try.ntmps14
  go_wp2_with fail
  go_loopw [5] (fun i wr => ∃ k : Nat, k ≤ ns.length ∧ i = .int .i64 k ∧ Below w.heap.size w wr) (fun i _ => ns.length - (intOf i).toNat)
  case atStart => exact ⟨0, Nat.zero_le _, rfl, Below.refl _ _⟩
  case round =>
    obtain ⟨k, hk, rfl, hbel⟩ := hrel
    have HBEL := hide hbel
    have hszr := hbel.size
    clear hbel
    by_cases hlt : k < ns.length
    · obtain ⟨b, o, rfl, hbB, hrow⟩ := HR.out (by intro h; simp [h] at hlt)
      obtain ⟨b', o', rfl, hbB', hrow'⟩ := HR'.out (by intro h; simp [h] at hlt)
      have hnode := (hrow.get k hlt).carry hbB HBEL.out
      have hnode' := (hrow'.get k hlt).carry hbB' HBEL.out
      obtain ⟨n1, hn1⟩ : ∃ n1, n1 = ns[k] := ⟨_, rfl⟩
      rw [← hn1] at hnode hnode'
      clear hn1 hrow hrow'
      obtain ⟨c0, c1, c2, c3, c4⟩ := hnode
      obtain ⟨d0, d1, d2, d3, d4⟩ := hnode'
      go_wp2_with fail
      go_region_with (go_at_call 45; refine (eq_node n1 _).mono ?_; rintro e w1 ⟨rfl, hb1⟩; have HB1 := hide hb1; clear hb1)
      go_wp2_with fail
      all_goals
        go_roundw
        case rel => exact ⟨k + 1, by omega, by go_num, by first | exact HBEL.out.trans (HB1.out.mono hszr) | exact HBEL.out.drew.trans (HB1.out.mono hszr) | exact HBEL.out.drew.drew.trans (HB1.out.mono hszr)⟩
        case measure => simp [intOf]; omega
    · go_wp2_with fail
      go_ret
      exact ⟨rfl, HBEL.out⟩
end Go.Proofs.Ytmlkfnclniamiaa
/- What holds of memory, whatever the program's functions: new blocks, rows of one's own; names kept apart from those of the texts on plans. -/
namespace Go.Proofs.Ytmlkfnclniamiaa
open Go.RowKit

theorem malloc1 (w : World) (o : Obj) : Below w.heap.size w (w.alloc o) := (Below.refl _ _).alloc (Nat.le_refl _) o
theorem mheap_new (W : World) (o : Obj) (k : Nat) (h : k = W.heap.size) : (W.alloc o).heap[k]? = some o := by
  subst h; show (W.heap.push o)[W.heap.size]? = _; simp
theorem mheap_old (W : World) (o : Obj) (k : Nat) (h : k < W.heap.size) : (W.alloc o).heap[k]? = W.heap[k]? := Below.heap_alloc W o k h
/-- what a slice lies in is new, and may be written to -/
structure MOwn (B : Nat) (w : World) (v : Value) : Prop where
  free : ∀ b, v.ownBlock = some b → B ≤ b ∧ b < w.heap.size ∧ ∀ j, w.frozen? ⟨b, j, none⟩ = false
theorem MOwn.carry {B : Nat} {w w' : World} {v : Value} (h : MOwn B w v) (hb : Below w.heap.size w w') : MOwn B w' v :=
  ⟨fun b e => ⟨(h.free b e).1, Nat.lt_of_lt_of_le (h.free b e).2.1 hb.size, fun j => (hb.frozen (p := ⟨b, j, none⟩) (h.free b e).2.1).trans ((h.free b e).2.2 j)⟩⟩
theorem m_one_of {α : Type} {l : List α} {j : Nat} {v : α} (h : (l.drop j).take 1 = [v]) : l[j]? = some v := by
  have h1 : ((l.drop j).take 1)[0]? = some v := by rw [h]; rfl
  rw [List.getElem?_take, if_pos (by omega), List.getElem?_drop] at h1
  simpa using h1
end Go.Proofs.Ytmlkfnclniamiaa
