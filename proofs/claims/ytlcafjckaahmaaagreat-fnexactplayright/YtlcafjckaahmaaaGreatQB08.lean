/- How much of the size is left behind a row of States; such a row as a law holds it. -/
import Derived.Test.YtlcafjckaahmaaaGreatQB07
import Derived.Test.YtlcafjckaahmaaaGreatQB04
import Derived.Test.YtlcafjckaahmaaaGreatQB01
import Derived.Deep.RegionLaw
import Derived.Deep.DrawnRows
import Derived.Laws.AppendOwn
import Derived.Maps.AppendAt
import Derived.Test.YtlcafjckaahmaaaGreatRows
import Derived.Test.YtlcafjckaahmaaaGreatQB06
namespace Go.Proofs.YtlcafjckaahmaaaGreat
open Go.RowKit

set_option maxHeartbeats 400000 in
theorem sz2_state (x : RState) (left : Int) (w : World) (ok : x.ok) (hl : 0 ≤ left) (hm : left ≤ 1048576) :
    Calls Tryz.prog 143 #[x.val, .int .i64 left] w fun e w' => ∃ r : Int, e = .returned (.int .i64 r) ∧ r ≤ 1048576 ∧ (0 ≤ r → r ≤ left ∧ x.fit) ∧ Below w.heap.size w w' := by
  unfold RState.ok maxLen at ok
  have HFI := hide (show x.fit = (x.peer.size ≤ 1048576) from rfl)
  unfold RState.val
  by_cases a2 : left - x.peer.size < 0
  · go_enter Tryz.func143, Tryz.ntmps143
    go_wp2_with fail
    go_ret
    exact ⟨_, rfl, by omega, fun h => absurd h (by omega), malloc1 _ _⟩
  · skip
    go_enter Tryz.func143, Tryz.ntmps143
    go_wp2_with fail
    go_ret
    exact ⟨_, rfl, by omega, fun h => ⟨by omega, by rw [HFI.out]; omega⟩, malloc1 _ _⟩

set_option maxHeartbeats 400000 in
theorem sz2_states (l : List RState) (left : Int) (ao : Option Addr) (cap : Nat) (w : World) (ok : ∀ x ∈ l, x.ok) (hl : l.length ≤ maxLen) (h0 : 0 ≤ left) (h1 : left ≤ 1048576) (hr : l ≠ [] → ∃ b o, ao = some ⟨b, o, none⟩ ∧ b < w.heap.size ∧ RStates w b o l) :
    Calls Tryz.prog 101 #[.slice ao l.length cap, .int .i64 left] w fun e w' => ∃ r : Int, e = .returned (.int .i64 r) ∧ r ≤ 1048576 ∧ (0 ≤ r → r + (l.length : Int) ≤ left ∧ ∀ x ∈ l, x.fit) ∧ Below w.heap.size w w' := by
  have HR := hide hr
  have HOK := hide ok
  unfold maxLen at hl
  clear hr ok
  by_cases hle : (l.length : Int) ≤ left
  · go_enter Tryz.func101, Tryz.ntmps101
    go_wp2_with fail
    go_loopw [1, 5] (fun lf i wr => ∃ (k : Nat) (z : Int), k ≤ l.length ∧ i = .int .i64 k ∧ lf = .int .i64 z ∧ 0 ≤ z ∧ z ≤ 1048576 ∧ z + (l.length : Int) ≤ left ∧ (∀ j (h : j < l.length), j < k → l[j].fit) ∧ Below w.heap.size w wr)
      (fun _ i _ => l.length - (intOf i).toNat)
    case atStart => exact ⟨0, left - (l.length : Int), Nat.zero_le _, rfl, rfl, by omega, by omega, by omega, fun j _ h => absurd h (by omega), Below.refl _ _⟩
    case round =>
      obtain ⟨k, z, hk, rfl, rfl, hl0, hl1, hl2, hall, hbel⟩ := hrel
      have HA := hide hall
      have HBEL := hide hbel
      have hszr := hbel.size
      clear hall hbel
      by_cases hlt : k < l.length
      · obtain ⟨b, o, rfl, hbB, hrow⟩ := HR.out (by intro h; simp [h] at hlt)
        have hnode := (hrow.get k hlt).carry hbB HBEL.out
        obtain ⟨x1, hx1⟩ : ∃ x1, x1 = l[k] := ⟨_, rfl⟩
        rw [← hx1] at hnode
        have HN := hide hx1
        have HN1 := hide (show x1.ok by rw [hx1]; exact HOK.out _ (List.getElem_mem hlt))
        clear hx1 hrow
        have hbw : b < wr.heap.size := hnode.lt
        obtain ⟨c0, c1⟩ := hnode
        go_wp2_with (go_at_call 143; refine (sz2_state x1 z _ HN1.out hl0 hl1).mono ?_; rintro e w1 ⟨r, rfl, hr1, hrf, hb1⟩; have HRF := hide hrf; have HB1 := hide hb1; clear hrf hb1)
        all_goals
          first
            | (go_ret
               exact ⟨_, rfl, by omega, fun h => absurd h (by omega), HBEL.out.trans (HB1.out.mono hszr)⟩)
            | (go_roundw
               case rel =>
                 refine ⟨k + 1, r, by omega, by go_num, rfl, by omega, hr1, by have := (HRF.out (by omega)).1; omega, fun j hj hjk => ?_, HBEL.out.trans (HB1.out.mono hszr)⟩
                 by_cases hjk' : j = k
                 · subst hjk'; rw [← HN.out]; exact (HRF.out (by omega)).2
                 · exact HA.out j hj (by omega)
               case measure => simp [intOf]; omega)
      · go_wp2_with fail
        go_ret
        refine ⟨_, rfl, by omega, fun _ => ⟨hl2, fun x hx => ?_⟩, HBEL.out⟩
        obtain ⟨j, hj, rfl⟩ := List.getElem_of_mem hx
        exact HA.out j hj (by omega)
  · go_enter Tryz.func101, Tryz.ntmps101
    go_wp2_with fail
    go_ret
    exact ⟨_, rfl, by omega, fun h => absurd h (by omega), Below.refl _ _⟩


theorem RStateSl.sep {w w' : World} {v : Value} {x : List RState} {l : List Nat} (h : RStateSl w w.heap.size v x) (ha : Apart w w' l) (hd : ∀ b ∈ vblocks v, b ∉ l) : RStateSl w' w'.heap.size v x := by
  have H := h
  obtain ⟨a1, c1, rfl, _⟩ := h
  exact H.keep ha.size (fun b hb hlt => ha.block b hlt (hd b ((own_blocks rfl).1 hb)))
theorem RStateSl.far {w w' : World} {v : Value} {x : List RState} {l : List Nat} (h : RStateSl w w.heap.size v x) (ha : Apart w w' l) (hd : ∀ b ∈ l, w.heap.size ≤ b) : RStateSl w' w'.heap.size v x := by
  have H := h
  obtain ⟨a1, c1, rfl, _⟩ := h
  exact H.keep ha.size (fun b hb hlt => ha.block b hlt (fun hm => absurd (hd b hm) (by omega)))
theorem RStateSl.shape {w : World} {B : Nat} {v : Value} {x : List RState} (h : RStateSl w B v x) : ∃ p c, v = .slice p x.length c := by
  obtain ⟨a1, c1, e, _⟩ := h
  exact ⟨a1, c1, e⟩
theorem states_to (l : List RState) (ao : Option Addr) (cap : Nat) (w : World) (hl : l.length ≤ 1048576) (hr : l ≠ [] → ∃ b o, ao = some ⟨b, o, none⟩ ∧ b < w.heap.size ∧ RStates w b o l) :
    Calls Tryz.prog 107 #[.slice ao l.length cap] w fun e w' => ∃ v', e = .returned v' ∧ RStateSl w' w'.heap.size v' l ∧ Fresh w.heap.size w' v' ∧ Below w.heap.size w w' :=
  (to_states l ao cap w hl hr).mono fun e w' ⟨v', h1, h2, h3, h4⟩ => by
    obtain ⟨p, c, rfl⟩ := h2.shape
    exact ⟨_, h1, h2, fresh_slice h3, h4⟩
end Go.Proofs.YtlcafjckaahmaaaGreat
/- How much of the size is left behind a row of Edges; such a row as a law holds it. -/
namespace Go.Proofs.YtlcafjckaahmaaaGreat
open Go.RowKit

set_option maxHeartbeats 400000 in
theorem sz2_edge (x : REdge) (left : Int) (w : World) (ok : x.ok) (hl : 0 ≤ left) (hm : left ≤ 1048576) :
    Calls Tryz.prog 144 #[x.val, .int .i64 left] w fun e w' => ∃ r : Int, e = .returned (.int .i64 r) ∧ r ≤ 1048576 ∧ (0 ≤ r → r ≤ left ∧ x.fit) ∧ Below w.heap.size w w' := by
  unfold REdge.ok maxLen at ok
  have HFI := hide (show x.fit = (x.label.size ≤ 1048576) from rfl)
  unfold REdge.val
  by_cases a2 : left - x.label.size < 0
  · go_enter Tryz.func144, Tryz.ntmps144
    go_wp2_with fail
    go_ret
    exact ⟨_, rfl, by omega, fun h => absurd h (by omega), malloc1 _ _⟩
  · skip
    go_enter Tryz.func144, Tryz.ntmps144
    go_wp2_with fail
    go_ret
    exact ⟨_, rfl, by omega, fun h => ⟨by omega, by rw [HFI.out]; omega⟩, malloc1 _ _⟩

set_option maxHeartbeats 400000 in
theorem sz2_edges (l : List REdge) (left : Int) (ao : Option Addr) (cap : Nat) (w : World) (ok : ∀ x ∈ l, x.ok) (hl : l.length ≤ maxLen) (h0 : 0 ≤ left) (h1 : left ≤ 1048576) (hr : l ≠ [] → ∃ b o, ao = some ⟨b, o, none⟩ ∧ b < w.heap.size ∧ REdges w b o l) :
    Calls Tryz.prog 102 #[.slice ao l.length cap, .int .i64 left] w fun e w' => ∃ r : Int, e = .returned (.int .i64 r) ∧ r ≤ 1048576 ∧ (0 ≤ r → r + (l.length : Int) ≤ left ∧ ∀ x ∈ l, x.fit) ∧ Below w.heap.size w w' := by
  have HR := hide hr
  have HOK := hide ok
  unfold maxLen at hl
  clear hr ok
  by_cases hle : (l.length : Int) ≤ left
  · go_enter Tryz.func102, Tryz.ntmps102
    go_wp2_with fail
    go_loopw [1, 5] (fun lf i wr => ∃ (k : Nat) (z : Int), k ≤ l.length ∧ i = .int .i64 k ∧ lf = .int .i64 z ∧ 0 ≤ z ∧ z ≤ 1048576 ∧ z + (l.length : Int) ≤ left ∧ (∀ j (h : j < l.length), j < k → l[j].fit) ∧ Below w.heap.size w wr)
      (fun _ i _ => l.length - (intOf i).toNat)
    case atStart => exact ⟨0, left - (l.length : Int), Nat.zero_le _, rfl, rfl, by omega, by omega, by omega, fun j _ h => absurd h (by omega), Below.refl _ _⟩
    case round =>
      obtain ⟨k, z, hk, rfl, rfl, hl0, hl1, hl2, hall, hbel⟩ := hrel
      have HA := hide hall
      have HBEL := hide hbel
      have hszr := hbel.size
      clear hall hbel
      by_cases hlt : k < l.length
      · obtain ⟨b, o, rfl, hbB, hrow⟩ := HR.out (by intro h; simp [h] at hlt)
        have hnode := (hrow.get k hlt).carry hbB HBEL.out
        obtain ⟨x1, hx1⟩ : ∃ x1, x1 = l[k] := ⟨_, rfl⟩
        rw [← hx1] at hnode
        have HN := hide hx1
        have HN1 := hide (show x1.ok by rw [hx1]; exact HOK.out _ (List.getElem_mem hlt))
        clear hx1 hrow
        have hbw : b < wr.heap.size := hnode.lt
        obtain ⟨c0, c1, c2, c3⟩ := hnode
        go_wp2_with (go_at_call 144; refine (sz2_edge x1 z _ HN1.out hl0 hl1).mono ?_; rintro e w1 ⟨r, rfl, hr1, hrf, hb1⟩; have HRF := hide hrf; have HB1 := hide hb1; clear hrf hb1)
        all_goals
          first
            | (go_ret
               exact ⟨_, rfl, by omega, fun h => absurd h (by omega), HBEL.out.trans (HB1.out.mono hszr)⟩)
            | (go_roundw
               case rel =>
                 refine ⟨k + 1, r, by omega, by go_num, rfl, by omega, hr1, by have := (HRF.out (by omega)).1; omega, fun j hj hjk => ?_, HBEL.out.trans (HB1.out.mono hszr)⟩
                 by_cases hjk' : j = k
                 · subst hjk'; rw [← HN.out]; exact (HRF.out (by omega)).2
                 · exact HA.out j hj (by omega)
               case measure => simp [intOf]; omega)
      · go_wp2_with fail
        go_ret
        refine ⟨_, rfl, by omega, fun _ => ⟨hl2, fun x hx => ?_⟩, HBEL.out⟩
        obtain ⟨j, hj, rfl⟩ := List.getElem_of_mem hx
        exact HA.out j hj (by omega)
  · go_enter Tryz.func102, Tryz.ntmps102
    go_wp2_with fail
    go_ret
    exact ⟨_, rfl, by omega, fun h => absurd h (by omega), Below.refl _ _⟩


theorem REdgeSl.sep {w w' : World} {v : Value} {x : List REdge} {l : List Nat} (h : REdgeSl w w.heap.size v x) (ha : Apart w w' l) (hd : ∀ b ∈ vblocks v, b ∉ l) : REdgeSl w' w'.heap.size v x := by
  have H := h
  obtain ⟨a1, c1, rfl, _⟩ := h
  exact H.keep ha.size (fun b hb hlt => ha.block b hlt (hd b ((own_blocks rfl).1 hb)))
theorem REdgeSl.far {w w' : World} {v : Value} {x : List REdge} {l : List Nat} (h : REdgeSl w w.heap.size v x) (ha : Apart w w' l) (hd : ∀ b ∈ l, w.heap.size ≤ b) : REdgeSl w' w'.heap.size v x := by
  have H := h
  obtain ⟨a1, c1, rfl, _⟩ := h
  exact H.keep ha.size (fun b hb hlt => ha.block b hlt (fun hm => absurd (hd b hm) (by omega)))
theorem REdgeSl.shape {w : World} {B : Nat} {v : Value} {x : List REdge} (h : REdgeSl w B v x) : ∃ p c, v = .slice p x.length c := by
  obtain ⟨a1, c1, e, _⟩ := h
  exact ⟨a1, c1, e⟩
theorem edges_to (l : List REdge) (ao : Option Addr) (cap : Nat) (w : World) (hl : l.length ≤ 1048576) (hr : l ≠ [] → ∃ b o, ao = some ⟨b, o, none⟩ ∧ b < w.heap.size ∧ REdges w b o l) :
    Calls Tryz.prog 108 #[.slice ao l.length cap] w fun e w' => ∃ v', e = .returned v' ∧ REdgeSl w' w'.heap.size v' l ∧ Fresh w.heap.size w' v' ∧ Below w.heap.size w w' :=
  (to_edges l ao cap w hl hr).mono fun e w' ⟨v', h1, h2, h3, h4⟩ => by
    obtain ⟨p, c, rfl⟩ := h2.shape
    exact ⟨_, h1, h2, fresh_slice h3, h4⟩
end Go.Proofs.YtlcafjckaahmaaaGreat
/- What serves every walk: a block's cells, what is kept apart, append as one step. -/
namespace Go.Proofs.YtlcafjckaahmaaaGreat
open Go.RowKit

theorem setCell_apart (w : World) (b o : Nat) (x : Value) : Apart w (w.setCell ⟨b, o, none⟩ x) [b] := Apart.setCell ⟨rfl, rfl, rfl, Nat.le_refl _, fun _ _ _ => rfl⟩ o x
theorem owns_down {w : World} {base base' e size n : Nat} {v : Value} {xs : List Value} (h : w.ownsRow base e size v n xs) (hb : base' ≤ base) : w.ownsRow base' e size v n xs := by
  obtain ⟨h1, h2⟩ := h
  refine ⟨h1, ?_⟩
  rcases h2 with h2 | ⟨g, cap, cur, a, b, c⟩
  · exact .inl h2
  · exact .inr ⟨g, cap, cur, a, Nat.le_trans hb b, c⟩
theorem stepM_at {P : Program} {ops : Array Oper} {o : Oper} {a : Act} {w : World} {K : Act → World → Prop} {Q : Exit → Act → World → Prop} {E : Prop}
    (hg : o.guard = none) (s x : Operand) (t : TypeId) (hop : o.op = Op.call { callee := Callee.builtin Builtin.append, args := #[s, x], argTypes := #[t, t] })
    (base : Nat) (e : TypeId) (i : TypeInfo) (z : Value) (size bytes : Nat) (h1 : P.underlying t = some (.slice e)) (h2 : P.info? e = some i) (h3 : i.zero = some z) (h4 : i.size = size) (h5 : i.bytes = bytes) (h6 : z.cells.size = size) (h7 : 0 < size)
    (v : Value) (n : Nat) (xs : List Value) (hs : a.eval s = v) (hown : w.ownsRow base e size v n xs)
    (ad : Addr) (m c : Nat) (news : List Value) (hx : a.eval x = .slice (some ad) m c) (hn : news.length = m * size) (hc : ∀ j u, news[j]? = some u → w.cell? (ad.add j) = some u) (h1c : ∀ u ∈ news, u.oneCell' = true)
    (b1 : n + m ≤ maxLen) (b2 : (n + m) * bytes ≤ 140737488355328) (hbase : base ≤ w.heap.size)
    (hK : ∀ v' w', w'.ownsRow base e size v' (n + m) (xs ++ news) → w.grownBy w' v.ownBlock → (v'.ownBlock = v.ownBlock ∨ v'.ownBlock = some w.heap.size) → K (a.put o.dst v') w') :
    if Region.wanted o (yielded ops a.tmps) = true then Oper.wp P o a w K Q else E := by
  have hw : Region.wanted o (yielded ops a.tmps) = true := by simp [Region.wanted, hg]
  rw [if_pos hw]
  obtain ⟨v', w', hrun, r1, r2, _, r3⟩ := run_append_own_at (P := P) w base t o.type e i z size bytes h1 h2 h3 h4 h5 h6 h7 v n xs hown ad m c news hn hc h1c b1 b2 hbase
  unfold Oper.wp
  simp [execOp, hop, resolve, invoke, builtin, hs, hx, hrun, Result.andThen]
  exact hK v' w' r1 r2 r3
theorem Apart.sub {w w' : World} {l l' : List Nat} (h : Apart w w' l) (hs : ∀ b ∈ l, b ∈ l') : Apart w w' l' := ⟨h.os, h.tape, h.output, h.size, fun b hb hn => h.block b hb (fun hm => hn (hs b hm))⟩
structure BoxL (w : World) (b : Nat) (vs : List Value) : Prop where
  cell : ∀ i v, vs[i]? = some v → w.cell? ⟨b, i, none⟩ = some v
  fz : ∀ o, w.frozen? ⟨b, o, none⟩ = false
  lt : b < w.heap.size
theorem BoxL.keep {w w' : World} {b : Nat} {vs : List Value} {l : List Nat} (h : BoxL w b vs) (ha : Apart w w' l) (hl : b ∉ l) : BoxL w' b vs :=
  ⟨fun i v hv => ha.cell' (h.cell i v hv) hl, fun o => ha.frozen' h.lt (h.fz o) hl, Nat.lt_of_lt_of_le h.lt ha.size⟩
theorem BoxL.set {w : World} {b : Nat} {vs : List Value} (h : BoxL w b vs) (k : Nat) (hk : k < vs.length) (y : Value) : BoxL (w.setCell ⟨b, k, none⟩ y) b (vs.set k y) := by
  refine ⟨fun i v hv => ?_, fun o => (World.frozen?_setCell ..).trans (h.fz o), by rw [World.size_setCell]; exact h.lt⟩
  by_cases hi : k = i
  · subst hi
    rw [List.getElem?_set_self hk] at hv
    injection hv with hv
    subst hv
    exact World.cell?_setCell_same _ _ _ (h.cell k vs[k] (by simp [hk]))
  · rw [List.getElem?_set_ne hi] at hv
    rw [World.cell?_setCell_other _ _ _ _ (by intro e; injection e with _ e2; exact hi e2)]
    exact h.cell i v hv
theorem BoxL.new (w : World) (vs : List Value) (T : TypeId) : BoxL (w.alloc (.cells vs.toArray T)) w.heap.size vs := by
  refine ⟨fun i v hv => ?_, fun o => by simp, by simp⟩
  obtain ⟨h1, h2⟩ := List.getElem?_eq_some_iff.1 hv
  simp [h1, h2]
end Go.Proofs.YtlcafjckaahmaaaGreat
/- Rows of texts that a call makes itself. -/
namespace Go.Proofs.YtlcafjckaahmaaaGreat
open Go.RowKit

theorem new_row1 (w : World) (cs : List Value) (t : TypeId) (j : Nat) (u : Value) (h : cs[j]? = some u) : (w.alloc (.cells cs.toArray t)).cell? (Addr.add ⟨w.heap.size, 0, none⟩ j) = some u := by
  have e : (w.alloc (.cells cs.toArray t)).heap[w.heap.size]? = some (.cells cs.toArray t) := mheap_new _ _ _ rfl
  have ea : Addr.add ⟨w.heap.size, 0, none⟩ j = ⟨w.heap.size, j, none⟩ := by
    unfold Addr.add
    split <;> simp_all
  rw [ea]
  simp only [World.cell?]
  rw [e]
  simpa using h
theorem Tryz.infoStr : (Tryz.prog.info? 9).map (fun i => (i.zero, i.size, i.bytes)) = some (some (.string ByteArray.empty), 1, 16) := by kernel_rfl
theorem owns_some {w : World} {base e n : Nat} {v : Value} {xs : List Value} (h : w.ownsRow base e 1 v n xs) (hn : 0 < n) : ∃ g c, v = .slice (some ⟨g, 0, none⟩) n c ∧ g < w.heap.size ∧ ∀ i x, xs[i]? = some x → w.cell? ⟨g, i, none⟩ = some x := by
  have H := h
  obtain ⟨_, hh⟩ := h
  rcases hh with ⟨rfl, h0⟩ | ⟨g, cap, cur, rfl, _, hblk, _⟩
  · omega
  · exact ⟨g, cap, rfl, (Array.getElem?_eq_some_iff.1 hblk).1, fun i x hx => owns_cell H rfl i x hx⟩
def strV (l : List ByteArray) : List Value := l.map Value.string
theorem strV_one (l : List ByteArray) : ∀ u ∈ strV l, u.oneCell' = true := by
  intro u hu
  simp only [strV, List.mem_map] at hu
  obtain ⟨x, _, rfl⟩ := hu
  rfl
end Go.Proofs.YtlcafjckaahmaaaGreat
/- What a right machine is; the small functions of the specification that ask for it. -/
namespace Go.Proofs.YtlcafjckaahmaaaGreat
open Go.RowKit

def inB (n lo hi : Int) : Bool := decide (lo ≤ n) && decide (n ≤ hi)
theorem ms_in (n lo hi : Int) (w : World) :
    Calls Tryz.prog 82 #[.int .i64 n, .int .i64 lo, .int .i64 hi] w fun e w' => e = .returned (.bool (inB n lo hi)) ∧ w' = w := ms_is n lo hi w
theorem ms_sort (n : Int) (w : World) :
    Calls Tryz.prog 105 #[.int .i64 n] w fun e w' => e = .returned (.bool (inB n 0 2)) ∧ w' = w := by
  go_enter Tryz.func105, Tryz.ntmps105
  go_wp2_with (go_at_call 82; refine (ms_in _ _ _ _).mono ?_; rintro e w' ⟨rfl, rfl⟩)
  go_ret
  exact ⟨ret_bool rfl, rfl⟩
def mlessE (a b : REdge) : Bool := decide (a.src < b.src) || (a.src == b.src && Op.bytesLess a.label.toList b.label.toList)
theorem ms_less (a b : REdge) (w : World) :
    Calls Tryz.prog 106 #[a.val, b.val] w fun e w' => e = .returned (.bool (mlessE a b)) ∧ Below w.heap.size w w' := by
  have HE := hide (show mlessE a b = (decide (a.src < b.src) || (a.src == b.src && Op.bytesLess a.label.toList b.label.toList)) from rfl)
  unfold REdge.val
  by_cases h1 : a.src < b.src
  · go_enter Tryz.func106, Tryz.ntmps106
    go_wp2_with fail
    all_goals
      go_ret
      refine ⟨ret_bool ?_, (malloc1 _ _).trans ((malloc1 _ _).mono (by simp))⟩
      rw [HE.out]; simp [*]
  · have h1' : decide (a.src < b.src) = false := decide_eq_false h1
    cases h2 : (a.src == b.src)
    all_goals
      have H2 := hide h2
      have H1 := hide h1'
      go_enter Tryz.func106, Tryz.ntmps106
      go_wp2_with fail
      all_goals
        go_ret
        refine ⟨ret_bool ?_, (malloc1 _ _).trans ((malloc1 _ _).mono (by simp))⟩
        rw [HE.out, H2.out, H1.out]; simp
def mstB (x : RState) : Bool := if x.kind == 0 then x.peer.toList == [] else nameB x.peer && inB x.kind 0 2
def kindAt (m : Mach) (s : Int) : Int := match m.states[s.toNat]? with
  | some x => x.kind
  | none => 0
def medB (m : Mach) (e : REdge) : Bool := inB e.src 0 ((m.states.length : Int) - 1) && (inB e.dst 0 ((m.states.length : Int) - 1) && (nameB e.label && (inB e.sort 0 2 && !(kindAt m e.src == 0))))
def edgeOk (m : Mach) (i : Nat) : Bool := match m.edges[i]? with
  | none => true
  | some e => medB m e && (match i, m.edges[i - 1]? with
    | 0, _ => true
    | _ + 1, some e' => mlessE e' e
    | _ + 1, none => true)
def headB (m : Mach) : Bool := inB (m.states.length : Int) 1 40 && (decide (m.edges.length ≤ 80) && inB m.start 0 ((m.states.length : Int) - 1))
def machB (m : Mach) : Bool := headB m && (m.states.all mstB && (List.range m.edges.length).all (edgeOk m))

/- the same contracts, their answer given ahead -/
theorem ms_in_at {q : Bool} {n lo hi : Int} (h : inB n lo hi = q) (w : World) :
    Calls Tryz.prog 82 #[.int .i64 n, .int .i64 lo, .int .i64 hi] w fun e w' => e = .returned (.bool q) ∧ w' = w := by subst h; exact ms_in n lo hi w
theorem ms_sort_at {q : Bool} {n : Int} (h : inB n 0 2 = q) (w : World) :
    Calls Tryz.prog 105 #[.int .i64 n] w fun e w' => e = .returned (.bool q) ∧ w' = w := by subst h; exact ms_sort n w
theorem ms_less_at {q : Bool} {a b : REdge} (h : mlessE a b = q) (w : World) :
    Calls Tryz.prog 106 #[a.val, b.val] w fun e w' => e = .returned (.bool q) ∧ Below w.heap.size w w' := by subst h; exact ms_less a b w
theorem spec_name_at {q : Bool} {s : ByteArray} (h : nameB s = q) (hs : s.size ≤ maxLen) (w : World) :
    Calls Tryz.prog 104 #[.string s] w fun e w' => e = .returned (.bool q) ∧ w' = w := by subst h; exact spec_name s w hs
end Go.Proofs.YtlcafjckaahmaaaGreat
/- A machine that is handed in, opened. -/
namespace Go.Proofs.YtlcafjckaahmaaaGreat
open Go.RowKit Go.ChangeShapes Go.WideShapes

theorem Tryz.cMach : Tryz.prog.cellsOf 51 = 3 := by kernel_rfl
theorem Tryz.cSts : Tryz.prog.cellsOf 48 = 1 := by kernel_rfl
theorem Tryz.cEds : Tryz.prog.cellsOf 49 = 1 := by kernel_rfl
theorem slice_shape {H : Type} {enc : TypeId × Value → H} {w : World} {base : Nat} {spare : Nat → Bool} {held : Bool} {fuel : Nat} {t e : TypeId} (ht : Tryz.prog.underlying t = some (.slice e)) {a : Value} {x : DataW H × List MemPlace} (h : DataW.trod enc Tryz.prog w base spare held fuel t [a] = some x) : ∃ p l c, a = .slice p l c := by
  rcases Go.Deep.open_slice ht h with ⟨h0, _⟩ | ⟨a', len, cap, m, n, D, Pl, hcs, _⟩
  · simp at h0; exact ⟨_, _, _, h0⟩
  · simp at hcs; exact ⟨_, _, _, hcs⟩
theorem open_machine {H : Type} {enc : TypeId × Value → H} {w : World} {base : Nat} {spare : Nat → Bool} {held : Bool} {fuel : Nat} {cs : Array Value} {x : DataW H × List MemPlace} (hsz : cs.size = Tryz.prog.cellsOf 51) (h : DataW.trod enc Tryz.prog w base spare held fuel 51 cs.toList = some x) :
    ∃ m sa sc ea ec, Value.agg cs = machV sa sc ea ec m ∧ MachArg w sa sc ea ec m := by
  rw [Tryz.cMach] at hsz
  obtain ⟨l⟩ := cs
  match l, hsz with
  | [a, b, c], _ =>
    obtain ⟨xs, n, _, _, hl, hlen, hf⟩ := DataW.trod_struct Tryz.underlying51 h
    have hx3 : xs.length = 3 := hlen
    match xs, hx3 with
    | [y0, y1, y2], _ =>
      have g0 : DataW.trod enc Tryz.prog w base spare held n 48 (([a, b, c].drop 0).take (Tryz.prog.cellsOf 48)) = some y0 := hf 0 _ rfl
      have g1 : DataW.trod enc Tryz.prog w base spare held n 49 (([a, b, c].drop 1).take (Tryz.prog.cellsOf 49)) = some y1 := hf 1 _ rfl
      have g2 : DataW.trod enc Tryz.prog w base spare held n 2 (([a, b, c].drop 2).take (Tryz.prog.cellsOf 2)) = some y2 := hf 2 _ rfl
      rw [Tryz.cSts] at g0
      rw [Tryz.cEds] at g1
      rw [Tryz.ocI] at g2
      simp only [List.drop_zero, List.drop_succ_cons, List.take_succ_cons, List.take_zero] at g0 g1 g2
      obtain ⟨sa, sl, sc, rfl⟩ := slice_shape Tryz.underlying48 g0
      obtain ⟨ea, el, ec, rfl⟩ := slice_shape Tryz.underlying49 g1
      obtain ⟨z, e2, _⟩ := DataW.trod_int Tryz.underlying2 g2
      obtain ⟨ss, rfl, s1, s2, s3⟩ := open_states g0
      obtain ⟨es, rfl, e1, e2', e3⟩ := open_edges g1
      have hz : c = .int .i64 z := by simpa using e2
      subst hz
      exact ⟨⟨ss, es, z⟩, sa, sc, ea, ec, rfl, ⟨s1, e1, s2, e2', s3, e3⟩⟩
end Go.Proofs.YtlcafjckaahmaaaGreat
