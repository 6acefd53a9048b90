import Derived.Test.YtaaeledleldllaaGreatQB04
import Derived.Test.YtaaeledleldllaaGreatQB39
import Derived.Test.YtaaeledleldllaaGreatQB08
import Derived.Test.YtaaeledleldllaaGreatQB07
import Derived.Test.YtaaeledleldllaaGreatQB01
namespace Go.Proofs.YtaaeledleldllaaGreat
open Go.RowKit Go.ChangeShapes Go.WideShapes

set_option maxHeartbeats 2000000 in
set_option maxRecDepth 100000 in
theorem to_nums (l : List Int) (ao : Option Addr) (cap : Nat) (w : World) (hl : l.length ≤ 1048576) (hr : l ≠ [] → ∃ b o, ao = some ⟨b, o, none⟩ ∧ b < w.heap.size ∧ Nums w b o l) :
    Calls Tryz.prog 46 #[.slice ao l.length cap] w fun e w' => ∃ v', e = .returned v' ∧ NumSl w' w'.heap.size v' l ∧ MOwn w.heap.size w' v' ∧ Below w.heap.size w w' := by
  have HR := hide hr
  obtain ⟨i0, hi, hz0, hz1, hz2⟩ := info_parts Tryz.infoI64
  obtain ⟨M, hM⟩ : ∃ M, M = madeCells (Value.int .i64 0).cells (l.length * 1) := ⟨_, rfl⟩
  have hMs : M.size = l.length * 1 := by rw [hM, size_madeCells]
  have hmk : ∀ W : World, (Instr.makeSlice 29 (.int .i64 (l.length : Int)) (.int .i64 (l.length : Int))).run Tryz.prog W = .ok (.slice (some ⟨W.heap.size, 0, none⟩) l.length l.length) (W.alloc (.cells M 2)) := fun W => by
    have h := run_make (P := Tryz.prog) W 29 2 i0 _ Tryz.underlying29 hi hz0 .i64 .i64 (l.length : Int) (l.length : Int) (by omega) (by omega) (by rw [hz2]; omega) (by omega)
    rw [hz1] at h
    simp only [Int.toNat_natCast] at h
    rw [← hM] at h
    exact h
  have HMS := hide hMs
  clear hr hM hMs hi hz0 hz1 hz2
  go_enter Tryz.func46, Tryz.ntmps46
  go_wp2_with fail
  go_loopw [4] (fun i wr => ∃ k : Nat, k ≤ l.length ∧ i = .int .i64 k ∧ (∀ j (h : j < l.length), j < k → wr.cell? ⟨w.heap.size, j, none⟩ = some (.int .i64 l[j])) ∧ (∀ j, j < l.length → ∃ y, wr.cell? ⟨w.heap.size, j, none⟩ = some y) ∧ (∀ j, wr.frozen? ⟨w.heap.size, j, none⟩ = false) ∧ w.heap.size < wr.heap.size ∧ Below w.heap.size w wr)
    (fun i _ => l.length - (intOf i).toNat)
  case atStart =>
    refine ⟨0, Nat.zero_le _, rfl, fun j _ h => absurd h (by omega), fun j hj => ?_, fun j => ?_, by simp, malloc1 _ _⟩
    · have hj' : j < M.size := by rw [HMS.out]; omega
      exact ⟨M[j], by simp [hj']⟩
    · simp
  case round =>
    obtain ⟨k, hk, rfl, hall, hcells, hfro, hsz, hbel⟩ := hrel
    have HA := hide hall
    have HC := hide hcells
    have HFR := hide hfro
    have HBEL := hide hbel
    clear hall hbel
    by_cases hlt : k < l.length
    · obtain ⟨b, o, rfl, hbB, hrow⟩ := HR.out (by intro h; simp [h] at hlt)
      have hnode := (hrow.carry hbB HBEL.out) k hlt
      obtain ⟨x1, hx1⟩ : ∃ x1, x1 = l[k] := ⟨_, rfl⟩
      rw [← hx1] at hnode
      have HN := hide hx1
      clear hx1 hrow
      obtain ⟨y0, g0⟩ := hcells k hlt
      have f0 := hfro k
      clear hcells hfro
      go_wp2_with fail
      all_goals
        go_roundw
        case rel =>
          refine ⟨k + 1, by omega, by go_num, fun j hj hjk => ?_, fun j hj => ?_, fun j => ?_, ?_, ?_⟩
          · by_cases hjk' : j = k
            · subst hjk'; rw [← HN.out]; exact World.cell?_setCell_same _ _ _ g0
            · rw [World.cell?_setCell_other _ _ _ _ (by intro e; injection e with _ e2; omega)]
              exact HA.out j hj (by omega)
          · by_cases hjk' : j = k
            · subst hjk'; exact ⟨_, World.cell?_setCell_same _ _ _ g0⟩
            · obtain ⟨y, hy⟩ := HC.out j hj
              exact ⟨y, by rw [World.cell?_setCell_other _ _ _ _ (by intro e; injection e with _ e2; omega)]; exact hy⟩
          · rw [World.frozen?_setCell]; exact HFR.out j
          · rw [World.size_setCell]; exact hsz
          · first | exact HBEL.out.setCell (p := ⟨w.heap.size, k, none⟩) (Nat.le_refl _) _ | exact HBEL.out.drew.setCell (p := ⟨w.heap.size, k, none⟩) (Nat.le_refl _) _
        case measure => simp [intOf]; omega
    · go_wp2_with fail
      go_ret
      refine ⟨_, rfl, ⟨_, _, rfl, Nat.le_refl _, by omega, fun hne => ⟨w.heap.size, 0, rfl, hsz, fun j hj => ?_⟩⟩, ⟨fun b hb => by simp [Value.ownBlock] at hb; subst hb; exact ⟨Nat.le_refl _, hsz, HFR.out⟩⟩, HBEL.out⟩
      rw [Nat.zero_add]
      exact HA.out j hj (by omega)

set_option maxHeartbeats 400000 in
theorem eq_nums (l : List Int) (v u : Value) (w : World) (hv : NumSl w w.heap.size v l) (hu : NumSl w w.heap.size u l) :
    Calls Tryz.prog 49 #[v, u] w fun e w' => e = .returned (.bool true) ∧ Below w.heap.size w w' := by
  obtain ⟨ao, cap, rfl, hc, hm, hr⟩ := hv
  obtain ⟨ao', cap', rfl, hc', hm', hr'⟩ := hu
  have HR := hide hr
  have HR' := hide hr'
  clear hr hr'
  go_enter Tryz.func49, Tryz.ntmps49
  go_wp2_with fail
  go_loopw [5] (fun i wr => ∃ k : Nat, k ≤ l.length ∧ i = .int .i64 k ∧ Below w.heap.size w wr) (fun i _ => l.length - (intOf i).toNat)
  case atStart => exact ⟨0, Nat.zero_le _, rfl, Below.refl _ _⟩
  case round =>
    obtain ⟨k, hk, rfl, hbel⟩ := hrel
    have HBEL := hide hbel
    have hszr := hbel.size
    clear hbel
    by_cases hlt : k < l.length
    · obtain ⟨b, o, rfl, hbB, hrow⟩ := HR.out (by intro h; simp [h] at hlt)
      obtain ⟨b', o', rfl, hbB', hrow'⟩ := HR'.out (by intro h; simp [h] at hlt)
      have c0 := (hrow.carry hbB HBEL.out) k hlt
      have d0 := (hrow'.carry hbB' HBEL.out) k hlt
      obtain ⟨x1, hx1⟩ : ∃ x1, x1 = l[k] := ⟨_, rfl⟩
      rw [← hx1] at c0 d0
      clear hx1 hrow hrow'
      go_wp2_with fail
      go_region
      go_wp2_with fail
      all_goals
        go_roundw
        case rel => exact ⟨k + 1, by omega, by go_num, by first | exact HBEL.out | exact HBEL.out.drew | exact HBEL.out.drew.drew⟩
        case measure => simp [intOf]; omega
    · go_wp2_with fail
      go_ret
      exact ⟨rfl, HBEL.out⟩

set_option maxRecDepth 100000 in
theorem open_nums {H : Type} {enc : TypeId × Value → H} {w : World} {base : Nat} {spare : Nat → Bool} {held : Bool} {fuel : Nat} {a0 : Option Addr} {len0 cap0 : Nat} {x : DataW H × List MemPlace} (h : DataW.trod enc Tryz.prog w base spare held fuel 29 [.slice a0 len0 cap0] = some x) :
    ∃ ns : List Int, ns.length = len0 ∧ (∀ z ∈ ns, -9223372036854775808 ≤ z ∧ z ≤ 9223372036854775807) ∧ ns.length ≤ maxLen ∧ (ns ≠ [] → ∃ b o, a0 = some ⟨b, o, none⟩ ∧ b < w.heap.size ∧ Nums w b o ns) := by
  rcases Go.Deep.open_slice Tryz.underlying29 h with ⟨h0, _⟩ | ⟨a, len, cap, m, n, D, Pl, hcs, hb, hl, hm, hmm, hx, hel⟩
  · simp at h0
    obtain ⟨rfl, rfl, rfl⟩ := h0
    exact ⟨[], rfl, by simp, Nat.zero_le _, fun h => absurd rfl h⟩
  · simp at hcs
    obtain ⟨rfl, rfl, rfl⟩ := hcs
    have hlm : len0 ≤ m := by rw [hmm]; split <;> omega
    have each : ∀ i, i < len0 → ∃ z : Int, (-9223372036854775808 ≤ z ∧ z ≤ 9223372036854775807) ∧ ∀ b o, a = ⟨b, o, none⟩ → w.cell? ⟨b, o + i, none⟩ = some (.int .i64 z) := by
      intro i hi
      obtain ⟨cs', h1, h2⟩ := hel i (by omega)
      rw [Tryz.ocI] at h1
      obtain ⟨_, hlen, hcell⟩ := World.cells?_some h1
      obtain ⟨z, e0, _, hw⟩ := DataW.trod_int Tryz.underlying2 h2
      refine ⟨z, by simp [Lit.wf, IntKind.min, IntKind.max, IntKind.signed, IntKind.bits] at hw; exact hw, fun b o hab => ?_⟩
      subst hab
      have pl : ((⟨b, o, none⟩ : Addr).add (i * 1)).add 0 = ⟨b, o + i, none⟩ := by
        rw [Go.Deep.add_add]
        unfold Addr.add
        split <;> simp_all
      have := hcell 0 (by omega)
      rw [pl, e0] at this
      exact this
    obtain ⟨q, hq⟩ := Go.Deep.choose_lt each
    refine ⟨(List.range len0).map q, by simp, ?_, by simp; omega, fun hne => ?_⟩
    · intro x hx
      obtain ⟨i, hi, rfl⟩ := List.mem_map.1 hx
      exact (hq i (List.mem_range.1 hi)).1
    · have hpos : 0 < len0 := by
        rcases Nat.eq_zero_or_pos len0 with h0 | h0
        · subst h0; simp at hne
        · exact h0
      obtain ⟨b, o, s⟩ := a
      have hspot : s = none := by
        obtain ⟨cs', h1, h2⟩ := hel 0 (by omega)
        rw [Tryz.ocI] at h1
        obtain ⟨_, hlen, hcell⟩ := World.cells?_some h1
        obtain ⟨z, e0, _⟩ := DataW.trod_int Tryz.underlying2 h2
        have h0 := hcell 0 (by omega)
        rw [e0] at h0
        have := World.cell?_spot h0
        simpa [Addr.add] using this
      subst hspot
      have hrow : Nums w b o ((List.range len0).map q) := fun j hj => by
        simp only [List.getElem_map, List.getElem_range]
        exact (hq j (by simpa using hj)).2 b o rfl
      refine ⟨b, o, rfl, ?_, hrow⟩
      have := (hq 0 hpos).2 b o rfl
      exact World.block_lt_of_cell? w _ this
end Go.Proofs.YtaaeledleldllaaGreat
namespace Go.Proofs.YtaaeledleldllaaGreat
open Go.RowKit

set_option maxHeartbeats 400000 in
theorem sz2_msg (x : RMsg) (left : Int) (w : World) (ok : x.ok) (hl : 0 ≤ left) (hm : left ≤ 1048576) :
    Calls Tryz.prog 79 #[x.val, .int .i64 left] w fun e w' => ∃ r : Int, e = .returned (.int .i64 r) ∧ r ≤ 1048576 ∧ (0 ≤ r → r ≤ left ∧ x.fit) ∧ Below w.heap.size w w' := by
  unfold RMsg.ok maxLen at ok
  have HFI := hide (show x.fit = (x.frm.size ≤ 1048576 ∧ x.to.size ≤ 1048576 ∧ x.label.size ≤ 1048576) from rfl)
  unfold RMsg.val
  by_cases a2 : left - x.frm.size < 0
  · go_enter Tryz.func79, Tryz.ntmps79
    go_wp2_with fail
    go_ret
    exact ⟨_, rfl, by omega, fun h => absurd h (by omega), malloc1 _ _⟩
  · skip
    by_cases a4 : left - x.frm.size - x.to.size < 0
    · go_enter Tryz.func79, Tryz.ntmps79
      go_wp2_with fail
      go_ret
      exact ⟨_, rfl, by omega, fun h => absurd h (by omega), malloc1 _ _⟩
    · skip
      by_cases a6 : left - x.frm.size - x.to.size - x.label.size < 0
      · go_enter Tryz.func79, Tryz.ntmps79
        go_wp2_with fail
        go_ret
        exact ⟨_, rfl, by omega, fun h => absurd h (by omega), malloc1 _ _⟩
      · skip
        go_enter Tryz.func79, Tryz.ntmps79
        go_wp2_with fail
        go_ret
        exact ⟨_, rfl, by omega, fun h => ⟨by omega, by rw [HFI.out]; omega⟩, malloc1 _ _⟩

set_option maxHeartbeats 400000 in
theorem sz2_msgs (l : List RMsg) (left : Int) (ao : Option Addr) (cap : Nat) (w : World) (ok : ∀ x ∈ l, x.ok) (hl : l.length ≤ maxLen) (h0 : 0 ≤ left) (h1 : left ≤ 1048576) (hr : l ≠ [] → ∃ b o, ao = some ⟨b, o, none⟩ ∧ b < w.heap.size ∧ RMsgs w b o l) :
    Calls Tryz.prog 40 #[.slice ao l.length cap, .int .i64 left] w fun e w' => ∃ r : Int, e = .returned (.int .i64 r) ∧ r ≤ 1048576 ∧ (0 ≤ r → r + (l.length : Int) ≤ left ∧ ∀ x ∈ l, x.fit) ∧ Below w.heap.size w w' := by
  have HR := hide hr
  have HOK := hide ok
  unfold maxLen at hl
  clear hr ok
  by_cases hle : (l.length : Int) ≤ left
  · go_enter Tryz.func40, Tryz.ntmps40
    go_wp2_with fail
    go_loopw [1, 5] (fun lf i wr => ∃ (k : Nat) (z : Int), k ≤ l.length ∧ i = .int .i64 k ∧ lf = .int .i64 z ∧ 0 ≤ z ∧ z ≤ 1048576 ∧ z + (l.length : Int) ≤ left ∧ (∀ j (h : j < l.length), j < k → l[j].fit) ∧ Below w.heap.size w wr)
      (fun _ i _ => l.length - (intOf i).toNat)
    case atStart => exact ⟨0, left - (l.length : Int), Nat.zero_le _, rfl, rfl, by omega, by omega, by omega, fun j _ h => absurd h (by omega), Below.refl _ _⟩
    case round =>
      obtain ⟨k, z, hk, rfl, rfl, hl0, hl1, hl2, hall, hbel⟩ := hrel
      have HA := hide hall
      have HBEL := hide hbel
      have hszr := hbel.size
      clear hall hbel
      by_cases hlt : k < l.length
      · obtain ⟨b, o, rfl, hbB, hrow⟩ := HR.out (by intro h; simp [h] at hlt)
        have hnode := (hrow.get k hlt).carry hbB HBEL.out
        obtain ⟨x1, hx1⟩ : ∃ x1, x1 = l[k] := ⟨_, rfl⟩
        rw [← hx1] at hnode
        have HN := hide hx1
        have HN1 := hide (show x1.ok by rw [hx1]; exact HOK.out _ (List.getElem_mem hlt))
        clear hx1 hrow
        have hbw : b < wr.heap.size := hnode.lt
        obtain ⟨c0, c1, c2, c3⟩ := hnode
        go_wp2_with (go_at_call 79; refine (sz2_msg x1 z _ HN1.out hl0 hl1).mono ?_; rintro e w1 ⟨r, rfl, hr1, hrf, hb1⟩; have HRF := hide hrf; have HB1 := hide hb1; clear hrf hb1)
        all_goals
          first
            | (go_ret
               exact ⟨_, rfl, by omega, fun h => absurd h (by omega), HBEL.out.trans (HB1.out.mono hszr)⟩)
            | (go_roundw
               case rel =>
                 refine ⟨k + 1, r, by omega, by go_num, rfl, by omega, hr1, by have := (HRF.out (by omega)).1; omega, fun j hj hjk => ?_, HBEL.out.trans (HB1.out.mono hszr)⟩
                 by_cases hjk' : j = k
                 · subst hjk'; rw [← HN.out]; exact (HRF.out (by omega)).2
                 · exact HA.out j hj (by omega)
               case measure => simp [intOf]; omega)
      · go_wp2_with fail
        go_ret
        refine ⟨_, rfl, by omega, fun _ => ⟨hl2, fun x hx => ?_⟩, HBEL.out⟩
        obtain ⟨j, hj, rfl⟩ := List.getElem_of_mem hx
        exact HA.out j hj (by omega)
  · go_enter Tryz.func40, Tryz.ntmps40
    go_wp2_with fail
    go_ret
    exact ⟨_, rfl, by omega, fun h => absurd h (by omega), Below.refl _ _⟩


theorem RMsgSl.sep {w w' : World} {v : Value} {x : List RMsg} {l : List Nat} (h : RMsgSl w w.heap.size v x) (ha : Apart w w' l) (hd : ∀ b ∈ vblocks v, b ∉ l) : RMsgSl w' w'.heap.size v x := by
  have H := h
  obtain ⟨a1, c1, rfl, _⟩ := h
  exact H.keep ha.size (fun b hb hlt => ha.block b hlt (hd b ((own_blocks rfl).1 hb)))
theorem RMsgSl.far {w w' : World} {v : Value} {x : List RMsg} {l : List Nat} (h : RMsgSl w w.heap.size v x) (ha : Apart w w' l) (hd : ∀ b ∈ l, w.heap.size ≤ b) : RMsgSl w' w'.heap.size v x := by
  have H := h
  obtain ⟨a1, c1, rfl, _⟩ := h
  exact H.keep ha.size (fun b hb hlt => ha.block b hlt (fun hm => absurd (hd b hm) (by omega)))
theorem RMsgSl.shape {w : World} {B : Nat} {v : Value} {x : List RMsg} (h : RMsgSl w B v x) : ∃ p c, v = .slice p x.length c := by
  obtain ⟨a1, c1, e, _⟩ := h
  exact ⟨a1, c1, e⟩
theorem msgs_to (l : List RMsg) (ao : Option Addr) (cap : Nat) (w : World) (hl : l.length ≤ 1048576) (hr : l ≠ [] → ∃ b o, ao = some ⟨b, o, none⟩ ∧ b < w.heap.size ∧ RMsgs w b o l) :
    Calls Tryz.prog 47 #[.slice ao l.length cap] w fun e w' => ∃ v', e = .returned v' ∧ RMsgSl w' w'.heap.size v' l ∧ Fresh w.heap.size w' v' ∧ Below w.heap.size w w' :=
  (to_msgs l ao cap w hl hr).mono fun e w' ⟨v', h1, h2, h3, h4⟩ => by
    obtain ⟨p, c, rfl⟩ := h2.shape
    exact ⟨_, h1, h2, fresh_slice h3, h4⟩
end Go.Proofs.YtaaeledleldllaaGreat
namespace Go.Proofs.YtaaeledleldllaaGreat
open Go.RowKit

def RState.cells (x : RState) : List Value := [.int .i64 x.kind, .string x.peer]
theorem RState.cells_len (x : RState) : x.cells.length = 2 := rfl
theorem RState.cells_one (x : RState) : ∀ u ∈ x.cells, u.oneCell' = true := by
  intro u hu
  simp [RState.cells] at hu
  rcases hu with rfl | rfl <;> rfl
def RStateOwn (w : World) (base : Nat) (v : Value) (l : List RState) : Prop := w.ownsRow base 103 2 v l.length (l.flatMap RState.cells)
theorem RStateOwn.sl {w : World} {base : Nat} {v : Value} {l : List RState} (h : RStateOwn w base v l) (hl : l.length ≤ 4294967296) : RStateSl w w.heap.size v l := by
  have H := h
  obtain ⟨_, hh⟩ := h
  rcases hh with ⟨rfl, h0⟩ | ⟨gb, cap, cur, rfl, hg, hblk, hc, _⟩
  · have : l = [] := List.length_eq_zero_iff.1 h0
    subst this
    exact ⟨none, 0, rfl, Nat.le_refl _, by simp, fun h => absurd rfl h⟩
  · refine ⟨_, _, rfl, hc, hl, fun _ => ⟨gb, 0, rfl, (Array.getElem?_eq_some_iff.1 hblk).1, RStates.of w gb l 0 (fun j hj => ?_)⟩⟩
    rw [Nat.zero_add]
    have e := fun i (hi : i < 2) (x : Value) (hx : (l[j].cells)[i]? = some x) => owns_cell H rfl (j * 2 + i) x ((flat_get RState.cells 2 RState.cells_len l j hj i hi).trans hx)
    exact ⟨e 0 (by omega) _ rfl, e 1 (by omega) _ rfl⟩
theorem RStateOwn.keep {w w' : World} {base : Nat} {v : Value} {x : List RState} {l : List Nat} (h : RStateOwn w base v x) (ha : Apart w w' l) (hd : ∀ b ∈ vblocks v, b ∉ l) : RStateOwn w' base v x := owns_keep h ha hd
theorem RStateOwn.below {w w' : World} {base : Nat} {v : Value} {x : List RState} (h : RStateOwn w base v x) (hb : Below w.heap.size w w') : RStateOwn w' base v x := owns_below h hb
theorem RStateOwn.fresh {w : World} {base : Nat} {v : Value} {x : List RState} (h : RStateOwn w base v x) : Fresh base w v := owns_fresh h
theorem RStateOwn.nil (w : World) (base : Nat) : RStateOwn w base (.slice none 0 0) [] := owns_nil w base _ _
theorem RStateOwn.snoc {w : World} {base : Nat} {v : Value} {l : List RState} {x : RState} (h : w.ownsRow base 103 2 v (l.length + 1) (l.flatMap RState.cells ++ x.cells)) : RStateOwn w base v (l ++ [x]) := by
  unfold RStateOwn
  rw [List.length_append, List.length_singleton, List.flatMap_append]
  simpa using h
end Go.Proofs.YtaaeledleldllaaGreat
namespace Go.Proofs.YtaaeledleldllaaGreat
open Go.RowKit

def REdge.cells (x : REdge) : List Value := [.int .i64 x.src, .string x.label, .int .i64 x.sort, .int .i64 x.dst]
theorem REdge.cells_len (x : REdge) : x.cells.length = 4 := rfl
theorem REdge.cells_one (x : REdge) : ∀ u ∈ x.cells, u.oneCell' = true := by
  intro u hu
  simp [REdge.cells] at hu
  rcases hu with rfl | rfl | rfl | rfl <;> rfl
def REdgeOwn (w : World) (base : Nat) (v : Value) (l : List REdge) : Prop := w.ownsRow base 154 4 v l.length (l.flatMap REdge.cells)
theorem REdgeOwn.sl {w : World} {base : Nat} {v : Value} {l : List REdge} (h : REdgeOwn w base v l) (hl : l.length ≤ 4294967296) : REdgeSl w w.heap.size v l := by
  have H := h
  obtain ⟨_, hh⟩ := h
  rcases hh with ⟨rfl, h0⟩ | ⟨gb, cap, cur, rfl, hg, hblk, hc, _⟩
  · have : l = [] := List.length_eq_zero_iff.1 h0
    subst this
    exact ⟨none, 0, rfl, Nat.le_refl _, by simp, fun h => absurd rfl h⟩
  · refine ⟨_, _, rfl, hc, hl, fun _ => ⟨gb, 0, rfl, (Array.getElem?_eq_some_iff.1 hblk).1, REdges.of w gb l 0 (fun j hj => ?_)⟩⟩
    rw [Nat.zero_add]
    have e := fun i (hi : i < 4) (x : Value) (hx : (l[j].cells)[i]? = some x) => owns_cell H rfl (j * 4 + i) x ((flat_get REdge.cells 4 REdge.cells_len l j hj i hi).trans hx)
    exact ⟨e 0 (by omega) _ rfl, e 1 (by omega) _ rfl, e 2 (by omega) _ rfl, e 3 (by omega) _ rfl⟩
theorem REdgeOwn.keep {w w' : World} {base : Nat} {v : Value} {x : List REdge} {l : List Nat} (h : REdgeOwn w base v x) (ha : Apart w w' l) (hd : ∀ b ∈ vblocks v, b ∉ l) : REdgeOwn w' base v x := owns_keep h ha hd
theorem REdgeOwn.below {w w' : World} {base : Nat} {v : Value} {x : List REdge} (h : REdgeOwn w base v x) (hb : Below w.heap.size w w') : REdgeOwn w' base v x := owns_below h hb
theorem REdgeOwn.fresh {w : World} {base : Nat} {v : Value} {x : List REdge} (h : REdgeOwn w base v x) : Fresh base w v := owns_fresh h
theorem REdgeOwn.nil (w : World) (base : Nat) : REdgeOwn w base (.slice none 0 0) [] := owns_nil w base _ _
theorem REdgeOwn.snoc {w : World} {base : Nat} {v : Value} {l : List REdge} {x : REdge} (h : w.ownsRow base 154 4 v (l.length + 1) (l.flatMap REdge.cells ++ x.cells)) : REdgeOwn w base v (l ++ [x]) := by
  unfold REdgeOwn
  rw [List.length_append, List.length_singleton, List.flatMap_append]
  simpa using h
end Go.Proofs.YtaaeledleldllaaGreat
namespace Go.Proofs.YtaaeledleldllaaGreat
open Go.RowKit

set_option maxRecDepth 10000 in
set_option maxHeartbeats 1000000 in
theorem s_msg {q : Bool} {m : RMsg} (hq : msgB m = q) (hok : m.ok) (w : World) :
    Calls Tryz.prog 80 #[m.val] w fun e w' => e = .returned (.bool q) ∧ Below w.heap.size w w' := by
  have HOK := hide hok
  obtain ⟨a, ha⟩ : ∃ a, nameB m.frm = a := ⟨_, rfl⟩
  obtain ⟨b, hb⟩ : ∃ b, nameB m.to = b := ⟨_, rfl⟩
  obtain ⟨c, hc⟩ : ∃ c, nameB m.label = c := ⟨_, rfl⟩
  obtain ⟨d, hd⟩ : ∃ d, (m.frm.toList == m.to.toList) = d := ⟨_, rfl⟩
  obtain ⟨s, hs⟩ : ∃ s, sortM m.sort = s := ⟨_, rfl⟩
  have HQ : Hid (q = (a && (b && (c && (!d && s))))) := hide (by rw [← hq, msgB, ha, hb, hc, hd, hs])
  have HA := hide ha
  have HB := hide hb
  have HC := hide hc
  have HS := hide hs
  clear hq hok ha hb hc hs
  unfold RMsg.val
  cases a
  case' true => cases b
  case' true.true => cases c
  case' true.true.true => cases d
  all_goals
    go_enter Tryz.func80, Tryz.ntmps80
    go_wp2_with (first
      | (go_at_call_of 104 m.frm; refine (sn_name HA.out HOK.out.1 _).mono ?_; rintro e w' ⟨rfl, rfl⟩)
      | (go_at_call_of 104 m.to; refine (sn_name HB.out HOK.out.2.1 _).mono ?_; rintro e w' ⟨rfl, rfl⟩)
      | (go_at_call_of 104 m.label; refine (sn_name HC.out HOK.out.2.2 _).mono ?_; rintro e w' ⟨rfl, rfl⟩)
      | (go_at_call 105; refine (sb_sort HS.out _).mono ?_; rintro e w' ⟨rfl, rfl⟩))
    go_ret
    exact ⟨ret_bool (by rw [HQ.out]; simp [*]), malloc1 _ _⟩

set_option maxRecDepth 10000 in
set_option maxHeartbeats 1000000 in
theorem i_msg {q : Bool} {m : RMsg} (hq : msgB m = q) (hok : m.ok) (w : World) :
    Calls Tryz.prog 134 #[m.val] w fun e w' => e = .returned (.bool q) ∧ Below w.heap.size w w' := by
  have HOK := hide hok
  obtain ⟨a, ha⟩ : ∃ a, nameB m.frm = a := ⟨_, rfl⟩
  obtain ⟨b, hb⟩ : ∃ b, nameB m.to = b := ⟨_, rfl⟩
  obtain ⟨c, hc⟩ : ∃ c, nameB m.label = c := ⟨_, rfl⟩
  obtain ⟨d, hd⟩ : ∃ d, (m.frm.toList == m.to.toList) = d := ⟨_, rfl⟩
  obtain ⟨s, hs⟩ : ∃ s, sortM m.sort = s := ⟨_, rfl⟩
  have HQ : Hid (q = (a && (b && (c && (!d && s))))) := hide (by rw [← hq, msgB, ha, hb, hc, hd, hs])
  have HA := hide ha
  have HB := hide hb
  have HC := hide hc
  have HS := hide hs
  clear hq hok ha hb hc hs
  unfold RMsg.val
  cases a
  case' true => cases b
  case' true.true => cases c
  case' true.true.true => cases d
  all_goals
    go_enter Tryz.func134, Tryz.ntmps134
    go_wp2_with (first
      | (go_at_call_of 75 m.frm; refine (in_name HA.out HOK.out.1 _).mono ?_; rintro e w' ⟨rfl, rfl⟩)
      | (go_at_call_of 75 m.to; refine (in_name HB.out HOK.out.2.1 _).mono ?_; rintro e w' ⟨rfl, rfl⟩)
      | (go_at_call_of 75 m.label; refine (in_name HC.out HOK.out.2.2 _).mono ?_; rintro e w' ⟨rfl, rfl⟩)
      | (go_at_call 148; refine (ib_sort HS.out _).mono ?_; rintro e w' ⟨rfl, rfl⟩))
    go_ret
    exact ⟨ret_bool (by rw [HQ.out]; simp [*]), malloc1 _ _⟩
end Go.Proofs.YtaaeledleldllaaGreat
namespace Go.Proofs.YtaaeledleldllaaGreat
open Go.RowKit

set_option maxHeartbeats 1000000 in
theorem s_count (l : List RMsg) (f t : ByteArray) (v : Value) (w : World) (h36 : l.length ≤ 4096) (hv : RMsgSl w w.heap.size v l) :
    Calls Tryz.prog 81 #[v, .string f, .string t] w fun e w' => e = .returned (.int .i64 (cntM f t l : Nat)) ∧ Below w.heap.size w w' := by
  obtain ⟨ao, cap, rfl, hc, hm, hr⟩ := hv
  have HR := hide hr
  clear hr
  have HCT := hide (show cntM f t l = cntM f t (l.take l.length) by rw [List.take_length])
  go_enter Tryz.func81, Tryz.ntmps81
  go_wp2_with fail
  go_loopw [7, 8] (fun n i wr => ∃ k : Nat, k ≤ l.length ∧ i = .int .i64 k ∧ n = .int .i64 (cntM f t (l.take k) : Nat) ∧ Below w.heap.size w wr) (fun _ i _ => l.length - (intOf i).toNat)
  case atStart => exact ⟨0, Nat.zero_le _, rfl, rfl, Below.refl _ _⟩
  case round =>
    obtain ⟨k, hk, rfl, rfl, hbel⟩ := hrel
    have HBEL := hide hbel
    have hcl : cntM f t (l.take k) ≤ 4096 := Nat.le_trans (cntM_le f t _) (by rw [List.length_take]; omega)
    clear hbel
    by_cases hlt : k < l.length
    · obtain ⟨b, o, rfl, hbB, hrow⟩ := HR.out (by intro h; simp [h] at hlt)
      have hnode := (hrow.get k hlt).carry hbB HBEL.out
      have HSU := hide (cntM_succ f t hlt)
      obtain ⟨x1, hx1⟩ : ∃ x1, x1 = l[k] := ⟨_, rfl⟩
      rw [← hx1] at hnode HSU
      obtain ⟨c0, c1, c2, c3⟩ := hnode
      obtain ⟨p, hp⟩ : ∃ p, (x1.frm.toList == f.toList) = p := ⟨_, rfl⟩
      obtain ⟨q, hq⟩ : ∃ q, (x1.to.toList == t.toList) = q := ⟨_, rfl⟩
      have HI : Hid (isMsg f t x1 = (p && q)) := hide (by rw [isMsg, hp, hq])
      obtain ⟨c, hcc⟩ : ∃ c, cntM f t (l.take k) = c := ⟨_, rfl⟩
      rw [hcc] at hcl HSU ⊢
      clear hx1 hrow hcc
      cases p
      all_goals cases q
      all_goals
        go_wp2_with fail
        go_roundw
        case rel => exact ⟨k + 1, by omega, by go_num, by rw [HSU.out, HI.out]; first | rfl | go_num, by first | exact HBEL.out | exact HBEL.out.drew⟩
        case measure => simp [intOf]; omega
    · have hkl : k = l.length := by omega
      subst hkl
      go_wp2_with fail
      go_ret
      exact ⟨ret_int (by rw [HCT.out]), HBEL.out⟩
theorem s_count_at {c : Nat} {l : List RMsg} {f t : ByteArray} (hc : cntM f t l = c) (v : Value) (w : World) (h36 : l.length ≤ 4096) (hv : RMsgSl w w.heap.size v l) :
    Calls Tryz.prog 81 #[v, .string f, .string t] w fun e w' => e = .returned (.int .i64 (c : Nat)) ∧ Below w.heap.size w w' := by subst hc; exact s_count l f t v w h36 hv

set_option maxHeartbeats 1000000 in
theorem s_net {q : Bool} {l : List RMsg} (hq : netB l = q) (v : Value) (w : World) (hok : ∀ m ∈ l, m.ok) (hv : RMsgSl w w.heap.size v l) :
    Calls Tryz.prog 41 #[v] w fun e w' => e = .returned (.bool q) ∧ Below w.heap.size w w' := by
  have HQ := hide hq
  have HOK := hide hok
  have HV : Hid (∀ W, Below w.heap.size w W → RMsgSl W W.heap.size v l) := hide (fun W hb => (hv.carry hb).up hb.size)
  have hlm := hv.lenm
  obtain ⟨ao, cap, rfl, hc, hm, hr⟩ := hv
  have HR := hide hr
  clear hr hq hok
  by_cases h36 : 36 < l.length
  · go_enter Tryz.func41, Tryz.ntmps41
    go_wp2_with fail
    go_ret
    exact ⟨ret_bool (by rw [← HQ.out]; exact net_long h36), Below.refl _ _⟩
  · go_enter Tryz.func41, Tryz.ntmps41
    go_wp2_with fail
    go_loopw [3] (fun i wr => ∃ k : Nat, k ≤ l.length ∧ i = .int .i64 k ∧ (∀ j (h : j < l.length), j < k → msgB l[j] = true ∧ cntM l[j].frm l[j].to l ≤ 3) ∧ Below w.heap.size w wr) (fun i _ => l.length - (intOf i).toNat)
    case atStart => exact ⟨0, Nat.zero_le _, rfl, fun j _ h => absurd h (by omega), Below.refl _ _⟩
    case round =>
      obtain ⟨k, hk, rfl, hall, hbel⟩ := hrel
      have HBEL := hide hbel
      have HALL := hide hall
      clear hbel hall
      by_cases hlt : k < l.length
      · obtain ⟨b, o, rfl, hbB, hrow⟩ := HR.out (by intro h; simp [h] at hlt)
        have hnode := (hrow.get k hlt).carry hbB HBEL.out
        have hmem : l[k] ∈ l := List.getElem_mem hlt
        obtain ⟨x1, hx1⟩ : ∃ x1, x1 = l[k] := ⟨_, rfl⟩
        have HX1 := hide hx1
        rw [← hx1] at hnode hmem
        have HMEM := hide hmem
        have HOK1 := hide (HOK.out x1 hmem)
        obtain ⟨c0, c1, c2, c3⟩ := hnode
        obtain ⟨p, hp⟩ : ∃ p, msgB x1 = p := ⟨_, rfl⟩
        have HP := hide hp
        obtain ⟨c, hcc⟩ : ∃ c, cntM x1.frm x1.to l = c := ⟨_, rfl⟩
        have HCC := hide hcc
        have hcl : c ≤ 36 := by rw [← hcc]; exact Nat.le_trans (cntM_le _ _ _) (by omega)
        clear hx1 hrow hcc hp hmem
        cases p
        · go_wp2_with fail
          refine wp_region_grown (by kernel_rfl) (by kernel_rfl) (fun W hW => ?_)
          have hne := grown_some W
          have f0 := grown_cell (w := W) (by rw [hW]; exact c0)
          have f1 := grown_cell (w := W) (by rw [hW]; exact c1)
          have f2 := grown_cell (w := W) (by rw [hW]; exact c2)
          have f3 := grown_cell (w := W) (by rw [hW]; exact c3)
          have HBW : Hid (Below w.heap.size w W) := hide (by rw [hW]; exact HBEL.out)
          clear hW
          repeat (go_big_quiet_step ((go_at_call 80; exact grown_more (s_msg (m := x1) HP.out HOK1.out _))))
          refine wpQuiet_nil ?_
          intro w1 hw1
          have HW1 := hide hw1
          clear hw1 hne f0 f1 f2 f3
          go_wp2_with fail
          go_ret
          exact ⟨ret_bool (by rw [← HQ.out]; exact net_msg HMEM.out HP.out), HBW.out.trans (HW1.out.mono HBW.out.size)⟩
        · by_cases h3 : 3 < c
          all_goals
            go_wp2_with fail
            refine wp_region_grown (by kernel_rfl) (by kernel_rfl) (fun W hW => ?_)
            have hne := grown_some W
            have f0 := grown_cell (w := W) (by rw [hW]; exact c0)
            have f1 := grown_cell (w := W) (by rw [hW]; exact c1)
            have f2 := grown_cell (w := W) (by rw [hW]; exact c2)
            have f3 := grown_cell (w := W) (by rw [hW]; exact c3)
            have HBW : Hid (Below w.heap.size w W) := hide (by rw [hW]; exact HBEL.out)
            clear hW
            repeat (go_big_quiet_step (first
              | (go_at_call 80; exact grown_more (s_msg (m := x1) HP.out HOK1.out _))
              | (go_at_call 81; exact grown_more (s_count_at HCC.out _ _ (by omega) ((HV.out _ (HBW.out.trans ((Grown.bel _).mono HBW.out.size))))))))
            refine wpQuiet_nil ?_
            intro w1 hw1
            have HB2 : Hid (Below w.heap.size w w1) := hide (HBW.out.trans (hw1.mono HBW.out.size))
            clear hw1 hne f0 f1 f2 f3
            go_wp2_with fail
          · go_ret
            exact ⟨ret_bool (by rw [← HQ.out]; exact net_full HMEM.out (by rw [HCC.out]; exact h3)), HB2.out⟩
          · go_roundw
            case rel =>
              refine ⟨k + 1, by omega, by go_num, fun j hj hjk => ?_, HB2.out⟩
              by_cases e : j = k
              · subst e; rw [← HX1.out, HCC.out]; exact ⟨HP.out, by omega⟩
              · exact HALL.out j hj (by omega)
            case measure => simp [intOf]; omega
      · go_wp2_with fail
        go_ret
        refine ⟨ret_bool ?_, HBEL.out⟩
        rw [← HQ.out]
        refine net_yes (by omega) (fun m hm => ?_) (fun m hm => ?_)
        · obtain ⟨j, hj, rfl⟩ := List.getElem_of_mem hm
          exact (HALL.out j hj (by omega)).1
        · obtain ⟨j, hj, rfl⟩ := List.getElem_of_mem hm
          exact (HALL.out j hj (by omega)).2
end Go.Proofs.YtaaeledleldllaaGreat
namespace Go.Proofs.YtaaeledleldllaaGreat
open Go.RowKit

def RAct.cells (x : RAct) : List Value := [.int .i64 x.kind, .string x.peer, .string x.label, .int .i64 x.sort]
theorem RAct.cells_len (x : RAct) : x.cells.length = 4 := rfl
theorem RAct.cells_one (x : RAct) : ∀ u ∈ x.cells, u.oneCell' = true := by
  intro u hu
  simp [RAct.cells] at hu
  rcases hu with rfl | rfl | rfl | rfl <;> rfl
def RActOwn (w : World) (base : Nat) (v : Value) (l : List RAct) : Prop := w.ownsRow base 143 4 v l.length (l.flatMap RAct.cells)
theorem RActOwn.sl {w : World} {base : Nat} {v : Value} {l : List RAct} (h : RActOwn w base v l) (hl : l.length ≤ 4294967296) : RActSl w w.heap.size v l := by
  have H := h
  obtain ⟨_, hh⟩ := h
  rcases hh with ⟨rfl, h0⟩ | ⟨gb, cap, cur, rfl, hg, hblk, hc, _⟩
  · have : l = [] := List.length_eq_zero_iff.1 h0
    subst this
    exact ⟨none, 0, rfl, Nat.le_refl _, by simp, fun h => absurd rfl h⟩
  · refine ⟨_, _, rfl, hc, hl, fun _ => ⟨gb, 0, rfl, (Array.getElem?_eq_some_iff.1 hblk).1, RActs.of w gb l 0 (fun j hj => ?_)⟩⟩
    rw [Nat.zero_add]
    have e := fun i (hi : i < 4) (x : Value) (hx : (l[j].cells)[i]? = some x) => owns_cell H rfl (j * 4 + i) x ((flat_get RAct.cells 4 RAct.cells_len l j hj i hi).trans hx)
    exact ⟨e 0 (by omega) _ rfl, e 1 (by omega) _ rfl, e 2 (by omega) _ rfl, e 3 (by omega) _ rfl⟩
theorem RActOwn.keep {w w' : World} {base : Nat} {v : Value} {x : List RAct} {l : List Nat} (h : RActOwn w base v x) (ha : Apart w w' l) (hd : ∀ b ∈ vblocks v, b ∉ l) : RActOwn w' base v x := owns_keep h ha hd
theorem RActOwn.below {w w' : World} {base : Nat} {v : Value} {x : List RAct} (h : RActOwn w base v x) (hb : Below w.heap.size w w') : RActOwn w' base v x := owns_below h hb
theorem RActOwn.fresh {w : World} {base : Nat} {v : Value} {x : List RAct} (h : RActOwn w base v x) : Fresh base w v := owns_fresh h
theorem RActOwn.nil (w : World) (base : Nat) : RActOwn w base (.slice none 0 0) [] := owns_nil w base _ _
theorem RActOwn.snoc {w : World} {base : Nat} {v : Value} {l : List RAct} {x : RAct} (h : w.ownsRow base 143 4 v (l.length + 1) (l.flatMap RAct.cells ++ x.cells)) : RActOwn w base v (l ++ [x]) := by
  unfold RActOwn
  rw [List.length_append, List.length_singleton, List.flatMap_append]
  simpa using h
end Go.Proofs.YtaaeledleldllaaGreat
namespace Go.Proofs.YtaaeledleldllaaGreat
open Go.RowKit

def RMsg.cells (x : RMsg) : List Value := [.string x.frm, .string x.to, .string x.label, .int .i64 x.sort]
theorem RMsg.cells_len (x : RMsg) : x.cells.length = 4 := rfl
theorem RMsg.cells_one (x : RMsg) : ∀ u ∈ x.cells, u.oneCell' = true := by
  intro u hu
  simp [RMsg.cells] at hu
  rcases hu with rfl | rfl | rfl | rfl <;> rfl
def RMsgOwn (w : World) (base : Nat) (v : Value) (l : List RMsg) : Prop := w.ownsRow base 129 4 v l.length (l.flatMap RMsg.cells)
theorem RMsgOwn.sl {w : World} {base : Nat} {v : Value} {l : List RMsg} (h : RMsgOwn w base v l) (hl : l.length ≤ 4294967296) : RMsgSl w w.heap.size v l := by
  have H := h
  obtain ⟨_, hh⟩ := h
  rcases hh with ⟨rfl, h0⟩ | ⟨gb, cap, cur, rfl, hg, hblk, hc, _⟩
  · have : l = [] := List.length_eq_zero_iff.1 h0
    subst this
    exact ⟨none, 0, rfl, Nat.le_refl _, by simp, fun h => absurd rfl h⟩
  · refine ⟨_, _, rfl, hc, hl, fun _ => ⟨gb, 0, rfl, (Array.getElem?_eq_some_iff.1 hblk).1, RMsgs.of w gb l 0 (fun j hj => ?_)⟩⟩
    rw [Nat.zero_add]
    have e := fun i (hi : i < 4) (x : Value) (hx : (l[j].cells)[i]? = some x) => owns_cell H rfl (j * 4 + i) x ((flat_get RMsg.cells 4 RMsg.cells_len l j hj i hi).trans hx)
    exact ⟨e 0 (by omega) _ rfl, e 1 (by omega) _ rfl, e 2 (by omega) _ rfl, e 3 (by omega) _ rfl⟩
theorem RMsgOwn.keep {w w' : World} {base : Nat} {v : Value} {x : List RMsg} {l : List Nat} (h : RMsgOwn w base v x) (ha : Apart w w' l) (hd : ∀ b ∈ vblocks v, b ∉ l) : RMsgOwn w' base v x := owns_keep h ha hd
theorem RMsgOwn.below {w w' : World} {base : Nat} {v : Value} {x : List RMsg} (h : RMsgOwn w base v x) (hb : Below w.heap.size w w') : RMsgOwn w' base v x := owns_below h hb
theorem RMsgOwn.fresh {w : World} {base : Nat} {v : Value} {x : List RMsg} (h : RMsgOwn w base v x) : Fresh base w v := owns_fresh h
theorem RMsgOwn.nil (w : World) (base : Nat) : RMsgOwn w base (.slice none 0 0) [] := owns_nil w base _ _
theorem RMsgOwn.snoc {w : World} {base : Nat} {v : Value} {l : List RMsg} {x : RMsg} (h : w.ownsRow base 129 4 v (l.length + 1) (l.flatMap RMsg.cells ++ x.cells)) : RMsgOwn w base v (l ++ [x]) := by
  unfold RMsgOwn
  rw [List.length_append, List.length_singleton, List.flatMap_append]
  simpa using h
end Go.Proofs.YtaaeledleldllaaGreat
