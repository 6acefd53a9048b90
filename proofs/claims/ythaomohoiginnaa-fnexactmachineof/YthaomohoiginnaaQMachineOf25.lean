/- Marks on rows of Edges; whether they are held. -/
import Derived.Test.YthaomohoiginnaaQMachineOf17
import Derived.Test.YthaomohoiginnaaQMachineOf22
import Derived.Test.YthaomohoiginnaaQMachineOf20
namespace Go.Proofs.Ythaomohoiginnaa
open Go.RowKit

def markREdge (k : Nat) : REdge := ⟨((k : Nat) : Int), markT (k + 1), ((k + 2 : Nat) : Int), ((k + 3 : Nat) : Int)⟩
def markREdges (k n : Nat) : List REdge := (List.range n).map fun i => markREdge (k + i * 4)
theorem markREdges_len (k n : Nat) : (markREdges k n).length = n := by simp [markREdges]
theorem markREdges_get (k n i : Nat) (h : i < (markREdges k n).length) : (markREdges k n)[i] = markREdge (k + i * 4) := by simp [markREdges]

set_option maxRecDepth 100000 in
set_option maxHeartbeats 1000000 in
theorem mark_edges (k0 : Nat) (ns : List REdge) (v : Value) (w : World) (B : Nat) (h1 : 1 ≤ k0) (hk : k0 + ns.length * 4 ≤ 5900000) (hv : REdgeSl w w.heap.size v ns) (hown : MOwn B w v) :
    Calls Try.prog 134 #[v, .int .i64 k0] w fun e w' => e = .returned (.int .i64 ((k0 + ns.length * 4 : Nat) : Int)) ∧ REdgeSl w' w'.heap.size v (markREdges k0 ns.length) ∧ w.grownBy w' v.ownBlock := by
  obtain ⟨ao, cap, rfl, hc, hm, hr⟩ := hv
  have HR := hide hr
  have HO := hide hown
  obtain ⟨n, hn⟩ : ∃ n, ns.length = n := ⟨_, rfl⟩
  rw [hn] at hc hk hm ⊢
  have HN := hide hn
  clear hr hown hn
  by_cases hn0 : n = 0
  · subst hn0
    go_enter Try.func134, Try.ntmps134
    go_wp2_with fail
    go_loopw [1, 5] (fun kv i wr => i = .int .i64 0 ∧ kv = .int .i64 (k0 : Int) ∧ wr = w) (fun _ _ _ => 0)
    case atStart => exact ⟨rfl, rfl, rfl⟩
    case round =>
      obtain ⟨rfl, rfl, rfl⟩ := hrel
      go_wp2_with fail
      go_ret
      exact ⟨ret_int rfl, ⟨_, _, rfl, by simp [markREdges], by simp [markREdges], fun h => absurd rfl h⟩, grown_refl _ _⟩
  · have hne : ns ≠ [] := fun h => hn0 (by rw [← HN.out, h]; rfl)
    obtain ⟨b, o, rfl, hlt, hrow⟩ := HR.out hne
    obtain ⟨hB, -, hfr⟩ := HO.out.free b rfl
    have HC0 : Hid (∀ i, i < n → ∃ nd, REdgeAt w b (o + i * 4) nd) := hide (fun i hi => ⟨_, hrow.get i (by rw [HN.out]; exact hi)⟩)
    have HFR := hide hfr
    clear hrow hfr
    go_enter Try.func134, Try.ntmps134
    go_wp2_with fail
    go_loopw [1, 5] (fun kv i wr => ∃ k : Nat, k ≤ n ∧ i = .int .i64 k ∧ kv = .int .i64 ((k0 + k * 4 : Nat) : Int) ∧ (∀ j, j < k → REdgeAt wr b (o + j * 4) (markREdge (k0 + j * 4))) ∧ (∀ j, j < n → ∃ nd, REdgeAt wr b (o + j * 4) nd) ∧ (∀ j, wr.frozen? ⟨b, j, none⟩ = false) ∧ w.grownBy wr (some b)) (fun _ i _ => n - (intOf i).toNat)
    case atStart => exact ⟨0, Nat.zero_le _, rfl, rfl, fun j h => absurd h (by omega), HC0.out, HFR.out, grown_refl _ _⟩
    case round =>
      obtain ⟨k, hk, rfl, rfl, hdone, hex, hfro, hgr⟩ := hrel
      have HD := hide hdone
      have HE := hide hex
      have HF := hide hfro
      have HG := hide hgr
      have hbw : b < wr.heap.size := Nat.lt_of_lt_of_le hlt hgr.size
      by_cases hkn : k < n
      · obtain ⟨nd, g0, g1, g2, g3⟩ := hex k hkn
        have hf0 := hfro (o + k * 4)
        obtain ⟨kk, hkk⟩ : ∃ kk, k0 + k * 4 = kk := ⟨_, rfl⟩
        rw [hkk]
        have hkk2 : kk < 5900001 := by omega
        have hkk1 : 1 ≤ kk := by omega
        have HKK := hide hkk
        have HO1 : Hid (∀ (W : World) (x : Value) (i j : Nat), i ≠ j → (W.setCell ⟨b, o + k * 4 + i, none⟩ x).cell? ⟨b, o + k * 4 + j, none⟩ = W.cell? ⟨b, o + k * 4 + j, none⟩) := hide (fun W x i j hij =>
          World.cell?_setCell_other _ _ _ _ (fun h => hij (by injection h with h1 h2; omega)))
        have HG5 := hide (And.intro g0 (And.intro g1 (And.intro g2 g3)))
        clear hdone hex hfro hgr hkk g1 g2 g3
        go_wp2_with (first
          | (go_at_call 67; refine (mark_text_at (kk + 1) _ _ (by omega) (by omega) (by omega)).mono ?_; rintro e w1 ⟨rfl, hb1⟩; have hbw1 : b < w1.heap.size := (by have := hb1.size; simp at this; omega); have hk1 := (fun j => hb1.cell (p := ⟨b, j, none⟩) (by simpa using hbw)); have HFW1 : Hid (∀ j, w1.frozen? ⟨b, j, none⟩ = false) := hide (fun j => (hb1.frozen (p := ⟨b, j, none⟩) (by simpa using hbw)).trans ((World.frozen?_setCell _ _ _ _).trans (HF.out j))); have HK1 := hide hk1; have e1_1 : w1.cell? ⟨b, o + k * 4 + 1, none⟩ = some (.string nd.label) := ((HK1.out _).trans ((HO1.out _ _ 0 1 (by decide)).trans HG5.out.2.1)); have e1_2 : w1.cell? ⟨b, o + k * 4 + 2, none⟩ = some (.int .i64 nd.sort) := ((HK1.out _).trans ((HO1.out _ _ 0 2 (by decide)).trans HG5.out.2.2.1)); have e1_3 : w1.cell? ⟨b, o + k * 4 + 3, none⟩ = some (.int .i64 nd.dst) := ((HK1.out _).trans ((HO1.out _ _ 0 3 (by decide)).trans HG5.out.2.2.2)); have q1_1 := HFW1.out (o + k * 4 + 1); have q1_2 := HFW1.out (o + k * 4 + 2); have q1_3 := HFW1.out (o + k * 4 + 3); have HGR1 : Hid (w.grownBy w1 (some b)) := hide (grown_below (grown_set HG.out _ _) hb1); clear hb1 hk1))
        go_roundw
        case rel =>
          have hs : ∀ (W : World) (x : Value) (p q : Nat), p ≠ q → (W.setCell ⟨b, p, none⟩ x).cell? ⟨b, q, none⟩ = W.cell? ⟨b, q, none⟩ := fun W x p q hpq =>
            World.cell?_setCell_other _ _ _ _ (fun h => hpq (by injection h))
          have hfar : ∀ x, (x < o + k * 4 ∨ o + k * 4 + 4 ≤ x) → ((((w1.setCell ⟨b, o + k * 4 + 1, none⟩ (.string (markT (kk + 1)))).setCell ⟨b, o + k * 4 + 2, none⟩ (.int .i64 ((kk : Int) + 1 + 1))).setCell ⟨b, o + k * 4 + 3, none⟩ (.int .i64 ((kk : Int) + 1 + 1 + 1)))).cell? ⟨b, x, none⟩ = wr.cell? ⟨b, x, none⟩ := fun x hx => by
            rw [hs _ _ _ _ (by omega), hs _ _ _ _ (by omega), hs _ _ _ _ (by omega), HK1.out, hs _ _ _ _ (by omega)]
          have hnew : REdgeAt ((((w1.setCell ⟨b, o + k * 4 + 1, none⟩ (.string (markT (kk + 1)))).setCell ⟨b, o + k * 4 + 2, none⟩ (.int .i64 ((kk : Int) + 1 + 1))).setCell ⟨b, o + k * 4 + 3, none⟩ (.int .i64 ((kk : Int) + 1 + 1 + 1)))) b (o + k * 4) (markREdge kk) := by
            refine ⟨?_, ?_, ?_, ?_⟩
            · rw [hs _ _ _ _ (by omega), hs _ _ _ _ (by omega), hs _ _ _ _ (by omega), HK1.out]
              refine (World.cell?_setCell_same _ _ _ (u := .int .i64 nd.src) (by exact HG5.out.1)).trans (by simp [markREdge]; try omega)
            · rw [hs _ _ _ _ (by omega), hs _ _ _ _ (by omega)]
              refine (World.cell?_setCell_same _ _ _ (u := .string nd.label) (by exact e1_1)).trans (by simp [markREdge]; try omega)
            · rw [hs _ _ _ _ (by omega)]
              refine (World.cell?_setCell_same _ _ _ (u := .int .i64 nd.sort) (by rw [hs _ _ _ _ (by omega)]; exact e1_2)).trans (by simp [markREdge]; try omega)
            · refine (World.cell?_setCell_same _ _ _ (u := .int .i64 nd.dst) (by rw [hs _ _ _ _ (by omega), hs _ _ _ _ (by omega)]; exact e1_3)).trans (by simp [markREdge]; try omega)
          have hkeep : ∀ j x, j ≠ k → REdgeAt wr b (o + j * 4) x → REdgeAt ((((w1.setCell ⟨b, o + k * 4 + 1, none⟩ (.string (markT (kk + 1)))).setCell ⟨b, o + k * 4 + 2, none⟩ (.int .i64 ((kk : Int) + 1 + 1))).setCell ⟨b, o + k * 4 + 3, none⟩ (.int .i64 ((kk : Int) + 1 + 1 + 1)))) b (o + j * 4) x := fun j x hj hx => by
            obtain ⟨a0, a1, a2, a3⟩ := hx
            exact ⟨(hfar _ (by omega)).trans a0, (hfar _ (by omega)).trans a1, (hfar _ (by omega)).trans a2, (hfar _ (by omega)).trans a3⟩
          refine ⟨k + 1, by omega, by go_num, by have := HKK.out; congr 1; omega, fun j hj => ?_, fun j hj => ?_, fun j => ?_, (grown_set (grown_set (grown_set HGR1.out _ _) _ _) _ _)⟩
          · by_cases hjk : j = k
            · subst hjk; rw [HKK.out]; exact hnew
            · exact hkeep j _ hjk (HD.out j (by omega))
          · by_cases hjk : j = k
            · subst hjk; exact ⟨_, hnew⟩
            · obtain ⟨x, hx⟩ := HE.out j hj
              exact ⟨x, hkeep j x hjk hx⟩
          · rw [World.frozen?_setCell, World.frozen?_setCell, World.frozen?_setCell]
            exact HFW1.out j
        case measure => simp [intOf]; omega
      · clear hdone hex hfro hgr
        go_wp2_with fail
        go_ret
        refine ⟨ret_int (by omega), ⟨_, _, by rw [markREdges_len], by rw [markREdges_len]; exact hc, by rw [markREdges_len]; exact hm, fun _ => ⟨b, o, rfl, Nat.lt_of_lt_of_le hlt HG.out.size, REdges.of _ _ _ _ (fun j hj => ?_)⟩⟩, HG.out⟩
        rw [markREdges_get]
        rw [markREdges_len] at hj
        exact HD.out j (by omega)

set_option maxRecDepth 100000 in
set_option maxHeartbeats 1000000 in
theorem held_edges (k0 n : Nat) (v : Value) (w : World) (h1 : 1 ≤ k0) (hk : k0 + n * 4 ≤ 5900000) (hv : REdgeSl w w.heap.size v (markREdges k0 n)) :
    Calls Try.prog 136 #[v, .int .i64 k0] w fun e w' => e = .returned (.int .i64 ((k0 + n * 4 : Nat) : Int)) ∧ Below w.heap.size w w' := by
  obtain ⟨ao, cap, rfl, hc, hm, hr⟩ := hv
  rw [markREdges_len] at hc ⊢
  have HR := hide hr
  clear hr
  go_enter Try.func136, Try.ntmps136
  go_wp2_with fail
  go_loopw [1, 5] (fun kv i wr => ∃ k : Nat, k ≤ n ∧ i = .int .i64 k ∧ kv = .int .i64 ((k0 + k * 4 : Nat) : Int) ∧ Below w.heap.size w wr) (fun _ i _ => n - (intOf i).toNat)
  case atStart => exact ⟨0, Nat.zero_le _, rfl, rfl, Below.refl _ _⟩
  case round =>
    obtain ⟨k, hkn, rfl, rfl, hbel⟩ := hrel
    have HBEL := hide hbel
    have hszr := hbel.size
    by_cases hlt : k < n
    · have hlt' : k < (markREdges k0 n).length := by rw [markREdges_len]; exact hlt
      obtain ⟨b, o, rfl, hbB, hrow⟩ := HR.out (by intro h; rw [h] at hlt'; simp at hlt')
      have hnode := (hrow.get k hlt').carry hbB hbel
      rw [markREdges_get] at hnode
      obtain ⟨kk, hkk⟩ : ∃ kk, k0 + k * 4 = kk := ⟨_, rfl⟩
      rw [hkk] at hnode ⊢
      have hkk2 : kk < 5900001 := by omega
      have hkk1 : 1 ≤ kk := by omega
      have HKK := hide hkk
      obtain ⟨c0, c1, c2, c3⟩ := hnode
      simp only [markREdge] at c0 c1 c2 c3
      clear hbel hrow hkk
      go_wp2_with fail
      refine wp_region_grown (by kernel_rfl) (by kernel_rfl) (fun W hW => ?_)
      have hne := grown_some W
      have f1 := grown_cell (w := W) (b := b) (by rw [hW]; exact c1)
      have f2 := grown_cell (w := W) (b := b) (by rw [hW]; exact c2)
      have f3 := grown_cell (w := W) (b := b) (by rw [hW]; exact c3)
      have HWE := hide hW
      clear hW
      repeat (go_big_quiet_step ((go_at_call 67; exact grown_more (mark_text_at (kk + 1) _ _ (by omega) (by omega) (by omega)))))
      refine wpQuiet_nil ?_
      intro w1 hw1
      have c1_1 := f1 ⟨w1, hw1⟩
      have c1_2 := f2 ⟨w1, hw1⟩
      have c1_3 := f3 ⟨w1, hw1⟩
      dsimp only at c1_1 c1_2 c1_3
      have HB1 : Hid (Below w.heap.size w w1) := hide (HBEL.out.trans ((by rw [HWE.out] at hw1; exact hw1 : Below wr.heap.size wr w1).mono HBEL.out.size))
      clear HWE hne hw1 f1 f2 f3
      go_wp2_with fail
      all_goals
        go_roundw
        case rel => exact ⟨k + 1, by omega, by go_num, by have := HKK.out; congr 1; omega, HB1.out⟩
        case measure => simp [intOf]; omega
    · clear hbel
      go_wp2_with fail
      go_ret
      exact ⟨ret_int (by omega), HBEL.out⟩
end Go.Proofs.Ythaomohoiginnaa
/- How much of the size is left behind a row of Edges; such a row as a law holds it. -/
namespace Go.Proofs.Ythaomohoiginnaa
open Go.RowKit

set_option maxHeartbeats 400000 in
theorem sz2_edge (x : REdge) (left : Int) (w : World) (ok : x.ok) (hl : 0 ≤ left) (hm : left ≤ 1048576) :
    Calls Try.prog 117 #[x.val, .int .i64 left] w fun e w' => ∃ r : Int, e = .returned (.int .i64 r) ∧ r ≤ 1048576 ∧ (0 ≤ r → r ≤ left ∧ x.fit) ∧ Below w.heap.size w w' := by
  unfold REdge.ok maxLen at ok
  have HFI := hide (show x.fit = (x.label.size ≤ 1048576) from rfl)
  unfold REdge.val
  by_cases a2 : left - x.label.size < 0
  · go_enter Try.func117, Try.ntmps117
    go_wp2_with fail
    go_ret
    exact ⟨_, rfl, by omega, fun h => absurd h (by omega), malloc1 _ _⟩
  · skip
    go_enter Try.func117, Try.ntmps117
    go_wp2_with fail
    go_ret
    exact ⟨_, rfl, by omega, fun h => ⟨by omega, by rw [HFI.out]; omega⟩, malloc1 _ _⟩

set_option maxHeartbeats 400000 in
theorem sz2_edges (l : List REdge) (left : Int) (ao : Option Addr) (cap : Nat) (w : World) (ok : ∀ x ∈ l, x.ok) (hl : l.length ≤ maxLen) (h0 : 0 ≤ left) (h1 : left ≤ 1048576) (hr : l ≠ [] → ∃ b o, ao = some ⟨b, o, none⟩ ∧ b < w.heap.size ∧ REdges w b o l) :
    Calls Try.prog 70 #[.slice ao l.length cap, .int .i64 left] w fun e w' => ∃ r : Int, e = .returned (.int .i64 r) ∧ r ≤ 1048576 ∧ (0 ≤ r → r + (l.length : Int) ≤ left ∧ ∀ x ∈ l, x.fit) ∧ Below w.heap.size w w' := by
  have HR := hide hr
  have HOK := hide ok
  unfold maxLen at hl
  clear hr ok
  by_cases hle : (l.length : Int) ≤ left
  · go_enter Try.func70, Try.ntmps70
    go_wp2_with fail
    go_loopw [1, 5] (fun lf i wr => ∃ (k : Nat) (z : Int), k ≤ l.length ∧ i = .int .i64 k ∧ lf = .int .i64 z ∧ 0 ≤ z ∧ z ≤ 1048576 ∧ z + (l.length : Int) ≤ left ∧ (∀ j (h : j < l.length), j < k → l[j].fit) ∧ Below w.heap.size w wr)
      (fun _ i _ => l.length - (intOf i).toNat)
    case atStart => exact ⟨0, left - (l.length : Int), Nat.zero_le _, rfl, rfl, by omega, by omega, by omega, fun j _ h => absurd h (by omega), Below.refl _ _⟩
    case round =>
      obtain ⟨k, z, hk, rfl, rfl, hl0, hl1, hl2, hall, hbel⟩ := hrel
      have HA := hide hall
      have HBEL := hide hbel
      have hszr := hbel.size
      clear hall hbel
      by_cases hlt : k < l.length
      · obtain ⟨b, o, rfl, hbB, hrow⟩ := HR.out (by intro h; simp [h] at hlt)
        have hnode := (hrow.get k hlt).carry hbB HBEL.out
        obtain ⟨x1, hx1⟩ : ∃ x1, x1 = l[k] := ⟨_, rfl⟩
        rw [← hx1] at hnode
        have HN := hide hx1
        have HN1 := hide (show x1.ok by rw [hx1]; exact HOK.out _ (List.getElem_mem hlt))
        clear hx1 hrow
        have hbw : b < wr.heap.size := hnode.lt
        obtain ⟨c0, c1, c2, c3⟩ := hnode
        go_wp2_with (go_at_call 117; refine (sz2_edge x1 z _ HN1.out hl0 hl1).mono ?_; rintro e w1 ⟨r, rfl, hr1, hrf, hb1⟩; have HRF := hide hrf; have HB1 := hide hb1; clear hrf hb1)
        all_goals
          first
            | (go_ret
               exact ⟨_, rfl, by omega, fun h => absurd h (by omega), HBEL.out.trans (HB1.out.mono hszr)⟩)
            | (go_roundw
               case rel =>
                 refine ⟨k + 1, r, by omega, by go_num, rfl, by omega, hr1, by have := (HRF.out (by omega)).1; omega, fun j hj hjk => ?_, HBEL.out.trans (HB1.out.mono hszr)⟩
                 by_cases hjk' : j = k
                 · subst hjk'; rw [← HN.out]; exact (HRF.out (by omega)).2
                 · exact HA.out j hj (by omega)
               case measure => simp [intOf]; omega)
      · go_wp2_with fail
        go_ret
        refine ⟨_, rfl, by omega, fun _ => ⟨hl2, fun x hx => ?_⟩, HBEL.out⟩
        obtain ⟨j, hj, rfl⟩ := List.getElem_of_mem hx
        exact HA.out j hj (by omega)
  · go_enter Try.func70, Try.ntmps70
    go_wp2_with fail
    go_ret
    exact ⟨_, rfl, by omega, fun h => absurd h (by omega), Below.refl _ _⟩


theorem REdgeSl.sep {w w' : World} {v : Value} {x : List REdge} {l : List Nat} (h : REdgeSl w w.heap.size v x) (ha : Apart w w' l) (hd : ∀ b ∈ vblocks v, b ∉ l) : REdgeSl w' w'.heap.size v x := by
  have H := h
  obtain ⟨a1, c1, rfl, _⟩ := h
  exact H.keep ha.size (fun b hb hlt => ha.block b hlt (hd b ((own_blocks rfl).1 hb)))
theorem REdgeSl.far {w w' : World} {v : Value} {x : List REdge} {l : List Nat} (h : REdgeSl w w.heap.size v x) (ha : Apart w w' l) (hd : ∀ b ∈ l, w.heap.size ≤ b) : REdgeSl w' w'.heap.size v x := by
  have H := h
  obtain ⟨a1, c1, rfl, _⟩ := h
  exact H.keep ha.size (fun b hb hlt => ha.block b hlt (fun hm => absurd (hd b hm) (by omega)))
theorem REdgeSl.shape {w : World} {B : Nat} {v : Value} {x : List REdge} (h : REdgeSl w B v x) : ∃ p c, v = .slice p x.length c := by
  obtain ⟨a1, c1, e, _⟩ := h
  exact ⟨a1, c1, e⟩
theorem edges_to (l : List REdge) (ao : Option Addr) (cap : Nat) (w : World) (hl : l.length ≤ 1048576) (hr : l ≠ [] → ∃ b o, ao = some ⟨b, o, none⟩ ∧ b < w.heap.size ∧ REdges w b o l) :
    Calls Try.prog 75 #[.slice ao l.length cap] w fun e w' => ∃ v', e = .returned v' ∧ REdgeSl w' w'.heap.size v' l ∧ Fresh w.heap.size w' v' ∧ Below w.heap.size w w' :=
  (to_edges l ao cap w hl hr).mono fun e w' ⟨v', h1, h2, h3, h4⟩ => by
    obtain ⟨p, c, rfl⟩ := h2.shape
    exact ⟨_, h1, h2, fresh_slice h3, h4⟩
theorem edges_mark (k0 : Nat) (ns : List REdge) (v : Value) (w : World) (lo : Nat) (h1 : 1 ≤ k0) (hk : k0 + ns.length * 4 ≤ 5900000) (hv : REdgeSl w w.heap.size v ns) (hf : Fresh lo w v) :
    Calls Try.prog 134 #[v, .int .i64 k0] w fun e w' => e = .returned (.int .i64 ((k0 + ns.length * 4 : Nat) : Int)) ∧ REdgeSl w' w'.heap.size v (markREdges k0 ns.length) ∧ Apart w w' (vblocks v) := by
  obtain ⟨p, c, rfl⟩ := hv.shape
  exact (mark_edges k0 ns _ w lo h1 hk hv hf.own).mono fun e w' ⟨h1, h2, h3⟩ => ⟨h1, h2, grownBy_apart h3⟩
end Go.Proofs.Ythaomohoiginnaa
