import Derived.Test.YtaaeledleldllaaGreatQB19
import Derived.Laws.Rows
import Derived.Laws.MakeOwn
namespace Go.Proofs.YtaaeledleldllaaGreat
open Go.RowKit

theorem Tryz.infoN : (Tryz.prog.info? 68).map (fun i => (i.zero, i.size, i.bytes)) = some (some (.agg #[.int .i64 0, .string ByteArray.empty, .string ByteArray.empty, .int .i64 0, .int .i64 0]), 5, 56) := by kernel_rfl

set_option maxHeartbeats 400000 in
theorem to_node (n : Nd) (w : World) :
    Calls Tryz.prog 34 #[n.val] w fun e w' => e = .returned n.val ∧ Below w.heap.size w w' := by
  have hi : (Tryz.prog.info? 68).map (·.size) = some 5 := by
    obtain ⟨i0, hi, _, hz1, _⟩ := info_parts Tryz.infoN
    rw [hi]; simp [hz1]
  have HI := hide hi
  clear hi
  unfold Nd.val
  go_enter Tryz.func34, Tryz.ntmps34
  go_wp2_with fail
  refine bodyPost_ret_by (results_cell_row rfl _ _ (w.heap.size + 1) 68 #[.int .i64 n.op, .string n.name, .string n.peer, .int .i64 n.many, .int .i64 n.sort] (0, 0) _ rfl ?_ Tryz.underlying68 rfl HI.out) rfl ⟨rfl, ((alloc1 _ _).trans ((alloc1 _ _).mono (by simp))).trans ((alloc1 _ _).mono (by simp; omega))⟩
  rw [heap_old _ _ _ (by simp), heap_new _ _ _ (by simp)]

def putNode (w : World) (g p : Nat) (n : Nd) : World := ((((w.setCell ⟨g, p, none⟩ (.int .i64 n.op)).setCell ⟨g, p + 1, none⟩ (.string n.name)).setCell ⟨g, p + 2, none⟩ (.string n.peer)).setCell ⟨g, p + 3, none⟩ (.int .i64 n.many)).setCell ⟨g, p + 4, none⟩ (.int .i64 n.sort)
theorem put_other (w : World) (g p : Nat) (n : Nd) (a : Addr) (h : ∀ i, i < 5 → a ≠ ⟨g, p + i, none⟩) : (putNode w g p n).cell? a = w.cell? a := by
  unfold putNode
  rw [World.cell?_setCell_other _ _ _ _ (Ne.symm (h 4 (by omega))), World.cell?_setCell_other _ _ _ _ (Ne.symm (h 3 (by omega))), World.cell?_setCell_other _ _ _ _ (Ne.symm (h 2 (by omega))), World.cell?_setCell_other _ _ _ _ (Ne.symm (h 1 (by omega))), World.cell?_setCell_other _ ⟨g, p, none⟩ _ _ (Ne.symm (h 0 (by omega)))]
theorem put_node (w : World) (g p : Nat) (n : Nd) (hc : ∀ i, i < 5 → ∃ x, w.cell? ⟨g, p + i, none⟩ = some x) : NodeAt (putNode w g p n) g p n := by
  obtain ⟨x0, h0⟩ := hc 0 (by omega)
  obtain ⟨x1, h1⟩ := hc 1 (by omega)
  obtain ⟨x2, h2⟩ := hc 2 (by omega)
  obtain ⟨x3, h3⟩ := hc 3 (by omega)
  obtain ⟨x4, h4⟩ := hc 4 (by omega)
  unfold putNode
  refine ⟨?_, ?_, ?_, ?_, ?_⟩
  · rw [World.cell?_setCell_other _ _ _ _ (by simp), World.cell?_setCell_other _ _ _ _ (by simp), World.cell?_setCell_other _ _ _ _ (by simp), World.cell?_setCell_other _ _ _ _ (by simp)]
    exact World.cell?_setCell_same _ _ _ h0
  · rw [World.cell?_setCell_other _ _ _ _ (by simp), World.cell?_setCell_other _ _ _ _ (by simp), World.cell?_setCell_other _ _ _ _ (by simp)]
    exact World.cell?_setCell_same _ _ _ (u := x1) (by rw [World.cell?_setCell_other _ _ _ _ (by simp)]; exact h1)
  · rw [World.cell?_setCell_other _ _ _ _ (by simp), World.cell?_setCell_other _ _ _ _ (by simp)]
    exact World.cell?_setCell_same _ _ _ (u := x2) (by rw [World.cell?_setCell_other _ _ _ _ (by simp), World.cell?_setCell_other _ _ _ _ (by simp)]; exact h2)
  · rw [World.cell?_setCell_other _ _ _ _ (by simp)]
    exact World.cell?_setCell_same _ _ _ (u := x3) (by rw [World.cell?_setCell_other _ _ _ _ (by simp), World.cell?_setCell_other _ _ _ _ (by simp), World.cell?_setCell_other _ _ _ _ (by simp)]; exact h3)
  · exact World.cell?_setCell_same _ _ _ (u := x4) (by rw [World.cell?_setCell_other _ _ _ _ (by simp), World.cell?_setCell_other _ _ _ _ (by simp), World.cell?_setCell_other _ _ _ _ (by simp), World.cell?_setCell_other _ _ _ _ (by simp)]; exact h4)
theorem put_below {B : Nat} {a w : World} (h : Below B a w) {g : Nat} (hg : B ≤ g) (p : Nat) (n : Nd) : Below B a (putNode w g p n) :=
  ((((h.setCell (p := ⟨g, p, none⟩) hg _).setCell (p := ⟨g, p + 1, none⟩) hg _).setCell (p := ⟨g, p + 2, none⟩) hg _).setCell (p := ⟨g, p + 3, none⟩) hg _).setCell (p := ⟨g, p + 4, none⟩) hg _
theorem put_size (w : World) (g p : Nat) (n : Nd) : (putNode w g p n).heap.size = w.heap.size := by simp [putNode]
theorem put_frozen (w : World) (g p : Nat) (n : Nd) (a : Addr) : (putNode w g p n).frozen? a = w.frozen? a := by simp [putNode]
theorem rowsOf (w : World) (g : Nat) : ∀ (ns : List Nd) (o : Nat), (∀ j (h : j < ns.length), NodeAt w g (o + j * 5) ns[j]) → RowAt w g o ns
  | [], _, _ => trivial
  | n :: ns, o, h => ⟨by have := h 0 (by simp); simpa only [Nat.zero_mul, Nat.add_zero, List.getElem_cons_zero] using this, rowsOf w g ns (o + 5) (fun j hj => by
      have := h (j + 1) (by simpa using hj)
      rw [show o + (j + 1) * 5 = o + 5 + j * 5 from by omega] at this
      simpa only [List.getElem_cons_succ] using this)⟩
theorem madeN (n : Nat) : (madeCells (Value.agg #[.int .i64 0, .string ByteArray.empty, .string ByteArray.empty, .int .i64 0, .int .i64 0]).cells n).size = n := size_madeCells _ _

set_option maxHeartbeats 2000000 in
set_option maxRecDepth 100000 in
theorem to_nodes (ns : List Nd) (ao : Option Addr) (cap : Nat) (w : World) (hl : ns.length ≤ 1048576) (hr : ns ≠ [] → ∃ b o, ao = some ⟨b, o, none⟩ ∧ b < w.heap.size ∧ RowAt w b o ns) :
    Calls Tryz.prog 10 #[.slice ao ns.length cap] w fun e w' => ∃ v', e = .returned v' ∧ SlAt w' w'.heap.size v' ns ∧ Below w.heap.size w w' := by
  have HR := hide hr
  obtain ⟨i0, hi, hz0, hz1, hz2⟩ := info_parts Tryz.infoN
  obtain ⟨M, hM⟩ : ∃ M, M = madeCells (Value.agg #[.int .i64 0, .string ByteArray.empty, .string ByteArray.empty, .int .i64 0, .int .i64 0]).cells (ns.length * 5) := ⟨_, rfl⟩
  have hMs : M.size = ns.length * 5 := by rw [hM, madeN]
  have hmk : ∀ W : World, (Instr.makeSlice 25 (.int .i64 (ns.length : Int)) (.int .i64 (ns.length : Int))).run Tryz.prog W = .ok (.slice (some ⟨W.heap.size, 0, none⟩) ns.length ns.length) (W.alloc (.cells M 68)) := fun W => by
    have h := run_make (P := Tryz.prog) W 25 68 i0 _ Tryz.underlying25 hi hz0 .i64 .i64 (ns.length : Int) (ns.length : Int) (by omega) (by omega) (by rw [hz2]; omega) (by omega)
    rw [hz1] at h
    simp only [Int.toNat_natCast] at h
    rw [← hM] at h
    exact h
  have HMS := hide hMs
  clear hr hM hMs hi hz0 hz1 hz2
  have HLL := hide hl
  go_enter Tryz.func10, Tryz.ntmps10
  go_wp2_with fail
  go_loopw [4] (fun i wr => ∃ k : Nat, k ≤ ns.length ∧ i = .int .i64 k ∧ (∀ j (h : j < ns.length), j < k → NodeAt wr w.heap.size (j * 5) ns[j]) ∧ (∀ j, j < ns.length * 5 → ∃ x, wr.cell? ⟨w.heap.size, j, none⟩ = some x) ∧ (∀ j, wr.frozen? ⟨w.heap.size, j, none⟩ = false) ∧ w.heap.size < wr.heap.size ∧ Below w.heap.size w wr)
    (fun i _ => ns.length - (intOf i).toNat)
  case atStart =>
    refine ⟨0, Nat.zero_le _, rfl, fun j _ h => absurd h (by omega), fun j hj => ?_, fun j => ?_, by simp, alloc1 _ _⟩
    · rw [← HMS.out] at hj
      exact ⟨M[j], by simp [hj]⟩
    · simp
  case round =>
    obtain ⟨k, hk, rfl, hall, hcells, hfro, hsz, hbel⟩ := hrel
    have HA := hide hall
    have HC := hide hcells
    have HFR := hide hfro
    have HBEL := hide hbel
    clear hall hbel
    by_cases hlt : k < ns.length
    · obtain ⟨b, o, rfl, hbB, hrow⟩ := HR.out (by intro h; simp [h] at hlt)
      have hnode := (hrow.get k hlt).carry hbB HBEL.out
      obtain ⟨n1, hn1⟩ : ∃ n1, n1 = ns[k] := ⟨_, rfl⟩
      rw [← hn1] at hnode
      have HN := hide hn1
      clear hn1 hrow
      have hbw : b < wr.heap.size := hnode.lt
      obtain ⟨c0, c1, c2, c3, c4⟩ := hnode
      obtain ⟨y0, g0⟩ := hcells (k * 5) (by omega)
      obtain ⟨y1, g1⟩ := hcells (k * 5 + 1) (by omega)
      obtain ⟨y2, g2⟩ := hcells (k * 5 + 2) (by omega)
      obtain ⟨y3, g3⟩ := hcells (k * 5 + 3) (by omega)
      obtain ⟨y4, g4⟩ := hcells (k * 5 + 4) (by omega)
      have HG := hide (And.intro g0 (And.intro g1 (And.intro g2 (And.intro g3 g4))))
      clear hcells hfro g0 g1 g2 g3 g4
      go_wp2_with (go_at_call 34; refine (to_node n1 _).mono ?_; rintro e w1 ⟨rfl, hb1⟩; unfold Nd.val; have hs1 := hb1.size; have HF1 : Hid (∀ j, w1.frozen? ⟨w.heap.size, j, none⟩ = false) := hide (fun j => (hb1.frozen (p := ⟨w.heap.size, j, none⟩) hsz).trans (HFR.out j)); have HC1 : Hid (∀ j, w1.cell? ⟨w.heap.size, j, none⟩ = wr.cell? ⟨w.heap.size, j, none⟩) := hide (fun j => hb1.cell (p := ⟨w.heap.size, j, none⟩) hsz); have g0 := (HC1.out (k * 5)).trans HG.out.1; have g1 := (HC1.out (k * 5 + 1)).trans HG.out.2.1; have g2 := (HC1.out (k * 5 + 2)).trans HG.out.2.2.1; have g3 := (HC1.out (k * 5 + 3)).trans HG.out.2.2.2.1; have g4 := (HC1.out (k * 5 + 4)).trans HG.out.2.2.2.2; have f0 := HF1.out (k * 5); have f1 := HF1.out (k * 5 + 1); have f2 := HF1.out (k * 5 + 2); have f3 := HF1.out (k * 5 + 3); have f4 := HF1.out (k * 5 + 4); have HB1 := hide hb1; clear hb1)
      go_roundw
      case rel =>
        have e := hide (show ((((w1.setCell ⟨w.heap.size, k * 5, none⟩ (.int .i64 n1.op)).setCell ⟨w.heap.size, k * 5 + 1, none⟩ (.string n1.name)).setCell ⟨w.heap.size, k * 5 + 2, none⟩ (.string n1.peer)).setCell ⟨w.heap.size, k * 5 + 3, none⟩ (.int .i64 n1.many)).setCell ⟨w.heap.size, k * 5 + 4, none⟩ (.int .i64 n1.sort) = putNode w1 w.heap.size (k * 5) n1 from rfl)
        rw [e.out]
        have hex : ∀ i, i < 5 → ∃ x, w1.cell? ⟨w.heap.size, k * 5 + i, none⟩ = some x := fun i hi => by rw [HC1.out]; exact HC.out _ (by omega)
        have hnew := put_node w1 w.heap.size (k * 5) n1 hex
        have hoth : ∀ j, (j < k * 5 ∨ k * 5 + 5 ≤ j) → (putNode w1 w.heap.size (k * 5) n1).cell? ⟨w.heap.size, j, none⟩ = wr.cell? ⟨w.heap.size, j, none⟩ := fun j hj => by
          rw [put_other _ _ _ _ _ (fun i hi h => by injection h with h1 h2; omega), HC1.out]
        refine ⟨k + 1, by omega, by go_num, fun j hj hjk => ?_, fun j hj => ?_, fun j => by rw [put_frozen]; exact HF1.out j, by rw [put_size]; omega, put_below (HBEL.out.trans (HB1.out.mono HBEL.out.size)) (Nat.le_refl _) _ _⟩
        · by_cases hjk' : j = k
          · subst hjk'; rw [← HN.out]; exact hnew
          · obtain ⟨a0, a1, a2, a3, a4⟩ := HA.out j hj (by omega)
            exact ⟨(hoth _ (by omega)).trans a0, (hoth _ (by omega)).trans a1, (hoth _ (by omega)).trans a2, (hoth _ (by omega)).trans a3, (hoth _ (by omega)).trans a4⟩
        · by_cases hin : j < k * 5 ∨ k * 5 + 5 ≤ j
          · rw [hoth j hin]; exact HC.out j hj
          · obtain ⟨a0, a1, a2, a3, a4⟩ := hnew
            rcases (show j = k * 5 ∨ j = k * 5 + 1 ∨ j = k * 5 + 2 ∨ j = k * 5 + 3 ∨ j = k * 5 + 4 by omega) with h | h | h | h | h
            · subst h; exact ⟨_, a0⟩
            · subst h; exact ⟨_, a1⟩
            · subst h; exact ⟨_, a2⟩
            · subst h; exact ⟨_, a3⟩
            · subst h; exact ⟨_, a4⟩
      case measure => simp [intOf]; omega
    · go_wp2_with fail
      go_ret
      refine ⟨_, rfl, ⟨_, _, rfl, Nat.le_refl _, by omega, fun hne => ⟨w.heap.size, 0, rfl, hsz, ?_⟩⟩, HBEL.out⟩
      exact rowsOf _ _ ns 0 (fun j hj => by rw [Nat.zero_add]; exact HA.out j hj (by omega))
end Go.Proofs.YtaaeledleldllaaGreat
namespace Go.Proofs.YtaaeledleldllaaGreat
open Go.RowKit

set_option maxHeartbeats 400000 in
theorem sz_node (n : Nd) (left : Int) (w : World) (ok : n.ok) (hl : 0 ≤ left) (hm : left ≤ 1048576) :
    Calls Tryz.prog 31 #[n.val, .int .i64 left] w fun e w' => ∃ r : Int, e = .returned (.int .i64 r) ∧ r ≤ 1048576 ∧ (0 ≤ r → n.fit) ∧ Below w.heap.size w w' := by
  obtain ⟨h1, h2⟩ := ok
  unfold maxLen at h1 h2
  have HFI := hide (show n.fit = (n.name.size ≤ 1048576 ∧ n.peer.size ≤ 1048576) from rfl)
  unfold Nd.val
  by_cases a1 : left - n.name.size < 0
  · go_enter Tryz.func31, Tryz.ntmps31
    go_wp2_with fail
    go_ret
    exact ⟨_, rfl, by omega, fun h => absurd h (by omega), alloc1 _ _⟩
  · by_cases a2 : left - n.name.size - n.peer.size < 0
    · go_enter Tryz.func31, Tryz.ntmps31
      go_wp2_with fail
      go_ret
      exact ⟨_, rfl, by omega, fun h => absurd h (by omega), alloc1 _ _⟩
    · go_enter Tryz.func31, Tryz.ntmps31
      go_wp2_with fail
      go_ret
      exact ⟨_, rfl, by omega, fun h => by rw [HFI.out]; omega, alloc1 _ _⟩

set_option maxHeartbeats 400000 in
theorem sz_nodes (ns : List Nd) (ao : Option Addr) (cap : Nat) (w : World) (ok : ∀ n ∈ ns, n.ok) (hl : ns.length ≤ maxLen) (hr : ns ≠ [] → ∃ b o, ao = some ⟨b, o, none⟩ ∧ b < w.heap.size ∧ RowAt w b o ns) :
    Calls Tryz.prog 8 #[.slice ao ns.length cap, .int .i64 1048576] w fun e w' => ∃ r : Int, e = .returned (.int .i64 r) ∧ (0 ≤ r → ns.length ≤ 1048576 ∧ ∀ n ∈ ns, n.fit) ∧ Below w.heap.size w w' := by
  have HR := hide hr
  have HOK := hide ok
  unfold maxLen at hl
  clear hr ok
  by_cases h0 : ns.length ≤ 1048576
  · go_enter Tryz.func8, Tryz.ntmps8
    go_wp2_with fail
    go_loopw [1, 5] (fun lf i wr => ∃ (k : Nat) (l : Int), k ≤ ns.length ∧ i = .int .i64 k ∧ lf = .int .i64 l ∧ 0 ≤ l ∧ l ≤ 1048576 ∧ (∀ j (h : j < ns.length), j < k → ns[j].fit) ∧ Below w.heap.size w wr)
      (fun _ i _ => ns.length - (intOf i).toNat)
    case atStart => exact ⟨0, 1048576 - (ns.length : Int), Nat.zero_le _, rfl, rfl, by omega, by omega, fun j _ h => absurd h (by omega), Below.refl _ _⟩
    case round =>
      obtain ⟨k, l, hk, rfl, rfl, hl0, hl1, hall, hbel⟩ := hrel
      have HA := hide hall
      have HBEL := hide hbel
      have hszr := hbel.size
      clear hall hbel
      by_cases hlt : k < ns.length
      · obtain ⟨b, o, rfl, hbB, hrow⟩ := HR.out (by intro h; simp [h] at hlt)
        have hnode := (hrow.get k hlt).carry hbB HBEL.out
        obtain ⟨n1, hn1⟩ : ∃ n1, n1 = ns[k] := ⟨_, rfl⟩
        rw [← hn1] at hnode
        have HN := hide hn1
        have HN1 := hide (show n1.ok by rw [hn1]; exact HOK.out _ (List.getElem_mem hlt))
        clear hn1 hrow
        have hbw : b < wr.heap.size := hnode.lt
        obtain ⟨c0, c1, c2, c3, c4⟩ := hnode
        go_wp2_with (go_at_call 31; refine (sz_node n1 l _ HN1.out hl0 hl1).mono ?_; rintro e w1 ⟨r, rfl, hr1, hrf, hb1⟩; have HRF := hide hrf; have HB1 := hide hb1; clear hrf hb1)
        all_goals
          first
            | (go_ret
               exact ⟨_, rfl, fun h => absurd h (by omega), HBEL.out.trans (HB1.out.mono hszr)⟩)
            | (go_roundw
               case rel =>
                 refine ⟨k + 1, r, by omega, by go_num, rfl, by omega, hr1, fun j hj hjk => ?_, HBEL.out.trans (HB1.out.mono hszr)⟩
                 by_cases hjk' : j = k
                 · subst hjk'; rw [← HN.out]; exact HRF.out (by omega)
                 · exact HA.out j hj (by omega)
               case measure => simp [intOf]; omega)
      · go_wp2_with fail
        go_ret
        refine ⟨_, rfl, fun _ => ⟨h0, fun n hn => ?_⟩, HBEL.out⟩
        obtain ⟨j, hj, rfl⟩ := List.getElem_of_mem hn
        exact HA.out j hj (by omega)
  · go_enter Tryz.func8, Tryz.ntmps8
    go_wp2_with fail
    go_ret
    exact ⟨_, rfl, fun h => absurd h (by omega), Below.refl _ _⟩

theorem eq_node (n : Nd) (w : World) :
    Calls Tryz.prog 38 #[n.val, n.val] w fun e w' => e = .returned (.bool true) ∧ Below w.heap.size w w' := by
  unfold Nd.val
  go_enter Tryz.func38, Tryz.ntmps38
  go_wp2_with fail
  go_ret
  exact ⟨rfl, (alloc1 _ _).trans ((alloc1 _ _).mono (by simp))⟩

set_option maxHeartbeats 400000 in
theorem eq_nodes (ns : List Nd) (v u : Value) (w : World) (hv : SlAt w w.heap.size v ns) (hu : SlAt w w.heap.size u ns) :
    Calls Tryz.prog 12 #[v, u] w fun e w' => e = .returned (.bool true) ∧ Below w.heap.size w w' := by
  obtain ⟨ao, cap, rfl, hc, hm, hr⟩ := hv
  obtain ⟨ao', cap', rfl, hc', hm', hr'⟩ := hu
  have HR := hide hr
  have HR' := hide hr'
  clear hr hr'
  go_enter Tryz.func12, Tryz.ntmps12
  go_wp2_with fail
  go_loopw [5] (fun i wr => ∃ k : Nat, k ≤ ns.length ∧ i = .int .i64 k ∧ Below w.heap.size w wr) (fun i _ => ns.length - (intOf i).toNat)
  case atStart => exact ⟨0, Nat.zero_le _, rfl, Below.refl _ _⟩
  case round =>
    obtain ⟨k, hk, rfl, hbel⟩ := hrel
    have HBEL := hide hbel
    have hszr := hbel.size
    clear hbel
    by_cases hlt : k < ns.length
    · obtain ⟨b, o, rfl, hbB, hrow⟩ := HR.out (by intro h; simp [h] at hlt)
      obtain ⟨b', o', rfl, hbB', hrow'⟩ := HR'.out (by intro h; simp [h] at hlt)
      have hnode := (hrow.get k hlt).carry hbB HBEL.out
      have hnode' := (hrow'.get k hlt).carry hbB' HBEL.out
      obtain ⟨n1, hn1⟩ : ∃ n1, n1 = ns[k] := ⟨_, rfl⟩
      rw [← hn1] at hnode hnode'
      clear hn1 hrow hrow'
      obtain ⟨c0, c1, c2, c3, c4⟩ := hnode
      obtain ⟨d0, d1, d2, d3, d4⟩ := hnode'
      go_wp2_with fail
      go_region_with (go_at_call 38; refine (eq_node n1 _).mono ?_; rintro e w1 ⟨rfl, hb1⟩; have HB1 := hide hb1; clear hb1)
      go_wp2_with fail
      all_goals
        go_roundw
        case rel => exact ⟨k + 1, by omega, by go_num, by first | exact HBEL.out.trans (HB1.out.mono hszr) | exact HBEL.out.drew.trans (HB1.out.mono hszr) | exact HBEL.out.drew.drew.trans (HB1.out.mono hszr)⟩
        case measure => simp [intOf]; omega
    · go_wp2_with fail
      go_ret
      exact ⟨rfl, HBEL.out⟩
end Go.Proofs.YtaaeledleldllaaGreat
