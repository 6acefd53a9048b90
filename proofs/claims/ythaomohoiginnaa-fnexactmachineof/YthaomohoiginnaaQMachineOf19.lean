/- Marks on rows of Nodes; whether they are held. -/
import Derived.Test.YthaomohoiginnaaQMachineOf18
namespace Go.Proofs.Ythaomohoiginnaa
open Go.RowKit

def markNd (k : Nat) : Nd := ⟨k, markT (k + 1), markT (k + 2), ((k + 3 : Nat) : Int), ((k + 4 : Nat) : Int)⟩
def markNs (k n : Nat) : List Nd := (List.range n).map fun i => markNd (k + i * 5)
theorem markNs_len (k n : Nat) : (markNs k n).length = n := by simp [markNs]
theorem markNs_get (k n i : Nat) (h : i < (markNs k n).length) : (markNs k n)[i] = markNd (k + i * 5) := by simp [markNs]

set_option maxRecDepth 100000 in
set_option maxHeartbeats 1000000 in
theorem mark_nodes (k0 : Nat) (ns : List Nd) (v : Value) (w : World) (B : Nat) (h1 : 1 ≤ k0) (hk : k0 + ns.length * 5 ≤ 5900000) (hv : SlAt w w.heap.size v ns) (hown : OwnAt B w v) :
    Calls Try.prog 21 #[v, .int .i64 k0] w fun e w' => e = .returned (.int .i64 ((k0 + ns.length * 5 : Nat) : Int)) ∧ SlAt w' w'.heap.size v (markNs k0 ns.length) ∧ w.grownBy w' v.ownBlock := by
  obtain ⟨ao, cap, rfl, hc, hm, hr⟩ := hv
  have HR := hide hr
  have HO := hide hown
  obtain ⟨n, hn⟩ : ∃ n, ns.length = n := ⟨_, rfl⟩
  rw [hn] at hc hk ⊢
  have HN := hide hn
  clear hr hown hn
  by_cases hn0 : n = 0
  · subst hn0
    go_enter Try.func21, Try.ntmps21
    go_wp2_with fail
    go_loopw [1, 5] (fun kv i wr => i = .int .i64 0 ∧ kv = .int .i64 (k0 : Int) ∧ wr = w) (fun _ _ _ => 0)
    case atStart => exact ⟨rfl, rfl, rfl⟩
    case round =>
      obtain ⟨rfl, rfl, rfl⟩ := hrel
      go_wp2_with fail
      go_ret
      exact ⟨ret_int rfl, ⟨_, _, rfl, by simp [markNs], hm, fun h => absurd rfl h⟩, grown_refl _ _⟩
  · have hne : ns ≠ [] := fun h => hn0 (by rw [← HN.out, h]; rfl)
    obtain ⟨b, o, rfl, hlt, hrow⟩ := HR.out hne
    obtain ⟨hB, -, hfr⟩ := HO.out.free b rfl
    have HC0 : Hid (∀ i, i < n → ∃ nd, NodeAt w b (o + i * 5) nd) := hide (fun i hi => ⟨_, hrow.get i (by rw [HN.out]; exact hi)⟩)
    have HFR := hide hfr
    clear hrow hfr
    go_enter Try.func21, Try.ntmps21
    go_wp2_with fail
    go_loopw [1, 5] (fun kv i wr => ∃ k : Nat, k ≤ n ∧ i = .int .i64 k ∧ kv = .int .i64 ((k0 + k * 5 : Nat) : Int) ∧ (∀ j, j < k → NodeAt wr b (o + j * 5) (markNd (k0 + j * 5))) ∧ (∀ j, j < n → ∃ nd, NodeAt wr b (o + j * 5) nd) ∧ (∀ j, wr.frozen? ⟨b, j, none⟩ = false) ∧ w.grownBy wr (some b)) (fun _ i _ => n - (intOf i).toNat)
    case atStart => exact ⟨0, Nat.zero_le _, rfl, rfl, fun j h => absurd h (by omega), HC0.out, HFR.out, grown_refl _ _⟩
    case round =>
      obtain ⟨k, hk, rfl, rfl, hdone, hex, hfro, hgr⟩ := hrel
      have HD := hide hdone
      have HE := hide hex
      have HF := hide hfro
      have HG := hide hgr
      have hbw : b < wr.heap.size := Nat.lt_of_lt_of_le hlt hgr.size
      by_cases hkn : k < n
      · obtain ⟨nd, g0, g1, g2, g3, g4⟩ := hex k hkn
        have hf0 := hfro (o + k * 5)
        have hf1 := hfro (o + k * 5 + 1)
        have hf2 := hfro (o + k * 5 + 2)
        have hf3 := hfro (o + k * 5 + 3)
        have hf4 := hfro (o + k * 5 + 4)
        obtain ⟨kk, hkk⟩ : ∃ kk, k0 + k * 5 = kk := ⟨_, rfl⟩
        rw [hkk]
        have hkk2 : kk < 5900001 := by omega
        have hkk1 : 1 ≤ kk := by omega
        have HKK := hide hkk
        clear hdone hex hfro hgr hkk
        have ho1 : ∀ (W : World) (x : Value) (i j : Nat), i ≠ j → (W.setCell ⟨b, o + k * 5 + i, none⟩ x).cell? ⟨b, o + k * 5 + j, none⟩ = W.cell? ⟨b, o + k * 5 + j, none⟩ := fun W x i j hij =>
          World.cell?_setCell_other _ _ _ _ (fun h => hij (by injection h with h1 h2; omega))
        have HO1 := hide ho1
        have HG5 := hide (And.intro g0 (And.intro g1 (And.intro g2 (And.intro g3 g4))))
        have HF5 := hide hf0
        clear ho1 hf1 hf2 hf3 hf4 g1 g2 g3 g4
        go_wp2_with (first
          | (go_at_call 67; refine (mark_text_at (kk + 2) _ _ (by omega) (by omega) (by omega)).mono ?_; rintro e w2 ⟨rfl, hb2⟩; have hz2 : w1.heap.size ≤ w2.heap.size := (by have := hb2.size; simpa using this); have hk2 : ∀ j, w2.cell? ⟨b, j, none⟩ = (w1.setCell ⟨b, o + k * 5 + 1, none⟩ (.string (markT (kk + 1)))).cell? ⟨b, j, none⟩ := (fun j => hb2.cell (p := ⟨b, j, none⟩) (by simpa using hbw1)); have hf2 : ∀ j, w2.frozen? ⟨b, j, none⟩ = false := (fun j => (hb2.frozen (p := ⟨b, j, none⟩) (by simpa using hbw1)).trans ((World.frozen?_setCell _ _ _ _).trans (HFW1.out j))); have HFW2 := hide hf2; have HK2 := hide hk2; have e2 : w2.cell? ⟨b, o + k * 5 + 2, none⟩ = some (.string nd.peer) := ((hk2 _).trans (HO1.out _ _ 1 2 (by decide))).trans ((HK1.out _).trans ((HO1.out wr _ 0 2 (by decide)).trans HG5.out.2.2.1)); have e3 : w2.cell? ⟨b, o + k * 5 + 3, none⟩ = some (.int .i64 nd.many) := ((hk2 _).trans (HO1.out _ _ 1 3 (by decide))).trans ((HK1.out _).trans ((HO1.out wr _ 0 3 (by decide)).trans HG5.out.2.2.2.1)); have e4 : w2.cell? ⟨b, o + k * 5 + 4, none⟩ = some (.int .i64 nd.sort) := ((hk2 _).trans (HO1.out _ _ 1 4 (by decide))).trans ((HK1.out _).trans ((HO1.out wr _ 0 4 (by decide)).trans HG5.out.2.2.2.2)); have q2 := hf2 (o + k * 5 + 2); have q3 := hf2 (o + k * 5 + 3); have q4 := hf2 (o + k * 5 + 4); have HGR2 : Hid (w.grownBy w2 (some b)) := hide (grown_below (grown_set HGR1.out _ _) hb2); clear hb2 hf2 hk2)
          | (go_at_call 67; refine (mark_text_at (kk + 1) _ _ (by omega) (by omega) (by omega)).mono ?_; rintro e w1 ⟨rfl, hb1⟩; have hbw1 : b < w1.heap.size := (by have := hb1.size; simp at this; omega); have hk1 : ∀ j, w1.cell? ⟨b, j, none⟩ = (wr.setCell ⟨b, o + k * 5 + 0, none⟩ (.int .i64 (kk : Int))).cell? ⟨b, j, none⟩ := (fun j => hb1.cell (p := ⟨b, j, none⟩) (by simpa using hbw)); have hf1 : ∀ j, w1.frozen? ⟨b, j, none⟩ = false := (fun j => (hb1.frozen (p := ⟨b, j, none⟩) (by simpa using hbw)).trans ((World.frozen?_setCell _ _ _ _).trans (HF.out j))); have HFW1 := hide hf1; have HK1 := hide hk1; have e1 : w1.cell? ⟨b, o + k * 5 + 1, none⟩ = some (.string nd.name) := (hk1 _).trans ((HO1.out wr _ 0 1 (by decide)).trans HG5.out.2.1); have q1 := hf1 (o + k * 5 + 1); have HGR1 : Hid (w.grownBy w1 (some b)) := hide (grown_below (grown_set HG.out _ _) hb1); clear hb1 hf1 hk1))
        go_roundw
        case rel =>
          have hs : ∀ (W : World) (x : Value) (p q : Nat), p ≠ q → (W.setCell ⟨b, p, none⟩ x).cell? ⟨b, q, none⟩ = W.cell? ⟨b, q, none⟩ := fun W x p q hpq =>
            World.cell?_setCell_other _ _ _ _ (fun h => hpq (by injection h))
          have hfar : ∀ x, (x < o + k * 5 ∨ o + k * 5 + 5 ≤ x) → (((w2.setCell ⟨b, o + k * 5 + 2, none⟩ (.string (markT (kk + 2)))).setCell ⟨b, o + k * 5 + 3, none⟩ (.int .i64 ((kk : Int) + 1 + 1 + 1))).setCell ⟨b, o + k * 5 + 4, none⟩ (.int .i64 ((kk : Int) + 1 + 1 + 1 + 1))).cell? ⟨b, x, none⟩ = wr.cell? ⟨b, x, none⟩ := fun x hx => by
            rw [hs _ _ _ _ (by omega), hs _ _ _ _ (by omega), hs _ _ _ _ (by omega), HK2.out, hs _ _ _ _ (by omega), HK1.out, hs _ _ _ _ (by omega)]
          have hnew : NodeAt (((w2.setCell ⟨b, o + k * 5 + 2, none⟩ (.string (markT (kk + 2)))).setCell ⟨b, o + k * 5 + 3, none⟩ (.int .i64 ((kk : Int) + 1 + 1 + 1))).setCell ⟨b, o + k * 5 + 4, none⟩ (.int .i64 ((kk : Int) + 1 + 1 + 1 + 1))) b (o + k * 5) (markNd kk) := by
            refine ⟨?_, ?_, ?_, ?_, ?_⟩
            · rw [hs _ _ _ _ (by omega), hs _ _ _ _ (by omega), hs _ _ _ _ (by omega), HK2.out, hs _ _ _ _ (by omega), HK1.out]
              exact World.cell?_setCell_same _ _ _ g0
            · rw [hs _ _ _ _ (by omega), hs _ _ _ _ (by omega), hs _ _ _ _ (by omega), HK2.out]
              exact World.cell?_setCell_same _ _ _ e1
            · rw [hs _ _ _ _ (by omega), hs _ _ _ _ (by omega)]
              exact World.cell?_setCell_same _ _ _ e2
            · rw [hs _ _ _ _ (by omega)]
              refine (World.cell?_setCell_same _ _ _ (u := .int .i64 nd.many) ?_).trans (by simp [markNd]; omega)
              rw [hs _ _ _ _ (by omega)]; exact e3
            · refine (World.cell?_setCell_same _ _ _ (u := .int .i64 nd.sort) ?_).trans (by simp [markNd]; omega)
              rw [hs _ _ _ _ (by omega), hs _ _ _ _ (by omega)]; exact e4
          have hkeep : ∀ j x, j ≠ k → NodeAt wr b (o + j * 5) x → NodeAt (((w2.setCell ⟨b, o + k * 5 + 2, none⟩ (.string (markT (kk + 2)))).setCell ⟨b, o + k * 5 + 3, none⟩ (.int .i64 ((kk : Int) + 1 + 1 + 1))).setCell ⟨b, o + k * 5 + 4, none⟩ (.int .i64 ((kk : Int) + 1 + 1 + 1 + 1))) b (o + j * 5) x := fun j x hj hx => by
            obtain ⟨a0, a1, a2, a3, a4⟩ := hx
            exact ⟨(hfar _ (by omega)).trans a0, (hfar _ (by omega)).trans a1, (hfar _ (by omega)).trans a2, (hfar _ (by omega)).trans a3, (hfar _ (by omega)).trans a4⟩
          refine ⟨k + 1, by omega, by go_num, by have := HKK.out; congr 1; omega, fun j hj => ?_, fun j hj => ?_, fun j => ?_, grown_set (grown_set (grown_set HGR2.out _ _) _ _) _ _⟩
          · by_cases hjk : j = k
            · subst hjk; rw [HKK.out]; exact hnew
            · exact hkeep j _ hjk (HD.out j (by omega))
          · by_cases hjk : j = k
            · subst hjk; exact ⟨_, hnew⟩
            · obtain ⟨x, hx⟩ := HE.out j hj
              exact ⟨x, hkeep j x hjk hx⟩
          · rw [World.frozen?_setCell, World.frozen?_setCell, World.frozen?_setCell]
            exact HFW2.out j
        case measure => simp [intOf]; omega
      · clear hdone hex hfro hgr
        go_wp2_with fail
        go_ret
        refine ⟨ret_int (by omega), ⟨_, _, by rw [markNs_len], by rw [markNs_len]; exact hc, hm, fun _ => ⟨b, o, rfl, Nat.lt_of_lt_of_le hlt HG.out.size, row_of _ _ _ _ (fun j hj => ?_)⟩⟩, HG.out⟩
        rw [markNs_get]
        rw [markNs_len] at hj
        exact HD.out j (by omega)
end Go.Proofs.Ythaomohoiginnaa
/- A row of Nodes of the law's own. -/
namespace Go.Proofs.Ythaomohoiginnaa
open Go.RowKit

set_option maxHeartbeats 2000000 in
set_option maxRecDepth 100000 in
theorem to_nodes_own (ns : List Nd) (ao : Option Addr) (cap : Nat) (w : World) (hl : ns.length ≤ 1048576) (hr : ns ≠ [] → ∃ b o, ao = some ⟨b, o, none⟩ ∧ b < w.heap.size ∧ RowAt w b o ns) :
    Calls Try.prog 15 #[.slice ao ns.length cap] w fun e w' => ∃ v', e = .returned v' ∧ SlAt w' w'.heap.size v' ns ∧ OwnAt w.heap.size w' v' ∧ Below w.heap.size w w' := by
  have HR := hide hr
  obtain ⟨i0, hi, hz0, hz1, hz2⟩ := info_parts Try.infoN
  obtain ⟨M, hM⟩ : ∃ M, M = madeCells (Value.agg #[.int .i64 0, .string ByteArray.empty, .string ByteArray.empty, .int .i64 0, .int .i64 0]).cells (ns.length * 5) := ⟨_, rfl⟩
  have hMs : M.size = ns.length * 5 := by rw [hM, madeN]
  have hmk : ∀ W : World, (Instr.makeSlice 25 (.int .i64 (ns.length : Int)) (.int .i64 (ns.length : Int))).run Try.prog W = .ok (.slice (some ⟨W.heap.size, 0, none⟩) ns.length ns.length) (W.alloc (.cells M 79)) := fun W => by
    have h := run_make (P := Try.prog) W 25 79 i0 _ Try.underlying25 hi hz0 .i64 .i64 (ns.length : Int) (ns.length : Int) (by omega) (by omega) (by rw [hz2]; omega) (by omega)
    rw [hz1] at h
    simp only [Int.toNat_natCast] at h
    rw [← hM] at h
    exact h
  have HMS := hide hMs
  clear hr hM hMs hi hz0 hz1 hz2
  have HLL := hide hl
  go_enter Try.func15, Try.ntmps15
  go_wp2_with fail
  go_loopw [4] (fun i wr => ∃ k : Nat, k ≤ ns.length ∧ i = .int .i64 k ∧ (∀ j (h : j < ns.length), j < k → NodeAt wr w.heap.size (j * 5) ns[j]) ∧ (∀ j, j < ns.length * 5 → ∃ x, wr.cell? ⟨w.heap.size, j, none⟩ = some x) ∧ (∀ j, wr.frozen? ⟨w.heap.size, j, none⟩ = false) ∧ w.heap.size < wr.heap.size ∧ Below w.heap.size w wr)
    (fun i _ => ns.length - (intOf i).toNat)
  case atStart =>
    refine ⟨0, Nat.zero_le _, rfl, fun j _ h => absurd h (by omega), fun j hj => ?_, fun j => ?_, by simp, alloc1 _ _⟩
    · rw [← HMS.out] at hj
      exact ⟨M[j], by simp [hj]⟩
    · simp
  case round =>
    obtain ⟨k, hk, rfl, hall, hcells, hfro, hsz, hbel⟩ := hrel
    have HA := hide hall
    have HC := hide hcells
    have HFR := hide hfro
    have HBEL := hide hbel
    clear hall hbel
    by_cases hlt : k < ns.length
    · obtain ⟨b, o, rfl, hbB, hrow⟩ := HR.out (by intro h; simp [h] at hlt)
      have hnode := (hrow.get k hlt).carry hbB HBEL.out
      obtain ⟨n1, hn1⟩ : ∃ n1, n1 = ns[k] := ⟨_, rfl⟩
      rw [← hn1] at hnode
      have HN := hide hn1
      clear hn1 hrow
      have hbw : b < wr.heap.size := hnode.lt
      obtain ⟨c0, c1, c2, c3, c4⟩ := hnode
      obtain ⟨y0, g0⟩ := hcells (k * 5) (by omega)
      obtain ⟨y1, g1⟩ := hcells (k * 5 + 1) (by omega)
      obtain ⟨y2, g2⟩ := hcells (k * 5 + 2) (by omega)
      obtain ⟨y3, g3⟩ := hcells (k * 5 + 3) (by omega)
      obtain ⟨y4, g4⟩ := hcells (k * 5 + 4) (by omega)
      have HG := hide (And.intro g0 (And.intro g1 (And.intro g2 (And.intro g3 g4))))
      clear hcells hfro g0 g1 g2 g3 g4
      go_wp2_with (go_at_call 55; refine (to_node n1 _).mono ?_; rintro e w1 ⟨rfl, hb1⟩; unfold Nd.val; have hs1 := hb1.size; have HF1 : Hid (∀ j, w1.frozen? ⟨w.heap.size, j, none⟩ = false) := hide (fun j => (hb1.frozen (p := ⟨w.heap.size, j, none⟩) hsz).trans (HFR.out j)); have HC1 : Hid (∀ j, w1.cell? ⟨w.heap.size, j, none⟩ = wr.cell? ⟨w.heap.size, j, none⟩) := hide (fun j => hb1.cell (p := ⟨w.heap.size, j, none⟩) hsz); have g0 := (HC1.out (k * 5)).trans HG.out.1; have g1 := (HC1.out (k * 5 + 1)).trans HG.out.2.1; have g2 := (HC1.out (k * 5 + 2)).trans HG.out.2.2.1; have g3 := (HC1.out (k * 5 + 3)).trans HG.out.2.2.2.1; have g4 := (HC1.out (k * 5 + 4)).trans HG.out.2.2.2.2; have f0 := HF1.out (k * 5); have f1 := HF1.out (k * 5 + 1); have f2 := HF1.out (k * 5 + 2); have f3 := HF1.out (k * 5 + 3); have f4 := HF1.out (k * 5 + 4); have HB1 := hide hb1; clear hb1)
      go_roundw
      case rel =>
        have e := hide (show ((((w1.setCell ⟨w.heap.size, k * 5, none⟩ (.int .i64 n1.op)).setCell ⟨w.heap.size, k * 5 + 1, none⟩ (.string n1.name)).setCell ⟨w.heap.size, k * 5 + 2, none⟩ (.string n1.peer)).setCell ⟨w.heap.size, k * 5 + 3, none⟩ (.int .i64 n1.many)).setCell ⟨w.heap.size, k * 5 + 4, none⟩ (.int .i64 n1.sort) = putNode w1 w.heap.size (k * 5) n1 from rfl)
        rw [e.out]
        have hex : ∀ i, i < 5 → ∃ x, w1.cell? ⟨w.heap.size, k * 5 + i, none⟩ = some x := fun i hi => by rw [HC1.out]; exact HC.out _ (by omega)
        have hnew := put_node w1 w.heap.size (k * 5) n1 hex
        have hoth : ∀ j, (j < k * 5 ∨ k * 5 + 5 ≤ j) → (putNode w1 w.heap.size (k * 5) n1).cell? ⟨w.heap.size, j, none⟩ = wr.cell? ⟨w.heap.size, j, none⟩ := fun j hj => by
          rw [put_other _ _ _ _ _ (fun i hi h => by injection h with h1 h2; omega), HC1.out]
        refine ⟨k + 1, by omega, by go_num, fun j hj hjk => ?_, fun j hj => ?_, fun j => by rw [put_frozen]; exact HF1.out j, by rw [put_size]; omega, put_below (HBEL.out.trans (HB1.out.mono HBEL.out.size)) (Nat.le_refl _) _ _⟩
        · by_cases hjk' : j = k
          · subst hjk'; rw [← HN.out]; exact hnew
          · obtain ⟨a0, a1, a2, a3, a4⟩ := HA.out j hj (by omega)
            exact ⟨(hoth _ (by omega)).trans a0, (hoth _ (by omega)).trans a1, (hoth _ (by omega)).trans a2, (hoth _ (by omega)).trans a3, (hoth _ (by omega)).trans a4⟩
        · by_cases hin : j < k * 5 ∨ k * 5 + 5 ≤ j
          · rw [hoth j hin]; exact HC.out j hj
          · obtain ⟨a0, a1, a2, a3, a4⟩ := hnew
            rcases (show j = k * 5 ∨ j = k * 5 + 1 ∨ j = k * 5 + 2 ∨ j = k * 5 + 3 ∨ j = k * 5 + 4 by omega) with h | h | h | h | h
            · subst h; exact ⟨_, a0⟩
            · subst h; exact ⟨_, a1⟩
            · subst h; exact ⟨_, a2⟩
            · subst h; exact ⟨_, a3⟩
            · subst h; exact ⟨_, a4⟩
      case measure => simp [intOf]; omega
    · go_wp2_with fail
      go_ret
      refine ⟨_, rfl, ⟨_, _, rfl, Nat.le_refl _, by omega, fun hne => ⟨w.heap.size, 0, rfl, hsz, ?_⟩⟩, ⟨fun b hb => by simp [Value.ownBlock] at hb; subst hb; exact ⟨Nat.le_refl _, hsz, HFR.out⟩⟩, HBEL.out⟩
      exact row_of _ _ ns 0 (fun j hj => by rw [Nat.zero_add]; exact HA.out j hj (by omega))

end Go.Proofs.Ythaomohoiginnaa
