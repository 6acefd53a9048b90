import Derived.Test.YtaaeledleldllaaGreatQB40
import Derived.Test.YtaaeledleldllaaGreatQB08
import Derived.Deep.DrawnRows
import Derived.Test.YtaaeledleldllaaGreatQB20
import Derived.Test.YtaaeledleldllaaGreatQB04
import Derived.Test.YtaaeledleldllaaGreatQB22
namespace Go.Proofs.YtaaeledleldllaaGreat
open Go.RowKit
attribute [local go_sem ↓] Go.wp_at_zero Go.wp_at_succ

def markI (k n : Nat) : List Int := (List.range n).map fun i => ((k + i : Nat) : Int)
theorem markI_len (k n : Nat) : (markI k n).length = n := by simp [markI]
theorem markI_get (k n i : Nat) (h : i < (markI k n).length) : (markI k n)[i] = ((k + i : Nat) : Int) := by simp [markI]
set_option maxRecDepth 100000 in
set_option maxHeartbeats 2000000 in
theorem mark_nums (k0 : Nat) (l : List Int) (v : Value) (w : World) (B : Nat) (hk : k0 + l.length ≤ 5900000) (hv : NumSl w w.heap.size v l) (hown : MOwn B w v) :
    Calls Tryz.prog 94 #[v, .int .i64 k0] w fun e w' => e = .returned (.int .i64 ((k0 + l.length : Nat) : Int)) ∧ NumSl w' w'.heap.size v (markI k0 l.length) ∧ Apart w w' (vblocks v) := by
  obtain ⟨ao, cap, rfl, hc, hm, hr⟩ := hv
  have HR := hide hr
  have HO := hide hown
  obtain ⟨n, hn⟩ : ∃ n, l.length = n := ⟨_, rfl⟩
  rw [hn] at hc hk hm ⊢
  have HN := hide hn
  clear hr hown hn
  by_cases hn0 : n = 0
  · subst hn0
    go_enter Tryz.func94, Tryz.ntmps94
    go_wp2_with fail
    go_loopw [1, 5] (fun kv i wr => i = .int .i64 0 ∧ kv = .int .i64 (k0 : Int) ∧ wr = w) (fun _ _ _ => 0)
    case atStart => exact ⟨rfl, rfl, rfl⟩
    case round =>
      obtain ⟨rfl, rfl, rfl⟩ := hrel
      go_wp2_with fail
      go_ret
      exact ⟨ret_int rfl, ⟨_, _, rfl, Nat.zero_le _, Nat.zero_le _, fun h => absurd rfl h⟩, (Apart.refl _).sub (by simp)⟩
  · have hne : l ≠ [] := fun h => hn0 (by rw [← HN.out, h]; rfl)
    obtain ⟨b, o, rfl, hlt, hrow⟩ := HR.out hne
    obtain ⟨hB, -, hfr⟩ := HO.out.free b rfl
    have HC0 : Hid (∀ i, i < n → ∃ y, w.cell? ⟨b, o + i, none⟩ = some y) := hide (fun i hi => ⟨_, hrow i (by rw [HN.out]; exact hi)⟩)
    have HFR := hide hfr
    clear hrow hfr
    go_enter Tryz.func94, Tryz.ntmps94
    go_wp2_with fail
    go_loopw [1, 5] (fun kv i wr => ∃ k : Nat, k ≤ n ∧ i = .int .i64 k ∧ kv = .int .i64 ((k0 + k : Nat) : Int) ∧ (∀ j, j < k → wr.cell? ⟨b, o + j, none⟩ = some (.int .i64 ((k0 + j : Nat) : Int))) ∧ (∀ j, j < n → ∃ y, wr.cell? ⟨b, o + j, none⟩ = some y) ∧ (∀ j, wr.frozen? ⟨b, j, none⟩ = false) ∧ Apart w wr [b]) (fun _ i _ => n - (intOf i).toNat)
    case atStart => exact ⟨0, Nat.zero_le _, rfl, rfl, fun j h => absurd h (by omega), HC0.out, HFR.out, (Apart.refl _).sub (by simp)⟩
    case round =>
      obtain ⟨k, hkn, rfl, rfl, hdone, hex, hfro, hap⟩ := hrel
      have HD := hide hdone
      have HE := hide hex
      have HF := hide hfro
      have HA := hide hap
      by_cases hlt2 : k < n
      · obtain ⟨y, hy⟩ := hex k hlt2
        have hf0 := hfro (o + k)
        obtain ⟨kk, hkk⟩ : ∃ kk, k0 + k = kk := ⟨_, rfl⟩
        rw [hkk]
        have hk9 : kk < 5900001 := by omega
        have HKK := hide hkk
        clear hdone hex hfro hap hkk
        go_wp2_with fail
        go_roundw
        case rel =>
          refine ⟨k + 1, hlt2, by go_num, by have := HKK.out; congr 1; omega, fun j hj => ?_, fun j hj => ?_, fun j => ?_, ?_⟩
          · by_cases e : j = k
            · subst e; rw [HKK.out]; exact World.cell?_setCell_same _ _ _ hy
            · rw [World.cell?_setCell_other _ _ _ _ (by intro e; injection e with _ e2; omega)]
              exact HD.out j (by omega)
          · by_cases e : j = k
            · subst e; exact ⟨_, World.cell?_setCell_same _ _ _ hy⟩
            · obtain ⟨z, hz⟩ := HE.out j hj
              exact ⟨z, by rw [World.cell?_setCell_other _ _ _ _ (by intro e; injection e with _ e2; omega)]; exact hz⟩
          · rw [World.frozen?_setCell]; exact HF.out j
          · exact (HA.out.trans (setCell_apart wr b (o + k) _)).sub (by simp)
        case measure => simp [intOf]; omega
      · obtain rfl : k = n := by omega
        clear hdone hex hfro hap
        go_wp2_with fail
        go_ret
        refine ⟨ret_int rfl, ⟨_, _, by rw [markI_len], by rw [markI_len]; exact hc, by rw [markI_len]; exact hm, fun _ => ⟨b, o, rfl, Nat.lt_of_lt_of_le hlt HA.out.size, fun j hj => ?_⟩⟩, HA.out.sub (by simp [vblocks, cellBlocks])⟩
        rw [markI_get]
        rw [markI_len] at hj
        exact HD.out j hj
set_option maxRecDepth 100000 in
set_option maxHeartbeats 2000000 in
theorem held_nums (k0 n : Nat) (v : Value) (w : World) (hk : k0 + n ≤ 5900000) (hv : NumSl w w.heap.size v (markI k0 n)) :
    Calls Tryz.prog 97 #[v, .int .i64 k0] w fun e w' => e = .returned (.int .i64 ((k0 + n : Nat) : Int)) ∧ Below w.heap.size w w' := by
  obtain ⟨ao, cap, rfl, hc, hm, hr⟩ := hv
  rw [markI_len] at hc hm ⊢
  have HR := hide hr
  clear hr
  go_enter Tryz.func97, Tryz.ntmps97
  go_wp2_with fail
  go_loopw [1, 5] (fun kv i wr => ∃ k : Nat, k ≤ n ∧ i = .int .i64 k ∧ kv = .int .i64 ((k0 + k : Nat) : Int) ∧ Below w.heap.size w wr) (fun _ i _ => n - (intOf i).toNat)
  case atStart => exact ⟨0, Nat.zero_le _, rfl, rfl, Below.refl _ _⟩
  case round =>
    obtain ⟨k, hkn, rfl, rfl, hbel⟩ := hrel
    have HBEL := hide hbel
    clear hbel
    by_cases hlt : k < n
    · have hlt' : k < (markI k0 n).length := by rw [markI_len]; exact hlt
      obtain ⟨b, o, rfl, hbB, hrow⟩ := HR.out (by intro h; rw [h] at hlt'; simp at hlt')
      have c0 := (hrow.carry hbB HBEL.out) k hlt'
      rw [markI_get] at c0
      obtain ⟨kk, hkk⟩ : ∃ kk, k0 + k = kk := ⟨_, rfl⟩
      rw [hkk] at c0 ⊢
      have hk9 : kk < 5900001 := by omega
      have HKK := hide hkk
      clear hkk hrow
      go_wp2_with fail
      go_roundw
      case rel => exact ⟨k + 1, hlt, by go_num, by have := HKK.out; congr 1; omega, HBEL.out⟩
      case measure => simp [intOf]; omega
    · obtain rfl : k = n := by omega
      go_wp2_with fail
      go_ret
      exact ⟨ret_int rfl, HBEL.out⟩
end Go.Proofs.YtaaeledleldllaaGreat

namespace Go.Proofs.YtaaeledleldllaaGreat
open Go.RowKit

def markNd (k : Nat) : Nd := ⟨k, markT (k + 1), markT (k + 2), ((k + 3 : Nat) : Int), ((k + 4 : Nat) : Int)⟩
def markNs (k n : Nat) : List Nd := (List.range n).map fun i => markNd (k + i * 5)
theorem markNs_len (k n : Nat) : (markNs k n).length = n := by simp [markNs]
theorem markNs_get (k n i : Nat) (h : i < (markNs k n).length) : (markNs k n)[i] = markNd (k + i * 5) := by simp [markNs]

set_option maxRecDepth 100000 in
set_option maxHeartbeats 1000000 in
theorem mark_nodes (k0 : Nat) (ns : List Nd) (v : Value) (w : World) (B : Nat) (h1 : 1 ≤ k0) (hk : k0 + ns.length * 5 ≤ 5900000) (hv : SlAt w w.heap.size v ns) (hown : OwnAt B w v) :
    Calls Tryz.prog 21 #[v, .int .i64 k0] w fun e w' => e = .returned (.int .i64 ((k0 + ns.length * 5 : Nat) : Int)) ∧ SlAt w' w'.heap.size v (markNs k0 ns.length) ∧ w.grownBy w' v.ownBlock := by
  obtain ⟨ao, cap, rfl, hc, hm, hr⟩ := hv
  have HR := hide hr
  have HO := hide hown
  obtain ⟨n, hn⟩ : ∃ n, ns.length = n := ⟨_, rfl⟩
  rw [hn] at hc hk ⊢
  have HN := hide hn
  clear hr hown hn
  by_cases hn0 : n = 0
  · subst hn0
    go_enter Tryz.func21, Tryz.ntmps21
    go_wp2_with fail
    go_loopw [1, 5] (fun kv i wr => i = .int .i64 0 ∧ kv = .int .i64 (k0 : Int) ∧ wr = w) (fun _ _ _ => 0)
    case atStart => exact ⟨rfl, rfl, rfl⟩
    case round =>
      obtain ⟨rfl, rfl, rfl⟩ := hrel
      go_wp2_with fail
      go_ret
      exact ⟨ret_int rfl, ⟨_, _, rfl, by simp [markNs], ⟨hm.1, by simp [markNs]⟩, fun h => absurd rfl h⟩, grown_refl _ _⟩
  · have hne : ns ≠ [] := fun h => hn0 (by rw [← HN.out, h]; rfl)
    obtain ⟨b, o, rfl, hlt, hrow⟩ := HR.out hne
    obtain ⟨hB, -, hfr⟩ := HO.out.free b rfl
    have HC0 : Hid (∀ i, i < n → ∃ nd, NodeAt w b (o + i * 5) nd) := hide (fun i hi => ⟨_, hrow.get i (by rw [HN.out]; exact hi)⟩)
    have HFR := hide hfr
    clear hrow hfr
    go_enter Tryz.func21, Tryz.ntmps21
    go_wp2_with fail
    go_loopw [1, 5] (fun kv i wr => ∃ k : Nat, k ≤ n ∧ i = .int .i64 k ∧ kv = .int .i64 ((k0 + k * 5 : Nat) : Int) ∧ (∀ j, j < k → NodeAt wr b (o + j * 5) (markNd (k0 + j * 5))) ∧ (∀ j, j < n → ∃ nd, NodeAt wr b (o + j * 5) nd) ∧ (∀ j, wr.frozen? ⟨b, j, none⟩ = false) ∧ w.grownBy wr (some b)) (fun _ i _ => n - (intOf i).toNat)
    case atStart => exact ⟨0, Nat.zero_le _, rfl, rfl, fun j h => absurd h (by omega), HC0.out, HFR.out, grown_refl _ _⟩
    case round =>
      obtain ⟨k, hk, rfl, rfl, hdone, hex, hfro, hgr⟩ := hrel
      have HD := hide hdone
      have HE := hide hex
      have HF := hide hfro
      have HG := hide hgr
      have hbw : b < wr.heap.size := Nat.lt_of_lt_of_le hlt hgr.size
      by_cases hkn : k < n
      · obtain ⟨nd, g0, g1, g2, g3, g4⟩ := hex k hkn
        have hf0 := hfro (o + k * 5)
        have hf1 := hfro (o + k * 5 + 1)
        have hf2 := hfro (o + k * 5 + 2)
        have hf3 := hfro (o + k * 5 + 3)
        have hf4 := hfro (o + k * 5 + 4)
        obtain ⟨kk, hkk⟩ : ∃ kk, k0 + k * 5 = kk := ⟨_, rfl⟩
        rw [hkk]
        have hkk2 : kk < 5900001 := by omega
        have hkk1 : 1 ≤ kk := by omega
        have HKK := hide hkk
        clear hdone hex hfro hgr hkk
        have ho1 : ∀ (W : World) (x : Value) (i j : Nat), i ≠ j → (W.setCell ⟨b, o + k * 5 + i, none⟩ x).cell? ⟨b, o + k * 5 + j, none⟩ = W.cell? ⟨b, o + k * 5 + j, none⟩ := fun W x i j hij =>
          World.cell?_setCell_other _ _ _ _ (fun h => hij (by injection h with h1 h2; omega))
        have HO1 := hide ho1
        have HG5 := hide (And.intro g0 (And.intro g1 (And.intro g2 (And.intro g3 g4))))
        have HF5 := hide hf0
        clear ho1 hf1 hf2 hf3 hf4 g1 g2 g3 g4
        go_wp2_with (first
          | (go_at_call 55; refine (mark_text_at (kk + 2) _ _ (by omega) (by omega) (by omega)).mono ?_; rintro e w2 ⟨rfl, hb2⟩; have hz2 : w1.heap.size ≤ w2.heap.size := (by have := hb2.size; simpa using this); have hk2 : ∀ j, w2.cell? ⟨b, j, none⟩ = (w1.setCell ⟨b, o + k * 5 + 1, none⟩ (.string (markT (kk + 1)))).cell? ⟨b, j, none⟩ := (fun j => hb2.cell (p := ⟨b, j, none⟩) (by simpa using hbw1)); have hf2 : ∀ j, w2.frozen? ⟨b, j, none⟩ = false := (fun j => (hb2.frozen (p := ⟨b, j, none⟩) (by simpa using hbw1)).trans ((World.frozen?_setCell _ _ _ _).trans (HFW1.out j))); have HFW2 := hide hf2; have HK2 := hide hk2; have e2 : w2.cell? ⟨b, o + k * 5 + 2, none⟩ = some (.string nd.peer) := ((hk2 _).trans (HO1.out _ _ 1 2 (by decide))).trans ((HK1.out _).trans ((HO1.out wr _ 0 2 (by decide)).trans HG5.out.2.2.1)); have e3 : w2.cell? ⟨b, o + k * 5 + 3, none⟩ = some (.int .i64 nd.many) := ((hk2 _).trans (HO1.out _ _ 1 3 (by decide))).trans ((HK1.out _).trans ((HO1.out wr _ 0 3 (by decide)).trans HG5.out.2.2.2.1)); have e4 : w2.cell? ⟨b, o + k * 5 + 4, none⟩ = some (.int .i64 nd.sort) := ((hk2 _).trans (HO1.out _ _ 1 4 (by decide))).trans ((HK1.out _).trans ((HO1.out wr _ 0 4 (by decide)).trans HG5.out.2.2.2.2)); have q2 := hf2 (o + k * 5 + 2); have q3 := hf2 (o + k * 5 + 3); have q4 := hf2 (o + k * 5 + 4); have HGR2 : Hid (w.grownBy w2 (some b)) := hide (grown_below (grown_set HGR1.out _ _) hb2); clear hb2 hf2 hk2)
          | (go_at_call 55; refine (mark_text_at (kk + 1) _ _ (by omega) (by omega) (by omega)).mono ?_; rintro e w1 ⟨rfl, hb1⟩; have hbw1 : b < w1.heap.size := (by have := hb1.size; simp at this; omega); have hk1 : ∀ j, w1.cell? ⟨b, j, none⟩ = (wr.setCell ⟨b, o + k * 5 + 0, none⟩ (.int .i64 (kk : Int))).cell? ⟨b, j, none⟩ := (fun j => hb1.cell (p := ⟨b, j, none⟩) (by simpa using hbw)); have hf1 : ∀ j, w1.frozen? ⟨b, j, none⟩ = false := (fun j => (hb1.frozen (p := ⟨b, j, none⟩) (by simpa using hbw)).trans ((World.frozen?_setCell _ _ _ _).trans (HF.out j))); have HFW1 := hide hf1; have HK1 := hide hk1; have e1 : w1.cell? ⟨b, o + k * 5 + 1, none⟩ = some (.string nd.name) := (hk1 _).trans ((HO1.out wr _ 0 1 (by decide)).trans HG5.out.2.1); have q1 := hf1 (o + k * 5 + 1); have HGR1 : Hid (w.grownBy w1 (some b)) := hide (grown_below (grown_set HG.out _ _) hb1); clear hb1 hf1 hk1))
        go_roundw
        case rel =>
          have hs : ∀ (W : World) (x : Value) (p q : Nat), p ≠ q → (W.setCell ⟨b, p, none⟩ x).cell? ⟨b, q, none⟩ = W.cell? ⟨b, q, none⟩ := fun W x p q hpq =>
            World.cell?_setCell_other _ _ _ _ (fun h => hpq (by injection h))
          have hfar : ∀ x, (x < o + k * 5 ∨ o + k * 5 + 5 ≤ x) → (((w2.setCell ⟨b, o + k * 5 + 2, none⟩ (.string (markT (kk + 2)))).setCell ⟨b, o + k * 5 + 3, none⟩ (.int .i64 ((kk : Int) + 1 + 1 + 1))).setCell ⟨b, o + k * 5 + 4, none⟩ (.int .i64 ((kk : Int) + 1 + 1 + 1 + 1))).cell? ⟨b, x, none⟩ = wr.cell? ⟨b, x, none⟩ := fun x hx => by
            rw [hs _ _ _ _ (by omega), hs _ _ _ _ (by omega), hs _ _ _ _ (by omega), HK2.out, hs _ _ _ _ (by omega), HK1.out, hs _ _ _ _ (by omega)]
          have hnew : NodeAt (((w2.setCell ⟨b, o + k * 5 + 2, none⟩ (.string (markT (kk + 2)))).setCell ⟨b, o + k * 5 + 3, none⟩ (.int .i64 ((kk : Int) + 1 + 1 + 1))).setCell ⟨b, o + k * 5 + 4, none⟩ (.int .i64 ((kk : Int) + 1 + 1 + 1 + 1))) b (o + k * 5) (markNd kk) := by
            refine ⟨?_, ?_, ?_, ?_, ?_⟩
            · rw [hs _ _ _ _ (by omega), hs _ _ _ _ (by omega), hs _ _ _ _ (by omega), HK2.out, hs _ _ _ _ (by omega), HK1.out]
              exact World.cell?_setCell_same _ _ _ g0
            · rw [hs _ _ _ _ (by omega), hs _ _ _ _ (by omega), hs _ _ _ _ (by omega), HK2.out]
              exact World.cell?_setCell_same _ _ _ e1
            · rw [hs _ _ _ _ (by omega), hs _ _ _ _ (by omega)]
              exact World.cell?_setCell_same _ _ _ e2
            · rw [hs _ _ _ _ (by omega)]
              refine (World.cell?_setCell_same _ _ _ (u := .int .i64 nd.many) ?_).trans (by simp [markNd]; omega)
              rw [hs _ _ _ _ (by omega)]; exact e3
            · refine (World.cell?_setCell_same _ _ _ (u := .int .i64 nd.sort) ?_).trans (by simp [markNd]; omega)
              rw [hs _ _ _ _ (by omega), hs _ _ _ _ (by omega)]; exact e4
          have hkeep : ∀ j x, j ≠ k → NodeAt wr b (o + j * 5) x → NodeAt (((w2.setCell ⟨b, o + k * 5 + 2, none⟩ (.string (markT (kk + 2)))).setCell ⟨b, o + k * 5 + 3, none⟩ (.int .i64 ((kk : Int) + 1 + 1 + 1))).setCell ⟨b, o + k * 5 + 4, none⟩ (.int .i64 ((kk : Int) + 1 + 1 + 1 + 1))) b (o + j * 5) x := fun j x hj hx => by
            obtain ⟨a0, a1, a2, a3, a4⟩ := hx
            exact ⟨(hfar _ (by omega)).trans a0, (hfar _ (by omega)).trans a1, (hfar _ (by omega)).trans a2, (hfar _ (by omega)).trans a3, (hfar _ (by omega)).trans a4⟩
          refine ⟨k + 1, by omega, by go_num, by have := HKK.out; congr 1; omega, fun j hj => ?_, fun j hj => ?_, fun j => ?_, grown_set (grown_set (grown_set HGR2.out _ _) _ _) _ _⟩
          · by_cases hjk : j = k
            · subst hjk; rw [HKK.out]; exact hnew
            · exact hkeep j _ hjk (HD.out j (by omega))
          · by_cases hjk : j = k
            · subst hjk; exact ⟨_, hnew⟩
            · obtain ⟨x, hx⟩ := HE.out j hj
              exact ⟨x, hkeep j x hjk hx⟩
          · rw [World.frozen?_setCell, World.frozen?_setCell, World.frozen?_setCell]
            exact HFW2.out j
        case measure => simp [intOf]; omega
      · clear hdone hex hfro hgr
        go_wp2_with fail
        go_ret
        refine ⟨ret_int (by omega), ⟨_, _, by rw [markNs_len], by rw [markNs_len]; exact hc, ⟨hm.1, by rw [markNs_len, ← HN.out]; exact hm.2⟩, fun _ => ⟨b, o, rfl, Nat.lt_of_lt_of_le hlt HG.out.size, rowsOf _ _ _ _ (fun j hj => ?_)⟩⟩, HG.out⟩
        rw [markNs_get]
        rw [markNs_len] at hj
        exact HD.out j (by omega)
end Go.Proofs.YtaaeledleldllaaGreat
namespace Go.Proofs.YtaaeledleldllaaGreat
open Go.RowKit

set_option maxRecDepth 100000 in
set_option maxHeartbeats 1000000 in
theorem held_nodes (k0 n : Nat) (v : Value) (w : World) (h1 : 1 ≤ k0) (hk : k0 + n * 5 ≤ 5900000) (hv : SlAt w w.heap.size v (markNs k0 n)) :
    Calls Tryz.prog 96 #[v, .int .i64 k0] w fun e w' => e = .returned (.int .i64 ((k0 + n * 5 : Nat) : Int)) ∧ Below w.heap.size w w' := by
  obtain ⟨ao, cap, rfl, hc, hm, hr⟩ := hv
  rw [markNs_len] at hc ⊢
  have HR := hide hr
  clear hr
  go_enter Tryz.func96, Tryz.ntmps96
  go_wp2_with fail
  go_loopw [1, 5] (fun kv i wr => ∃ k : Nat, k ≤ n ∧ i = .int .i64 k ∧ kv = .int .i64 ((k0 + k * 5 : Nat) : Int) ∧ Below w.heap.size w wr) (fun _ i _ => n - (intOf i).toNat)
  case atStart => exact ⟨0, Nat.zero_le _, rfl, rfl, Below.refl _ _⟩
  case round =>
    obtain ⟨k, hkn, rfl, rfl, hbel⟩ := hrel
    have HBEL := hide hbel
    have hszr := hbel.size
    by_cases hlt : k < n
    · have hlt' : k < (markNs k0 n).length := by rw [markNs_len]; exact hlt
      obtain ⟨b, o, rfl, hbB, hrow⟩ := HR.out (by intro h; rw [h] at hlt'; simp at hlt')
      have hnode := (hrow.get k hlt').carry hbB hbel
      rw [markNs_get] at hnode
      obtain ⟨kk, hkk⟩ : ∃ kk, k0 + k * 5 = kk := ⟨_, rfl⟩
      rw [hkk] at hnode ⊢
      have hkk2 : kk < 5900001 := by omega
      have hkk1 : 1 ≤ kk := by omega
      have HKK := hide hkk
      have hbw : b < wr.heap.size := hnode.lt
      have HND := hide hnode
      obtain ⟨c0, c1, c2, c3, c4⟩ := hnode
      simp only [markNd] at c0 c1 c2 c3 c4
      obtain ⟨m1, hm1⟩ : ∃ m1, m1 = markT (kk + 1) := ⟨_, rfl⟩
      obtain ⟨m2, hm2⟩ : ∃ m2, m2 = markT (kk + 2) := ⟨_, rfl⟩
      rw [← hm1] at c1
      rw [← hm2] at c2
      have HM1 := hide hm1
      have HM2 := hide hm2
      clear hbel hrow hkk hm1 hm2
      go_wp2_with fail
      go_region_with (go_at_call 55; refine (mark_text_at (kk + 1) _ _ (by omega) (by omega) (by omega)).mono ?_; rintro e w1 ⟨rfl, hb1⟩; rw [← HM1.out]; have c1' := (hb1.cell (p := ⟨b, _, none⟩) hbw).trans c1; have hbw1 : b < w1.heap.size := Nat.lt_of_lt_of_le hbw hb1.size; have c2' := (hb1.cell (p := ⟨b, _, none⟩) hbw).trans c2; have c3' := (hb1.cell (p := ⟨b, _, none⟩) hbw).trans c3; have c4' := (hb1.cell (p := ⟨b, _, none⟩) hbw).trans c4; have HB1 : Hid (Below w.heap.size w w1) := hide (HBEL.out.drew.trans (hb1.mono hszr)); have hz1 := HB1.out.size; clear hb1)
      all_goals
        go_wp2_with fail
        go_region_with (go_at_call 55; refine (mark_text_at (kk + 2) _ _ (by omega) (by omega) (by omega)).mono ?_; rintro e w2 ⟨rfl, hb2⟩; rw [← HM2.out]; have c2'' := (hb2.cell (p := ⟨b, _, none⟩) hbw1).trans c2'; have c3'' := (hb2.cell (p := ⟨b, _, none⟩) hbw1).trans c3'; have c4'' := (hb2.cell (p := ⟨b, _, none⟩) hbw1).trans c4'; have HB2 : Hid (Below w.heap.size w w2) := hide (HB1.out.drew.trans (hb2.mono hz1)); clear hb2)
        all_goals
          go_wp2_with fail
          all_goals
            go_roundw
            case rel => exact ⟨k + 1, by omega, by go_num, by have := HKK.out; congr 1; omega, HB2.out⟩
            case measure => simp [intOf]; omega
    · clear hbel
      go_wp2_with fail
      go_ret
      exact ⟨ret_int (by omega), HBEL.out⟩
end Go.Proofs.YtaaeledleldllaaGreat
