/- Marks: see MarkT. -/
import Derived.Test.YtolbcoginmaboaaDoorQB30
import Derived.Test.YtolbcoginmaboaaDoorQB04
/- Rows of one's own: what may be written; what a store leaves as it was. -/
namespace Go.Proofs.YtolbcoginmaboaaDoor
open Go.RowKit

/-- what a slice lies in is new, and may be written to -/
structure OwnAt (B : Nat) (w : World) (v : Value) : Prop where
  free : ∀ b, v.ownBlock = some b → B ≤ b ∧ b < w.heap.size ∧ ∀ j, w.frozen? ⟨b, j, none⟩ = false
theorem OwnAt.carry {B : Nat} {w w' : World} {v : Value} (h : OwnAt B w v) (hb : Below w.heap.size w w') : OwnAt B w' v :=
  ⟨fun b e => ⟨(h.free b e).1, Nat.lt_of_lt_of_le (h.free b e).2.1 hb.size, fun j => (hb.frozen (p := ⟨b, j, none⟩) (h.free b e).2.1).trans ((h.free b e).2.2 j)⟩⟩
theorem own_at {B e size : Nat} {w : World} {v : Value} {n : Nat} {xs : List Value} (h : w.ownsRow B e size v n xs) : OwnAt B w v := by
  refine ⟨fun b hb => ?_⟩
  obtain ⟨_, hv⟩ := h
  rcases hv with ⟨rfl, _⟩ | ⟨g, cap, cur, rfl, hg, hh, _⟩
  · cases hb
  · simp [Value.ownBlock] at hb
    subst hb
    exact ⟨hg, (Array.getElem?_eq_some_iff.1 hh).1, fun j => by simp [World.frozen?, hh]⟩

end Go.Proofs.YtolbcoginmaboaaDoor
/- Marks on rows of Nodes; whether they are held. -/
namespace Go.Proofs.YtolbcoginmaboaaDoor
open Go.RowKit

def markNd (k : Nat) : Nd := ⟨k, markT (k + 1), markT (k + 2), ((k + 3 : Nat) : Int), ((k + 4 : Nat) : Int)⟩
def markNs (k n : Nat) : List Nd := (List.range n).map fun i => markNd (k + i * 5)
theorem markNs_len (k n : Nat) : (markNs k n).length = n := by simp [markNs]
theorem markNs_get (k n i : Nat) (h : i < (markNs k n).length) : (markNs k n)[i] = markNd (k + i * 5) := by simp [markNs]

set_option maxRecDepth 100000 in
set_option maxHeartbeats 1000000 in
theorem mark_nodes (k0 : Nat) (ns : List Nd) (v : Value) (w : World) (B : Nat) (h1 : 1 ≤ k0) (hk : k0 + ns.length * 5 ≤ 5900000) (hv : SlAt w w.heap.size v ns) (hown : OwnAt B w v) :
    Calls Tryd.prog 27 #[v, .int .i64 k0] w fun e w' => e = .returned (.int .i64 ((k0 + ns.length * 5 : Nat) : Int)) ∧ SlAt w' w'.heap.size v (markNs k0 ns.length) ∧ w.grownBy w' v.ownBlock := by
  obtain ⟨ao, cap, rfl, hc, hm, hr⟩ := hv
  have HR := hide hr
  have HO := hide hown
  obtain ⟨n, hn⟩ : ∃ n, ns.length = n := ⟨_, rfl⟩
  rw [hn] at hc hk ⊢
  have HN := hide hn
  clear hr hown hn
  by_cases hn0 : n = 0
  · subst hn0
    go_enter Tryd.func27, Tryd.ntmps27
    go_wp2_with fail
    go_loopw [1, 5] (fun kv i wr => i = .int .i64 0 ∧ kv = .int .i64 (k0 : Int) ∧ wr = w) (fun _ _ _ => 0)
    case atStart => exact ⟨rfl, rfl, rfl⟩
    case round =>
      obtain ⟨rfl, rfl, rfl⟩ := hrel
      go_wp2_with fail
      go_ret
      exact ⟨ret_int rfl, ⟨_, _, rfl, by simp [markNs], ⟨hm.1, by simp [markNs]⟩, fun h => absurd rfl h⟩, grown_refl _ _⟩
  · have hne : ns ≠ [] := fun h => hn0 (by rw [← HN.out, h]; rfl)
    obtain ⟨b, o, rfl, hlt, hrow⟩ := HR.out hne
    obtain ⟨hB, -, hfr⟩ := HO.out.free b rfl
    have HC0 : Hid (∀ i, i < n → ∃ nd, NodeAt w b (o + i * 5) nd) := hide (fun i hi => ⟨_, hrow.get i (by rw [HN.out]; exact hi)⟩)
    have HFR := hide hfr
    clear hrow hfr
    go_enter Tryd.func27, Tryd.ntmps27
    go_wp2_with fail
    go_loopw [1, 5] (fun kv i wr => ∃ k : Nat, k ≤ n ∧ i = .int .i64 k ∧ kv = .int .i64 ((k0 + k * 5 : Nat) : Int) ∧ (∀ j, j < k → NodeAt wr b (o + j * 5) (markNd (k0 + j * 5))) ∧ (∀ j, j < n → ∃ nd, NodeAt wr b (o + j * 5) nd) ∧ (∀ j, wr.frozen? ⟨b, j, none⟩ = false) ∧ w.grownBy wr (some b)) (fun _ i _ => n - (intOf i).toNat)
    case atStart => exact ⟨0, Nat.zero_le _, rfl, rfl, fun j h => absurd h (by omega), HC0.out, HFR.out, grown_refl _ _⟩
    case round =>
      obtain ⟨k, hk, rfl, rfl, hdone, hex, hfro, hgr⟩ := hrel
      have HD := hide hdone
      have HE := hide hex
      have HF := hide hfro
      have HG := hide hgr
      have hbw : b < wr.heap.size := Nat.lt_of_lt_of_le hlt hgr.size
      by_cases hkn : k < n
      · obtain ⟨nd, g0, g1, g2, g3, g4⟩ := hex k hkn
        have hf0 := hfro (o + k * 5)
        have hf1 := hfro (o + k * 5 + 1)
        have hf2 := hfro (o + k * 5 + 2)
        have hf3 := hfro (o + k * 5 + 3)
        have hf4 := hfro (o + k * 5 + 4)
        obtain ⟨kk, hkk⟩ : ∃ kk, k0 + k * 5 = kk := ⟨_, rfl⟩
        rw [hkk]
        have hkk2 : kk < 5900001 := by omega
        have hkk1 : 1 ≤ kk := by omega
        have HKK := hide hkk
        clear hdone hex hfro hgr hkk
        have ho1 : ∀ (W : World) (x : Value) (i j : Nat), i ≠ j → (W.setCell ⟨b, o + k * 5 + i, none⟩ x).cell? ⟨b, o + k * 5 + j, none⟩ = W.cell? ⟨b, o + k * 5 + j, none⟩ := fun W x i j hij =>
          World.cell?_setCell_other _ _ _ _ (fun h => hij (by injection h with h1 h2; omega))
        have HO1 := hide ho1
        have HG5 := hide (And.intro g0 (And.intro g1 (And.intro g2 (And.intro g3 g4))))
        have HF5 := hide hf0
        clear ho1 hf1 hf2 hf3 hf4 g1 g2 g3 g4
        go_wp2_with (first
          | (go_at_call 39; refine (mark_text_at (kk + 2) _ _ (by omega) (by omega) (by omega)).mono ?_; rintro e w2 ⟨rfl, hb2⟩; have hz2 : w1.heap.size ≤ w2.heap.size := (by have := hb2.size; simpa using this); have hk2 : ∀ j, w2.cell? ⟨b, j, none⟩ = (w1.setCell ⟨b, o + k * 5 + 1, none⟩ (.string (markT (kk + 1)))).cell? ⟨b, j, none⟩ := (fun j => hb2.cell (p := ⟨b, j, none⟩) (by simpa using hbw1)); have hf2 : ∀ j, w2.frozen? ⟨b, j, none⟩ = false := (fun j => (hb2.frozen (p := ⟨b, j, none⟩) (by simpa using hbw1)).trans ((World.frozen?_setCell _ _ _ _).trans (HFW1.out j))); have HFW2 := hide hf2; have HK2 := hide hk2; have e2 : w2.cell? ⟨b, o + k * 5 + 2, none⟩ = some (.string nd.peer) := ((hk2 _).trans (HO1.out _ _ 1 2 (by decide))).trans ((HK1.out _).trans ((HO1.out wr _ 0 2 (by decide)).trans HG5.out.2.2.1)); have e3 : w2.cell? ⟨b, o + k * 5 + 3, none⟩ = some (.int .i64 nd.many) := ((hk2 _).trans (HO1.out _ _ 1 3 (by decide))).trans ((HK1.out _).trans ((HO1.out wr _ 0 3 (by decide)).trans HG5.out.2.2.2.1)); have e4 : w2.cell? ⟨b, o + k * 5 + 4, none⟩ = some (.int .i64 nd.sort) := ((hk2 _).trans (HO1.out _ _ 1 4 (by decide))).trans ((HK1.out _).trans ((HO1.out wr _ 0 4 (by decide)).trans HG5.out.2.2.2.2)); have q2 := hf2 (o + k * 5 + 2); have q3 := hf2 (o + k * 5 + 3); have q4 := hf2 (o + k * 5 + 4); have HGR2 : Hid (w.grownBy w2 (some b)) := hide (grown_below (grown_set HGR1.out _ _) hb2); clear hb2 hf2 hk2)
          | (go_at_call 39; refine (mark_text_at (kk + 1) _ _ (by omega) (by omega) (by omega)).mono ?_; rintro e w1 ⟨rfl, hb1⟩; have hbw1 : b < w1.heap.size := (by have := hb1.size; simp at this; omega); have hk1 : ∀ j, w1.cell? ⟨b, j, none⟩ = (wr.setCell ⟨b, o + k * 5 + 0, none⟩ (.int .i64 (kk : Int))).cell? ⟨b, j, none⟩ := (fun j => hb1.cell (p := ⟨b, j, none⟩) (by simpa using hbw)); have hf1 : ∀ j, w1.frozen? ⟨b, j, none⟩ = false := (fun j => (hb1.frozen (p := ⟨b, j, none⟩) (by simpa using hbw)).trans ((World.frozen?_setCell _ _ _ _).trans (HF.out j))); have HFW1 := hide hf1; have HK1 := hide hk1; have e1 : w1.cell? ⟨b, o + k * 5 + 1, none⟩ = some (.string nd.name) := (hk1 _).trans ((HO1.out wr _ 0 1 (by decide)).trans HG5.out.2.1); have q1 := hf1 (o + k * 5 + 1); have HGR1 : Hid (w.grownBy w1 (some b)) := hide (grown_below (grown_set HG.out _ _) hb1); clear hb1 hf1 hk1))
        go_roundw
        case rel =>
          have hs : ∀ (W : World) (x : Value) (p q : Nat), p ≠ q → (W.setCell ⟨b, p, none⟩ x).cell? ⟨b, q, none⟩ = W.cell? ⟨b, q, none⟩ := fun W x p q hpq =>
            World.cell?_setCell_other _ _ _ _ (fun h => hpq (by injection h))
          have hfar : ∀ x, (x < o + k * 5 ∨ o + k * 5 + 5 ≤ x) → (((w2.setCell ⟨b, o + k * 5 + 2, none⟩ (.string (markT (kk + 2)))).setCell ⟨b, o + k * 5 + 3, none⟩ (.int .i64 ((kk : Int) + 1 + 1 + 1))).setCell ⟨b, o + k * 5 + 4, none⟩ (.int .i64 ((kk : Int) + 1 + 1 + 1 + 1))).cell? ⟨b, x, none⟩ = wr.cell? ⟨b, x, none⟩ := fun x hx => by
            rw [hs _ _ _ _ (by omega), hs _ _ _ _ (by omega), hs _ _ _ _ (by omega), HK2.out, hs _ _ _ _ (by omega), HK1.out, hs _ _ _ _ (by omega)]
          have hnew : NodeAt (((w2.setCell ⟨b, o + k * 5 + 2, none⟩ (.string (markT (kk + 2)))).setCell ⟨b, o + k * 5 + 3, none⟩ (.int .i64 ((kk : Int) + 1 + 1 + 1))).setCell ⟨b, o + k * 5 + 4, none⟩ (.int .i64 ((kk : Int) + 1 + 1 + 1 + 1))) b (o + k * 5) (markNd kk) := by
            refine ⟨?_, ?_, ?_, ?_, ?_⟩
            · rw [hs _ _ _ _ (by omega), hs _ _ _ _ (by omega), hs _ _ _ _ (by omega), HK2.out, hs _ _ _ _ (by omega), HK1.out]
              exact World.cell?_setCell_same _ _ _ g0
            · rw [hs _ _ _ _ (by omega), hs _ _ _ _ (by omega), hs _ _ _ _ (by omega), HK2.out]
              exact World.cell?_setCell_same _ _ _ e1
            · rw [hs _ _ _ _ (by omega), hs _ _ _ _ (by omega)]
              exact World.cell?_setCell_same _ _ _ e2
            · rw [hs _ _ _ _ (by omega)]
              refine (World.cell?_setCell_same _ _ _ (u := .int .i64 nd.many) ?_).trans (by simp [markNd]; omega)
              rw [hs _ _ _ _ (by omega)]; exact e3
            · refine (World.cell?_setCell_same _ _ _ (u := .int .i64 nd.sort) ?_).trans (by simp [markNd]; omega)
              rw [hs _ _ _ _ (by omega), hs _ _ _ _ (by omega)]; exact e4
          have hkeep : ∀ j x, j ≠ k → NodeAt wr b (o + j * 5) x → NodeAt (((w2.setCell ⟨b, o + k * 5 + 2, none⟩ (.string (markT (kk + 2)))).setCell ⟨b, o + k * 5 + 3, none⟩ (.int .i64 ((kk : Int) + 1 + 1 + 1))).setCell ⟨b, o + k * 5 + 4, none⟩ (.int .i64 ((kk : Int) + 1 + 1 + 1 + 1))) b (o + j * 5) x := fun j x hj hx => by
            obtain ⟨a0, a1, a2, a3, a4⟩ := hx
            exact ⟨(hfar _ (by omega)).trans a0, (hfar _ (by omega)).trans a1, (hfar _ (by omega)).trans a2, (hfar _ (by omega)).trans a3, (hfar _ (by omega)).trans a4⟩
          refine ⟨k + 1, by omega, by go_num, by have := HKK.out; congr 1; omega, fun j hj => ?_, fun j hj => ?_, fun j => ?_, grown_set (grown_set (grown_set HGR2.out _ _) _ _) _ _⟩
          · by_cases hjk : j = k
            · subst hjk; rw [HKK.out]; exact hnew
            · exact hkeep j _ hjk (HD.out j (by omega))
          · by_cases hjk : j = k
            · subst hjk; exact ⟨_, hnew⟩
            · obtain ⟨x, hx⟩ := HE.out j hj
              exact ⟨x, hkeep j x hjk hx⟩
          · rw [World.frozen?_setCell, World.frozen?_setCell, World.frozen?_setCell]
            exact HFW2.out j
        case measure => simp [intOf]; omega
      · clear hdone hex hfro hgr
        go_wp2_with fail
        go_ret
        refine ⟨ret_int (by omega), ⟨_, _, by rw [markNs_len], by rw [markNs_len]; exact hc, ⟨hm.1, by rw [markNs_len, ← HN.out]; exact hm.2⟩, fun _ => ⟨b, o, rfl, Nat.lt_of_lt_of_le hlt HG.out.size, rowsOf _ _ _ _ (fun j hj => ?_)⟩⟩, HG.out⟩
        rw [markNs_get]
        rw [markNs_len] at hj
        exact HD.out j (by omega)
end Go.Proofs.YtolbcoginmaboaaDoor
/- heldNodeS: whether a row of Nodes holds its marks. -/
namespace Go.Proofs.YtolbcoginmaboaaDoor
open Go.RowKit

set_option maxRecDepth 100000 in
set_option maxHeartbeats 1000000 in
theorem held_nodes (k0 n : Nat) (v : Value) (w : World) (h1 : 1 ≤ k0) (hk : k0 + n * 5 ≤ 5900000) (hv : SlAt w w.heap.size v (markNs k0 n)) :
    Calls Tryd.prog 28 #[v, .int .i64 k0] w fun e w' => e = .returned (.int .i64 ((k0 + n * 5 : Nat) : Int)) ∧ Below w.heap.size w w' := by
  obtain ⟨ao, cap, rfl, hc, hm, hr⟩ := hv
  rw [markNs_len] at hc ⊢
  have HR := hide hr
  clear hr
  go_enter Tryd.func28, Tryd.ntmps28
  go_wp2_with fail
  go_loopw [1, 5] (fun kv i wr => ∃ k : Nat, k ≤ n ∧ i = .int .i64 k ∧ kv = .int .i64 ((k0 + k * 5 : Nat) : Int) ∧ Below w.heap.size w wr) (fun _ i _ => n - (intOf i).toNat)
  case atStart => exact ⟨0, Nat.zero_le _, rfl, rfl, Below.refl _ _⟩
  case round =>
    obtain ⟨k, hkn, rfl, rfl, hbel⟩ := hrel
    have HBEL := hide hbel
    have hszr := hbel.size
    by_cases hlt : k < n
    · have hlt' : k < (markNs k0 n).length := by rw [markNs_len]; exact hlt
      obtain ⟨b, o, rfl, hbB, hrow⟩ := HR.out (by intro h; rw [h] at hlt'; simp at hlt')
      have hnode := (hrow.get k hlt').carry hbB hbel
      rw [markNs_get] at hnode
      obtain ⟨kk, hkk⟩ : ∃ kk, k0 + k * 5 = kk := ⟨_, rfl⟩
      rw [hkk] at hnode ⊢
      have hkk2 : kk < 5900001 := by omega
      have hkk1 : 1 ≤ kk := by omega
      have HKK := hide hkk
      have hbw : b < wr.heap.size := hnode.lt
      have HND := hide hnode
      obtain ⟨c0, c1, c2, c3, c4⟩ := hnode
      simp only [markNd] at c0 c1 c2 c3 c4
      obtain ⟨m1, hm1⟩ : ∃ m1, m1 = markT (kk + 1) := ⟨_, rfl⟩
      obtain ⟨m2, hm2⟩ : ∃ m2, m2 = markT (kk + 2) := ⟨_, rfl⟩
      rw [← hm1] at c1
      rw [← hm2] at c2
      have HM1 := hide hm1
      have HM2 := hide hm2
      clear hbel hrow hkk hm1 hm2
      go_wp2_with fail
      go_region_with (go_at_call 39; refine (mark_text_at (kk + 1) _ _ (by omega) (by omega) (by omega)).mono ?_; rintro e w1 ⟨rfl, hb1⟩; rw [← HM1.out]; have c1' := (hb1.cell (p := ⟨b, _, none⟩) hbw).trans c1; have hbw1 : b < w1.heap.size := Nat.lt_of_lt_of_le hbw hb1.size; have c2' := (hb1.cell (p := ⟨b, _, none⟩) hbw).trans c2; have c3' := (hb1.cell (p := ⟨b, _, none⟩) hbw).trans c3; have c4' := (hb1.cell (p := ⟨b, _, none⟩) hbw).trans c4; have HB1 : Hid (Below w.heap.size w w1) := hide (HBEL.out.drew.trans (hb1.mono hszr)); have hz1 := HB1.out.size; clear hb1)
      all_goals
        go_wp2_with fail
        go_region_with (go_at_call 39; refine (mark_text_at (kk + 2) _ _ (by omega) (by omega) (by omega)).mono ?_; rintro e w2 ⟨rfl, hb2⟩; rw [← HM2.out]; have c2'' := (hb2.cell (p := ⟨b, _, none⟩) hbw1).trans c2'; have c3'' := (hb2.cell (p := ⟨b, _, none⟩) hbw1).trans c3'; have c4'' := (hb2.cell (p := ⟨b, _, none⟩) hbw1).trans c4'; have HB2 : Hid (Below w.heap.size w w2) := hide (HB1.out.drew.trans (hb2.mono hz1)); clear hb2)
        all_goals
          go_wp2_with fail
          all_goals
            go_roundw
            case rel => exact ⟨k + 1, by omega, by go_num, by have := HKK.out; congr 1; omega, HB2.out⟩
            case measure => simp [intOf]; omega
    · clear hbel
      go_wp2_with fail
      go_ret
      exact ⟨ret_int (by omega), HBEL.out⟩
end Go.Proofs.YtolbcoginmaboaaDoor
/- PlanOut and PartOut: the law's own helpers over them. -/
namespace Go.Proofs.YtolbcoginmaboaaDoor
open Go.RowKit

theorem eq_planOut (ns : List Nd) (code : Int) (va vb : Value) (w : World) (ha : SlAt w w.heap.size va ns) (hb : SlAt w w.heap.size vb ns) :
    Calls Tryd.prog 15 #[.agg #[va, .int .i64 code], .agg #[vb, .int .i64 code]] w fun e w' => e = .returned (.bool true) ∧ Below w.heap.size w w' := by
  have HA := hide ha
  have HB := hide hb
  obtain ⟨a1, c1, rfl, -⟩ := ha
  obtain ⟨a2, c2, rfl, -⟩ := hb
  have HW : Hid (∀ (o1 o2 : Obj), Below w.heap.size w ((w.alloc o1).alloc o2)) := hide (fun o1 o2 => (alloc1 _ _).trans ((alloc1 _ _).mono (by simp)))
  go_enter Tryd.func15, Tryd.ntmps15
  go_wp2_with (go_at_call 12; refine (eq_nodes ns _ _ _ ((HA.out.carry (HW.out _ _)).up (HW.out _ _).size) ((HB.out.carry (HW.out _ _)).up (HW.out _ _).size)).mono ?_; rintro e w1 ⟨rfl, hb1⟩; have HB1 : Hid (Below w.heap.size w w1) := hide ((HW.out _ _).trans (hb1.mono (by simp; omega))); have hz1 : w.heap.size + 2 ≤ w1.heap.size := (by have := hb1.size; simp at this; omega); have x1 := (hb1.cell (p := ⟨w.heap.size, 1, none⟩) (by simp; omega)); have x2 := (hb1.cell (p := ⟨w.heap.size + 1, 1, none⟩) (by simp)); simp at x1 x2; clear hb1)
  go_ret
  exact ⟨rfl, HB1.out⟩

theorem mark_planOut (k0 : Nat) (ns : List Nd) (code : Int) (v : Value) (w : World) (B : Nat) (h1 : 1 ≤ k0) (hk : k0 + ns.length * 5 ≤ 5900000) (hv : SlAt w w.heap.size v ns) (hown : OwnAt B w v) :
    Calls Tryd.prog 16 #[.agg #[v, .int .i64 code], .int .i64 k0] w fun e w' => e = .returned (.int .i64 ((k0 + ns.length * 5 : Nat) : Int)) ∧ SlAt w' w'.heap.size v (markNs k0 ns.length) ∧ ∃ W, Below w.heap.size w W ∧ W.grownBy w' v.ownBlock := by
  have HV := hide hv
  have HO := hide hown
  obtain ⟨a1, c1, rfl, -⟩ := hv
  clear hown
  go_enter Tryd.func16, Tryd.ntmps16
  go_wp2_with (go_at_call 27; refine (mark_nodes k0 ns _ _ B h1 hk ((HV.out.carry (alloc1 _ _)).up (alloc1 _ _).size) (HO.out.carry (alloc1 _ _))).mono ?_; rintro e w1 ⟨rfl, hs1, hg1⟩; have HS1 := hide hs1; have HG1 := hide hg1; clear hs1 hg1)
  go_ret
  exact ⟨ret_int rfl, HS1.out, _, alloc1 _ _, HG1.out⟩

theorem held_planOut (k0 n : Nat) (code : Int) (v : Value) (w : World) (h1 : 1 ≤ k0) (hk : k0 + n * 5 ≤ 5900000) (hv : SlAt w w.heap.size v (markNs k0 n)) :
    Calls Tryd.prog 17 #[.agg #[v, .int .i64 code], .int .i64 k0] w fun e w' => e = .returned (.int .i64 ((k0 + n * 5 : Nat) : Int)) ∧ Below w.heap.size w w' := by
  have HV := hide hv
  obtain ⟨a1, c1, rfl, -⟩ := hv
  rw [markNs_len]
  have HV2 : Hid (SlAt w w.heap.size (.slice a1 n c1) (markNs k0 n)) := hide (by have := HV.out; rwa [markNs_len] at this)
  go_enter Tryd.func17, Tryd.ntmps17
  go_wp2_with (go_at_call 28; refine (held_nodes k0 n _ _ h1 hk ((HV2.out.carry (alloc1 _ _)).up (alloc1 _ _).size)).mono ?_; rintro e w1 ⟨rfl, hb1⟩; have HB1 : Hid (Below w.heap.size w w1) := hide ((alloc1 _ _).trans (hb1.mono (by simp))); clear hb1)
  go_ret
  exact ⟨ret_int rfl, HB1.out⟩

theorem eq_partOut (ns : List Nd) (code : Int) (va vb : Value) (w : World) (ha : SlAt w w.heap.size va ns) (hb : SlAt w w.heap.size vb ns) :
    Calls Tryd.prog 22 #[.agg #[va, .int .i64 code], .agg #[vb, .int .i64 code]] w fun e w' => e = .returned (.bool true) ∧ Below w.heap.size w w' := by
  have HA := hide ha
  have HB := hide hb
  obtain ⟨a1, c1, rfl, -⟩ := ha
  obtain ⟨a2, c2, rfl, -⟩ := hb
  have HW : Hid (∀ (o1 o2 : Obj), Below w.heap.size w ((w.alloc o1).alloc o2)) := hide (fun o1 o2 => (alloc1 _ _).trans ((alloc1 _ _).mono (by simp)))
  go_enter Tryd.func22, Tryd.ntmps22
  go_wp2_with (go_at_call 12; refine (eq_nodes ns _ _ _ ((HA.out.carry (HW.out _ _)).up (HW.out _ _).size) ((HB.out.carry (HW.out _ _)).up (HW.out _ _).size)).mono ?_; rintro e w1 ⟨rfl, hb1⟩; have HB1 : Hid (Below w.heap.size w w1) := hide ((HW.out _ _).trans (hb1.mono (by simp; omega))); have hz1 : w.heap.size + 2 ≤ w1.heap.size := (by have := hb1.size; simp at this; omega); have x1 := (hb1.cell (p := ⟨w.heap.size, 1, none⟩) (by simp; omega)); have x2 := (hb1.cell (p := ⟨w.heap.size + 1, 1, none⟩) (by simp)); simp at x1 x2; clear hb1)
  go_ret
  exact ⟨rfl, HB1.out⟩

theorem mark_partOut (k0 : Nat) (ns : List Nd) (code : Int) (v : Value) (w : World) (B : Nat) (h1 : 1 ≤ k0) (hk : k0 + ns.length * 5 ≤ 5900000) (hv : SlAt w w.heap.size v ns) (hown : OwnAt B w v) :
    Calls Tryd.prog 23 #[.agg #[v, .int .i64 code], .int .i64 k0] w fun e w' => e = .returned (.int .i64 ((k0 + ns.length * 5 : Nat) : Int)) ∧ SlAt w' w'.heap.size v (markNs k0 ns.length) ∧ ∃ W, Below w.heap.size w W ∧ W.grownBy w' v.ownBlock := by
  have HV := hide hv
  have HO := hide hown
  obtain ⟨a1, c1, rfl, -⟩ := hv
  clear hown
  go_enter Tryd.func23, Tryd.ntmps23
  go_wp2_with (go_at_call 27; refine (mark_nodes k0 ns _ _ B h1 hk ((HV.out.carry (alloc1 _ _)).up (alloc1 _ _).size) (HO.out.carry (alloc1 _ _))).mono ?_; rintro e w1 ⟨rfl, hs1, hg1⟩; have HS1 := hide hs1; have HG1 := hide hg1; clear hs1 hg1)
  go_ret
  exact ⟨ret_int rfl, HS1.out, _, alloc1 _ _, HG1.out⟩

theorem held_partOut (k0 n : Nat) (code : Int) (v : Value) (w : World) (h1 : 1 ≤ k0) (hk : k0 + n * 5 ≤ 5900000) (hv : SlAt w w.heap.size v (markNs k0 n)) :
    Calls Tryd.prog 24 #[.agg #[v, .int .i64 code], .int .i64 k0] w fun e w' => e = .returned (.int .i64 ((k0 + n * 5 : Nat) : Int)) ∧ Below w.heap.size w w' := by
  have HV := hide hv
  obtain ⟨a1, c1, rfl, -⟩ := hv
  rw [markNs_len]
  have HV2 : Hid (SlAt w w.heap.size (.slice a1 n c1) (markNs k0 n)) := hide (by have := HV.out; rwa [markNs_len] at this)
  go_enter Tryd.func24, Tryd.ntmps24
  go_wp2_with (go_at_call 28; refine (held_nodes k0 n _ _ h1 hk ((HV2.out.carry (alloc1 _ _)).up (alloc1 _ _).size)).mono ?_; rintro e w1 ⟨rfl, hb1⟩; have HB1 : Hid (Below w.heap.size w w1) := hide ((alloc1 _ _).trans (hb1.mono (by simp))); clear hb1)
  go_ret
  exact ⟨ret_int rfl, HB1.out⟩
end Go.Proofs.YtolbcoginmaboaaDoor
