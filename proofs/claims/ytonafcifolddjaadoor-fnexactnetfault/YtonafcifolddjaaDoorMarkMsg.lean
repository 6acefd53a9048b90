/- Marks on rows of Msgs; whether they are held. -/
import Derived.Test.YtonafcifolddjaaDoorMarkT
import Derived.Test.YtonafcifolddjaaDoorRowMsg
namespace Go.Proofs.YtonafcifolddjaaDoor
open Go.RowKit

def markRMsg (k : Nat) : RMsg := ⟨markT (k + 0), markT (k + 1), markT (k + 2), ((k + 3 : Nat) : Int)⟩
def markRMsgs (k n : Nat) : List RMsg := (List.range n).map fun i => markRMsg (k + i * 4)
theorem markRMsgs_len (k n : Nat) : (markRMsgs k n).length = n := by simp [markRMsgs]
theorem markRMsgs_get (k n i : Nat) (h : i < (markRMsgs k n).length) : (markRMsgs k n)[i] = markRMsg (k + i * 4) := by simp [markRMsgs]

set_option maxRecDepth 100000 in
set_option maxHeartbeats 1000000 in
theorem mark_msgs (k0 : Nat) (ns : List RMsg) (v : Value) (w : World) (B : Nat) (h1 : 1 ≤ k0) (hk : k0 + ns.length * 4 ≤ 5900000) (hv : RMsgSl w w.heap.size v ns) (hown : MOwn B w v) :
    Calls Tryd.prog 15 #[v, .int .i64 k0] w fun e w' => e = .returned (.int .i64 ((k0 + ns.length * 4 : Nat) : Int)) ∧ RMsgSl w' w'.heap.size v (markRMsgs k0 ns.length) ∧ w.grownBy w' v.ownBlock := by
  obtain ⟨ao, cap, rfl, hc, hm, hr⟩ := hv
  have HR := hide hr
  have HO := hide hown
  obtain ⟨n, hn⟩ : ∃ n, ns.length = n := ⟨_, rfl⟩
  rw [hn] at hc hk hm ⊢
  have HN := hide hn
  clear hr hown hn
  by_cases hn0 : n = 0
  · subst hn0
    go_enter Tryd.func15, Tryd.ntmps15
    go_wp2_with fail
    go_loopw [1, 5] (fun kv i wr => i = .int .i64 0 ∧ kv = .int .i64 (k0 : Int) ∧ wr = w) (fun _ _ _ => 0)
    case atStart => exact ⟨rfl, rfl, rfl⟩
    case round =>
      obtain ⟨rfl, rfl, rfl⟩ := hrel
      go_wp2_with fail
      go_ret
      exact ⟨ret_int rfl, ⟨_, _, rfl, by simp [markRMsgs], by simp [markRMsgs], fun h => absurd rfl h⟩, grown_reflT _ _⟩
  · have hne : ns ≠ [] := fun h => hn0 (by rw [← HN.out, h]; rfl)
    obtain ⟨b, o, rfl, hlt, hrow⟩ := HR.out hne
    obtain ⟨hB, -, hfr⟩ := HO.out.free b rfl
    have HC0 : Hid (∀ i, i < n → ∃ nd, RMsgAt w b (o + i * 4) nd) := hide (fun i hi => ⟨_, hrow.get i (by rw [HN.out]; exact hi)⟩)
    have HFR := hide hfr
    clear hrow hfr
    go_enter Tryd.func15, Tryd.ntmps15
    go_wp2_with fail
    go_loopw [1, 5] (fun kv i wr => ∃ k : Nat, k ≤ n ∧ i = .int .i64 k ∧ kv = .int .i64 ((k0 + k * 4 : Nat) : Int) ∧ (∀ j, j < k → RMsgAt wr b (o + j * 4) (markRMsg (k0 + j * 4))) ∧ (∀ j, j < n → ∃ nd, RMsgAt wr b (o + j * 4) nd) ∧ (∀ j, wr.frozen? ⟨b, j, none⟩ = false) ∧ w.grownBy wr (some b)) (fun _ i _ => n - (intOf i).toNat)
    case atStart => exact ⟨0, Nat.zero_le _, rfl, rfl, fun j h => absurd h (by omega), HC0.out, HFR.out, grown_reflT _ _⟩
    case round =>
      obtain ⟨k, hk, rfl, rfl, hdone, hex, hfro, hgr⟩ := hrel
      have HD := hide hdone
      have HE := hide hex
      have HF := hide hfro
      have HG := hide hgr
      have hbw : b < wr.heap.size := Nat.lt_of_lt_of_le hlt hgr.size
      by_cases hkn : k < n
      · obtain ⟨nd, g0, g1, g2, g3⟩ := hex k hkn
        have hf0 := hfro (o + k * 4)
        obtain ⟨kk, hkk⟩ : ∃ kk, k0 + k * 4 = kk := ⟨_, rfl⟩
        rw [hkk]
        have hkk2 : kk < 5900001 := by omega
        have hkk1 : 1 ≤ kk := by omega
        have HKK := hide hkk
        have HO1 : Hid (∀ (W : World) (x : Value) (i j : Nat), i ≠ j → (W.setCell ⟨b, o + k * 4 + i, none⟩ x).cell? ⟨b, o + k * 4 + j, none⟩ = W.cell? ⟨b, o + k * 4 + j, none⟩) := hide (fun W x i j hij =>
          World.cell?_setCell_other _ _ _ _ (fun h => hij (by injection h with h1 h2; omega)))
        have HG5 := hide (And.intro g0 (And.intro g1 (And.intro g2 g3)))
        clear hdone hex hfro hgr hkk g1 g2 g3
        go_wp2_with (first
          | (go_at_call 33; refine (mark_text_at (kk + 2) _ _ (by omega) (by omega) (by omega)).mono ?_; rintro e w3 ⟨rfl, hb3⟩; have hbw3 : b < w3.heap.size := (by have := hb3.size; (try simp at this); omega); have hk3 := (fun j => hb3.cell (p := ⟨b, j, none⟩) (by simpa using hbw2)); have HFW3 : Hid (∀ j, w3.frozen? ⟨b, j, none⟩ = false) := hide (fun j => (hb3.frozen (p := ⟨b, j, none⟩) (by simpa using hbw2)).trans ((World.frozen?_setCell _ _ _ _).trans (HFW2.out j))); have HK3 := hide hk3; have e3_2 : w3.cell? ⟨b, o + k * 4 + 2, none⟩ = some (.string nd.label) := ((HK3.out _).trans ((HO1.out _ _ 1 2 (by decide)).trans ((HK2.out _).trans ((HO1.out _ _ 0 2 (by decide)).trans ((HK1.out _).trans HG5.out.2.2.1))))); have e3_3 : w3.cell? ⟨b, o + k * 4 + 3, none⟩ = some (.int .i64 nd.sort) := ((HK3.out _).trans ((HO1.out _ _ 1 3 (by decide)).trans ((HK2.out _).trans ((HO1.out _ _ 0 3 (by decide)).trans ((HK1.out _).trans HG5.out.2.2.2))))); have q3_2 := HFW3.out (o + k * 4 + 2); have q3_3 := HFW3.out (o + k * 4 + 3); have HGR3 : Hid (w.grownBy w3 (some b)) := hide (grown_below (grown_set HGR2.out _ _) hb3); clear hb3 hk3)
          | (go_at_call 33; refine (mark_text_at (kk + 1) _ _ (by omega) (by omega) (by omega)).mono ?_; rintro e w2 ⟨rfl, hb2⟩; have hbw2 : b < w2.heap.size := (by have := hb2.size; (try simp at this); omega); have hk2 := (fun j => hb2.cell (p := ⟨b, j, none⟩) (by simpa using hbw1)); have HFW2 : Hid (∀ j, w2.frozen? ⟨b, j, none⟩ = false) := hide (fun j => (hb2.frozen (p := ⟨b, j, none⟩) (by simpa using hbw1)).trans ((World.frozen?_setCell _ _ _ _).trans (HFW1.out j))); have HK2 := hide hk2; have e2_1 : w2.cell? ⟨b, o + k * 4 + 1, none⟩ = some (.string nd.to) := ((HK2.out _).trans ((HO1.out _ _ 0 1 (by decide)).trans ((HK1.out _).trans HG5.out.2.1))); have e2_2 : w2.cell? ⟨b, o + k * 4 + 2, none⟩ = some (.string nd.label) := ((HK2.out _).trans ((HO1.out _ _ 0 2 (by decide)).trans ((HK1.out _).trans HG5.out.2.2.1))); have e2_3 : w2.cell? ⟨b, o + k * 4 + 3, none⟩ = some (.int .i64 nd.sort) := ((HK2.out _).trans ((HO1.out _ _ 0 3 (by decide)).trans ((HK1.out _).trans HG5.out.2.2.2))); have q2_1 := HFW2.out (o + k * 4 + 1); have q2_2 := HFW2.out (o + k * 4 + 2); have q2_3 := HFW2.out (o + k * 4 + 3); have HGR2 : Hid (w.grownBy w2 (some b)) := hide (grown_below (grown_set HGR1.out _ _) hb2); clear hb2 hk2)
          | (go_at_call 33; refine (mark_text_at (kk + 0) _ _ (by omega) (by omega) (by omega)).mono ?_; rintro e w1 ⟨rfl, hb1⟩; have hbw1 : b < w1.heap.size := (by have := hb1.size; (try simp at this); omega); have hk1 := (fun j => hb1.cell (p := ⟨b, j, none⟩) (by simpa using hbw)); have HFW1 : Hid (∀ j, w1.frozen? ⟨b, j, none⟩ = false) := hide (fun j => (hb1.frozen (p := ⟨b, j, none⟩) (by simpa using hbw)).trans (HF.out j)); have HK1 := hide hk1; have e1_0 : w1.cell? ⟨b, o + k * 4, none⟩ = some (.string nd.frm) := ((HK1.out _).trans HG5.out.1); have e1_1 : w1.cell? ⟨b, o + k * 4 + 1, none⟩ = some (.string nd.to) := ((HK1.out _).trans HG5.out.2.1); have e1_2 : w1.cell? ⟨b, o + k * 4 + 2, none⟩ = some (.string nd.label) := ((HK1.out _).trans HG5.out.2.2.1); have e1_3 : w1.cell? ⟨b, o + k * 4 + 3, none⟩ = some (.int .i64 nd.sort) := ((HK1.out _).trans HG5.out.2.2.2); have q1_0 := HFW1.out (o + k * 4); have q1_1 := HFW1.out (o + k * 4 + 1); have q1_2 := HFW1.out (o + k * 4 + 2); have q1_3 := HFW1.out (o + k * 4 + 3); have HGR1 : Hid (w.grownBy w1 (some b)) := hide (grown_below HG.out hb1); clear hb1 hk1))
        go_roundw
        case rel =>
          have hs : ∀ (W : World) (x : Value) (p q : Nat), p ≠ q → (W.setCell ⟨b, p, none⟩ x).cell? ⟨b, q, none⟩ = W.cell? ⟨b, q, none⟩ := fun W x p q hpq =>
            World.cell?_setCell_other _ _ _ _ (fun h => hpq (by injection h))
          have hfar : ∀ x, (x < o + k * 4 ∨ o + k * 4 + 4 ≤ x) → (((w3.setCell ⟨b, o + k * 4 + 2, none⟩ (.string (markT (kk + 2)))).setCell ⟨b, o + k * 4 + 3, none⟩ (.int .i64 ((kk : Int) + 1 + 1 + 1)))).cell? ⟨b, x, none⟩ = wr.cell? ⟨b, x, none⟩ := fun x hx => by
            rw [hs _ _ _ _ (by omega), hs _ _ _ _ (by omega), HK3.out, hs _ _ _ _ (by omega), HK2.out, hs _ _ _ _ (by omega), HK1.out]
          have hnew : RMsgAt (((w3.setCell ⟨b, o + k * 4 + 2, none⟩ (.string (markT (kk + 2)))).setCell ⟨b, o + k * 4 + 3, none⟩ (.int .i64 ((kk : Int) + 1 + 1 + 1)))) b (o + k * 4) (markRMsg kk) := by
            refine ⟨?_, ?_, ?_, ?_⟩
            · rw [hs _ _ _ _ (by omega), hs _ _ _ _ (by omega), HK3.out, hs _ _ _ _ (by omega), HK2.out]
              refine (World.cell?_setCell_same _ _ _ (u := .string nd.frm) (by exact e1_0)).trans (by simp [markRMsg]; try omega)
            · rw [hs _ _ _ _ (by omega), hs _ _ _ _ (by omega), HK3.out]
              refine (World.cell?_setCell_same _ _ _ (u := .string nd.to) (by exact e2_1)).trans (by simp [markRMsg]; try omega)
            · rw [hs _ _ _ _ (by omega)]
              refine (World.cell?_setCell_same _ _ _ (u := .string nd.label) (by exact e3_2)).trans (by simp [markRMsg]; try omega)
            · refine (World.cell?_setCell_same _ _ _ (u := .int .i64 nd.sort) (by rw [hs _ _ _ _ (by omega)]; exact e3_3)).trans (by simp [markRMsg]; try omega)
          have hkeep : ∀ j x, j ≠ k → RMsgAt wr b (o + j * 4) x → RMsgAt (((w3.setCell ⟨b, o + k * 4 + 2, none⟩ (.string (markT (kk + 2)))).setCell ⟨b, o + k * 4 + 3, none⟩ (.int .i64 ((kk : Int) + 1 + 1 + 1)))) b (o + j * 4) x := fun j x hj hx => by
            obtain ⟨a0, a1, a2, a3⟩ := hx
            exact ⟨(hfar _ (by omega)).trans a0, (hfar _ (by omega)).trans a1, (hfar _ (by omega)).trans a2, (hfar _ (by omega)).trans a3⟩
          refine ⟨k + 1, by omega, by go_num, by have := HKK.out; congr 1; omega, fun j hj => ?_, fun j hj => ?_, fun j => ?_, (grown_set (grown_set HGR3.out _ _) _ _)⟩
          · by_cases hjk : j = k
            · subst hjk; rw [HKK.out]; exact hnew
            · exact hkeep j _ hjk (HD.out j (by omega))
          · by_cases hjk : j = k
            · subst hjk; exact ⟨_, hnew⟩
            · obtain ⟨x, hx⟩ := HE.out j hj
              exact ⟨x, hkeep j x hjk hx⟩
          · rw [World.frozen?_setCell, World.frozen?_setCell]
            exact HFW3.out j
        case measure => simp [intOf]; omega
      · clear hdone hex hfro hgr
        go_wp2_with fail
        go_ret
        refine ⟨ret_int (by omega), ⟨_, _, by rw [markRMsgs_len], by rw [markRMsgs_len]; exact hc, by rw [markRMsgs_len]; exact hm, fun _ => ⟨b, o, rfl, Nat.lt_of_lt_of_le hlt HG.out.size, RMsgs.of _ _ _ _ (fun j hj => ?_)⟩⟩, HG.out⟩
        rw [markRMsgs_get]
        rw [markRMsgs_len] at hj
        exact HD.out j (by omega)

set_option maxRecDepth 100000 in
set_option maxHeartbeats 1000000 in
theorem held_msgs (k0 n : Nat) (v : Value) (w : World) (h1 : 1 ≤ k0) (hk : k0 + n * 4 ≤ 5900000) (hv : RMsgSl w w.heap.size v (markRMsgs k0 n)) :
    Calls Tryd.prog 34 #[v, .int .i64 k0] w fun e w' => e = .returned (.int .i64 ((k0 + n * 4 : Nat) : Int)) ∧ Below w.heap.size w w' := by
  obtain ⟨ao, cap, rfl, hc, hm, hr⟩ := hv
  rw [markRMsgs_len] at hc ⊢
  have HR := hide hr
  clear hr
  go_enter Tryd.func34, Tryd.ntmps34
  go_wp2_with fail
  go_loopw [1, 5] (fun kv i wr => ∃ k : Nat, k ≤ n ∧ i = .int .i64 k ∧ kv = .int .i64 ((k0 + k * 4 : Nat) : Int) ∧ Below w.heap.size w wr) (fun _ i _ => n - (intOf i).toNat)
  case atStart => exact ⟨0, Nat.zero_le _, rfl, rfl, Below.refl _ _⟩
  case round =>
    obtain ⟨k, hkn, rfl, rfl, hbel⟩ := hrel
    have HBEL := hide hbel
    have hszr := hbel.size
    by_cases hlt : k < n
    · have hlt' : k < (markRMsgs k0 n).length := by rw [markRMsgs_len]; exact hlt
      obtain ⟨b, o, rfl, hbB, hrow⟩ := HR.out (by intro h; rw [h] at hlt'; simp at hlt')
      have hnode := (hrow.get k hlt').carry hbB hbel
      rw [markRMsgs_get] at hnode
      obtain ⟨kk, hkk⟩ : ∃ kk, k0 + k * 4 = kk := ⟨_, rfl⟩
      rw [hkk] at hnode ⊢
      have hkk2 : kk < 5900001 := by omega
      have hkk1 : 1 ≤ kk := by omega
      have HKK := hide hkk
      obtain ⟨c0, c1, c2, c3⟩ := hnode
      simp only [markRMsg] at c0 c1 c2 c3
      clear hbel hrow hkk
      go_wp2_with fail
      refine wp_region_grown (by kernel_rfl) (by kernel_rfl) (fun W hW => ?_)
      have hne := grown_some W
      have f0 := grown_cell (w := W) (b := b) (by rw [hW]; exact c0)
      have f1 := grown_cell (w := W) (b := b) (by rw [hW]; exact c1)
      have f2 := grown_cell (w := W) (b := b) (by rw [hW]; exact c2)
      have f3 := grown_cell (w := W) (b := b) (by rw [hW]; exact c3)
      have HWE := hide hW
      clear hW
      repeat (go_big_quiet_step ((go_at_call 33; exact grown_more (mark_text_at (kk + 0) _ _ (by omega) (by omega) (by omega)))))
      refine wpQuiet_nil ?_
      intro w1 hw1
      have c1_0 := f0 ⟨w1, hw1⟩
      have c1_1 := f1 ⟨w1, hw1⟩
      have c1_2 := f2 ⟨w1, hw1⟩
      have c1_3 := f3 ⟨w1, hw1⟩
      dsimp only at c1_0 c1_1 c1_2 c1_3
      have HB1 : Hid (Below w.heap.size w w1) := hide (HBEL.out.trans ((by rw [HWE.out] at hw1; exact hw1 : Below wr.heap.size wr w1).mono HBEL.out.size))
      clear HWE hne hw1 f0 f1 f2 f3
      go_wp2_with fail
      refine wp_region_grown (by kernel_rfl) (by kernel_rfl) (fun W hW => ?_)
      have hne := grown_some W
      have f1 := grown_cell (w := W) (b := b) (by rw [hW]; exact c1_1)
      have f2 := grown_cell (w := W) (b := b) (by rw [hW]; exact c1_2)
      have f3 := grown_cell (w := W) (b := b) (by rw [hW]; exact c1_3)
      have HWE := hide hW
      clear hW
      repeat (go_big_quiet_step ((go_at_call 33; exact grown_more (mark_text_at (kk + 1) _ _ (by omega) (by omega) (by omega)))))
      refine wpQuiet_nil ?_
      intro w2 hw2
      have c2_1 := f1 ⟨w2, hw2⟩
      have c2_2 := f2 ⟨w2, hw2⟩
      have c2_3 := f3 ⟨w2, hw2⟩
      dsimp only at c2_1 c2_2 c2_3
      have HB2 : Hid (Below w.heap.size w w2) := hide (HB1.out.trans ((by rw [HWE.out] at hw2; exact hw2 : Below w1.heap.size w1 w2).mono HB1.out.size))
      clear HWE hne hw2 f1 f2 f3
      go_wp2_with fail
      refine wp_region_grown (by kernel_rfl) (by kernel_rfl) (fun W hW => ?_)
      have hne := grown_some W
      have f2 := grown_cell (w := W) (b := b) (by rw [hW]; exact c2_2)
      have f3 := grown_cell (w := W) (b := b) (by rw [hW]; exact c2_3)
      have HWE := hide hW
      clear hW
      repeat (go_big_quiet_step ((go_at_call 33; exact grown_more (mark_text_at (kk + 2) _ _ (by omega) (by omega) (by omega)))))
      refine wpQuiet_nil ?_
      intro w3 hw3
      have c3_2 := f2 ⟨w3, hw3⟩
      have c3_3 := f3 ⟨w3, hw3⟩
      dsimp only at c3_2 c3_3
      have HB3 : Hid (Below w.heap.size w w3) := hide (HB2.out.trans ((by rw [HWE.out] at hw3; exact hw3 : Below w2.heap.size w2 w3).mono HB2.out.size))
      clear HWE hne hw3 f2 f3
      go_wp2_with fail
      all_goals
        go_roundw
        case rel => exact ⟨k + 1, by omega, by go_num, by have := HKK.out; congr 1; omega, HB3.out⟩
        case measure => simp [intOf]; omega
    · clear hbel
      go_wp2_with fail
      go_ret
      exact ⟨ret_int (by omega), HBEL.out⟩
end Go.Proofs.YtonafcifolddjaaDoor
