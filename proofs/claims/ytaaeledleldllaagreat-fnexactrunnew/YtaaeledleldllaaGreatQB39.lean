import Derived.Test.YtaaeledleldllaaGreatQB04
import Derived.Test.YtaaeledleldllaaGreatQB38
import Derived.Test.YtaaeledleldllaaGreatQB01
import Derived.RangeFuncNested
import Derived.RangeFuncCalls
import Derived.Orders
import Derived.OrdersIn
import Derived.TacticsIn
namespace Go.Proofs.YtaaeledleldllaaGreat
open Go.RowKit Go.ChangeShapes Go.WideShapes

def Nums (w : World) (b o : Nat) (l : List Int) : Prop := ∀ j (h : j < l.length), w.cell? ⟨b, o + j, none⟩ = some (.int .i64 l[j])
theorem Nums.carry {w w' : World} {b B o : Nat} {l : List Int} (h : Nums w b o l) (hB : b < B) (hb : Below B w w') : Nums w' b o l :=
  fun j hj => (hb.cell (p := ⟨b, o + j, none⟩) hB).trans (h j hj)
def NumSl (w : World) (B : Nat) (v : Value) (l : List Int) : Prop :=
  ∃ ao cap, v = .slice ao l.length cap ∧ l.length ≤ cap ∧ l.length ≤ 4294967296 ∧ (l ≠ [] → ∃ b o, ao = some ⟨b, o, none⟩ ∧ b < B ∧ Nums w b o l)
theorem NumSl.carry {w w' : World} {B : Nat} {v : Value} {l : List Int} (h : NumSl w B v l) (hb : Below B w w') : NumSl w' B v l := by
  obtain ⟨ao, cap, h1, h2, h3, h4⟩ := h
  refine ⟨ao, cap, h1, h2, h3, fun hne => ?_⟩
  obtain ⟨b, o, e, hlt, hr⟩ := h4 hne
  exact ⟨b, o, e, hlt, hr.carry hlt hb⟩
theorem NumSl.up {w : World} {B B' : Nat} {v : Value} {l : List Int} (h : NumSl w B v l) (hB : B ≤ B') : NumSl w B' v l := by
  obtain ⟨ao, cap, h1, h2, h3, h4⟩ := h
  refine ⟨ao, cap, h1, h2, h3, fun hne => ?_⟩
  obtain ⟨b, o, e, hlt, hr⟩ := h4 hne
  exact ⟨b, o, e, by omega, hr⟩
theorem NumSl.on {w w' : World} {v : Value} {l : List Int} (h : NumSl w w.heap.size v l) (hb : Below w.heap.size w w') : NumSl w' w'.heap.size v l := (h.carry hb).up hb.size
theorem NumSl.shape {w : World} {B : Nat} {v : Value} {l : List Int} (h : NumSl w B v l) : ∃ p c, v = .slice p l.length c := by
  obtain ⟨ao, cap, h1, _⟩ := h
  exact ⟨ao, cap, h1⟩
theorem Tryz.infoI64 : (Tryz.prog.info? 2).map (fun i => (i.zero, i.size, i.bytes)) = some (some (.int .i64 0), 1, 8) := by kernel_rfl
end Go.Proofs.YtaaeledleldllaaGreat
namespace Go.Proofs.YtaaeledleldllaaGreat
open Go.RowKit

def markRMsg (k : Nat) : RMsg := ⟨markT (k + 0), markT (k + 1), markT (k + 2), ((k + 3 : Nat) : Int)⟩
def markRMsgs (k n : Nat) : List RMsg := (List.range n).map fun i => markRMsg (k + i * 4)
theorem markRMsgs_len (k n : Nat) : (markRMsgs k n).length = n := by simp [markRMsgs]
theorem markRMsgs_get (k n i : Nat) (h : i < (markRMsgs k n).length) : (markRMsgs k n)[i] = markRMsg (k + i * 4) := by simp [markRMsgs]

set_option maxRecDepth 100000 in
set_option maxHeartbeats 1000000 in
theorem mark_msgs (k0 : Nat) (ns : List RMsg) (v : Value) (w : World) (B : Nat) (h1 : 1 ≤ k0) (hk : k0 + ns.length * 4 ≤ 5900000) (hv : RMsgSl w w.heap.size v ns) (hown : MOwn B w v) :
    Calls Tryz.prog 95 #[v, .int .i64 k0] w fun e w' => e = .returned (.int .i64 ((k0 + ns.length * 4 : Nat) : Int)) ∧ RMsgSl w' w'.heap.size v (markRMsgs k0 ns.length) ∧ w.grownBy w' v.ownBlock := by
  obtain ⟨ao, cap, rfl, hc, hm, hr⟩ := hv
  have HR := hide hr
  have HO := hide hown
  obtain ⟨n, hn⟩ : ∃ n, ns.length = n := ⟨_, rfl⟩
  rw [hn] at hc hk hm ⊢
  have HN := hide hn
  clear hr hown hn
  by_cases hn0 : n = 0
  · subst hn0
    go_enter Tryz.func95, Tryz.ntmps95
    go_wp2_with fail
    go_loopw [1, 5] (fun kv i wr => i = .int .i64 0 ∧ kv = .int .i64 (k0 : Int) ∧ wr = w) (fun _ _ _ => 0)
    case atStart => exact ⟨rfl, rfl, rfl⟩
    case round =>
      obtain ⟨rfl, rfl, rfl⟩ := hrel
      go_wp2_with fail
      go_ret
      exact ⟨ret_int rfl, ⟨_, _, rfl, by simp [markRMsgs], by simp [markRMsgs], fun h => absurd rfl h⟩, grown_refl _ _⟩
  · have hne : ns ≠ [] := fun h => hn0 (by rw [← HN.out, h]; rfl)
    obtain ⟨b, o, rfl, hlt, hrow⟩ := HR.out hne
    obtain ⟨hB, -, hfr⟩ := HO.out.free b rfl
    have HC0 : Hid (∀ i, i < n → ∃ nd, RMsgAt w b (o + i * 4) nd) := hide (fun i hi => ⟨_, hrow.get i (by rw [HN.out]; exact hi)⟩)
    have HFR := hide hfr
    clear hrow hfr
    go_enter Tryz.func95, Tryz.ntmps95
    go_wp2_with fail
    go_loopw [1, 5] (fun kv i wr => ∃ k : Nat, k ≤ n ∧ i = .int .i64 k ∧ kv = .int .i64 ((k0 + k * 4 : Nat) : Int) ∧ (∀ j, j < k → RMsgAt wr b (o + j * 4) (markRMsg (k0 + j * 4))) ∧ (∀ j, j < n → ∃ nd, RMsgAt wr b (o + j * 4) nd) ∧ (∀ j, wr.frozen? ⟨b, j, none⟩ = false) ∧ w.grownBy wr (some b)) (fun _ i _ => n - (intOf i).toNat)
    case atStart => exact ⟨0, Nat.zero_le _, rfl, rfl, fun j h => absurd h (by omega), HC0.out, HFR.out, grown_refl _ _⟩
    case round =>
      obtain ⟨k, hk, rfl, rfl, hdone, hex, hfro, hgr⟩ := hrel
      have HD := hide hdone
      have HE := hide hex
      have HF := hide hfro
      have HG := hide hgr
      have hbw : b < wr.heap.size := Nat.lt_of_lt_of_le hlt hgr.size
      by_cases hkn : k < n
      · obtain ⟨nd, g0, g1, g2, g3⟩ := hex k hkn
        have hf0 := hfro (o + k * 4)
        obtain ⟨kk, hkk⟩ : ∃ kk, k0 + k * 4 = kk := ⟨_, rfl⟩
        rw [hkk]
        have hkk2 : kk < 5900001 := by omega
        have hkk1 : 1 ≤ kk := by omega
        have HKK := hide hkk
        have HO1 : Hid (∀ (W : World) (x : Value) (i j : Nat), i ≠ j → (W.setCell ⟨b, o + k * 4 + i, none⟩ x).cell? ⟨b, o + k * 4 + j, none⟩ = W.cell? ⟨b, o + k * 4 + j, none⟩) := hide (fun W x i j hij =>
          World.cell?_setCell_other _ _ _ _ (fun h => hij (by injection h with h1 h2; omega)))
        have HG5 := hide (And.intro g0 (And.intro g1 (And.intro g2 g3)))
        clear hdone hex hfro hgr hkk g1 g2 g3
        go_wp2_with (first
          | (go_at_call 55; refine (mark_text_at (kk + 2) _ _ (by omega) (by omega) (by omega)).mono ?_; rintro e w3 ⟨rfl, hb3⟩; have hbw3 : b < w3.heap.size := (by have := hb3.size; (try simp at this); omega); have hk3 := (fun j => hb3.cell (p := ⟨b, j, none⟩) (by simpa using hbw2)); have HFW3 : Hid (∀ j, w3.frozen? ⟨b, j, none⟩ = false) := hide (fun j => (hb3.frozen (p := ⟨b, j, none⟩) (by simpa using hbw2)).trans ((World.frozen?_setCell _ _ _ _).trans (HFW2.out j))); have HK3 := hide hk3; have e3_2 : w3.cell? ⟨b, o + k * 4 + 2, none⟩ = some (.string nd.label) := ((HK3.out _).trans ((HO1.out _ _ 1 2 (by decide)).trans ((HK2.out _).trans ((HO1.out _ _ 0 2 (by decide)).trans ((HK1.out _).trans HG5.out.2.2.1))))); have e3_3 : w3.cell? ⟨b, o + k * 4 + 3, none⟩ = some (.int .i64 nd.sort) := ((HK3.out _).trans ((HO1.out _ _ 1 3 (by decide)).trans ((HK2.out _).trans ((HO1.out _ _ 0 3 (by decide)).trans ((HK1.out _).trans HG5.out.2.2.2))))); have q3_2 := HFW3.out (o + k * 4 + 2); have q3_3 := HFW3.out (o + k * 4 + 3); have HGR3 : Hid (w.grownBy w3 (some b)) := hide (grown_below (grown_set HGR2.out _ _) hb3); clear hb3 hk3)
          | (go_at_call 55; refine (mark_text_at (kk + 1) _ _ (by omega) (by omega) (by omega)).mono ?_; rintro e w2 ⟨rfl, hb2⟩; have hbw2 : b < w2.heap.size := (by have := hb2.size; (try simp at this); omega); have hk2 := (fun j => hb2.cell (p := ⟨b, j, none⟩) (by simpa using hbw1)); have HFW2 : Hid (∀ j, w2.frozen? ⟨b, j, none⟩ = false) := hide (fun j => (hb2.frozen (p := ⟨b, j, none⟩) (by simpa using hbw1)).trans ((World.frozen?_setCell _ _ _ _).trans (HFW1.out j))); have HK2 := hide hk2; have e2_1 : w2.cell? ⟨b, o + k * 4 + 1, none⟩ = some (.string nd.to) := ((HK2.out _).trans ((HO1.out _ _ 0 1 (by decide)).trans ((HK1.out _).trans HG5.out.2.1))); have e2_2 : w2.cell? ⟨b, o + k * 4 + 2, none⟩ = some (.string nd.label) := ((HK2.out _).trans ((HO1.out _ _ 0 2 (by decide)).trans ((HK1.out _).trans HG5.out.2.2.1))); have e2_3 : w2.cell? ⟨b, o + k * 4 + 3, none⟩ = some (.int .i64 nd.sort) := ((HK2.out _).trans ((HO1.out _ _ 0 3 (by decide)).trans ((HK1.out _).trans HG5.out.2.2.2))); have q2_1 := HFW2.out (o + k * 4 + 1); have q2_2 := HFW2.out (o + k * 4 + 2); have q2_3 := HFW2.out (o + k * 4 + 3); have HGR2 : Hid (w.grownBy w2 (some b)) := hide (grown_below (grown_set HGR1.out _ _) hb2); clear hb2 hk2)
          | (go_at_call 55; refine (mark_text_at (kk + 0) _ _ (by omega) (by omega) (by omega)).mono ?_; rintro e w1 ⟨rfl, hb1⟩; have hbw1 : b < w1.heap.size := (by have := hb1.size; (try simp at this); omega); have hk1 := (fun j => hb1.cell (p := ⟨b, j, none⟩) (by simpa using hbw)); have HFW1 : Hid (∀ j, w1.frozen? ⟨b, j, none⟩ = false) := hide (fun j => (hb1.frozen (p := ⟨b, j, none⟩) (by simpa using hbw)).trans (HF.out j)); have HK1 := hide hk1; have e1_0 : w1.cell? ⟨b, o + k * 4, none⟩ = some (.string nd.frm) := ((HK1.out _).trans HG5.out.1); have e1_1 : w1.cell? ⟨b, o + k * 4 + 1, none⟩ = some (.string nd.to) := ((HK1.out _).trans HG5.out.2.1); have e1_2 : w1.cell? ⟨b, o + k * 4 + 2, none⟩ = some (.string nd.label) := ((HK1.out _).trans HG5.out.2.2.1); have e1_3 : w1.cell? ⟨b, o + k * 4 + 3, none⟩ = some (.int .i64 nd.sort) := ((HK1.out _).trans HG5.out.2.2.2); have q1_0 := HFW1.out (o + k * 4); have q1_1 := HFW1.out (o + k * 4 + 1); have q1_2 := HFW1.out (o + k * 4 + 2); have q1_3 := HFW1.out (o + k * 4 + 3); have HGR1 : Hid (w.grownBy w1 (some b)) := hide (grown_below HG.out hb1); clear hb1 hk1))
        go_roundw
        case rel =>
          have hs : ∀ (W : World) (x : Value) (p q : Nat), p ≠ q → (W.setCell ⟨b, p, none⟩ x).cell? ⟨b, q, none⟩ = W.cell? ⟨b, q, none⟩ := fun W x p q hpq =>
            World.cell?_setCell_other _ _ _ _ (fun h => hpq (by injection h))
          have hfar : ∀ x, (x < o + k * 4 ∨ o + k * 4 + 4 ≤ x) → (((w3.setCell ⟨b, o + k * 4 + 2, none⟩ (.string (markT (kk + 2)))).setCell ⟨b, o + k * 4 + 3, none⟩ (.int .i64 ((kk : Int) + 1 + 1 + 1)))).cell? ⟨b, x, none⟩ = wr.cell? ⟨b, x, none⟩ := fun x hx => by
            rw [hs _ _ _ _ (by omega), hs _ _ _ _ (by omega), HK3.out, hs _ _ _ _ (by omega), HK2.out, hs _ _ _ _ (by omega), HK1.out]
          have hnew : RMsgAt (((w3.setCell ⟨b, o + k * 4 + 2, none⟩ (.string (markT (kk + 2)))).setCell ⟨b, o + k * 4 + 3, none⟩ (.int .i64 ((kk : Int) + 1 + 1 + 1)))) b (o + k * 4) (markRMsg kk) := by
            refine ⟨?_, ?_, ?_, ?_⟩
            · rw [hs _ _ _ _ (by omega), hs _ _ _ _ (by omega), HK3.out, hs _ _ _ _ (by omega), HK2.out]
              refine (World.cell?_setCell_same _ _ _ (u := .string nd.frm) (by exact e1_0)).trans (by simp [markRMsg]; try omega)
            · rw [hs _ _ _ _ (by omega), hs _ _ _ _ (by omega), HK3.out]
              refine (World.cell?_setCell_same _ _ _ (u := .string nd.to) (by exact e2_1)).trans (by simp [markRMsg]; try omega)
            · rw [hs _ _ _ _ (by omega)]
              refine (World.cell?_setCell_same _ _ _ (u := .string nd.label) (by exact e3_2)).trans (by simp [markRMsg]; try omega)
            · refine (World.cell?_setCell_same _ _ _ (u := .int .i64 nd.sort) (by rw [hs _ _ _ _ (by omega)]; exact e3_3)).trans (by simp [markRMsg]; try omega)
          have hkeep : ∀ j x, j ≠ k → RMsgAt wr b (o + j * 4) x → RMsgAt (((w3.setCell ⟨b, o + k * 4 + 2, none⟩ (.string (markT (kk + 2)))).setCell ⟨b, o + k * 4 + 3, none⟩ (.int .i64 ((kk : Int) + 1 + 1 + 1)))) b (o + j * 4) x := fun j x hj hx => by
            obtain ⟨a0, a1, a2, a3⟩ := hx
            exact ⟨(hfar _ (by omega)).trans a0, (hfar _ (by omega)).trans a1, (hfar _ (by omega)).trans a2, (hfar _ (by omega)).trans a3⟩
          refine ⟨k + 1, by omega, by go_num, by have := HKK.out; congr 1; omega, fun j hj => ?_, fun j hj => ?_, fun j => ?_, (grown_set (grown_set HGR3.out _ _) _ _)⟩
          · by_cases hjk : j = k
            · subst hjk; rw [HKK.out]; exact hnew
            · exact hkeep j _ hjk (HD.out j (by omega))
          · by_cases hjk : j = k
            · subst hjk; exact ⟨_, hnew⟩
            · obtain ⟨x, hx⟩ := HE.out j hj
              exact ⟨x, hkeep j x hjk hx⟩
          · rw [World.frozen?_setCell, World.frozen?_setCell]
            exact HFW3.out j
        case measure => simp [intOf]; omega
      · clear hdone hex hfro hgr
        go_wp2_with fail
        go_ret
        refine ⟨ret_int (by omega), ⟨_, _, by rw [markRMsgs_len], by rw [markRMsgs_len]; exact hc, by rw [markRMsgs_len]; exact hm, fun _ => ⟨b, o, rfl, Nat.lt_of_lt_of_le hlt HG.out.size, RMsgs.of _ _ _ _ (fun j hj => ?_)⟩⟩, HG.out⟩
        rw [markRMsgs_get]
        rw [markRMsgs_len] at hj
        exact HD.out j (by omega)

set_option maxRecDepth 100000 in
set_option maxHeartbeats 1000000 in
theorem held_msgs (k0 n : Nat) (v : Value) (w : World) (h1 : 1 ≤ k0) (hk : k0 + n * 4 ≤ 5900000) (hv : RMsgSl w w.heap.size v (markRMsgs k0 n)) :
    Calls Tryz.prog 98 #[v, .int .i64 k0] w fun e w' => e = .returned (.int .i64 ((k0 + n * 4 : Nat) : Int)) ∧ Below w.heap.size w w' := by
  obtain ⟨ao, cap, rfl, hc, hm, hr⟩ := hv
  rw [markRMsgs_len] at hc ⊢
  have HR := hide hr
  clear hr
  go_enter Tryz.func98, Tryz.ntmps98
  go_wp2_with fail
  go_loopw [1, 5] (fun kv i wr => ∃ k : Nat, k ≤ n ∧ i = .int .i64 k ∧ kv = .int .i64 ((k0 + k * 4 : Nat) : Int) ∧ Below w.heap.size w wr) (fun _ i _ => n - (intOf i).toNat)
  case atStart => exact ⟨0, Nat.zero_le _, rfl, rfl, Below.refl _ _⟩
  case round =>
    obtain ⟨k, hkn, rfl, rfl, hbel⟩ := hrel
    have HBEL := hide hbel
    have hszr := hbel.size
    by_cases hlt : k < n
    · have hlt' : k < (markRMsgs k0 n).length := by rw [markRMsgs_len]; exact hlt
      obtain ⟨b, o, rfl, hbB, hrow⟩ := HR.out (by intro h; rw [h] at hlt'; simp at hlt')
      have hnode := (hrow.get k hlt').carry hbB hbel
      rw [markRMsgs_get] at hnode
      obtain ⟨kk, hkk⟩ : ∃ kk, k0 + k * 4 = kk := ⟨_, rfl⟩
      rw [hkk] at hnode ⊢
      have hkk2 : kk < 5900001 := by omega
      have hkk1 : 1 ≤ kk := by omega
      have HKK := hide hkk
      obtain ⟨c0, c1, c2, c3⟩ := hnode
      simp only [markRMsg] at c0 c1 c2 c3
      clear hbel hrow hkk
      go_wp2_with fail
      refine wp_region_grown (by kernel_rfl) (by kernel_rfl) (fun W hW => ?_)
      have hne := grown_some W
      have f0 := grown_cell (w := W) (b := b) (by rw [hW]; exact c0)
      have f1 := grown_cell (w := W) (b := b) (by rw [hW]; exact c1)
      have f2 := grown_cell (w := W) (b := b) (by rw [hW]; exact c2)
      have f3 := grown_cell (w := W) (b := b) (by rw [hW]; exact c3)
      have HWE := hide hW
      clear hW
      repeat (go_big_quiet_step ((go_at_call 55; exact grown_more (mark_text_at (kk + 0) _ _ (by omega) (by omega) (by omega)))))
      refine wpQuiet_nil ?_
      intro w1 hw1
      have c1_0 := f0 ⟨w1, hw1⟩
      have c1_1 := f1 ⟨w1, hw1⟩
      have c1_2 := f2 ⟨w1, hw1⟩
      have c1_3 := f3 ⟨w1, hw1⟩
      dsimp only at c1_0 c1_1 c1_2 c1_3
      have HB1 : Hid (Below w.heap.size w w1) := hide (HBEL.out.trans ((by rw [HWE.out] at hw1; exact hw1 : Below wr.heap.size wr w1).mono HBEL.out.size))
      clear HWE hne hw1 f0 f1 f2 f3
      go_wp2_with fail
      refine wp_region_grown (by kernel_rfl) (by kernel_rfl) (fun W hW => ?_)
      have hne := grown_some W
      have f1 := grown_cell (w := W) (b := b) (by rw [hW]; exact c1_1)
      have f2 := grown_cell (w := W) (b := b) (by rw [hW]; exact c1_2)
      have f3 := grown_cell (w := W) (b := b) (by rw [hW]; exact c1_3)
      have HWE := hide hW
      clear hW
      repeat (go_big_quiet_step ((go_at_call 55; exact grown_more (mark_text_at (kk + 1) _ _ (by omega) (by omega) (by omega)))))
      refine wpQuiet_nil ?_
      intro w2 hw2
      have c2_1 := f1 ⟨w2, hw2⟩
      have c2_2 := f2 ⟨w2, hw2⟩
      have c2_3 := f3 ⟨w2, hw2⟩
      dsimp only at c2_1 c2_2 c2_3
      have HB2 : Hid (Below w.heap.size w w2) := hide (HB1.out.trans ((by rw [HWE.out] at hw2; exact hw2 : Below w1.heap.size w1 w2).mono HB1.out.size))
      clear HWE hne hw2 f1 f2 f3
      go_wp2_with fail
      refine wp_region_grown (by kernel_rfl) (by kernel_rfl) (fun W hW => ?_)
      have hne := grown_some W
      have f2 := grown_cell (w := W) (b := b) (by rw [hW]; exact c2_2)
      have f3 := grown_cell (w := W) (b := b) (by rw [hW]; exact c2_3)
      have HWE := hide hW
      clear hW
      repeat (go_big_quiet_step ((go_at_call 55; exact grown_more (mark_text_at (kk + 2) _ _ (by omega) (by omega) (by omega)))))
      refine wpQuiet_nil ?_
      intro w3 hw3
      have c3_2 := f2 ⟨w3, hw3⟩
      have c3_3 := f3 ⟨w3, hw3⟩
      dsimp only at c3_2 c3_3
      have HB3 : Hid (Below w.heap.size w w3) := hide (HB2.out.trans ((by rw [HWE.out] at hw3; exact hw3 : Below w2.heap.size w2 w3).mono HB2.out.size))
      clear HWE hne hw3 f2 f3
      go_wp2_with fail
      all_goals
        go_roundw
        case rel => exact ⟨k + 1, by omega, by go_num, by have := HKK.out; congr 1; omega, HB3.out⟩
        case measure => simp [intOf]; omega
    · clear hbel
      go_wp2_with fail
      go_ret
      exact ⟨ret_int (by omega), HBEL.out⟩
end Go.Proofs.YtaaeledleldllaaGreat
namespace Go.Proofs.YtaaeledleldllaaGreat
open Go.RowKit

def sortM (n : Int) : Bool := decide (0 ≤ n) && decide (n ≤ 2)
def msgB (m : RMsg) : Bool := nameB m.frm && (nameB m.to && (nameB m.label && (!(m.frm.toList == m.to.toList) && sortM m.sort)))
def isMsg (f t : ByteArray) (m : RMsg) : Bool := m.frm.toList == f.toList && m.to.toList == t.toList
def cntM (f t : ByteArray) (l : List RMsg) : Nat := l.countP (isMsg f t)
def netB (l : List RMsg) : Bool := decide (l.length ≤ 36) && l.all fun m => msgB m && decide (cntM m.frm m.to l ≤ 3)
theorem bytes_inj {a b : ByteArray} (h : a.toList = b.toList) : a = b := by
  rw [Go.ByteArray.toList_eq, Go.ByteArray.toList_eq] at h
  apply ByteArray.ext
  exact Array.ext' h
theorem isMsg_iff {f t : ByteArray} {m : RMsg} : isMsg f t m = true ↔ m.frm = f ∧ m.to = t := by
  simp only [isMsg, Bool.and_eq_true, beq_iff_eq]
  exact ⟨fun h => ⟨bytes_inj h.1, bytes_inj h.2⟩, fun h => by rw [h.1, h.2]; exact ⟨rfl, rfl⟩⟩
theorem isMsg_self (m : RMsg) : isMsg m.frm m.to m = true := isMsg_iff.2 ⟨rfl, rfl⟩
theorem cntM_app (f t : ByteArray) (a b : List RMsg) : cntM f t (a ++ b) = cntM f t a + cntM f t b := List.countP_append
theorem cntM_one (f t : ByteArray) (m : RMsg) : cntM f t [m] = if isMsg f t m then 1 else 0 := by
  simp [cntM, List.countP_cons]
theorem cntM_le (f t : ByteArray) (l : List RMsg) : cntM f t l ≤ l.length := List.countP_le_length
theorem cntM_take (f t : ByteArray) (l : List RMsg) (k : Nat) : cntM f t (l.take k) ≤ cntM f t l := by
  have := cntM_app f t (l.take k) (l.drop k)
  rw [List.take_append_drop] at this
  omega
theorem cntM_succ (f t : ByteArray) {l : List RMsg} {k : Nat} (h : k < l.length) : cntM f t (l.take (k + 1)) = cntM f t (l.take k) + if isMsg f t l[k] then 1 else 0 := by
  rw [List.take_succ_eq_append_getElem h, cntM_app, cntM_one]
theorem net_long {l : List RMsg} (h : 36 < l.length) : netB l = false := by
  rw [netB, decide_eq_false (by omega)]; rfl
theorem net_msg {l : List RMsg} {m : RMsg} (hm : m ∈ l) (h : msgB m = false) : netB l = false := by
  have : (l.all fun m => msgB m && decide (cntM m.frm m.to l ≤ 3)) = false := by
    rw [List.all_eq_false]; exact ⟨m, hm, by simp [h]⟩
  rw [netB, this, Bool.and_false]
theorem net_full {l : List RMsg} {m : RMsg} (hm : m ∈ l) (h : 3 < cntM m.frm m.to l) : netB l = false := by
  have : (l.all fun m => msgB m && decide (cntM m.frm m.to l ≤ 3)) = false := by
    rw [List.all_eq_false]; exact ⟨m, hm, by simp; intro _; omega⟩
  rw [netB, this, Bool.and_false]
theorem net_yes {l : List RMsg} (h1 : l.length ≤ 36) (h2 : ∀ m ∈ l, msgB m = true) (h3 : ∀ m ∈ l, cntM m.frm m.to l ≤ 3) : netB l = true := by
  rw [netB, decide_eq_true h1, Bool.true_and, List.all_eq_true]
  intro m hm
  rw [h2 m hm, decide_eq_true (h3 m hm)]; rfl
theorem ib_sort {q : Bool} {n : Int} (hq : sortM n = q) (w : World) :
    Calls Tryz.prog 148 #[.int .i64 n] w fun e w' => e = .returned (.bool q) ∧ w' = w := by
  have HQ := hide hq
  clear hq
  by_cases h : 0 ≤ n
  all_goals
    go_enter Tryz.func148, Tryz.ntmps148
    go_wp2_with fail
    go_ret
    exact ⟨ret_bool (by rw [← HQ.out]; simp [sortM, *]; try omega), rfl⟩
theorem sb_is (n lo hi : Int) (w : World) :
    Calls Tryz.prog 82 #[.int .i64 n, .int .i64 lo, .int .i64 hi] w fun e w' => e = .returned (.bool (decide (lo ≤ n) && decide (n ≤ hi))) ∧ w' = w := by
  by_cases h : lo ≤ n
  all_goals
    go_enter Tryz.func82, Tryz.ntmps82
    go_wp2_with fail
    go_ret
    refine ⟨ret_bool ?_, rfl⟩
    simp [*]
    try omega
theorem sb_sort {q : Bool} {n : Int} (hq : sortM n = q) (w : World) :
    Calls Tryz.prog 105 #[.int .i64 n] w fun e w' => e = .returned (.bool q) ∧ w' = w := by
  subst hq
  go_enter Tryz.func105, Tryz.ntmps105
  go_wp2_with (go_at_call 82; refine (sb_is _ _ _ _).mono ?_; rintro e w' ⟨rfl, rfl⟩)
  go_ret
  exact ⟨ret_bool rfl, rfl⟩
theorem in_name {q : Bool} {s : ByteArray} (h : nameB s = q) (hs : s.size ≤ maxLen) (w : World) :
    Calls Tryz.prog 75 #[.string s] w fun e w' => e = .returned (.bool q) ∧ w' = w := by subst h; exact impl_name s w hs
theorem sn_name {q : Bool} {s : ByteArray} (h : nameB s = q) (hs : s.size ≤ maxLen) (w : World) :
    Calls Tryz.prog 104 #[.string s] w fun e w' => e = .returned (.bool q) ∧ w' = w := by subst h; exact spec_name s w hs
end Go.Proofs.YtaaeledleldllaaGreat
namespace Go.Proofs.YtaaeledleldllaaGreat
open Go.RowKit

section
variable {P : Program} {ops : Array Oper} {md : Region.Mode} {C : World → Prop}
def sinkB1 (md : Region.Mode) (ops : Array Oper) (n : Nat) : Bool :=
  (List.range n).all fun i => i == 0 || (List.range (n + 1)).any fun j => decide (i < j) && Region.waitsFor md ops j i
theorem tail_waits1 {n : Nat} {listed : Array Bool} (hs : sinkB1 md ops n = true) (hc : Region.chainB md ops n = true) (hn : n < ops.size) (inv : HeadInv md ops n listed) :
    ∀ (d i : Nat), n - i = d → 0 < i → i < n → listed.getD i true = false → ∀ t, n ≤ t → t ∉ Region.ready md ops listed := by
  intro d
  induction d using Nat.strongRecOn with
  | _ d ih =>
    intro i hd hi0 hi hun t ht hr
    obtain ⟨_, ot, hot, hall⟩ := mem_ready.1 hr
    have htlt : t < ops.size := (Array.getElem?_eq_some_iff.1 hot).1
    by_cases htn : t = n
    · subst htn
      have h1 := List.all_eq_true.1 hs i (List.mem_range.2 hi)
      rw [Bool.or_eq_true] at h1
      rcases h1 with h1 | h1
      · simp at h1; omega
      obtain ⟨j, hj, hj2⟩ := List.any_eq_true.1 h1
      simp only [Bool.and_eq_true, decide_eq_true_eq] at hj2
      obtain ⟨oj, hoj, e, he, hb, hon⟩ := Region.waitsFor_spec hj2.2
      have hjle : j ≤ t := by have := List.mem_range.1 hj; omega
      by_cases hjt : j = t
      · subst hjt
        have : oj = ot := Option.some.inj (hoj.symm.trans hot)
        subst this
        have h2 := hall e he hb
        rw [hon, getD_both hun] at h2
        cases h2
      · cases hl : listed.getD j false with
        | true =>
          have h2 := inv.closed j oj hoj hl e he hb
          rw [hon, getD_both hun] at h2
          cases h2
        | false =>
          have hjs : j < listed.size := by rw [inv.size]; omega
          exact ih (t - j) (by omega) j rfl (by omega) (by omega) (getD_in hjs hl) t (Nat.le_refl _) hr
    · have h1 := List.all_eq_true.1 hc t (List.mem_range.2 htlt)
      simp only [Bool.or_eq_true, decide_eq_true_eq] at h1
      rcases h1 with h1 | h1
      · omega
      · obtain ⟨o', ho', e, he, hb, hon⟩ := Region.waitsFor_spec h1
        have : o' = ot := Option.some.inj (ho'.symm.trans hot)
        subst this
        have h2 := hall e he hb
        rw [hon, getD_both (inv.tail (t - 1) (by omega) (by omega))] at h2
        cases h2
theorem headQ_first1 {n i : Nat} {oi : Oper} {v : Value} {L : Array Bool → Act → Prop} (hi : ops[i]? = some oi) (hsel : ∀ (j : Nat) (o : Oper) cs b, ops[j]? = some o → o.op ≠ .select cs b)
    (hs : sinkB1 md ops n = true) (hc : Region.chainB md ops n = true) (hn : n < ops.size) (hi0 : 0 < i) (hin : i < n)
    (hdone : ∀ listed a, L listed a → ∀ j ∈ Region.ready md ops listed, n ≤ j) (f : Nat) :
    ∀ (listed : Array Bool) (a : Act), HeadInv md ops n listed →
      (∀ j oj, ops[j]? = some oj → j ≠ i → listed.getD j true = false → (∀ e ∈ oj.after, Region.binds md e = true → e.on ≠ i) → oi.apart ops oj = true) →
      i ∈ Region.ready md ops listed → YieldsIn P ops C oi v a →
      headQ P md ops C n L f (listed.setIfInBounds i true) (a.put oi.dst v) → headQ P md ops C n L (f + 1) listed a := by
  induction f with
  | zero =>
    intro listed a inv _ hr hy H
    refine ⟨fun h => (by rw [h] at hr; cases hr), fun j hj => ?_⟩
    have hjn : j < n := Nat.lt_of_not_le fun h => tail_waits1 hs hc hn inv _ i rfl hi0 hin (mem_ready.1 hr).1 j h hj
    refine ⟨hjn, ?_⟩
    by_cases hji : j = i
    · subst hji; exact hy.qOp hi H
    · exact absurd (hdone _ _ H j (ready_mono hj hji)) (by omega)
  | succ f ih =>
    intro listed a inv hfree hr hy H
    refine ⟨fun h => (by rw [h] at hr; cases hr), fun j hj => ?_⟩
    have hun := (mem_ready.1 hr).1
    have hjn : j < n := Nat.lt_of_not_le fun h => tail_waits1 hs hc hn inv _ i rfl hi0 hin hun j h hj
    refine ⟨hjn, ?_⟩
    by_cases hji : j = i
    · subst hji; exact hy.qOp hi H
    · obtain ⟨hjun, oj, hoj, hall⟩ := mem_ready.1 hj
      have hnot : ∀ e ∈ oj.after, Region.binds md e = true → e.on ≠ i := fun e he hb heq => by
        have h1 := hall e he hb
        rw [heq, getD_both hun] at h1
        cases h1
      have h2 := qOp_put hoj (hfree j oj hoj hji hjun hnot) (fun cs b => hsel i oi cs b hi) (fun cs b => hsel j oj cs b hoj) hy (H.2 j (ready_mono hj hji)).2
      refine qOp_mono (fun a' h3 => ih (listed.setIfInBounds j true) a' (inv.set hj hjn) (fun k ok hk hki hk' hno => ?_) (ready_mono hr (Ne.symm hji)) h3.1 ?_) h2
      · refine hfree k ok hk hki ?_ hno
        by_cases hjk : j = k
        · subst hjk; exact hjun
        · rwa [getD_set_ne true hjk] at hk'
      · rw [Array.setIfInBounds_comm _ _ hji]
        exact h3.2
theorem headQ_lex1 {n g : Nat} {Lq : Act → Prop} (hsel : Region.noSelect ops = true) (hs : sinkB1 md ops n = true) (hc : Region.chainB md ops n = true) (hn : n < ops.size) :
    ∀ (l : List Oper) (k : Nat) (listed : Array Bool) (a : Act), 0 < k → (∀ j, j < l.length → l[j]? = ops[k + j]?) → k + l.length = n → HeadInv md ops n listed →
    Region.lexHead md ops g l.length k listed = true → wpQuiet P ops C Lq l a →
    headQ P md ops C n (fun listed' a' => Region.seqB md ops g n listed' = true ∧ Lq a') l.length listed a
  | [], k, listed, a, _, _, hk, _, hB, h => by
    have e : k = n := by simpa using hk
    subst e
    exact ⟨by simpa [Region.lexHead] using hB, h⟩
  | o :: l, k, listed, a, hk0, hl, hk, inv, hB, h => by
    have h0 : ops[k]? = some o := by simpa using (hl 0 (by simp)).symm
    simp only [List.length_cons, Region.lexHead, Bool.and_eq_true] at hB
    have hkn : k < n := by simp only [List.length_cons] at hk; omega
    have hr : k ∈ Region.ready md ops listed := by simpa using hB.1.1
    obtain ⟨v, hy, hK⟩ := yieldsIn_of_qOp h0 (show qOp P ops C k (wpQuiet P ops C Lq l) a by unfold qOp; simp only [h0]; exact h)
    exact headQ_first1 h0 (Region.noSelect_spec hsel) hs hc hn hk0 hkn (fun _ _ hL => seqB_ready hL.1) l.length listed a inv (Region.free_spec h0 hB.1.2) hr hy
      (headQ_lex1 hsel hs hc hn l (k + 1) _ _ (by omega) (fun j hj => by have := hl (j + 1) (by simp; omega); simpa [Nat.add_assoc, Nat.add_comm 1 j] using this) (by simp only [List.length_cons] at hk; omega) (inv.set hr hkn) hB.2 hK)
end
def tailB1 (ops : Array Oper) (n : Nat) : Bool :=
  Region.noSelect ops && decide (n + 1 < ops.size) && sinkB1 .any ops (n + 1) && Region.chainB .any ops (n + 1) && (Region.ready .any ops (Array.replicate ops.size false)).contains 0 && Region.free .any ops (Array.replicate ops.size false) 0 && Region.lexHead .any ops (ops.size - (n + 1)) n 1 ((Array.replicate ops.size false).setIfInBounds 0 true)
theorem wp_region_tail1 {P : Program} {id : Nat} {Q : Exit → Act → World → Prop} {a : Act} {w : World} {o0 : Oper} {l : List Oper} (n : Nat) (x : Operand) (v0 : Value) (hv0 : a.eval x = v0) (hop : o0.op = .move x) (hg : o0.guard = none) (hm : P.follows .mixedOrders = true) (hB : tailB1 (o0 :: l).toArray n = true)
    (hQ' : ∀ c v a w, Q (.panic c) (a.put o0.dst v) w → Q (.panic c) a w)
    (h : ∀ W, W = w → wpQuiet P (o0 :: l).toArray (fun w' => ∃ g : Grown W, w' = g.val) (fun a' => ∀ w', Below W.heap.size W w' → wpList P (o0 :: l).toArray Q (l.drop n) a' w') (l.take n) (a.put o0.dst v0)) : (Code.region id (o0 :: l).toArray true).wp P Q a w := by
  subst hv0
  simp only [tailB1, Bool.and_eq_true, decide_eq_true_eq] at hB
  obtain ⟨⟨⟨⟨⟨⟨hsel, hn⟩, hs⟩, hc⟩, hr0⟩, hf0⟩, hlex⟩ := hB
  have hnl : n < l.length := by simp at hn; exact hn
  have htl : (l.take n).length = n := by simp; omega
  have hdl : (l.drop n).length = (o0 :: l).toArray.size - (n + 1) := by simp
  have h00 : (o0 :: l).toArray[0]? = some o0 := by simp
  have hr0' : 0 ∈ Region.ready .any (o0 :: l).toArray (Array.replicate (o0 :: l).toArray.size false) := by simpa using hr0
  have inv00 : HeadInv .any (o0 :: l).toArray (n + 1) (Array.replicate (o0 :: l).toArray.size false) :=
    ⟨by simp, fun j oj _ hl => (by rw [getD_replicate_false] at hl; cases hl), fun t _ ht => getD_in (by simpa using ht) (getD_replicate_false _ _)⟩
  have inv0 := inv00.set hr0' (by omega)
  have H := headQ_lex1 (md := .any) (C := fun w' => ∃ g : Grown w, w' = g.val) (g := (o0 :: l).toArray.size - (n + 1)) hsel hs hc hn (l.take n) 1 _ _ (by omega) (fun j hj => by
    have hj' : j < n := by rw [htl] at hj; exact hj
    simp [hj', Nat.add_comm 1 j]) (by rw [htl]; omega) inv0 (by rw [htl]; exact hlex) (h w rfl)
  refine wp_region_any hm ?_
  have K := any_of_headQ (Q' := Q) (g := (o0 :: l).toArray.size - (n + 1)) (fun listed a' w' hw hL => by
    obtain ⟨g, rfl⟩ := hw
    have := wpAny_of_seq (md := .any) (Q' := Q) (l.drop n) (n + 1) listed a' g.val (fun j => by rw [List.getElem?_drop, show n + 1 + j = (n + j) + 1 by omega]; simp) (by rw [hdl]; exact hL.1) (hL.2 _ g.bel)
    rwa [hdl] at this) _ _ _ { w with drawn := w.drawn + 1 } ⟨⟨_, (Below.refl _ _).drew⟩, rfl⟩ H
  have hsz : (o0 :: l).toArray.size = (l.take n).length + ((o0 :: l).toArray.size - (n + 1)) + 1 := by rw [htl]; simp; omega
  have T := wpAny_take (md := .any) (Q := Q) (v := a.eval x) h00 hsel hf0 hr0 (fun c a w => hQ' c _ a w) (.inl ⟨by unfold Region.wanted; rw [hg], fun w => by simp [execOp, hop]⟩) K
  rw [← hsz] at T
  exact T
end Go.Proofs.YtaaeledleldllaaGreat
namespace Go.Proofs.YtaaeledleldllaaGreat
open Go.RowKit

theorem RActSl.sep {w w' : World} {v : Value} {x : List RAct} {l : List Nat} (h : RActSl w w.heap.size v x) (ha : Apart w w' l) (hd : ∀ b ∈ vblocks v, b ∉ l) : RActSl w' w'.heap.size v x := by
  have H := h
  obtain ⟨a1, c1, rfl, _⟩ := h
  exact H.keep ha.size (fun b hb hlt => ha.block b hlt (hd b ((own_blocks rfl).1 hb)))
theorem RActSl.far {w w' : World} {v : Value} {x : List RAct} {l : List Nat} (h : RActSl w w.heap.size v x) (ha : Apart w w' l) (hd : ∀ b ∈ l, w.heap.size ≤ b) : RActSl w' w'.heap.size v x := by
  have H := h
  obtain ⟨a1, c1, rfl, _⟩ := h
  exact H.keep ha.size (fun b hb hlt => ha.block b hlt (fun hm => absurd (hd b hm) (by omega)))
theorem RActSl.shape {w : World} {B : Nat} {v : Value} {x : List RAct} (h : RActSl w B v x) : ∃ p c, v = .slice p x.length c := by
  obtain ⟨a1, c1, e, _⟩ := h
  exact ⟨a1, c1, e⟩
end Go.Proofs.YtaaeledleldllaaGreat
namespace Go.Proofs.YtaaeledleldllaaGreat
open Go.RowKit

def GivesN (P : Program) (gf : Nat) (lb : Array Value) (N : Nat) (Y : Nat → Array Value → World → World → Prop) (K : World → Prop) : Prop :=
  ∀ (l : Nat) (J : Nat → List Nat → World → Prop) (X : List Nat) (W : World), (∀ k X W1 W2, J k X W1 → Below W1.heap.size W1 W2 → J k X W2) → (∀ k X W1, J k X W1 → K W1 ∧ ∀ b ∈ X, b < W1.heap.size) →
    (∀ k args X W0 W1, k < N → J k X W0 → Below W0.heap.size W0 W1 → Y k args W0 W1 → YieldAt Fence.wide 0 P l args W1 fun e W' => e = .returned (.bool true) ∧ ∃ X', J (k + 1) X' W' ∧ Apart W1 W' X ∧ ∀ b ∈ X', b ∈ X ∨ W1.heap.size ≤ b) →
    J 0 X W → CallsIn Fence.wide 0 P gf (#[.func (.yield l) #[] #[]] ++ lb) W fun e W' => (∃ v, e = .returned v) ∧ ∃ X, J N X W'

theorem apart_sub {w w' : World} {l l' : List Nat} (h : Apart w w' l) (hs : ∀ b ∈ l, b ∈ l') : Apart w w' l' := ⟨h.os, h.tape, h.output, h.size, fun b hb hn => h.block b hb (fun hm => hn (hs b hm))⟩
theorem put_apart (w : World) (l : Nat) (o : Obj) : Apart w (w.putObj l o) [l] :=
  ⟨rfl, rfl, rfl, by simp, fun b _ hn => World.putObj_heap_other (by intro e; exact hn (by simp [e]))⟩

def rdPost (I : Nat → List Nat → World → Prop) (k B : Nat) (X : List Nat) (W : World) : Exit → Act → World → Prop
  | .normal, _, W' => Apart W W' X ∧ ∃ X', I (k + 1) X' W' ∧ ∀ b ∈ X', b ∈ X ∨ B ≤ b
  | _, _, _ => False

theorem wp_range {P : Program} {g : Operand} {ps : Array Tmp} {assign body : Code} {Q : Exit → Act → World → Prop} {a : Act} {w : World} {gf : Nat} {lb : Array Value} {N : Nat} {Y : Nat → Array Value → World → World → Prop} {K : World → Prop}
    (hg : a.eval g = .func (.func gf) #[] lb) (eg : ∀ args w, (callFunc gf args).run P w = .ok (.enter gf args) w)
    (hseq : GivesN P gf lb N Y K) (hps : ∀ k args W0 W, Y k args W0 W → args.size = ps.size)
    (I : Nat → List Nat → World → Prop) (hIb : ∀ k X W1 W2, I k X W1 → Below W1.heap.size W1 W2 → I k X W2)
    (hIp : ∀ k X W W', I k X W → w.heap.size ∉ X → w.heap.size + 1 ∉ X → W.heap.size = W'.heap.size → Apart W W' [w.heap.size + 1] → I k X W') (hIK : ∀ k X W, I k X W → K W ∧ ∀ b ∈ X, b < W.heap.size) (X0 : List Nat) (h0 : I 0 X0 w)
    (hround : ∀ k args X W0 W, k < N → I k X W0 → w.heap.size + 2 ≤ W0.heap.size → w.heap.size ∉ X → w.heap.size + 1 ∉ X → Below W0.heap.size W0 W → Y k args W0 W →
      assign.wpIn (Fence.wide.inRound (w.heap.size + 1)) 0 P (Exit.then (fun a₁ W₁ => Below W.heap.size W W₁ ∧ ∀ W₂, Apart W₁ W₂ [w.heap.size + 1] → W₂.heap.size = W₁.heap.size →
        body.wpIn (Fence.wide.inRound (w.heap.size + 1)) 0 P (rdPost I k W.heap.size X W₂) a₁ W₂) (fun _ _ _ => False))
        { tmps := (ps.zip args).foldl (fun t (p, v) => t.setIfInBounds p v) a.tmps, defers := [] } W)
    (hdone : ∀ X W, I N X W → w.heap.size ∉ X → w.heap.size + 1 ∉ X → w.heap.size + 2 ≤ W.heap.size → W.heap[w.heap.size]? = some (.deferred (some [])) → Q .normal { a with defers := { target := .collected w.heap.size, args := #[] } :: a.defers } W) :
    (Code.rangeFunc g ps assign body).wpIn Fence.wide 0 P Q a w := by
  refine wpIn_rangeFunc ?_
  intro fn hfn
  obtain ⟨rc, hrc⟩ : ∃ rc : Loop, rc = { state := .ready, pending := none, fn := fn, tmps := a.tmps, params := ps, assign := assign, body := body, defers := w.heap.size } := ⟨_, rfl⟩
  have hB : Below w.heap.size w ((w.alloc (.deferred (some []))).alloc (.loop rc)) := ((Below.refl _ w).alloc (Nat.le_refl _) _).alloc (by simp) _
  have hl0 : ((w.alloc (.deferred (some []))).alloc (.loop rc)).heap[w.heap.size + 1]? = some (.loop rc) := by
    have := World.alloc_heap_new (w.alloc (.deferred (some []))) (.loop rc)
    rwa [World.size_alloc] at this
  have hd0 : ((w.alloc (.deferred (some []))).alloc (.loop rc)).heap[w.heap.size]? = some (.deferred (some [])) :=
    (Below.heap_alloc _ _ _ (by simp)).trans (World.alloc_heap_new w _)
  obtain ⟨W0, hW0⟩ : ∃ W0, W0 = (w.alloc (.deferred (some []))).alloc (.loop rc) := ⟨_, rfl⟩
  rw [← hW0] at hB hl0 hd0
  refine ⟨w.heap.size + 1, [{ target := .collected w.heap.size, args := #[] }], W0, { target := .fn (.func gf) lb, args := #[.func (.yield (w.heap.size + 1)) #[] #[]] }, W0, gf, #[.func (.yield (w.heap.size + 1)) #[] #[]] ++ lb, W0, ?_, ?_, fun _ _ => trivial, ?_, fun h => by simp [Fence.wide] at h, ?_⟩
  · rw [hW0, hrc]
    exact run_enterLoop_outer _ _ _ _ _
  · simp only [resolve, hg]
    simp [go_sem]
  · simp [invoke, go_sem, eg]
  · refine (hseq (w.heap.size + 1) (fun k X W => ∃ X', X = (w.heap.size + 1) :: X' ∧ I k X' W ∧ (w.heap.size ∉ X' ∧ w.heap.size + 1 ∉ X') ∧ W.heap[w.heap.size + 1]? = some (.loop rc) ∧ W.heap[w.heap.size]? = some (.deferred (some []))) ((w.heap.size + 1) :: X0) W0 ?_ ?_ ?_ ⟨X0, rfl, hIb 0 X0 w W0 h0 hB, ⟨fun hm => absurd ((hIK 0 X0 w h0).2 _ hm) (by omega), fun hm => absurd ((hIK 0 X0 w h0).2 _ hm) (by omega)⟩, hl0, hd0⟩).mono ?_
    · rintro k X W1 W2 ⟨X', e, hi, hx, hl, hd⟩ hb
      exact ⟨X', e, hIb k X' W1 W2 hi hb, hx, (hb.block _ (Array.getElem?_eq_some_iff.1 hl).1).trans hl, (hb.block _ (Array.getElem?_eq_some_iff.1 hd).1).trans hd⟩
    · rintro k X W1 ⟨X', rfl, hi, hx, hl, hd⟩
      refine ⟨(hIK k X' W1 hi).1, fun b hb => ?_⟩
      rcases List.mem_cons.1 hb with rfl | hb
      · exact (Array.getElem?_eq_some_iff.1 hl).1
      · exact (hIK k X' W1 hi).2 b hb
    · rintro k args X W1 W hk ⟨X', rfl, hi, hx, hl, hd⟩ hbW hy
      have hlt := (Array.getElem?_eq_some_iff.1 hl).1
      have hltW : w.heap.size + 1 < W.heap.size := Nat.lt_of_lt_of_le hlt hbW.size
      have hlW : W.heap[w.heap.size + 1]? = some (.loop rc) := (hbW.block _ hlt).trans hl
      have hdW : W.heap[w.heap.size]? = some (.deferred (some [])) := (hbW.block _ (by omega)).trans hd
      refine ⟨fn, _, assign, body, by have := run_yield (P := P) (args := args) hlW (by rw [hrc]; exact hps k args W1 W hy); rw [hrc] at this; exact this, roundIn_of_wpIn trivial ?_⟩
      refine wpIn_mono (hround k args X' W1 W hk hi (by omega) hx.1 hx.2 hbW hy) ?_
      intro e a1 W2 hq
      cases e with
      | normal =>
        obtain ⟨hb2, hbody⟩ := hq
        have hl2 : W2.heap[w.heap.size + 1]? = some (.loop rc) := (hb2.block _ hltW).trans hlW
        have hd2 : W2.heap[w.heap.size]? = some (.deferred (some [])) := (hb2.block _ (by omega)).trans hdW
        have hlt2 := (Array.getElem?_eq_some_iff.1 hl2).1
        refine ⟨_, run_beginRound hl2 (by rw [hrc]), wpIn_mono (hbody _ (put_apart _ _ _) (by simp)) ?_⟩
        intro e3 a3 W3 h3
        cases e3 with
        | normal =>
          obtain ⟨hap, X'', hi3, hx3⟩ := h3
          have hlt2' : w.heap.size + 1 < (W2.putObj (w.heap.size + 1) (.loop { rc with state := .busy })).heap.size := by simpa using hlt2
          have e2 := (hap.block _ hlt2' hx.2).trans (World.putObj_heap_same hlt2)
          have e1 := (hap.block _ (Nat.lt_trans (by omega) hlt2') hx.1).trans ((World.putObj_heap_other (by omega)).trans hd2)
          have hlt3 := (Array.getElem?_eq_some_iff.1 e2).1
          have hx'' : w.heap.size ∉ X'' ∧ w.heap.size + 1 ∉ X'' := ⟨fun hm => by rcases hx3 _ hm with h | h; exact hx.1 h; omega, fun hm => by rcases hx3 _ hm with h | h; exact hx.2 h; omega⟩
          refine ⟨_, _, run_endRound none e2, rfl, (w.heap.size + 1) :: X'', ⟨X'', rfl, hIp _ _ _ _ hi3 hx''.1 hx''.2 (by simp) (put_apart _ _ _), hx'', ?_, (World.putObj_heap_other (by omega)).trans e1⟩, ?_, ?_⟩
          · rw [World.putObj_heap_same hlt3, hrc]
            rfl
          · refine apart_sub ((below_apart hb2).trans ((put_apart W2 (w.heap.size + 1) (.loop { rc with state := .busy })).trans (hap.trans (put_apart W3 (w.heap.size + 1) _)))) (fun b hb => ?_)
            simp only [List.nil_append, List.mem_append, List.mem_cons, List.not_mem_nil, or_false] at hb
            rcases hb with h | h | h
            · rw [h]; exact List.mem_cons_self
            · exact List.mem_cons_of_mem _ h
            · rw [h]; exact List.mem_cons_self
          · intro b hb
            rcases List.mem_cons.1 hb with rfl | hb
            · exact .inl List.mem_cons_self
            · rcases hx3 b hb with h | h
              · exact .inl (List.mem_cons_of_mem _ h)
              · exact .inr h
        | _ => exact h3.elim
      | _ => exact hq.elim
    · rintro e W2 ⟨⟨v, rfl⟩, X, X', rfl, hi, hx, hl, hd⟩
      have hlt := (Array.getElem?_eq_some_iff.1 hl).1
      refine ⟨none, _, by have := run_endLoop (P := P) hl (by rw [hrc]; simp); rw [hrc] at this; exact this, hdone X' _ (hIp _ _ _ _ hi hx.1 hx.2 (by simp) (put_apart _ _ _)) hx.1 hx.2 (by simp; omega) ((World.putObj_heap_other (by omega)).trans hd)⟩

theorem opIn_of {P : Program} {ops : Array Oper} {Q : Exit → Act → World → Prop} {K K' : Act → World → Prop} {i l : Nat} {a : Act} {w : World} (hnd : ∀ (o : Oper) (c : Call), ops[i]? = some o → o.op ≠ .defer c) (hlo : ¬ LetsOut Q) (hK : ∀ a w, K a w → K' a w)
    (h : wpOp P ops Q i K a w) : wpOpIn (Fence.wide.inRound l) 0 P ops Q i K' a w := by
  unfold wpOp at h
  unfold wpOpIn
  cases ho : ops[i]? with
  | none => simp only [ho] at h ⊢; exact hK _ _ h
  | some o =>
    simp only [ho] at h ⊢
    split
    · rename_i hw
      rw [if_pos hw] at h
      rcases h with h | ⟨-, h⟩
      · refine ⟨fun _ _ => trivial, ?_⟩
        have e : o.semAt (Fence.wide.inRound l).round a.eval = execOp a.eval o := Oper.semAt_some l _ o (fun c => hnd o c ho)
        rw [e]
        unfold Oper.wp at h
        cases hr : (execOp a.eval o).run P w with
        | ok x w' =>
          rw [hr] at h
          cases x with
          | value v => exact hK _ _ h
          | skip => exact hK _ _ h
          | defer d => exact hK _ _ h
          | enter f args =>
            refine ⟨fun h => by simp [Fence.wide, Fence.inRound] at h, CallsIn.inRound l (callsIn_wide.2 ?_)⟩
            refine Calls.mono h fun e w'' he => ?_
            cases e with
            | returned v => exact hK _ _ he
            | panicked c => exact he
            | outgrown => exact he
          | row r args => exact ⟨fun h => by simp [Fence.wide, Fence.inRound] at h, fun c cs _ => let ⟨v, w', r, s⟩ := h c cs; ⟨v, w', hK _ _ r, stepsIn_wide.2 s⟩⟩
          | round l f tmps assign body => exact h.elim
          | _ => exact h.elim
        | halt x w' =>
          rw [hr] at h
          cases x <;> exact h
      · exact absurd h hlo
    · rename_i hw
      rw [if_neg hw] at h
      exact ⟨fun _ _ => trivial, hK _ _ h⟩

theorem anyIn_of {P : Program} {md : Region.Mode} {ops : Array Oper} {Q : Exit → Act → World → Prop} {l : Nat} (hnd : ∀ (i : Nat) (o : Oper) (c : Call), ops[i]? = some o → o.op ≠ .defer c) (hlo : ¬ LetsOut Q) : ∀ (fuel : Nat) (listed : Array Bool) (a : Act) (w : World), wpAny P md ops Q fuel listed a w → wpAnyIn (Fence.wide.inRound l) 0 P md ops Q fuel listed a w
  | 0, _, _, _, h => h
  | fuel + 1, _, _, _, h => ⟨h.1, fun i hi => opIn_of (hnd i) hlo (fun a' w' h' => anyIn_of hnd hlo fuel _ a' w' h') (h.2 i hi)⟩
def noDefer (ops : Array Oper) : Bool := ops.all fun o => match o.op with | .defer _ => false | _ => true
theorem noDefer_spec {ops : Array Oper} (h : noDefer ops = true) : ∀ (i : Nat) (o : Oper) (c : Call), ops[i]? = some o → o.op ≠ .defer c := by
  intro i o c hi he
  unfold noDefer at h
  rw [Array.all_eq_true] at h
  obtain ⟨hlt, rfl⟩ := Array.getElem?_eq_some_iff.1 hi
  have := h i hlt
  rw [he] at this
  cases this
theorem region_round {P : Program} {id l : Nat} {ops : Array Oper} {Q : Exit → Act → World → Prop} {a : Act} {w : World} (hm : P.follows .mixedOrders = true) (hnd : noDefer ops = true) (hlo : ¬ LetsOut Q)
    (h : wpAny P .any ops Q ops.size (Array.replicate ops.size false) a w.drew) : (Code.region id ops true).wpIn (Fence.wide.inRound l) 0 P Q a w :=
  wpIn_region_any hm (anyIn_of (noDefer_spec hnd) hlo _ _ _ _ h)
end Go.Proofs.YtaaeledleldllaaGreat
namespace Go.Proofs.YtaaeledleldllaaGreat
open Go.RowKit Go.ChangeShapes Go.WideShapes

theorem Tryz.cRMsg : Tryz.prog.cellsOf 127 = 4 := by kernel_rfl
theorem open_msg {H : Type} {enc : TypeId × Value → H} {w : World} {base : Nat} {spare : Nat → Bool} {held : Bool} {fuel : Nat} {cs : List Value} {x : DataW H × List MemPlace} (h : DataW.trod enc Tryz.prog w base spare held fuel 127 cs = some x) :
    ∃ n : RMsg, n.ok ∧ cs[0]? = some (.string n.frm) ∧ cs[1]? = some (.string n.to) ∧ cs[2]? = some (.string n.label) ∧ cs[3]? = some (.int .i64 n.sort) := by
  obtain ⟨xs, n, _, _, hl, hlen, hf⟩ := DataW.trod_struct Tryz.underlying127 h
  have hx5 : xs.length = 4 := hlen
  match xs, hx5 with
  | [y0, y1, y2, y3], _ =>
    have g0 : DataW.trod enc Tryz.prog w base spare held n 9 ((cs.drop 0).take (Tryz.prog.cellsOf 9)) = some y0 := hf 0 _ rfl
    have g1 : DataW.trod enc Tryz.prog w base spare held n 9 ((cs.drop 1).take (Tryz.prog.cellsOf 9)) = some y1 := hf 1 _ rfl
    have g2 : DataW.trod enc Tryz.prog w base spare held n 9 ((cs.drop 2).take (Tryz.prog.cellsOf 9)) = some y2 := hf 2 _ rfl
    have g3 : DataW.trod enc Tryz.prog w base spare held n 2 ((cs.drop 3).take (Tryz.prog.cellsOf 2)) = some y3 := hf 3 _ rfl
    rw [Tryz.ocI] at g3
    rw [Tryz.ocS] at g0 g1 g2
    obtain ⟨z0, e0, _, k0⟩ := DataW.trod_string Tryz.underlying9 g0
    obtain ⟨z1, e1, _, k1⟩ := DataW.trod_string Tryz.underlying9 g1
    obtain ⟨z2, e2, _, k2⟩ := DataW.trod_string Tryz.underlying9 g2
    obtain ⟨z3, e3, _⟩ := DataW.trod_int Tryz.underlying2 g3
    exact ⟨⟨z0, z1, z2, z3⟩, ⟨k0, k1, k2⟩, m_one_of e0, m_one_of e1, m_one_of e2, m_one_of e3⟩

theorem open_msgs {H : Type} {enc : TypeId × Value → H} {w : World} {base : Nat} {spare : Nat → Bool} {held : Bool} {fuel : Nat} {a0 : Option Addr} {len0 cap0 : Nat} {x : DataW H × List MemPlace} (h : DataW.trod enc Tryz.prog w base spare held fuel 30 [.slice a0 len0 cap0] = some x) :
    ∃ ns : List RMsg, ns.length = len0 ∧ (∀ n ∈ ns, n.ok) ∧ ns.length ≤ maxLen ∧ (ns ≠ [] → ∃ b o, a0 = some ⟨b, o, none⟩ ∧ b < w.heap.size ∧ RMsgs w b o ns) := by
  rcases Go.Deep.open_slice Tryz.underlying30 h with ⟨h0, _⟩ | ⟨a, len, cap, m, n, D, Pl, hcs, hb, hl, hm, hmm, hx, hel⟩
  · simp at h0
    obtain ⟨rfl, rfl, rfl⟩ := h0
    exact ⟨[], rfl, by simp, Nat.zero_le _, fun h => absurd rfl h⟩
  · simp at hcs
    obtain ⟨rfl, rfl, rfl⟩ := hcs
    have hlm : len0 ≤ m := by rw [hmm]; split <;> omega
    have each : ∀ i, i < len0 → ∃ nd : RMsg, nd.ok ∧ ∀ b o, a = ⟨b, o, none⟩ → RMsgAt w b (o + i * 4) nd := by
      intro i hi
      obtain ⟨cs', h1, h2⟩ := hel i (by omega)
      rw [Tryz.cRMsg] at h1
      obtain ⟨_, hlen, hcell⟩ := World.cells?_some h1
      obtain ⟨nd, hok, e0, e1, e2, e3⟩ := open_msg h2
      refine ⟨nd, hok, fun b o hab => ?_⟩
      subst hab
      have pl : ∀ j, ((⟨b, o, none⟩ : Addr).add (i * 4)).add j = ⟨b, o + i * 4 + j, none⟩ := fun j => by
        rw [Go.Deep.add_add]
        unfold Addr.add
        split <;> simp_all <;> omega
      refine ⟨?_, ?_, ?_, ?_⟩
      · have := hcell 0 (by omega); rw [pl, e0] at this; exact this
      · have := hcell 1 (by omega); rw [pl, e1] at this; exact this
      · have := hcell 2 (by omega); rw [pl, e2] at this; exact this
      · have := hcell 3 (by omega); rw [pl, e3] at this; exact this
    have : Inhabited RMsg := ⟨⟨ByteArray.empty, ByteArray.empty, ByteArray.empty, 0⟩⟩
    obtain ⟨q, hq⟩ := Go.Deep.choose_lt each
    refine ⟨(List.range len0).map q, by simp, ?_, by simp; omega, fun hne => ?_⟩
    · intro x hx
      obtain ⟨i, hi, rfl⟩ := List.mem_map.1 hx
      exact (hq i (List.mem_range.1 hi)).1
    · have hpos : 0 < len0 := by
        rcases Nat.eq_zero_or_pos len0 with h | h
        · subst h; simp at hne
        · exact h
      obtain ⟨b, o, s⟩ := a
      have hsp : ∀ i, i < len0 → ((Addr.add ⟨b, o, s⟩ (i * 4)).add 0).spot = none := by
        intro i hi
        obtain ⟨cs', h1, h2⟩ := hel i (by omega)
        rw [Tryz.cRMsg] at h1
        obtain ⟨_, hlen, hcell⟩ := World.cells?_some h1
        obtain ⟨nd, hok, e0, _⟩ := open_msg h2
        have h0 := hcell 0 (by omega)
        rw [e0] at h0
        exact World.cell?_spot h0
      have hspot : s = none := by simpa [Addr.add] using hsp 0 hpos
      subst hspot
      have hrow : RMsgs w b o ((List.range len0).map q) := RMsgs.of w b _ o (fun j hj => by
        simp only [List.getElem_map, List.getElem_range]
        exact (hq j (by simpa using hj)).2 b o rfl)
      refine ⟨b, o, rfl, ?_, hrow⟩
      have := (hq 0 hpos).2 b o rfl
      exact this.lt
end Go.Proofs.YtaaeledleldllaaGreat
