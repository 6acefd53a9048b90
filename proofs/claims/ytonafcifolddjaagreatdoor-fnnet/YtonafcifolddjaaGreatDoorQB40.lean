/- What FnNet holds against each other; the draws of chapter 6. -/
import Derived.Test.YtonafcifolddjaaGreatDoorQB39
import Derived.Test.YtonafcifolddjaaGreatDoorQB22
import Derived.Deep.RegionHeld3
namespace Go.Proofs.YtonafcifolddjaaGreatDoor
open Go.RowKit
set_option linter.unusedSimpArgs false
set_option linter.unusedVariables false
attribute [local go_sem ↓] Go.wp_at_zero Go.wp_at_succ

theorem ms_self (m : RMsg) (W : World) : (Op.equalIn 10000 25 (.agg #[.string m.frm, .string m.to, .string m.label, .int .i64 m.sort]) (.agg #[.string m.frm, .string m.to, .string m.label, .int .i64 m.sort])).run Tryz.prog W = .ok true W := by
  go_simp
set_option maxRecDepth 100000 in
set_option maxHeartbeats 1000000 in
theorem lw_msgs (a : List RMsg) (u v : Value) (w : World) (hu : RMsgSl w w.heap.size u a) (hv : RMsgSl w w.heap.size v a) :
    Calls Tryz.prog 26 #[u, v] w fun e w' => e = .returned (.bool true) ∧ Below w.heap.size w w' := by
  obtain ⟨ax, cx, rfl, hcx, hmx, hrx⟩ := hu
  obtain ⟨ay, cy, rfl, hcy, hmy, hry⟩ := hv
  have HRX := hide hrx
  have HRY := hide hry
  obtain ⟨L, hA⟩ : ∃ L, a.length = L := ⟨_, rfl⟩
  rw [hA] at hcx hmx hcy ⊢
  have HL := hide hA
  clear hrx hry hA hmy
  go_enter Tryz.func26, Tryz.ntmps26
  go_wp2_with fail
  go_loopw [5] (fun i wr => ∃ k : Nat, k ≤ L ∧ i = .int .i64 k ∧ Below w.heap.size w wr) (fun i _ => L - (intOf i).toNat)
  case atStart => exact ⟨0, Nat.zero_le _, rfl, Below.refl _ _⟩
  case round =>
    obtain ⟨k, hk, rfl, hbel⟩ := hrel
    have HBEL := hide hbel
    clear hbel
    by_cases hlt : k < L
    · have hkx : k < a.length := by rw [HL.out]; exact hlt
      obtain ⟨g, o, rfl, hgB, hrow⟩ := HRX.out (by intro h; rw [h] at hkx; simp at hkx)
      obtain ⟨g', o', rfl, hgB', hrow'⟩ := HRY.out (by intro h; rw [h] at hkx; simp at hkx)
      have c0 := ((hrow.carry hgB HBEL.out).get k hkx)
      have d0 := ((hrow'.carry hgB' HBEL.out).get k hkx)
      obtain ⟨x, hx⟩ : ∃ x, a[k] = x := ⟨_, rfl⟩
      rw [hx] at c0 d0
      obtain ⟨c0, c1, c2, c3⟩ := c0
      obtain ⟨d0, d1, d2, d3⟩ := d0
      have heq := ms_self x
      clear hrow hrow' hx
      go_wp2_with fail
      go_region
      go_wp2_with fail
      all_goals
        go_roundw
        case rel => exact ⟨k + 1, hlt, by go_num, by first | exact HBEL.out | exact HBEL.out.drew⟩
        case measure => simp [intOf]; omega
    · obtain rfl : L = k := by omega
      go_wp2_with fail
      go_ret
      exact ⟨rfl, HBEL.out⟩
theorem two_cell {w W : World} {A B : Obj} {i : Nat} {v : Value} (hb : Below ((w.alloc A).alloc B).heap.size ((w.alloc A).alloc B) W) (h : (w.alloc A).cell? ⟨w.heap.size, i, none⟩ = some v) : W.cell? ⟨w.heap.size, i, none⟩ = some v :=
  (hb.cell (p := ⟨w.heap.size, i, none⟩) (by simp; omega)).trans (((malloc1 (w.alloc A) B).cell (p := ⟨w.heap.size, i, none⟩) (by simp)).trans h)
set_option maxRecDepth 100000 in
set_option maxHeartbeats 1000000 in
theorem lw_net (a : List RMsg) (m : RMsg) (C : Int) (pu : Option Addr) (cu : Nat) (pv : Option Addr) (cv : Nat) (w : World) (hu : RMsgSl w w.heap.size (.slice pu a.length cu) a) (hv : RMsgSl w w.heap.size (.slice pv a.length cv) a) (hok : ∀ x ∈ a, x.ok) (hn : C = 0 → netB a = true) :
    Calls Tryz.prog 15 #[netV (.slice pu a.length cu) m C, netV (.slice pv a.length cv) m C] w fun e w' => e = .returned (.bool true) ∧ Below w.heap.size w w' := by
  have HU : Hid (∀ W, Below w.heap.size w W → RMsgSl W W.heap.size (.slice pu a.length cu) a) := hide (fun W hb => (hu.carry hb).up hb.size)
  have HV : Hid (∀ W, Below w.heap.size w W → RMsgSl W W.heap.size (.slice pv a.length cv) a) := hide (fun W hb => (hv.carry hb).up hb.size)
  have HOK := hide hok
  have HN := hide hn
  have heq := ms_self m
  have HB2 : Hid (∀ o o' : Obj, Below w.heap.size w ((w.alloc o).alloc o')) := hide (fun o o' => (malloc1 w o).trans ((malloc1 _ o').mono (by simp)))
  obtain ⟨L, hL⟩ : ∃ L, a.length = L := ⟨_, rfl⟩
  rw [hL] at HU HV ⊢
  clear hu hv hok hn hL
  unfold netV
  by_cases hC : C = 0
  · subst hC
    have HNB := hide (HN.out rfl)
    go_enter Tryz.func15, Tryz.ntmps15
    go_wp2_with (first
      | (go_at_call 26; refine (lw_msgs a _ _ _ (HU.out _ (HB2.out _ _)) (HV.out _ (HB2.out _ _))).mono ?_; rintro e w2 ⟨rfl, hb2⟩; have HW2 := hide ((HB2.out _ _).trans (hb2.mono (HB2.out _ _).size)); have d5 : w2.cell? ⟨w.heap.size, 5, none⟩ = some (.int .i64 0) := two_cell hb2 (by simp); have d0 : w2.cell? ⟨w.heap.size, 0, none⟩ = some (.slice pu L cu) := two_cell hb2 (by simp); clear hb2)
      | (go_at_call 23; refine (s_net HNB.out _ _ HOK.out (HU.out _ HW2.out)).mono ?_; rintro e w3 ⟨rfl, hb3⟩; have HW3 := hide (HW2.out.trans (hb3.mono HW2.out.size)); clear hb3))
    go_ret
    exact ⟨rfl, HW3.out⟩
  · go_enter Tryz.func15, Tryz.ntmps15
    go_wp2_with (go_at_call 26; refine (lw_msgs a _ _ _ (HU.out _ (HB2.out _ _)) (HV.out _ (HB2.out _ _))).mono ?_; rintro e w2 ⟨rfl, hb2⟩; have HW2 := hide ((HB2.out _ _).trans (hb2.mono (HB2.out _ _).size)); have d5 : w2.cell? ⟨w.heap.size, 5, none⟩ = some (.int .i64 C) := two_cell hb2 (by simp); clear hb2)
    go_ret
    exact ⟨rfl, HW2.out⟩
/-- what is drawn, from outside -/
structure MnP (w w' : World) (v : Value) (l : List RMsg) : Prop where
  own : RMsgOwn w' w.heap.size v l
  ok : ∀ m ∈ l, DrMsg m
  len : l.length ≤ 9
  bel : Below w.heap.size w w'
  adr : ∃ g c, v = .slice (some ⟨g, 0, none⟩) l.length c
theorem mn_p {w w1 w2 : World} {ao : Option Addr} {len cap : Nat} {v : Value} {l : List RMsg} (hb : Below w.heap.size w w1) (h : MnAt w1 w2 w.heap.size ao len cap v l) (hl : l.length ≤ 9) : MnP w w2 v l :=
  ⟨h.own.mono hb.size, h.ok, hl, hb.trans (h.ap.below hb.size (by simp)), h.adr⟩
theorem MnP.sl {w w' : World} {v : Value} {l : List RMsg} (h : MnP w w' v l) : RMsgSl w' w'.heap.size v l := h.own.sl (by have := h.len; omega)
def DrawA (F : FuncId) (ao : Option Addr) (len cap : Nat) (w : World) (Q : Ending → World → Prop) : Prop := Calls Tryz.prog F #[.slice ao len cap] w Q
set_option maxRecDepth 100000 in
set_option maxHeartbeats 1000000 in
theorem draw_netBytes (ao : Option Addr) (len cap : Nat) (w : World) (hl : len ≤ 1048576) (hr : ArgRow w ao len) :
    Calls Tryz.prog 11 #[.slice ao len cap] w fun e w' => ∃ (v : Value) (l : List RMsg), e = .returned v ∧ MnP w w' v l := by
  have HR := hide hr
  clear hr
  go_enter Tryz.func11, Tryz.ntmps11
  go_wp2_with (first
    | (go_at_call 27; refine (source_any ao len cap _ hl HR.out).mono ?_; rintro e w1 ⟨rfl, hs1, hb1⟩; have HS1 := hide hs1; have HB1 := hide hb1; clear hs1 hb1)
    | (go_at_call 28; refine (net_any _ ao len cap _ hl HS1.out).mono ?_; rintro e w2 ⟨v2, l2, rfl, hl2, hm2⟩; have HP2 := hide (mn_p HB1.out hm2 hl2); obtain ⟨p2, c2, rfl⟩ := owns_shape hm2.own; clear hm2))
  go_ret
  exact ⟨_, l2, rfl, HP2.out⟩
set_option maxRecDepth 100000 in
set_option maxHeartbeats 1000000 in
theorem draw_netPut (ao : Option Addr) (len cap : Nat) (w : World) (hl : len ≤ 1048576) (hr : ArgRow w ao len) :
    Calls Tryz.prog 4 #[.slice ao len cap] w fun e w' => ∃ (v : Value) (l : List RMsg) (m : RMsg), e = .returned (.tuple #[v, m.val]) ∧ DrMsg m ∧ MnP w w' v l := by
  have HR := hide hr
  have HZ := hide (BoxL.new w [.string ⟨#[]⟩, .string ⟨#[]⟩, .string ⟨#[]⟩, .int .i64 0] 25)
  have HW0 := hide (malloc1 w (.cells #[.string ⟨#[]⟩, .string ⟨#[]⟩, .string ⟨#[]⟩, .int .i64 0] 25))
  clear hr
  go_enter Tryz.func4, Tryz.ntmps4
  go_wp2_with (first
    | (go_at_call 27; refine (source_any ao len cap _ hl (HR.out.below HW0.out)).mono ?_; rintro e w1 ⟨rfl, hs1, hb1⟩; have HS1 : Hid (Src w1 (w.heap.size + 1) ao len cap) := hide (by simpa using hs1); have HB1 := hide hb1; have hw1 := HS1.out.lt; have HZ1 := hide (HZ.out.keep (below_apart hb1) (by simp)); clear hs1 hb1)
    | (go_at_call 28; refine (net_any (w.heap.size + 1) ao len cap _ hl HS1.out).mono ?_; rintro e w2 ⟨v2, l2, rfl, hl2, hm2⟩; have HM2 := hide hm2; have HZ2 := hide (HZ1.out.keep hm2.ap (by simp)); obtain ⟨p2, c2, rfl⟩ := owns_shape hm2.own; clear hm2)
    | (go_at_call 29; refine (msg_any (w.heap.size + 1) ao len cap _ hl HM2.out.src).mono ?_; rintro e w3 ⟨m, rfl, hdm, hs, hA⟩; have HM3 := hide (HM2.out.apart hw1 hs hA); have HD := hide hdm; unfold RMsg.val; have HZ3 := hide (HZ2.out.keep hA (by simp)); have z0 := HZ3.out.cell 0 _ rfl; have z1 := HZ3.out.cell 1 _ rfl; have z2 := HZ3.out.cell 2 _ rfl; have z3 := HZ3.out.cell 3 _ rfl; have zf := HZ3.out.fz; clear hs hA hdm))
  have hb1 : Below w.heap.size w w1 := HW0.out.trans (HB1.out.mono HW0.out.size)
  have hb3 : Below w.heap.size w w3 := hb1.trans (HM3.out.ap.below hb1.size (by simp))
  have hA : Apart w3 ((((w3.setCell ⟨w.heap.size, 0, none⟩ (.string m.frm)).setCell ⟨w.heap.size, 1, none⟩ (.string m.to)).setCell ⟨w.heap.size, 2, none⟩ (.string m.label)).setCell ⟨w.heap.size, 3, none⟩ (.int .i64 m.sort)) [w.heap.size] := (((setCell_apart w3 w.heap.size 0 _).setCell 1 _).setCell 2 _).setCell 3 _
  refine bodyPost_ret (v := .tuple #[.slice p2 l2.length c2, RMsg.val m]) (by simp [results, Tryz.results4, go_sem, z0, z1, z2, z3, RMsg.val]) rfl ⟨_, l2, m, rfl, HD.out, ?_, HM3.out.ok, hl2, hb3.trans (hA.below hb3.size (by simp)), HM3.out.adr⟩
  exact (HM3.out.own.keep hA (fun b hb hm => by simp at hm; have := HM3.out.own.fresh.lo b hb; omega)).mono hb1.size
end Go.Proofs.YtonafcifolddjaaGreatDoor
/- The draws of chapter 6: two roles, a fault, bytes. -/
namespace Go.Proofs.YtonafcifolddjaaGreatDoor
open Go.RowKit
set_option linter.unusedSimpArgs false
set_option linter.unusedVariables false
attribute [local go_sem ↓] Go.wp_at_zero Go.wp_at_succ

def nsT : List ByteArray := [⟨#[97]⟩, ⟨#[98]⟩, ⟨#[65]⟩]
def nuT : List ByteArray := [⟨#[98]⟩, ⟨#[99]⟩]
theorem ns_small {x : ByteArray} (h : x ∈ nsT) : x.size ≤ 20 := by
  simp only [nsT, List.mem_cons, List.not_mem_nil, or_false] at h
  rcases h with rfl | rfl | rfl <;> decide
theorem nu_small {x : ByteArray} (h : x ∈ nuT) : x.size ≤ 20 := by
  simp only [nuT, List.mem_cons, List.not_mem_nil, or_false] at h
  rcases h with rfl | rfl <;> decide
set_option maxRecDepth 100000 in
set_option maxHeartbeats 2000000 in
theorem draw_netSee (ao : Option Addr) (len cap : Nat) (w : World) (hl : len ≤ 1048576) (hr : ArgRow w ao len) :
    Calls Tryz.prog 6 #[.slice ao len cap] w fun e w' => ∃ (v : Value) (l : List RMsg) (x y : ByteArray), e = .returned (.tuple #[v, .string x, .string y]) ∧ x.size ≤ 20 ∧ y.size ≤ 20 ∧ MnP w w' v l := by
  have HR := hide hr
  clear hr
  go_enter Tryz.func6, Tryz.ntmps6
  go_wp2_with (first
    | (go_at_call 27; refine (source_any ao len cap _ hl HR.out).mono ?_; rintro e w1 ⟨rfl, hs1, hb1⟩; have HS1 := hide hs1; have HB1 := hide hb1; have hw1 := hs1.lt; clear hs1 hb1)
    | (go_at_call 28; refine (net_any w.heap.size ao len cap _ hl HS1.out).mono ?_; rintro e w2 ⟨v2, l2, rfl, hl2, hm2⟩; have HM2 := hide hm2; obtain ⟨g2, c2, rfl⟩ := hm2.adr; have z2 := hm2.ap.size; clear hm2; by_cases hlz : 0 < l2.length)
    | (go_at_call 33; refine (n_one w.heap.size ao len cap 4 w2 (by omega) (by omega) hl HM2.out.src).mono ?_; rintro e w3 ⟨b3, rfl, hs, hg⟩; have HM3 := hide (HM2.out.drawn hw1 hs hg); have z3 := HM3.out.ap.size; clear hs hg; cases b3)
    | (go_at_call 34; refine (n_pos w.heap.size ao len cap (l2.length : Int) w3 (by omega) (by omega) hl HM3.out.src).mono ?_; rintro e w4 ⟨r4, rfl, h40, h41, hs, hg⟩; have HM4 := hide (HM3.out.drawn hw1 hs hg); obtain ⟨k, rfl⟩ : ∃ k : Nat, r4 = (k : Int) := ⟨r4.toNat, by omega⟩; have hk : k < l2.length := (by omega); obtain ⟨m, hm⟩ : ∃ m, l2[k] = m := ⟨_, rfl⟩; have HD := hide (show DrMsg m from hm ▸ HM4.out.ok _ (List.getElem_mem hk)); obtain ⟨c0, c1, c2', c3⟩ : RMsgAt w4 g2 (k * 4) m := (by have := HM4.out.own; rw [← hm]; obtain ⟨ax, cx, e, _, _, h4⟩ := HM4.out.sl (by omega); obtain ⟨b, o, e2, _, hrr⟩ := h4 (by intro h; rw [h] at hk; simp at hk); injection e with e1 _ _; rw [e2] at e1; injection e1 with e1; injection e1 with e3 e4; subst e3 e4; have := hrr.get k hk; rwa [Nat.zero_add] at this); clear hs hg hm)
    | (go_at_call 35; (fail_if_success (have := HM5)); have MK3 := HM3; refine (pick_any w.heap.size ao len cap nsT (.slice (some ⟨w3.heap.size, 0, none⟩) 3 3) _ hl (by simp [nsT]) (by simp [nsT]) (lit_at nsT w3 _ 3 rfl (by simp [nsT]) rfl) (by simp [vblocks, cellBlocks]; omega) (HM3.out.below (malloc1 _ _)).src).mono ?_; rintro e w5 ⟨x5, hx5, rfl, hs, hg⟩; have HM5 := hide ((HM3.out.below (malloc1 _ _)).drawn hw1 hs hg); have z5 := HM5.out.ap.size; have HX5 := hide (ns_small hx5); clear hs hg hx5)
    | (go_at_call 35; (fail_if_success (have := HM5)); (fail_if_success (have := HM3)); refine (pick_any w.heap.size ao len cap nsT (.slice (some ⟨w2.heap.size, 0, none⟩) 3 3) _ hl (by simp [nsT]) (by simp [nsT]) (lit_at nsT w2 _ 3 rfl (by simp [nsT]) rfl) (by simp [vblocks, cellBlocks]; omega) (HM2.out.below (malloc1 _ _)).src).mono ?_; rintro e w5 ⟨x5, hx5, rfl, hs, hg⟩; have HM5 := hide ((HM2.out.below (malloc1 _ _)).drawn hw1 hs hg); have z5 := HM5.out.ap.size; have HX5 := hide (ns_small hx5); clear hs hg hx5)
    | (go_at_call 35; have MK5 := HM5; refine (pick_any w.heap.size ao len cap nuT (.slice (some ⟨w5.heap.size, 0, none⟩) 2 2) _ hl (by simp [nuT]) (by simp [nuT]) (lit_at nuT w5 _ 2 rfl (by simp [nuT]) rfl) (by simp [vblocks, cellBlocks]; omega) (HM5.out.below (malloc1 _ _)).src).mono ?_; rintro e w6 ⟨x6, hx6, rfl, hs, hg⟩; have HM6 := hide ((HM5.out.below (malloc1 _ _)).drawn hw1 hs hg); have HX6 := hide (nu_small hx6); clear hs hg hx6))
  · go_region
    go_wp2_with fail
    all_goals
      refine bodyPost_ret (v := .tuple #[.slice (some ⟨g2, 0, none⟩) l2.length c2, .string m.frm, .string m.to]) (by simp [results, Tryz.results6, go_sem]) rfl ?_
      exact ⟨_, l2, m.frm, m.to, rfl, HD.out.1, HD.out.2.1, mn_p HB1.out (HM4.out.below (by first | exact malloc1 _ _ | exact (malloc1 _ _).drew)) hl2⟩
  · refine bodyPost_ret (v := .tuple #[.slice (some ⟨g2, 0, none⟩) l2.length c2, .string x5, .string x6]) (by simp [results, Tryz.results6, go_sem]) rfl ?_
    exact ⟨_, l2, x5, x6, rfl, HX5.out, HX6.out, mn_p HB1.out HM6.out hl2⟩
  · refine bodyPost_ret (v := .tuple #[.slice (some ⟨g2, 0, none⟩) l2.length c2, .string x5, .string x6]) (by simp [results, Tryz.results6, go_sem]) rfl ?_
    exact ⟨_, l2, x5, x6, rfl, HX5.out, HX6.out, mn_p HB1.out HM6.out hl2⟩
set_option maxRecDepth 100000 in
set_option maxHeartbeats 2000000 in
theorem draw_netFault (ao : Option Addr) (len cap : Nat) (w : World) (hl : len ≤ 1048576) (hr : ArgRow w ao len) :
    Calls Tryz.prog 9 #[.slice ao len cap] w fun e w' => ∃ (v : Value) (l : List RMsg) (a n : Int), e = .returned (.tuple #[v, .int .i64 a, .int .i64 n]) ∧ 0 ≤ a ∧ a ≤ 4 ∧ -9223372036854775808 ≤ n ∧ n ≤ 9223372036854775807 ∧ MnP w w' v l := by
  have HR := hide hr
  clear hr
  go_enter Tryz.func9, Tryz.ntmps9
  go_wp2_with (first
    | (go_at_call 27; refine (source_any ao len cap _ hl HR.out).mono ?_; rintro e w1 ⟨rfl, hs1, hb1⟩; have HS1 := hide hs1; have HB1 := hide hb1; have hw1 := hs1.lt; clear hs1 hb1)
    | (go_at_call 28; refine (net_any w.heap.size ao len cap _ hl HS1.out).mono ?_; rintro e w2 ⟨v2, l2, rfl, hl2, hm2⟩; have HM2 := hide hm2; obtain ⟨g2, c2, rfl⟩ := hm2.adr; clear hm2)
    | (go_at_call 33; refine (n_one w.heap.size ao len cap 10 w2 (by omega) (by omega) hl HM2.out.src).mono ?_; rintro e w3 ⟨b3, rfl, hs, hg⟩; have HM3 := hide (HM2.out.drawn hw1 hs hg); clear hs hg; cases hb3 : b3)
    | (go_at_call 34; have MKT := (show b3 = true from hb3); refine (n_any w.heap.size ao len cap 5 w3 (by omega) (by omega) hl HM3.out.src).mono ?_; rintro e w4 ⟨r4, rfl, h40, h41, hs, hg⟩; have HM4 := hide (HM3.out.drawn hw1 hs hg); clear hs hg)
    | (go_at_call 40; refine (edge_any w.heap.size ao len cap w4 hl HM4.out.src).mono ?_; rintro e w5 ⟨r5, rfl, h50, h51, hs, hg⟩; have HM5 := hide (HM4.out.drawn hw1 hs hg); clear hs hg)
    | (go_at_call 34; have MKF := (show b3 = false from hb3); (fail_if_success (have := HM6)); refine (n_any w.heap.size ao len cap 3 w3 (by omega) (by omega) hl HM3.out.src).mono ?_; rintro e w6 ⟨r6, rfl, h60, h61, hs, hg⟩; have HM6 := hide (HM3.out.drawn hw1 hs hg); clear hs hg)
    | (go_at_call 34; have MK6 := HM6; refine (n_any w.heap.size ao len cap 40 w6 (by omega) (by omega) hl HM6.out.src).mono ?_; rintro e w7 ⟨r7, rfl, h70, h71, hs, hg⟩; have HM7 := hide (HM6.out.drawn hw1 hs hg); clear hs hg))
  · refine bodyPost_ret (v := .tuple #[.slice (some ⟨g2, 0, none⟩) l2.length c2, .int .i64 (1 + r6), .int .i64 r7]) (by simp [results, Tryz.results9, go_sem]) rfl ?_
    exact ⟨_, l2, 1 + r6, r7, rfl, by omega, by omega, by omega, by omega, mn_p HB1.out HM7.out hl2⟩
  · refine bodyPost_ret (v := .tuple #[.slice (some ⟨g2, 0, none⟩) l2.length c2, .int .i64 r4, .int .i64 r5]) (by simp [results, Tryz.results9, go_sem]) rfl ?_
    exact ⟨_, l2, r4, r5, rfl, by omega, by omega, by omega, by omega, mn_p HB1.out HM5.out hl2⟩
set_option maxRecDepth 100000 in
set_option maxHeartbeats 2000000 in
theorem draw_netRead (ao : Option Addr) (len cap : Nat) (w : World) (hl : len ≤ 1048576) (hr : ArgRow w ao len) :
    Calls Tryz.prog 13 #[.slice ao len cap] w fun e w' => ∃ (x : ByteArray), e = .returned (.string x) ∧ x.size ≤ 8001 ∧ Below w.heap.size w w' := by
  have HR := hide hr
  clear hr
  go_enter Tryz.func13, Tryz.ntmps13
  go_wp2_with (first
    | (go_at_call 27; refine (source_any ao len cap _ hl HR.out).mono ?_; rintro e w1 ⟨rfl, hs1, hb1⟩; have HS1 := hide hs1; have HB1 := hide hb1; have hw1 := hs1.lt; clear hs1 hb1)
    | (go_at_call 28; refine (net_any w.heap.size ao len cap _ hl HS1.out).mono ?_; rintro e w2 ⟨v2, l2, rfl, hl2, hm2⟩; have HM2 := hide hm2; obtain ⟨g2, c2, rfl⟩ := hm2.adr; clear hm2)
    | (go_at_call 20; refine (s_netBytes l2 _ w2 (fun x hx => (HM2.out.ok x hx).fits.1) (HM2.out.sl (by omega))).mono ?_; rintro e w3 ⟨rfl, hb3⟩; have HM3 := hide (HM2.out.below hb3); have HT := hide (netS_small l2); obtain ⟨X, hX⟩ : ∃ X, netS l2 = X := ⟨_, rfl⟩; rw [hX] at HT ⊢; have hXs := HT.out; clear hb3 hX)
    | (go_at_call 34; (fail_if_success (have := HM4)); refine (n_any w.heap.size ao len cap 4 w3 (by omega) (by omega) hl HM3.out.src).mono ?_; rintro e w4 ⟨r4, rfl, h40, h41, hs, hg⟩; have HM4 := hide (HM3.out.drawn hw1 hs hg); clear hs hg; obtain rfl | rfl | rfl | rfl : r4 = 0 ∨ r4 = 1 ∨ r4 = 2 ∨ r4 = 3 := (by omega))
    | (go_at_call 47; refine (spoil_any w.heap.size ao len cap X w4 hl (by omega) HM4.out.src).mono ?_; rintro e w5 ⟨u, rfl, hu, hs, hg⟩; have HM5 := hide (HM4.out.drawn hw1 hs hg); have HT5 : Hid (u.size ≤ 8001) := hide (by omega); clear hs hg hu)
    | (go_at_call 34; have MK4 := HM4; refine (n_pos w.heap.size ao len cap ((X.size : Int) + 1) w4 (by omega) (by omega) hl HM4.out.src).mono ?_; rintro e w5 ⟨r5, rfl, h50, h51, hs, hg⟩; have HM5 := hide (HM4.out.drawn hw1 hs hg); clear hs hg; obtain ⟨k, rfl⟩ : ∃ k : Nat, r5 = (k : Int) := ⟨r5.toNat, by omega⟩; have hk : k ≤ X.size := (by omega)))
  · go_ret
    exact ⟨_, rfl, HT5.out, (mn_p HB1.out HM5.out hl2).bel⟩
  · go_ret
    refine ⟨_, rfl, ?_, (mn_p HB1.out HM5.out hl2).bel⟩
    simp only [ByteArray.size_extract]
    omega
  · go_ret
    exact ⟨_, rfl, by omega, (mn_p HB1.out HM4.out hl2).bel⟩
  · go_ret
    exact ⟨_, rfl, by omega, (mn_p HB1.out HM4.out hl2).bel⟩
end Go.Proofs.YtonafcifolddjaaGreatDoor
