/- netOut: what is on its way then or, if there is a reason, why not. -/
import Derived.Test.YtonafcifolddjaaGreatDoorQB23
import Derived.Test.YtonafcifolddjaaGreatDoorQB13
import Derived.Test.YtonafcifolddjaaGreatDoorQB15
namespace Go.Proofs.YtonafcifolddjaaGreatDoor
open Go.RowKit
attribute [local go_sem ↓] Go.wp_at_zero Go.wp_at_succ

def noMsg : RMsg := ⟨ByteArray.empty, ByteArray.empty, ByteArray.empty, 0⟩
/-- an answer: the list is one's own -/
def NetAns (w w' : World) (e : Ending) (l : List RMsg) (m : RMsg) (c : Int) : Prop := ∃ sv, e = .returned (netV sv m c) ∧ RMsgOwn w' w.heap.size sv l ∧ Below w.heap.size w w'
theorem Tryz.infoOut : (Tryz.prog.info? 29).map (·.size) = some 6 := by kernel_rfl
theorem RMsgOwn.mono {w : World} {B B' : Nat} {v : Value} {l : List RMsg} (h : RMsgOwn w B v l) (hB : B' ≤ B) : RMsgOwn w B' v l := by
  obtain ⟨h1, h2⟩ := h
  exact ⟨h1, h2.imp id (fun ⟨g, c, cur, h3, h4, h5⟩ => ⟨g, c, cur, h3, Nat.le_trans hB h4, h5⟩)⟩
def putOut (w : World) (g : Nat) (sv : Value) (m : RMsg) (c : Int) : World := ((((((w.setCell ⟨g, 0, none⟩ sv).setCell ⟨g, 1, none⟩ (.string m.frm)).setCell ⟨g, 2, none⟩ (.string m.to)).setCell ⟨g, 3, none⟩ (.string m.label)).setCell ⟨g, 4, none⟩ (.int .i64 m.sort)).setCell ⟨g, 5, none⟩ (.int .i64 c))
theorem putOut_at (w : World) (g : Nat) (sv : Value) (m : RMsg) (c : Int) (hc : ∀ i, i < 6 → ∃ y, w.cell? ⟨g, i, none⟩ = some y) :
    (putOut w g sv m c).cell? ⟨g, 0, none⟩ = some sv ∧ (putOut w g sv m c).cell? ⟨g, 1, none⟩ = some (.string m.frm) ∧ (putOut w g sv m c).cell? ⟨g, 2, none⟩ = some (.string m.to) ∧ (putOut w g sv m c).cell? ⟨g, 3, none⟩ = some (.string m.label) ∧ (putOut w g sv m c).cell? ⟨g, 4, none⟩ = some (.int .i64 m.sort) ∧ (putOut w g sv m c).cell? ⟨g, 5, none⟩ = some (.int .i64 c) := by
  have hs : ∀ (W : World) (x : Value) (p q : Nat), p ≠ q → (W.setCell ⟨g, p, none⟩ x).cell? ⟨g, q, none⟩ = W.cell? ⟨g, q, none⟩ := fun W x p q hpq => World.cell?_setCell_other _ _ _ _ (fun h => hpq (by injection h))
  obtain ⟨y0, h0⟩ := hc 0 (by omega)
  obtain ⟨y1, h1⟩ := hc 1 (by omega)
  obtain ⟨y2, h2⟩ := hc 2 (by omega)
  obtain ⟨y3, h3⟩ := hc 3 (by omega)
  obtain ⟨y4, h4⟩ := hc 4 (by omega)
  obtain ⟨y5, h5⟩ := hc 5 (by omega)
  unfold putOut
  refine ⟨?_, ?_, ?_, ?_, ?_, ?_⟩
  · rw [hs _ _ _ _ (by omega), hs _ _ _ _ (by omega), hs _ _ _ _ (by omega), hs _ _ _ _ (by omega), hs _ _ _ _ (by omega)]
    exact World.cell?_setCell_same _ _ _ h0
  · rw [hs _ _ _ _ (by omega), hs _ _ _ _ (by omega), hs _ _ _ _ (by omega), hs _ _ _ _ (by omega)]
    exact World.cell?_setCell_same _ _ _ (u := y1) (by rw [hs _ _ _ _ (by omega)]; exact h1)
  · rw [hs _ _ _ _ (by omega), hs _ _ _ _ (by omega), hs _ _ _ _ (by omega)]
    exact World.cell?_setCell_same _ _ _ (u := y2) (by rw [hs _ _ _ _ (by omega), hs _ _ _ _ (by omega)]; exact h2)
  · rw [hs _ _ _ _ (by omega), hs _ _ _ _ (by omega)]
    exact World.cell?_setCell_same _ _ _ (u := y3) (by rw [hs _ _ _ _ (by omega), hs _ _ _ _ (by omega), hs _ _ _ _ (by omega)]; exact h3)
  · rw [hs _ _ _ _ (by omega)]
    exact World.cell?_setCell_same _ _ _ (u := y4) (by rw [hs _ _ _ _ (by omega), hs _ _ _ _ (by omega), hs _ _ _ _ (by omega), hs _ _ _ _ (by omega)]; exact h4)
  · exact World.cell?_setCell_same _ _ _ (u := y5) (by rw [hs _ _ _ _ (by omega), hs _ _ _ _ (by omega), hs _ _ _ _ (by omega), hs _ _ _ _ (by omega), hs _ _ _ _ (by omega)]; exact h5)
theorem Apart.setN {w w' : World} {b : Nat} (h : Apart w w' [b]) (o : Nat) (x : Value) : Apart w (w'.setCell ⟨b, o, none⟩ x) [b] :=
  ⟨h.os, h.tape, h.output, by simp; exact h.size, fun k hk hn => (Below.heap_setCell w' ⟨b, o, none⟩ x k (fun e => hn (by simp [e]))).trans (h.block k hk hn)⟩
theorem putOut_apart (w : World) (g : Nat) (sv : Value) (m : RMsg) (c : Int) : Apart w (putOut w g sv m c) [g] :=
  ((((((Apart.refl w).weakN.setN _ _).setN _ _).setN _ _).setN _ _).setN _ _).setN _ _
/-- the answer in the result's own cells -/
theorem ans_put {w w2 : World} {g : Nat} {sv : Value} {l : List RMsg} {B : Nat} (m : RMsg) (c : Int) (hb : Below w.heap.size w w2) (hg : w.heap.size ≤ g) (hgB : g < B) (ho : RMsgOwn w2 B sv l) : RMsgOwn (putOut w2 g sv m c) w.heap.size sv l ∧ Below w.heap.size w (putOut w2 g sv m c) :=
  ⟨(ho.keep (putOut_apart w2 g sv m c) (fun b hb' he => by
    have := ho.fresh.lo b hb'
    simp at he
    omega)).mono (by omega), hb.trans ((putOut_apart w2 g sv m c).below hb.size (by simpa using hg))⟩
set_option maxRecDepth 100000 in
set_option maxHeartbeats 400000 in
theorem net_out_why {E : Errs} (y : Why) (hy : y ≠ .normal) (ao : Option Addr) (n c : Nat) (w : World) (hs : SentAt w E) :
    Calls Tryz.prog 31 #[.slice ao n c, whyV E y] w fun e w' => NetAns w w' e [] noMsg y.code := by
  have HS := hide hs
  have HC := hide (fun W hs => why_code (E := E) y hy W hs)
  have HI := hide Tryz.infoOut
  obtain ⟨a, ha⟩ : ∃ a, whyV E y = .iface 136 (.pointer (some a)) := by cases y <;> first | exact absurd rfl hy | exact ⟨_, rfl⟩
  obtain ⟨cd, hcd⟩ : ∃ cd, y.code = cd := ⟨_, rfl⟩
  rw [hcd] at HC ⊢
  rw [ha] at HC ⊢
  clear ha hcd hs hy
  go_enter Tryz.func31, Tryz.ntmps31
  go_wp2_with (go_at_call 73; refine (HC.out _ (HS.out.carry (malloc1 _ _))).mono ?_; rintro e w1 ⟨rfl, rfl⟩)
  refine bodyPost_ret_by (results_cell_row rfl _ _ w.heap.size 29 #[.slice none 0 0, .string ByteArray.empty, .string ByteArray.empty, .string ByteArray.empty, .int .i64 0, .int .i64 cd] (0, 0) _ rfl ?_ Tryz.underlying29 rfl HI.out) rfl ⟨_, rfl, RMsgOwn.nil _ _, malloc1 _ _⟩
  rw [mheap_new _ _ _ rfl]
  rfl
set_option maxRecDepth 100000 in
set_option maxHeartbeats 400000 in
theorem net_out_fine (l : List RMsg) (v : Value) (w : World) (h4 : l.length ≤ 4096) (hf : ∀ m ∈ l, m.fit) (hv : RMsgSl w w.heap.size v l) :
    Calls Tryz.prog 31 #[v, .nilIface] w fun e w' => NetAns w w' e l noMsg 0 := by
  have HF := hide hf
  have HV := hide hv
  have HI := hide Tryz.infoOut
  obtain ⟨ao, cap, rfl, hc, hm, hr⟩ := hv
  clear hf hr
  go_enter Tryz.func31, Tryz.ntmps31
  go_wp2_with (go_at_call 37; refine (own_net l _ _ h4 HF.out ((HV.out.carry (malloc1 _ _)).up (malloc1 _ _).size)).mono ?_; rintro e w1 ⟨v1, rfl, ho1, hb1⟩; have HO1 := hide ho1; have HB1 := hide hb1; obtain ⟨p1, c1, rfl⟩ := owns_shape ho1; have d0 := hb1.cell (p := ⟨w.heap.size, 0, none⟩) (by simp); have d1 := hb1.cell (p := ⟨w.heap.size, 1, none⟩) (by simp); have d2 := hb1.cell (p := ⟨w.heap.size, 2, none⟩) (by simp); have d3 := hb1.cell (p := ⟨w.heap.size, 3, none⟩) (by simp); have d4 := hb1.cell (p := ⟨w.heap.size, 4, none⟩) (by simp); have d5 := hb1.cell (p := ⟨w.heap.size, 5, none⟩) (by simp); simp at d0 d1 d2 d3 d4 d5; have z0 := hb1.frozen (p := ⟨w.heap.size, 0, none⟩) (by simp); have z1 := hb1.frozen (p := ⟨w.heap.size, 1, none⟩) (by simp); have z2 := hb1.frozen (p := ⟨w.heap.size, 2, none⟩) (by simp); have z3 := hb1.frozen (p := ⟨w.heap.size, 3, none⟩) (by simp); have z4 := hb1.frozen (p := ⟨w.heap.size, 4, none⟩) (by simp); have z5 := hb1.frozen (p := ⟨w.heap.size, 5, none⟩) (by simp); simp at z0 z1 z2 z3 z4 z5; clear ho1 hb1)
  obtain ⟨W3, hW3⟩ : ∃ W3, W3 = putOut w1 w.heap.size (.slice p1 l.length c1) noMsg 0 := ⟨_, rfl⟩
  have hAt := putOut_at w1 w.heap.size (.slice p1 l.length c1) noMsg 0 (fun i hi => by
    rcases i with _ | _ | _ | _ | _ | _ | i
    all_goals first | exact ⟨_, d0⟩ | exact ⟨_, d1⟩ | exact ⟨_, d2⟩ | exact ⟨_, d3⟩ | exact ⟨_, d4⟩ | exact ⟨_, d5⟩ | omega)
  have hAns := ans_put (w := w) (g := w.heap.size) noMsg 0 ((malloc1 w _).trans (HB1.out.mono (by simp))) (Nat.le_refl _) (by simp) HO1.out
  rw [← hW3] at hAt hAns
  have hgo : W3 = ((((((w1.setCell ⟨w.heap.size, 0, none⟩ (.slice p1 l.length c1)).setCell ⟨w.heap.size, 1, none⟩ (.string ⟨#[]⟩)).setCell ⟨w.heap.size, 2, none⟩ (.string ⟨#[]⟩)).setCell ⟨w.heap.size, 3, none⟩ (.string ⟨#[]⟩)).setCell ⟨w.heap.size, 4, none⟩ (.int .i64 0)).setCell ⟨w.heap.size, 5, none⟩ (.int .i64 0)) := hW3
  clear hW3 d0 d1 d2 d3 d4 d5 z0 z1 z2 z3 z4 z5
  rw [← hgo]
  clear hgo
  obtain ⟨r0, r1, r2, r3, r4, r5⟩ := hAt
  refine bodyPost_ret_by (v := netV (.slice p1 l.length c1) noMsg 0) ?_ rfl ⟨_, rfl, hAns.1, hAns.2⟩
  unfold netV noMsg
  unfold noMsg at r1 r2 r3 r4
  simp only [] at r1 r2 r3 r4
  unfold results
  go_simp
end Go.Proofs.YtonafcifolddjaaGreatDoor
/- NetBytes of the program: the whole. -/
namespace Go.Proofs.YtonafcifolddjaaGreatDoor
open Go.RowKit
attribute [local go_sem ↓] Go.wp_at_zero Go.wp_at_succ

set_option maxRecDepth 100000 in
set_option maxHeartbeats 1000000 in
theorem i_netBytes (l : List RMsg) (v : Value) (w : World) (hok : ∀ m ∈ l, m.ok) (hv : RMsgSl w w.heap.size v l) :
    Calls Tryz.prog 12 #[v] w fun e w' => e = .returned (.string (netS l)) ∧ Below w.heap.size w w' := by
  have HOK := hide hok
  have HV := hide hv
  have hlm := hv.lenm
  obtain ⟨i0, hi, hz0, hz1, hz2⟩ := info_parts Tryz.infoStr
  have HI := hide (And.intro hi (And.intro hz0 (And.intro hz1 hz2)))
  obtain ⟨ao, cap, rfl, hc, hm, hr⟩ := hv
  have HR := hide hr
  obtain ⟨q, hq⟩ : ∃ q, netB l = q := ⟨_, rfl⟩
  have HQ := hide hq
  have HRES : Hid (netS l = if q then bytesN l else ByteArray.empty) := hide (by rw [netS, hq])
  clear hr hok hq hi hz0 hz1 hz2
  cases q
  · go_enter Tryz.func12, Tryz.ntmps12
    go_wp2_with (go_at_call 22; refine (i_net HQ.out _ _ HOK.out HV.out).mono ?_; rintro e w1 ⟨rfl, hb1⟩; have HB1 := hide hb1; clear hb1)
    go_ret
    exact ⟨ret_str HRES.out, HB1.out⟩
  · have h36 := net_len HQ.out
    go_enter Tryz.func12, Tryz.ntmps12
    go_wp2_with (first
      | (go_at_call 22; refine (i_net HQ.out _ _ HOK.out HV.out).mono ?_; rintro e w0 ⟨rfl, hb0⟩; have HB0 := hide hb0; clear hb0)
      | (go_at_call 43; refine (ip_put rfl _ ⟨by omega, by omega⟩).mono ?_; rintro e w1 ⟨rfl, hb1⟩; have HB1 := hide (HB0.out.trans (hb1.mono HB0.out.size)); clear hb1))
    refine wp_named (fun W1 hW1 => ?_)
    have hlW : w1.heap.size < W1.heap.size := by rw [hW1]; simp
    have HBW : Hid (Below w1.heap.size w1 W1) := hide (by rw [hW1]; exact malloc1 _ _)
    have HOW : Hid (W1.ownsRow w1.heap.size 9 1 (.slice (some ⟨w1.heap.size, 0, none⟩) 1 1) 1 (strV (partsN l 0))) := hide (by
      rw [hW1]
      exact ⟨rfl, .inr ⟨w1.heap.size, 1, #[.string (putS (l.length : Int))], rfl, Nat.le_refl _, mheap_new _ _ _ rfl, Nat.le_refl _, by unfold maxLen; omega, rfl, rfl⟩⟩)
    clear hW1
    go_loopw [3, 15] (fun all i wr => ∃ k : Nat, k ≤ l.length ∧ i = .int .i64 k ∧ wr.ownsRow w1.heap.size 9 1 all (1 + k) (strV (partsN l k)) ∧ Below w1.heap.size w1 wr) (fun _ i _ => l.length - (intOf i).toNat)
    case atStart => exact ⟨0, Nat.zero_le _, rfl, HOW.out, HBW.out⟩
    case round =>
      obtain ⟨k, hk, rfl, hown, hbel⟩ := hrel
      have HOWN := hide hown
      have HBEL := hide hbel
      have HWR : Hid (Below w.heap.size w wr) := hide (HB1.out.trans (hbel.mono HB1.out.size))
      obtain ⟨p, cp, rfl⟩ := owns_shape hown
      clear hown hbel
      by_cases hlt : k < l.length
      · obtain ⟨b, o, rfl, hbB, hrow⟩ := HR.out (by intro h; simp [h] at hlt)
        have hnode := (hrow.get k hlt).carry hbB HWR.out
        obtain ⟨x1, hx1⟩ : ∃ x1, x1 = l[k] := ⟨_, rfl⟩
        have hmem : x1 ∈ l := by rw [hx1]; exact List.getElem_mem hlt
        rw [← hx1] at hnode
        obtain ⟨d0, d1, d2, d3⟩ := hnode
        have HMR := hide (net_right HQ.out x1 hmem).1
        obtain ⟨s1, hs1⟩ : ∃ s, sealS (msgP x1) = s := ⟨_, rfl⟩
        obtain ⟨s2, hs2⟩ : ∃ s, textS s1 = s := ⟨_, rfl⟩
        have HNX : Hid (strV (partsN l (k + 1)) = strV (partsN l k) ++ [.string s2]) := hide (by rw [partsN_succ hlt, ← hx1, msgW, hs1, hs2]; simp [strV])
        have HL1 := hide (show s1.size ≤ maxLen by have := msgP_size HMR.out; rw [← hs1, seal_size (by omega)]; unfold maxLen; omega)
        have HS1 := hide hs1
        have HS2 := hide hs2
        clear hx1 hrow hmem hs1 hs2
        go_wp2_with (first
          | (go_at_call 45; refine (sealed_msg (m := x1) HS1.out HMR.out _).mono ?_; rintro e w2 ⟨rfl, hb2⟩; have HB2 : Hid (Below wr.heap.size wr w2) := hide ((malloc1 _ _).trans (hb2.mono (by simp))); clear hb2)
          | (go_at_call 44; refine (ip_text HS2.out _ HL1.out).mono ?_; rintro e w3 ⟨rfl, hb3⟩; have HB3 : Hid (Below wr.heap.size wr w3) := hide (HB2.out.trans (hb3.mono HB2.out.size)); clear hb3)
          | (at_builtin; refine wpList_append_own _ rfl (.tmp 19) (.tmp 23) 60 rfl w1.heap.size 9 i0 (.string ByteArray.empty) 1 16 Tryz.underlying60 HI.out.1 HI.out.2.1 HI.out.2.2.1 HI.out.2.2.2 rfl (by decide) (.slice p (1 + k) cp) (1 + k) (strV (partsN l k)) rfl (owns_below HOWN.out (HB3.out.trans ((malloc1 _ _).mono HB3.out.size))) ⟨w3.heap.size, 0, none⟩ 1 1 [.string s2] rfl rfl (fun j u hj => new_row1 _ _ _ j u hj) (strV_one [s2]) (by unfold maxLen; omega) (by omega) (by have := HB3.out.size; have := HBEL.out.size; simp; omega) ?_; intro v4 w4 hown4 hgr4 _; have HOWN4 := hide hown4; have HGR4 := hide hgr4; clear hown4 hgr4))
        go_roundw
        case rel =>
          have hA : Apart wr w4 (vblocks (.slice p (1 + k) cp)) := by
            have := (below_apart (HB3.out.trans ((malloc1 w3 _).mono HB3.out.size))).trans (grownBy_apart HGR4.out)
            rwa [List.nil_append] at this
          refine ⟨k + 1, hlt, by go_num, ?_, HBEL.out.trans (hA.below HBEL.out.size (owns_fresh HOWN.out).lo)⟩
          rw [HNX.out, show 1 + (k + 1) = 1 + k + 1 by omega]
          exact HOWN4.out
        case measure => simp [intOf]; omega
      · have HK : Hid (k = l.length) := hide (by omega)
        obtain ⟨g, c, hgc, hg, hcell⟩ := owns_some HOWN.out (by omega)
        obtain ⟨rfl, rfl⟩ : p = some ⟨g, 0, none⟩ ∧ cp = c := by simpa using hgc
        have HTOT : Hid (totTo (partsN l k) (partsN l k).length ≤ 1000000 ∧ (partsN l k).length ≤ 1000) := hide (by
          have h1 := partsN_tot HQ.out hk
          have h2 := partsN_len l k hk
          refine ⟨?_, by omega⟩
          rw [totTo, List.take_length]
          omega)
        have HLE : Hid ((partsN l k).length = 1 + k) := hide (partsN_len l k hk)
        have HCL : Hid (∀ i (h : i < (partsN l k).length), wr.cell? ⟨g, i, none⟩ = some (.string (partsN l k)[i])) := hide (fun i h => hcell i _ (by simp [strV, h]))
        clear hgc hcell
        go_wp2_with (go_at_call 46; have hjn := join_any (partsN l k) g cp wr hg HCL.out HTOT.out.1 HTOT.out.2; rw [HLE.out] at hjn; refine hjn.mono ?_; rintro e w5 ⟨rfl, hb5⟩; have HB5 := hide hb5; clear hb5 hjn)
        go_ret
        exact ⟨ret_str (by rw [HRES.out, HK.out]; rfl), HWR.out.trans (HB5.out.mono HWR.out.size)⟩
end Go.Proofs.YtonafcifolddjaaGreatDoor
