/- netOut: what is on its way then or, if there is a reason, why not. -/
import Derived.Test.YtonafcifolddjaaDoorOwnNet
import Derived.Test.YtonafcifolddjaaDoorOutM
namespace Go.Proofs.YtonafcifolddjaaDoor
open Go.RowKit
attribute [local go_sem ↓] Go.wp_at_zero Go.wp_at_succ

def noMsg : RMsg := ⟨ByteArray.empty, ByteArray.empty, ByteArray.empty, 0⟩
/-- an answer: the list is one's own -/
def NetAns (w w' : World) (e : Ending) (l : List RMsg) (m : RMsg) (c : Int) : Prop := ∃ sv, e = .returned (netV sv m c) ∧ RMsgOwn w' w.heap.size sv l ∧ Below w.heap.size w w'
theorem Tryd.infoOut : (Tryd.prog.info? 30).map (·.size) = some 6 := by kernel_rfl
theorem RMsgOwn.mono {w : World} {B B' : Nat} {v : Value} {l : List RMsg} (h : RMsgOwn w B v l) (hB : B' ≤ B) : RMsgOwn w B' v l := by
  obtain ⟨h1, h2⟩ := h
  exact ⟨h1, h2.imp id (fun ⟨g, c, cur, h3, h4, h5⟩ => ⟨g, c, cur, h3, Nat.le_trans hB h4, h5⟩)⟩
def putOut (w : World) (g : Nat) (sv : Value) (m : RMsg) (c : Int) : World := ((((((w.setCell ⟨g, 0, none⟩ sv).setCell ⟨g, 1, none⟩ (.string m.frm)).setCell ⟨g, 2, none⟩ (.string m.to)).setCell ⟨g, 3, none⟩ (.string m.label)).setCell ⟨g, 4, none⟩ (.int .i64 m.sort)).setCell ⟨g, 5, none⟩ (.int .i64 c))
theorem putOut_at (w : World) (g : Nat) (sv : Value) (m : RMsg) (c : Int) (hc : ∀ i, i < 6 → ∃ y, w.cell? ⟨g, i, none⟩ = some y) :
    (putOut w g sv m c).cell? ⟨g, 0, none⟩ = some sv ∧ (putOut w g sv m c).cell? ⟨g, 1, none⟩ = some (.string m.frm) ∧ (putOut w g sv m c).cell? ⟨g, 2, none⟩ = some (.string m.to) ∧ (putOut w g sv m c).cell? ⟨g, 3, none⟩ = some (.string m.label) ∧ (putOut w g sv m c).cell? ⟨g, 4, none⟩ = some (.int .i64 m.sort) ∧ (putOut w g sv m c).cell? ⟨g, 5, none⟩ = some (.int .i64 c) := by
  have hs : ∀ (W : World) (x : Value) (p q : Nat), p ≠ q → (W.setCell ⟨g, p, none⟩ x).cell? ⟨g, q, none⟩ = W.cell? ⟨g, q, none⟩ := fun W x p q hpq => World.cell?_setCell_other _ _ _ _ (fun h => hpq (by injection h))
  obtain ⟨y0, h0⟩ := hc 0 (by omega)
  obtain ⟨y1, h1⟩ := hc 1 (by omega)
  obtain ⟨y2, h2⟩ := hc 2 (by omega)
  obtain ⟨y3, h3⟩ := hc 3 (by omega)
  obtain ⟨y4, h4⟩ := hc 4 (by omega)
  obtain ⟨y5, h5⟩ := hc 5 (by omega)
  unfold putOut
  refine ⟨?_, ?_, ?_, ?_, ?_, ?_⟩
  · rw [hs _ _ _ _ (by omega), hs _ _ _ _ (by omega), hs _ _ _ _ (by omega), hs _ _ _ _ (by omega), hs _ _ _ _ (by omega)]
    exact World.cell?_setCell_same _ _ _ h0
  · rw [hs _ _ _ _ (by omega), hs _ _ _ _ (by omega), hs _ _ _ _ (by omega), hs _ _ _ _ (by omega)]
    exact World.cell?_setCell_same _ _ _ (u := y1) (by rw [hs _ _ _ _ (by omega)]; exact h1)
  · rw [hs _ _ _ _ (by omega), hs _ _ _ _ (by omega), hs _ _ _ _ (by omega)]
    exact World.cell?_setCell_same _ _ _ (u := y2) (by rw [hs _ _ _ _ (by omega), hs _ _ _ _ (by omega)]; exact h2)
  · rw [hs _ _ _ _ (by omega), hs _ _ _ _ (by omega)]
    exact World.cell?_setCell_same _ _ _ (u := y3) (by rw [hs _ _ _ _ (by omega), hs _ _ _ _ (by omega), hs _ _ _ _ (by omega)]; exact h3)
  · rw [hs _ _ _ _ (by omega)]
    exact World.cell?_setCell_same _ _ _ (u := y4) (by rw [hs _ _ _ _ (by omega), hs _ _ _ _ (by omega), hs _ _ _ _ (by omega), hs _ _ _ _ (by omega)]; exact h4)
  · exact World.cell?_setCell_same _ _ _ (u := y5) (by rw [hs _ _ _ _ (by omega), hs _ _ _ _ (by omega), hs _ _ _ _ (by omega), hs _ _ _ _ (by omega), hs _ _ _ _ (by omega)]; exact h5)
theorem Apart.setN {w w' : World} {b : Nat} (h : Apart w w' [b]) (o : Nat) (x : Value) : Apart w (w'.setCell ⟨b, o, none⟩ x) [b] :=
  ⟨h.os, h.tape, h.output, by simp; exact h.size, fun k hk hn => (Below.heap_setCell w' ⟨b, o, none⟩ x k (fun e => hn (by simp [e]))).trans (h.block k hk hn)⟩
theorem putOut_apart (w : World) (g : Nat) (sv : Value) (m : RMsg) (c : Int) : Apart w (putOut w g sv m c) [g] :=
  ((((((Apart.refl w).weakN.setN _ _).setN _ _).setN _ _).setN _ _).setN _ _).setN _ _
/-- the answer in the result's own cells -/
theorem ans_put {w w2 : World} {g : Nat} {sv : Value} {l : List RMsg} {B : Nat} (m : RMsg) (c : Int) (hb : Below w.heap.size w w2) (hg : w.heap.size ≤ g) (hgB : g < B) (ho : RMsgOwn w2 B sv l) : RMsgOwn (putOut w2 g sv m c) w.heap.size sv l ∧ Below w.heap.size w (putOut w2 g sv m c) :=
  ⟨(ho.keep (putOut_apart w2 g sv m c) (fun b hb' he => by
    have := ho.fresh.lo b hb'
    simp at he
    omega)).mono (by omega), hb.trans ((putOut_apart w2 g sv m c).below hb.size (by simpa using hg))⟩
set_option maxRecDepth 100000 in
set_option maxHeartbeats 400000 in
theorem net_out_why {E : Errs} (y : Why) (hy : y ≠ .normal) (ao : Option Addr) (n c : Nat) (w : World) (hs : SentAt w E) :
    Calls Tryd.prog 30 #[.slice ao n c, whyV E y] w fun e w' => NetAns w w' e [] noMsg y.code := by
  have HS := hide hs
  have HC := hide (fun W hs => why_code (E := E) y hy W hs)
  have HI := hide Tryd.infoOut
  obtain ⟨a, ha⟩ : ∃ a, whyV E y = .iface 92 (.pointer (some a)) := by cases y <;> first | exact absurd rfl hy | exact ⟨_, rfl⟩
  obtain ⟨cd, hcd⟩ : ∃ cd, y.code = cd := ⟨_, rfl⟩
  rw [hcd] at HC ⊢
  rw [ha] at HC ⊢
  clear ha hcd hs hy
  go_enter Tryd.func30, Tryd.ntmps30
  go_wp2_with (go_at_call 53; refine (HC.out _ (HS.out.carry (malloc1 _ _))).mono ?_; rintro e w1 ⟨rfl, rfl⟩)
  refine bodyPost_ret_by (results_cell_row rfl _ _ w.heap.size 30 #[.slice none 0 0, .string ByteArray.empty, .string ByteArray.empty, .string ByteArray.empty, .int .i64 0, .int .i64 cd] (0, 0) _ rfl ?_ Tryd.underlying30 rfl HI.out) rfl ⟨_, rfl, RMsgOwn.nil _ _, malloc1 _ _⟩
  rw [mheap_new _ _ _ rfl]
  rfl
set_option maxRecDepth 100000 in
set_option maxHeartbeats 400000 in
theorem net_out_fine (l : List RMsg) (v : Value) (w : World) (h4 : l.length ≤ 4096) (hf : ∀ m ∈ l, m.fit) (hv : RMsgSl w w.heap.size v l) :
    Calls Tryd.prog 30 #[v, .nilIface] w fun e w' => NetAns w w' e l noMsg 0 := by
  have HF := hide hf
  have HV := hide hv
  have HI := hide Tryd.infoOut
  obtain ⟨ao, cap, rfl, hc, hm, hr⟩ := hv
  clear hf hr
  go_enter Tryd.func30, Tryd.ntmps30
  go_wp2_with (go_at_call 38; refine (own_net l _ _ h4 HF.out ((HV.out.carry (malloc1 _ _)).up (malloc1 _ _).size)).mono ?_; rintro e w1 ⟨v1, rfl, ho1, hb1⟩; have HO1 := hide ho1; have HB1 := hide hb1; obtain ⟨p1, c1, rfl⟩ := owns_shape ho1; have d0 := hb1.cell (p := ⟨w.heap.size, 0, none⟩) (by simp); have d1 := hb1.cell (p := ⟨w.heap.size, 1, none⟩) (by simp); have d2 := hb1.cell (p := ⟨w.heap.size, 2, none⟩) (by simp); have d3 := hb1.cell (p := ⟨w.heap.size, 3, none⟩) (by simp); have d4 := hb1.cell (p := ⟨w.heap.size, 4, none⟩) (by simp); have d5 := hb1.cell (p := ⟨w.heap.size, 5, none⟩) (by simp); simp at d0 d1 d2 d3 d4 d5; have z0 := hb1.frozen (p := ⟨w.heap.size, 0, none⟩) (by simp); have z1 := hb1.frozen (p := ⟨w.heap.size, 1, none⟩) (by simp); have z2 := hb1.frozen (p := ⟨w.heap.size, 2, none⟩) (by simp); have z3 := hb1.frozen (p := ⟨w.heap.size, 3, none⟩) (by simp); have z4 := hb1.frozen (p := ⟨w.heap.size, 4, none⟩) (by simp); have z5 := hb1.frozen (p := ⟨w.heap.size, 5, none⟩) (by simp); simp at z0 z1 z2 z3 z4 z5; clear ho1 hb1)
  obtain ⟨W3, hW3⟩ : ∃ W3, W3 = putOut w1 w.heap.size (.slice p1 l.length c1) noMsg 0 := ⟨_, rfl⟩
  have hAt := putOut_at w1 w.heap.size (.slice p1 l.length c1) noMsg 0 (fun i hi => by
    rcases i with _ | _ | _ | _ | _ | _ | i
    all_goals first | exact ⟨_, d0⟩ | exact ⟨_, d1⟩ | exact ⟨_, d2⟩ | exact ⟨_, d3⟩ | exact ⟨_, d4⟩ | exact ⟨_, d5⟩ | omega)
  have hAns := ans_put (w := w) (g := w.heap.size) noMsg 0 ((malloc1 w _).trans (HB1.out.mono (by simp))) (Nat.le_refl _) (by simp) HO1.out
  rw [← hW3] at hAt hAns
  have hgo : W3 = ((((((w1.setCell ⟨w.heap.size, 0, none⟩ (.slice p1 l.length c1)).setCell ⟨w.heap.size, 1, none⟩ (.string ⟨#[]⟩)).setCell ⟨w.heap.size, 2, none⟩ (.string ⟨#[]⟩)).setCell ⟨w.heap.size, 3, none⟩ (.string ⟨#[]⟩)).setCell ⟨w.heap.size, 4, none⟩ (.int .i64 0)).setCell ⟨w.heap.size, 5, none⟩ (.int .i64 0)) := hW3
  clear hW3 d0 d1 d2 d3 d4 d5 z0 z1 z2 z3 z4 z5
  rw [← hgo]
  clear hgo
  obtain ⟨r0, r1, r2, r3, r4, r5⟩ := hAt
  refine bodyPost_ret_by (v := netV (.slice p1 l.length c1) noMsg 0) ?_ rfl ⟨_, rfl, hAns.1, hAns.2⟩
  unfold netV noMsg
  unfold noMsg at r1 r2 r3 r4
  simp only [] at r1 r2 r3 r4
  unfold results
  go_simp
end Go.Proofs.YtonafcifolddjaaDoor
