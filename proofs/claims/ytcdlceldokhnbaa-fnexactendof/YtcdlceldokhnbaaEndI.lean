/- EndOf of the program. -/
import Derived.Test.YtcdlceldokhnbaaNearI
import Derived.Test.YtcdlceldokhnbaaActsJ
namespace Go.Proofs.Ytcdlceldokhnbaa
open Go.RowKit Go.Maps
attribute [local go_sem ↓] Go.wp_at_zero Go.wp_at_succ

set_option maxRecDepth 100000 in
set_option maxHeartbeats 1000000 in
theorem end_of {r : Int} {m : Mach} {s : Int} (hr : EndR m s r) (v : Value) (w : World) (hf : m.fit) (hv : MachAt w v m) :
    Calls Try.prog 46 #[v, .int .i64 s] w fun e w' => e = .returned (.int .i64 r) ∧ Below w.heap.size w w' := by
  have HF := hide hf
  have HV : Hid (∀ W, Below w.heap.size w W → MachAt W v m) := hide (fun W hb => hv.carry hb)
  obtain ⟨sv, ev, rfl, hs, he⟩ := hv
  obtain ⟨sa, sc, rfl, -⟩ := hs
  obtain ⟨ea, ec, rfl, -⟩ := he
  obtain ⟨q, hq⟩ : ∃ q, (machB m && inB s 0 ((m.states.length : Int) - 1)) = q := ⟨_, rfl⟩
  have HR : Hid (if q then EndAns m s r else r = -1) := hide (by rw [EndR, hq] at hr; exact hr)
  have HQ := hide hq
  clear hq hf hr
  cases q
  · go_enter Try.func46, Try.ntmps46
    go_wp2_with (go_at_call 85; refine (right_with HQ.out _ _ HF.out (HV.out _ (malloc1 _ _))).mono ?_; rintro e w1 ⟨rfl, hb1⟩; have HB1 : Hid (Below w.heap.size w w1) := hide ((malloc1 _ _).trans (hb1.mono (by simp))); clear hb1)
    go_ret
    exact ⟨ret_int HR.out, HB1.out⟩
  · have hq' : machB m = true ∧ inB s 0 ((m.states.length : Int) - 1) = true := by have := HQ.out; simpa using this
    have HM := hide hq'.1
    have HSW : Hid (0 ≤ s ∧ s < (m.states.length : Int)) := hide (by have := hq'.2; simp [inB] at this; omega)
    clear hq'
    go_enter Try.func46, Try.ntmps46
    go_wp2_with (first
      | (go_at_call 85; refine (right_with HQ.out _ _ HF.out (HV.out _ (malloc1 _ _))).mono ?_; rintro e w1 ⟨rfl, hb1⟩; have HB1 : Hid (Below w.heap.size w w1) := hide ((malloc1 _ _).trans (hb1.mono (by simp))); have b0 := (hb1.cell (p := ⟨w.heap.size, 0, none⟩) (by simp)); have b1 := (hb1.cell (p := ⟨w.heap.size, 1, none⟩) (by simp)); have b2 := (hb1.cell (p := ⟨w.heap.size, 2, none⟩) (by simp)); simp at b0 b1 b2; clear hb1)
      | (go_at_call 92; refine (graph_of m _ _ HM.out HF.out (HV.out _ HB1.out)).mono ?_; rintro e w2 ⟨sv, b, rfl, hs2, hg2, hlb, hb2⟩; have H2 := hide (And.intro hs2 (And.intro hg2 hb2)); clear hs2 hg2 hb2)
      | (go_at_call 95; refine (graph_nearest m s b _ _ HM.out HF.out H2.out.2.1 H2.out.1 HSW.out.1 HSW.out.2).mono ?_; rintro e w3 ⟨r3, rfl, hr3, ha3⟩; have H3 := hide (And.intro hr3 ha3); clear hr3 ha3))
    go_ret
    refine ⟨ret_int (HR.out.unique H3.out.1), HB1.out.trans ?_⟩
    exact (H2.out.2.2.trans (H3.out.2.below H2.out.2.2.size (by simp; exact hlb))).mono HB1.out.size
end Go.Proofs.Ytcdlceldokhnbaa
