/- StepOf of the program. -/
import Derived.Test.YthaomohoiginnaaGraph
namespace Go.Proofs.Ythaomohoiginnaa
open Go.RowKit Go.Maps
attribute [local go_sem ↓] Go.wp_at_zero Go.wp_at_succ

theorem zero_i64 (w : World) : (zeroValue 2).run Try.prog w = .ok (.int .i64 0) w := Try.zeroValue2 w
set_option maxRecDepth 100000 in
set_option maxHeartbeats 1000000 in
theorem graph_step {c : Int} {m : Mach} {s : Int} {a : RAct} (hc : stepF m s a = c) (hm : machB m = true) (p : Option Addr) (nl nc b n : Nat) (w : World) (hg : GraphAt w m m.edges b n) (hs : i64B s) (hr : a.rng) (hok : a.ok) :
    Calls Try.prog 91 #[.agg #[.slice p nl nc, .map (some b)], .int .i64 s, a.val] w fun e w' => e = .returned (.int .i64 c) ∧ Below w.heap.size w w' := by
  obtain ⟨kl, hkl⟩ := turn_key s a hs hr hok
  have HKL := hide hkl
  have hg2 : ∀ A B, GraphAt ((w.alloc A).alloc B) m m.edges b n := fun A B => hg.keep (below_apart (balloc2 _ _ _)) (by simp)
  have HG2 := hide hg2
  have HC := hide hc
  have HM := hide hm
  obtain ⟨D, hD1, hD2⟩ := hg
  have hlook := hD2 s a kl hkl
  have HLK := hide hlook
  have HOW : Hid (∀ A B, ((w.alloc A).alloc B).ownsMap Try.prog 189 (plainElem Try.prog 2) b n D) := hide (fun A B => (hD1.alloc A).alloc B)
  obtain ⟨hs', hhs⟩ : ∃ x, Maps.has D kl = x := ⟨_, rfl⟩
  have HHS := hide hhs
  clear hkl hg2 hlook hD1 hD2 hc hm hs hr hok hhs
  unfold RAct.val
  cases hs'
  · have HN : Hid (c = -1) := hide (by rw [← HC.out]; exact stepF_none (HLK.out.2 HHS.out))
    go_enter Try.func91, Try.ntmps91
    go_wp2_with (at_lookup; refine wpList_lookup_own_ok_int _ rfl _ _ 119 rfl 189 2 .i64 turn_keyed Try.underlying119 Try.underlying2 (zero_i64 _) b n D rfl (HOW.out _ _) (turnV s a) kl rfl HKL.out ?_; intro c1 hat1 hwc1; rw [HHS.out]; clear hat1 hwc1)
    go_ret
    exact ⟨ret_int HN.out, balloc2 _ _ _⟩
  · have HY : Hid (∀ z, D.atKey kl z = .lit (.int .i64 c)) := hide (by
      obtain ⟨e, he1, he2, he3, he4⟩ := HLK.out.1 HHS.out
      intro z
      rw [he4 z, ← HC.out, stepF_some HM.out he1 he2 he3])
    go_enter Try.func91, Try.ntmps91
    go_wp2_with (at_lookup; refine wpList_lookup_own_ok_int _ rfl _ _ 119 rfl 189 2 .i64 turn_keyed Try.underlying119 Try.underlying2 (zero_i64 _) b n D rfl (HOW.out _ _) (turnV s a) kl rfl HKL.out ?_; intro c1 hat1 hwc1; have HEQ : Hid (c = c1) := hide (by rw [HY.out] at hat1; injection hat1 with h; injection h); rw [HHS.out]; clear hat1 hwc1)
    go_ret
    exact ⟨ret_int HEQ.out, balloc2 _ _ _⟩

set_option maxRecDepth 100000 in
set_option maxHeartbeats 1000000 in
theorem step_of (m : Mach) (s : Int) (a : RAct) (v : Value) (w : World) (hf : m.fit) (hr : a.rng) (hok : a.ok) (hv : MachAt w v m) :
    Calls Try.prog 37 #[v, .int .i64 s, a.val] w fun e w' => e = .returned (.int .i64 (stepR m s a)) ∧ Below w.heap.size w w' := by
  have HF := hide hf
  have HV : Hid (∀ W, Below w.heap.size w W → MachAt W v m) := hide (fun W hb => hv.carry hb)
  obtain ⟨sv, ev, rfl, hs, he⟩ := hv
  obtain ⟨sa, sc, rfl, -⟩ := hs
  obtain ⟨ea, ec, rfl, -⟩ := he
  obtain ⟨q, hq⟩ : ∃ q, (machB m && inB s 0 ((m.states.length : Int) - 1)) = q := ⟨_, rfl⟩
  have HR : Hid (stepR m s a = if q then stepF m s a else -1) := hide (by rw [stepR, hq])
  have HQ := hide hq
  have HAR := hide (And.intro hr hok)
  clear hq hf hr hok
  unfold RAct.val
  cases q
  · go_enter Try.func37, Try.ntmps37
    go_wp2_with (go_at_call 89; refine (right_with HQ.out _ _ HF.out (HV.out _ (balloc2 _ _ _))).mono ?_; rintro e w1 ⟨rfl, hb1⟩; have HB1 : Hid (Below w.heap.size w w1) := hide ((balloc2 _ _ _).trans (hb1.mono (by simp; omega))); clear hb1)
    go_ret
    exact ⟨ret_int HR.out, HB1.out⟩
  · have hq' : machB m = true ∧ inB s 0 ((m.states.length : Int) - 1) = true := by have := HQ.out; simpa using this
    have HM := hide hq'.1
    have HSW : Hid (i64B s) := hide (by have := hq'.2; have := mach_40 hq'.1; simp [inB] at *; constructor <;> omega)
    clear hq'
    go_enter Try.func37, Try.ntmps37
    go_wp2_with (go_at_call 89; refine (right_with HQ.out _ _ HF.out (HV.out _ (balloc2 _ _ _))).mono ?_; rintro e w1 ⟨rfl, hb1⟩; have HB1 : Hid (Below w.heap.size w w1) := hide ((balloc2 _ _ _).trans (hb1.mono (by simp; omega))); have hz1 : w.heap.size + 1 < w1.heap.size := (by have := hb1.size; simp at this; omega); have b0 := (hb1.cell (p := ⟨w.heap.size, 0, none⟩) (by simp; omega)); have b1 := (hb1.cell (p := ⟨w.heap.size, 1, none⟩) (by simp; omega)); have b2 := (hb1.cell (p := ⟨w.heap.size, 2, none⟩) (by simp; omega)); have a0 := (hb1.cell (p := ⟨w.heap.size + 1, 0, none⟩) (by simp)); have a1 := (hb1.cell (p := ⟨w.heap.size + 1, 1, none⟩) (by simp)); have a2 := (hb1.cell (p := ⟨w.heap.size + 1, 2, none⟩) (by simp)); have a3 := (hb1.cell (p := ⟨w.heap.size + 1, 3, none⟩) (by simp)); simp at b0 b1 b2 a0 a1 a2 a3; clear hb1)
    go_region_with (first
      | (go_at_call 90; refine (graph_of m _ _ HM.out HF.out (HV.out _ HB1.out.drew)).mono ?_; rintro e w2 ⟨sv, b, rfl, hs2, hg2, -, hb2⟩; obtain ⟨p2, c2, rfl⟩ := hs2.shape; have HG2 := hide hg2; have HB2 : Hid (Below w1.heap.size w1 w2) := hide ((Below.refl _ _).drew.trans hb2); have c0 := (HB2.out.cell (p := ⟨w.heap.size + 1, 0, none⟩) hz1).trans a0; have c1 := (HB2.out.cell (p := ⟨w.heap.size + 1, 1, none⟩) hz1).trans a1; have c2' := (HB2.out.cell (p := ⟨w.heap.size + 1, 2, none⟩) hz1).trans a2; have c3 := (HB2.out.cell (p := ⟨w.heap.size + 1, 3, none⟩) hz1).trans a3; clear hs2 hg2 hb2)
      | (go_at_call 91; refine (graph_step (a := a) rfl HM.out _ _ _ _ _ _ HG2.out HSW.out HAR.out.1 HAR.out.2).mono ?_; rintro e w3 ⟨rfl, hb3⟩; have HB3 := hide hb3; clear hb3))
    all_goals
      go_wp2_with fail
      go_ret
      exact ⟨ret_int HR.out, HB1.out.trans ((HB2.out.trans (HB3.out.mono HB2.out.size)).mono HB1.out.size)⟩
end Go.Proofs.Ythaomohoiginnaa
