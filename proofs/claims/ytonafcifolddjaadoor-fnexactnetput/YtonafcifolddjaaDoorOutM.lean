/- NetOut: the law's own helpers over it. -/
import Derived.Test.YtonafcifolddjaaDoorMarkMsg
namespace Go.Proofs.YtonafcifolddjaaDoor
open Go.RowKit

def netV (sv : Value) (m : RMsg) (c : Int) : Value := .agg #[sv, .string m.frm, .string m.to, .string m.label, .int .i64 m.sort, .int .i64 c]
set_option maxHeartbeats 400000 in
theorem eq_netOut (l : List RMsg) (m : RMsg) (code : Int) (va vb : Value) (w : World) (ha : RMsgSl w w.heap.size va l) (hb : RMsgSl w w.heap.size vb l) :
    Calls Tryd.prog 13 #[netV va m code, netV vb m code] w fun e w' => e = .returned (.bool true) ∧ Below w.heap.size w w' := by
  have HA := hide ha
  have HB := hide hb
  obtain ⟨a1, c1, rfl, -⟩ := ha
  obtain ⟨a2, c2, rfl, -⟩ := hb
  have HW : Hid (∀ (o1 o2 : Obj), Below w.heap.size w ((w.alloc o1).alloc o2)) := hide (fun o1 o2 => (malloc1 _ _).trans ((malloc1 _ _).mono (by simp)))
  unfold netV
  go_enter Tryd.func13, Tryd.ntmps13
  go_wp2_with (first
    | (go_at_call 14; refine (eq_msgs l _ _ _ ((HA.out.carry (HW.out _ _)).up (HW.out _ _).size) ((HB.out.carry (HW.out _ _)).up (HW.out _ _).size)).mono ?_; rintro e w1 ⟨rfl, hb1⟩; have HB1 : Hid (Below w.heap.size w w1) := hide ((HW.out _ _).trans (hb1.mono (by simp; omega))); have HCC : Hid (∀ o, w1.cell? ⟨w.heap.size, o, none⟩ = _ ∧ w1.cell? ⟨w.heap.size + 1, o, none⟩ = _) := hide (fun o => ⟨hb1.cell (p := ⟨w.heap.size, o, none⟩) (by simp; omega), hb1.cell (p := ⟨w.heap.size + 1, o, none⟩) (by simp)⟩); have p1 := (HCC.out 1).1; have p2 := (HCC.out 2).1; have p3 := (HCC.out 3).1; have p4 := (HCC.out 4).1; have p5 := (HCC.out 5).1; have q1 := (HCC.out 1).2; have q2 := (HCC.out 2).2; have q3 := (HCC.out 3).2; have q4 := (HCC.out 4).2; have q5 := (HCC.out 5).2; simp at p1 p2 p3 p4 p5 q1 q2 q3 q4 q5; have hl1 : w.heap.size + 1 < w1.heap.size := (by have := hb1.size; simp at this; omega); clear hb1 HCC)
    | (go_at_call 32; refine (eq_msg m _).mono ?_; rintro e w2 ⟨rfl, hb2⟩; have HB2 : Hid (Below w.heap.size w w2) := hide (HB1.out.trans (hb2.mono HB1.out.size)); have r5 := (hb2.cell (p := ⟨w.heap.size, 5, none⟩) (by show w.heap.size < w1.heap.size; omega)).trans p5; have s5 := (hb2.cell (p := ⟨w.heap.size + 1, 5, none⟩) (by show w.heap.size + 1 < w1.heap.size; omega)).trans q5; clear hb2))
  go_ret
  exact ⟨rfl, HB2.out⟩

theorem mark_netOut (k0 : Nat) (l : List RMsg) (m : RMsg) (code : Int) (v : Value) (w : World) (B : Nat) (h1 : 1 ≤ k0) (hk : k0 + l.length * 4 ≤ 5900000) (hv : RMsgSl w w.heap.size v l) (hown : MOwn B w v) :
    Calls Tryd.prog 16 #[netV v m code, .int .i64 k0] w fun e w' => e = .returned (.int .i64 ((k0 + l.length * 4 : Nat) : Int)) ∧ RMsgSl w' w'.heap.size v (markRMsgs k0 l.length) ∧ ∃ W, Below w.heap.size w W ∧ W.grownBy w' v.ownBlock := by
  have HV := hide hv
  have HO := hide hown
  obtain ⟨a1, c1, rfl, -⟩ := hv
  clear hown
  unfold netV
  go_enter Tryd.func16, Tryd.ntmps16
  go_wp2_with (go_at_call 15; refine (mark_msgs k0 l _ _ B h1 hk ((HV.out.carry (malloc1 _ _)).up (malloc1 _ _).size) (HO.out.carry (malloc1 _ _))).mono ?_; rintro e w1 ⟨rfl, hs1, hg1⟩; have HS1 := hide hs1; have HG1 := hide hg1; clear hs1 hg1)
  go_ret
  exact ⟨ret_int rfl, HS1.out, _, malloc1 _ _, HG1.out⟩

theorem held_netOut (k0 n : Nat) (m : RMsg) (code : Int) (v : Value) (w : World) (h1 : 1 ≤ k0) (hk : k0 + n * 4 ≤ 5900000) (hv : RMsgSl w w.heap.size v (markRMsgs k0 n)) :
    Calls Tryd.prog 17 #[netV v m code, .int .i64 k0] w fun e w' => e = .returned (.int .i64 ((k0 + n * 4 : Nat) : Int)) ∧ Below w.heap.size w w' := by
  have HV := hide hv
  obtain ⟨a1, c1, rfl, -⟩ := hv
  rw [markRMsgs_len]
  have HV2 : Hid (RMsgSl w w.heap.size (.slice a1 n c1) (markRMsgs k0 n)) := hide (by have := HV.out; rwa [markRMsgs_len] at this)
  unfold netV
  go_enter Tryd.func17, Tryd.ntmps17
  go_wp2_with (go_at_call 34; refine (held_msgs k0 n _ _ h1 hk ((HV2.out.carry (malloc1 _ _)).up (malloc1 _ _).size)).mono ?_; rintro e w1 ⟨rfl, hb1⟩; have HB1 : Hid (Below w.heap.size w w1) := hide ((malloc1 _ _).trans (hb1.mono (by simp))); clear hb1)
  go_ret
  exact ⟨ret_int rfl, HB1.out⟩
end Go.Proofs.YtonafcifolddjaaDoor
