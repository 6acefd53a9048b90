/- MachineOut: the law's own helpers over it. -/
import Derived.Test.YtalipbmpcgillaaMrS
import Derived.Test.YtalipbmpcgillaaPkMach
namespace Go.Proofs.Ytalipbmpcgillaa
open Go.RowKit

def mV (ps : Option Addr) (cs : Nat) (pe : Option Addr) (ce : Nat) (m : Mach) : Value := .agg #[.slice ps m.states.length cs, .slice pe m.edges.length ce, .int .i64 m.start]
def mC (ps : Option Addr) (cs : Nat) (pe : Option Addr) (ce : Nat) (m : Mach) (c : Int) : List Value := [.slice ps m.states.length cs, .slice pe m.edges.length ce, .int .i64 m.start, .int .i64 c]
def mO (ps : Option Addr) (cs : Nat) (pe : Option Addr) (ce : Nat) (m : Mach) (c : Int) : Value := .agg (mC ps cs pe ce m c).toArray
theorem eq_machOut (m : Mach) (code : Int) (p1 : Option Addr) (c1 : Nat) (p2 : Option Addr) (c2 : Nat) (p3 : Option Addr) (c3 : Nat) (p4 : Option Addr) (c4 : Nat) (w : World) (ha : MachAt w (mV p1 c1 p2 c2 m) m) (hb : MachAt w (mV p3 c3 p4 c4 m) m) :
    Calls Try.prog 29 #[mO p1 c1 p2 c2 m code, mO p3 c3 p4 c4 m code] w fun e w' => e = .returned (.bool true) ∧ Below w.heap.size w w' := by
  have HA := hide ha
  have HB := hide hb
  have HW : Hid (∀ (o1 o2 : Obj), Below w.heap.size w ((w.alloc o1).alloc o2)) := hide (fun o1 o2 => (malloc1 _ _).trans ((malloc1 _ _).mono (by simp)))
  have HX : Hid (BoxL ((w.alloc (.cells (mC p1 c1 p2 c2 m code).toArray 50)).alloc (.cells (mC p3 c3 p4 c4 m code).toArray 50)) w.heap.size (mC p1 c1 p2 c2 m code)) := hide ((BoxL.new w _ _).keep (below_apart (malloc1 _ _)) (by simp))
  have HY : Hid (BoxL ((w.alloc (.cells (mC p1 c1 p2 c2 m code).toArray 50)).alloc (.cells (mC p3 c3 p4 c4 m code).toArray 50)) (w.heap.size + 1) (mC p3 c3 p4 c4 m code)) := hide (by have := BoxL.new (w.alloc (.cells (mC p1 c1 p2 c2 m code).toArray 50)) (mC p3 c3 p4 c4 m code) 50; simpa using this)
  unfold mO mC mV at *
  clear ha hb
  go_enter Try.func29, Try.ntmps29
  go_wp2_with (go_at_call 26; refine (eq_machine m _ _ _ (HA.out.carry (HW.out _ _)) (HB.out.carry (HW.out _ _))).mono ?_; rintro e w1 ⟨rfl, hb1⟩; have HB1 : Hid (Below w.heap.size w w1) := hide ((HW.out _ _).trans (hb1.mono (by simp; omega))); have x3 := (HX.out.keep (below_apart hb1) (by simp)).cell 3 _ rfl; have y3 := (HY.out.keep (below_apart hb1) (by simp)).cell 3 _ rfl; clear hb1)
  go_ret
  exact ⟨rfl, HB1.out⟩
theorem mark_machOut (k0 : Nat) (m : Mach) (code : Int) (p1 : Option Addr) (c1 : Nat) (p2 : Option Addr) (c2 : Nat) (w : World) (lo : Nat) (h1 : 1 ≤ k0) (hk : k0 + machN m ≤ 5900000) (hv : MachAt w (mV p1 c1 p2 c2 m) m) (hf : Fresh lo w (mV p1 c1 p2 c2 m)) :
    Calls Try.prog 30 #[mO p1 c1 p2 c2 m code, .int .i64 k0] w fun e w' => e = .returned (.int .i64 ((k0 + machN m : Nat) : Int)) ∧ MachAt w' (mV p1 c1 p2 c2 m) (markMach k0 m) ∧ Apart w w' (vblocks (mV p1 c1 p2 c2 m)) := by
  have HV := hide hv
  have HF := hide hf
  unfold mO mC mV at *
  clear hv hf
  go_enter Try.func30, Try.ntmps30
  go_wp2_with (go_at_call 77; refine (mach_mark k0 m _ _ lo h1 hk (HV.out.carry (malloc1 _ _)) (HF.out.keep (below_apart (malloc1 _ _)) (fun _ _ => by simp))).mono ?_; rintro e w1 ⟨rfl, hs1, ha1⟩; have HS1 := hide hs1; have HA1 := hide ha1; clear hs1 ha1)
  go_ret
  exact ⟨ret_int rfl, HS1.out, by have := (below_apart (malloc1 _ _)).trans HA1.out; rwa [List.nil_append] at this⟩
theorem held_machOut (k0 : Nat) (m : Mach) (code : Int) (p1 : Option Addr) (c1 : Nat) (p2 : Option Addr) (c2 : Nat) (w : World) (h1 : 1 ≤ k0) (hk : k0 + machN m ≤ 5900000) (hv : MachAt w (mV p1 c1 p2 c2 m) (markMach k0 m)) :
    Calls Try.prog 31 #[mO p1 c1 p2 c2 m code, .int .i64 k0] w fun e w' => e = .returned (.int .i64 ((k0 + machN m : Nat) : Int)) ∧ Below w.heap.size w w' := by
  have HV := hide hv
  unfold mO mC mV at *
  clear hv
  go_enter Try.func31, Try.ntmps31
  go_wp2_with (go_at_call 78; refine (mach_held k0 m _ _ h1 hk (HV.out.carry (malloc1 _ _))).mono ?_; rintro e w1 ⟨rfl, hb1⟩; have HB1 : Hid (Below w.heap.size w w1) := hide ((malloc1 _ _).trans (hb1.mono (by simp))); clear hb1)
  go_ret
  exact ⟨ret_int rfl, HB1.out⟩
theorem own_machAt {w : World} {base : Nat} {m : Mach} {ps pe : Option Addr} {cs ce : Nat} (hs : RStateOwn w base (.slice ps m.states.length cs) m.states) (he : REdgeOwn w base (.slice pe m.edges.length ce) m.edges) (hl : m.states.length ≤ 40 ∧ m.edges.length ≤ 80) : MachAt w (mV ps cs pe ce m) m :=
  ⟨_, _, rfl, hs.sl (by omega), he.sl (by omega)⟩
theorem own_fresh {w : World} {base : Nat} {m : Mach} {ps pe : Option Addr} {cs ce : Nat} (hs : RStateOwn w base (.slice ps m.states.length cs) m.states) (he : REdgeOwn w base (.slice pe m.edges.length ce) m.edges) (hd : ∀ b ∈ vblocks (.slice ps m.states.length cs), b ∉ vblocks (.slice pe m.edges.length ce)) : Fresh base w (mV ps cs pe ce m) :=
  fresh_two hs.fresh.own he.fresh.own (fun b h1 h2 => hd b ((own_blocks rfl).1 h1) ((own_blocks rfl).1 h2))
end Go.Proofs.Ytalipbmpcgillaa
