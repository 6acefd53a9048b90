/- Acts of a state; what the specification asks first. -/
import Derived.Test.YthaomohoiginnaaActs
import Derived.Test.YthaomohoiginnaaMachR
namespace Go.Proofs.Ythaomohoiginnaa
open Go.RowKit
attribute [local go_sem ↓] Go.wp_at_zero Go.wp_at_succ

def actsR (m : Mach) (s : Int) : List RAct := if machB m && inB s 0 ((m.states.length : Int) - 1) then actsV m s else []
theorem actsR_len (m : Mach) (s : Int) : (actsR m s).length ≤ m.edges.length := by
  unfold actsR
  split
  · exact actsV_len m s
  · simp
theorem mach_80 {m : Mach} (h : machB m = true) : m.edges.length ≤ 80 := by
  simp [machB, headB] at h
  exact h.1.2.1
theorem actsR_len80 (m : Mach) (s : Int) : (actsR m s).length ≤ 80 := by
  unfold actsR
  split
  · rename_i h
    simp at h
    exact Nat.le_trans (actsV_len m s) (mach_80 h.1)
  · simp
theorem s_machineRight_at {q : Bool} {m : Mach} (hq : machB m = q) (v : Value) (w : World) (hf : m.fit) (hv : MachAt w v m) :
    Calls Try.prog 25 #[v] w fun e w' => e = .returned (.bool q) ∧ Below w.heap.size w w' := by subst hq; exact s_machineRight m v w hf hv
set_option maxHeartbeats 400000 in
theorem s_l04state {q : Bool} {m : Mach} {s : Int} (hq : inB s 0 ((m.states.length : Int) - 1) = q) (v : Value) (w : World) (hv : MachAt w v m) :
    Calls Try.prog 87 #[v, .int .i64 s] w fun e w' => e = .returned (.bool q) ∧ Below w.heap.size w w' := by
  obtain ⟨sv, ev, rfl, hs, he⟩ := hv
  have hsl := hs.lenm
  obtain ⟨sa, sc, rfl, -⟩ := hs
  obtain ⟨ea, ec, rfl, -⟩ := he
  have HQ := hide hq
  clear hq
  go_enter Try.func87, Try.ntmps87
  go_wp2_with (go_at_call 71; refine (ms_in_at HQ.out _).mono ?_; rintro e w' ⟨rfl, rfl⟩)
  go_ret
  exact ⟨rfl, malloc1 _ _⟩
end Go.Proofs.Ythaomohoiginnaa
