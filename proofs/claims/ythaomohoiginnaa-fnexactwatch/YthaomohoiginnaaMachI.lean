/- MachineRight of the program: its small functions. -/
import Derived.Test.YthaomohoiginnaaCmp
namespace Go.Proofs.Ythaomohoiginnaa
open Go.RowKit
attribute [local go_sem ↓] Go.wp_at_zero Go.wp_at_succ

theorem MachAt.shape {w : World} {v : Value} {m : Mach} (h : MachAt w v m) : ∃ sa sc ea ec, v = machV sa sc ea ec m := by
  obtain ⟨sv, ev, rfl, ⟨sa, sc, rfl, _⟩, ⟨ea, ec, rfl, _⟩⟩ := h
  exact ⟨sa, sc, ea, ec, rfl⟩
theorem malloc2 (w : World) (a b : Obj) : Below w.heap.size w ((w.alloc a).alloc b) := (malloc1 _ _).trans ((malloc1 _ _).mono (by simp))

set_option maxHeartbeats 400000 in
theorem has_state {q : Bool} {m : Mach} {s : Int} (hq : inB s 0 ((m.states.length : Int) - 1) = q) (v : Value) (w : World) (hv : MachAt w v m) :
    Calls Try.prog 76 #[v, .int .i64 s] w fun e w' => e = .returned (.bool q) ∧ Below w.heap.size w w' := by
  have hsl : m.states.length ≤ 4294967296 := by obtain ⟨sv, ev, rfl, hs, he⟩ := hv; exact hs.lenm
  obtain ⟨sa, sc, ea, ec, rfl⟩ := hv.shape
  clear hv
  unfold machV
  have HQ := hide hq
  by_cases h0 : 0 ≤ s
  · by_cases h1 : s < (m.states.length : Int)
    · have HT : Hid (q = true) := hide (by rw [← hq]; simp [inB, h0]; omega)
      clear hq
      go_enter Try.func76, Try.ntmps76
      go_wp2_with fail
      go_ret
      exact ⟨ret_bool HT.out, malloc1 _ _⟩
    · have HT : Hid (q = false) := hide (by rw [← hq]; simp [inB, h0]; omega)
      clear hq
      go_enter Try.func76, Try.ntmps76
      go_wp2_with fail
      go_ret
      exact ⟨ret_bool HT.out, malloc1 _ _⟩
  · have HT : Hid (q = false) := hide (by rw [← hq]; simp [inB, h0])
    clear hq
    go_enter Try.func76, Try.ntmps76
    go_wp2_with fail
    go_ret
    exact ⟨ret_bool HT.out, malloc1 _ _⟩

theorem is_end {q : Bool} {x : RState} (hq : (x.kind == 0) = q) (w : World) :
    Calls Try.prog 120 #[x.val] w fun e w' => e = .returned (.bool q) ∧ Below w.heap.size w w' := by
  unfold RState.val
  cases q
  all_goals
    go_enter Try.func120, Try.ntmps120
    go_wp2_with fail
    go_ret
    exact ⟨ret_bool (by first | exact hq.symm | rfl), malloc1 _ _⟩

theorem mi_sort {q : Bool} {n : Int} (hq : inB n 0 2 = q) (w : World) :
    Calls Try.prog 121 #[.int .i64 n] w fun e w' => e = .returned (.bool q) ∧ w' = w := by
  have HQ := hide hq
  clear hq
  by_cases h : 0 ≤ n
  all_goals
    go_enter Try.func121, Try.ntmps121
    go_wp2_with fail
    go_ret
    exact ⟨ret_bool (by rw [← HQ.out]; simp [inB, *]; try omega), rfl⟩
theorem impl_name_at {q : Bool} {s : ByteArray} (h : nameB s = q) (hs : s.size ≤ maxLen) (w : World) :
    Calls Try.prog 63 #[.string s] w fun e w' => e = .returned (.bool q) ∧ w' = w := by subst h; exact impl_name s w hs

set_option maxHeartbeats 400000 in
theorem state_right {q : Bool} {x : RState} (hq : mstB x = q) (hp : x.peer.size ≤ maxLen) (w : World) :
    Calls Try.prog 77 #[x.val] w fun e w' => e = .returned (.bool q) ∧ Below w.heap.size w w' := by
  have HP := hide hp
  obtain ⟨nb, hnb⟩ : ∃ nb, nameB x.peer = nb := ⟨_, rfl⟩
  have HNB := hide hnb
  obtain ⟨k0, hk0⟩ : ∃ k0, (x.kind == 0) = k0 := ⟨_, rfl⟩
  obtain ⟨k1, hk1⟩ : ∃ k1, (x.kind == 1) = k1 := ⟨_, rfl⟩
  obtain ⟨k2, hk2⟩ : ∃ k2, (x.kind == 2) = k2 := ⟨_, rfl⟩
  obtain ⟨pe, hpe⟩ : ∃ pe, (x.peer.toList == []) = pe := ⟨_, rfl⟩
  have HQ : Hid (q = if k0 then pe else nb && (k1 || k2)) := hide (by
    rw [← hq, mstB, hk0, hpe, hnb]
    cases k0
    · have : inB x.kind 0 2 = (k1 || k2) := by
        rw [← hk1, ← hk2, inB, Bool.eq_iff_iff]; simp at hk0 ⊢; omega
      simp [this]
    · rfl)
  clear hq hp hnb
  unfold RState.val
  cases k0
  all_goals cases k1
  all_goals cases k2
  all_goals
    go_enter Try.func77, Try.ntmps77
    go_wp2_with (go_at_call 63; refine (impl_name_at HNB.out HP.out _).mono ?_; rintro e w' ⟨rfl, rfl⟩)
    go_ret
    exact ⟨ret_bool (by rw [HQ.out]; simp [*]), malloc1 _ _⟩
end Go.Proofs.Ythaomohoiginnaa
