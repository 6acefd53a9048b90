/- What is on its way: the mathematics. -/
import Derived.Test.YtonafcifolddjaaDoorRowMsg
import Derived.Test.YtonafcifolddjaaDoorName
namespace Go.Proofs.YtonafcifolddjaaDoor
open Go.RowKit

def sortM (n : Int) : Bool := decide (0 ≤ n) && decide (n ≤ 2)
def msgB (m : RMsg) : Bool := nameB m.frm && (nameB m.to && (nameB m.label && (!(m.frm.toList == m.to.toList) && sortM m.sort)))
/-- a message goes between these two -/
def isMsg (f t : ByteArray) (m : RMsg) : Bool := m.frm.toList == f.toList && m.to.toList == t.toList
def cntM (f t : ByteArray) (l : List RMsg) : Nat := l.countP (isMsg f t)
def netB (l : List RMsg) : Bool := decide (l.length ≤ 36) && l.all fun m => msgB m && decide (cntM m.frm m.to l ≤ 3)
theorem bytes_inj {a b : ByteArray} (h : a.toList = b.toList) : a = b := by
  rw [Go.ByteArray.toList_eq, Go.ByteArray.toList_eq] at h
  apply ByteArray.ext
  exact Array.ext' h
theorem isMsg_iff {f t : ByteArray} {m : RMsg} : isMsg f t m = true ↔ m.frm = f ∧ m.to = t := by
  simp only [isMsg, Bool.and_eq_true, beq_iff_eq]
  exact ⟨fun h => ⟨bytes_inj h.1, bytes_inj h.2⟩, fun h => by rw [h.1, h.2]; exact ⟨rfl, rfl⟩⟩
theorem isMsg_self (m : RMsg) : isMsg m.frm m.to m = true := isMsg_iff.2 ⟨rfl, rfl⟩
theorem cntM_app (f t : ByteArray) (a b : List RMsg) : cntM f t (a ++ b) = cntM f t a + cntM f t b := List.countP_append
theorem cntM_one (f t : ByteArray) (m : RMsg) : cntM f t [m] = if isMsg f t m then 1 else 0 := by
  simp [cntM, List.countP_cons]
theorem cntM_le (f t : ByteArray) (l : List RMsg) : cntM f t l ≤ l.length := List.countP_le_length
theorem cntM_take (f t : ByteArray) (l : List RMsg) (k : Nat) : cntM f t (l.take k) ≤ cntM f t l := by
  have := cntM_app f t (l.take k) (l.drop k)
  rw [List.take_append_drop] at this
  omega
theorem cntM_succ (f t : ByteArray) {l : List RMsg} {k : Nat} (h : k < l.length) : cntM f t (l.take (k + 1)) = cntM f t (l.take k) + if isMsg f t l[k] then 1 else 0 := by
  rw [List.take_succ_eq_append_getElem h, cntM_app, cntM_one]
theorem net_long {l : List RMsg} (h : 36 < l.length) : netB l = false := by
  rw [netB, decide_eq_false (by omega)]; rfl
theorem net_msg {l : List RMsg} {m : RMsg} (hm : m ∈ l) (h : msgB m = false) : netB l = false := by
  have : (l.all fun m => msgB m && decide (cntM m.frm m.to l ≤ 3)) = false := by
    rw [List.all_eq_false]; exact ⟨m, hm, by simp [h]⟩
  rw [netB, this, Bool.and_false]
theorem net_full {l : List RMsg} {m : RMsg} (hm : m ∈ l) (h : 3 < cntM m.frm m.to l) : netB l = false := by
  have : (l.all fun m => msgB m && decide (cntM m.frm m.to l ≤ 3)) = false := by
    rw [List.all_eq_false]; exact ⟨m, hm, by simp; intro _; omega⟩
  rw [netB, this, Bool.and_false]
theorem net_yes {l : List RMsg} (h1 : l.length ≤ 36) (h2 : ∀ m ∈ l, msgB m = true) (h3 : ∀ m ∈ l, cntM m.frm m.to l ≤ 3) : netB l = true := by
  rw [netB, decide_eq_true h1, Bool.true_and, List.all_eq_true]
  intro m hm
  rw [h2 m hm, decide_eq_true (h3 m hm)]; rfl
theorem net_len {l : List RMsg} (h : netB l = true) : l.length ≤ 36 := by
  simp only [netB, Bool.and_eq_true, decide_eq_true_eq] at h; exact h.1
theorem net_right {l : List RMsg} (h : netB l = true) : ∀ m ∈ l, msgB m = true ∧ cntM m.frm m.to l ≤ 3 := by
  simp only [netB, Bool.and_eq_true, List.all_eq_true, decide_eq_true_eq] at h
  exact h.2
theorem net_cnt {l : List RMsg} (h : netB l = true) (f t : ByteArray) : cntM f t l ≤ 3 := by
  by_cases h0 : cntM f t l = 0
  · omega
  · obtain ⟨m, hm, hp⟩ := List.countP_pos_iff.1 (Nat.pos_of_ne_zero h0)
    obtain ⟨rfl, rfl⟩ := isMsg_iff.1 hp
    exact (net_right h m hm).2
theorem msg_name {m : RMsg} (h : msgB m = true) : nameB m.frm = true ∧ nameB m.to = true ∧ nameB m.label = true ∧ 0 ≤ m.sort ∧ m.sort ≤ 2 := by
  simp only [msgB, sortM, Bool.and_eq_true, decide_eq_true_eq] at h
  exact ⟨h.1, h.2.1, h.2.2.1, h.2.2.2.2⟩
theorem name_short {s : ByteArray} (h : nameB s = true) : s.size ≤ 20 := by
  simp only [nameB, Bool.and_eq_true, decide_eq_true_eq] at h
  exact h.1.2
theorem ib_sort {q : Bool} {n : Int} (hq : sortM n = q) (w : World) :
    Calls Tryd.prog 52 #[.int .i64 n] w fun e w' => e = .returned (.bool q) ∧ w' = w := by
  have HQ := hide hq
  clear hq
  by_cases h : 0 ≤ n
  all_goals
    go_enter Tryd.func52, Tryd.ntmps52
    go_wp2_with fail
    go_ret
    exact ⟨ret_bool (by rw [← HQ.out]; simp [sortM, *]; try omega), rfl⟩
theorem sb_is (n lo hi : Int) (w : World) :
    Calls Tryd.prog 42 #[.int .i64 n, .int .i64 lo, .int .i64 hi] w fun e w' => e = .returned (.bool (decide (lo ≤ n) && decide (n ≤ hi))) ∧ w' = w := by
  by_cases h : lo ≤ n
  all_goals
    go_enter Tryd.func42, Tryd.ntmps42
    go_wp2_with fail
    go_ret
    refine ⟨ret_bool ?_, rfl⟩
    simp [*]
    try omega
theorem sb_sort {q : Bool} {n : Int} (hq : sortM n = q) (w : World) :
    Calls Tryd.prog 49 #[.int .i64 n] w fun e w' => e = .returned (.bool q) ∧ w' = w := by
  subst hq
  go_enter Tryd.func49, Tryd.ntmps49
  go_wp2_with (go_at_call 42; refine (sb_is _ _ _ _).mono ?_; rintro e w' ⟨rfl, rfl⟩)
  go_ret
  exact ⟨ret_bool rfl, rfl⟩
theorem in_name {q : Bool} {s : ByteArray} (h : nameB s = q) (hs : s.size ≤ maxLen) (w : World) :
    Calls Tryd.prog 51 #[.string s] w fun e w' => e = .returned (.bool q) ∧ w' = w := by subst h; exact impl_name s w hs
theorem sn_name {q : Bool} {s : ByteArray} (h : nameB s = q) (hs : s.size ≤ maxLen) (w : World) :
    Calls Tryd.prog 48 #[.string s] w fun e w' => e = .returned (.bool q) ∧ w' = w := by subst h; exact spec_name s w hs
end Go.Proofs.YtonafcifolddjaaDoor
