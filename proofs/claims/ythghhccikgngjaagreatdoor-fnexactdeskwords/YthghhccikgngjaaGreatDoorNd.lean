/- Nodes: what a Node holds, as a value and in memory; the small tests of a Node. -/
import Derived.Test.YthghhccikgngjaaGreatDoorRows
import Derived.Test.YthghhccikgngjaaGreatDoorBase
import Derived.Test.YthghhccikgngjaaGreatDoorName
import Derived.Deep.RegionWith
namespace Go.Proofs.YthghhccikgngjaaGreatDoor
open Go.RowKit

structure Nd where
  op : Int
  name : ByteArray
  peer : ByteArray
  many : Int
  sort : Int

def Nd.val (n : Nd) : Value := .agg #[.int .i64 n.op, .string n.name, .string n.peer, .int .i64 n.many, .int .i64 n.sort]
/-- its texts are short enough to be read -/
def Nd.ok (n : Nd) : Prop := n.name.size ≤ maxLen ∧ n.peer.size ≤ maxLen

def wordB (t : ByteArray) : Bool := nameB t && (!(t.toList == [101, 110, 100]) && !(t.toList == [114, 101, 99]))
def sortB (n : Int) : Bool := decide (0 ≤ n) && decide (n ≤ 2)
def manyB (n : Int) : Bool := decide (1 ≤ n) && decide (n ≤ 4)
def recB (n : Nd) : Bool := n.op == 2 && n.peer.toList == [] && n.many == 0 && n.sort == 0 && wordB n.name
def varB (n : Nd) : Bool := n.op == 1 && n.peer.toList == [] && n.many == 0 && n.sort == 0
def endB (n : Nd) : Bool := n.op == 0 && n.name.toList == [] && n.peer.toList == [] && n.many == 0 && n.sort == 0
/-- in a plan both are named, in a part the Peer alone -/
def tnameB (n : Nd) : Bool := if n.op == 3 then wordB n.name && !(n.name.toList == n.peer.toList) else n.name.toList == []
def talkI (n : Nd) : Bool := (n.op == 3 || n.op == 5 || n.op == 6) && n.sort == 0 && manyB n.many && wordB n.peer && tnameB n
def talkS (part : Bool) (n : Nd) : Bool := wordB n.peer && manyB n.many && n.sort == 0 && (if part then n.name.toList == [] && (n.op == 5 || n.op == 6) else n.op == 3 && wordB n.name && !(n.name.toList == n.peer.toList))
def caseB (n : Nd) : Bool := n.op == 4 && n.peer.toList == [] && n.many == 0 && wordB n.name && sortB n.sort

theorem alloc1 (w : World) (o : Obj) : Below w.heap.size w (w.alloc o) := (Below.refl _ _).alloc (Nat.le_refl _) o

set_option maxHeartbeats 400000 in
theorem word_right (t : ByteArray) (w : World) (hs : t.size ≤ maxLen) :
    Calls Tryz.prog 337 #[.string t] w fun e w' => e = .returned (.bool (wordB t)) ∧ w' = w := by
  obtain ⟨b, hb⟩ : ∃ b, nameB t = b := ⟨_, rfl⟩
  have HB := hide hb
  have HS := hide hs
  clear hb hs
  cases b
  all_goals
    go_enter Tryz.func337, Tryz.ntmps337
    go_wp2_with (go_at_call 164; refine (impl_name t _ (unhide HS)).mono ?_; rintro e w' ⟨rfl, rfl⟩; rw [unhide HB])
    all_goals
      go_ret
      refine ⟨ret_bool ?_, rfl⟩
      rw [wordB, unhide HB]
      simp [*]

set_option maxHeartbeats 400000 in
theorem s_name (t : ByteArray) (w : World) (hs : t.size ≤ maxLen) :
    Calls Tryz.prog 274 #[.string t] w fun e w' => e = .returned (.bool (wordB t)) ∧ w' = w := by
  obtain ⟨b, hb⟩ : ∃ b, nameB t = b := ⟨_, rfl⟩
  have HB := hide hb
  have HS := hide hs
  clear hb hs
  cases b
  all_goals
    go_enter Tryz.func274, Tryz.ntmps274
    go_wp2_with (go_at_call 80; refine (spec_name t _ (unhide HS)).mono ?_; rintro e w' ⟨rfl, rfl⟩; rw [unhide HB])
    all_goals
      go_ret
      refine ⟨ret_bool ?_, rfl⟩
      rw [wordB, unhide HB]
      simp [*]

theorem s_is (n lo hi : Int) (w : World) :
    Calls Tryz.prog 141 #[.int .i64 n, .int .i64 lo, .int .i64 hi] w fun e w' => e = .returned (.bool (decide (lo ≤ n) && decide (n ≤ hi))) ∧ w' = w := by
  by_cases h : lo ≤ n
  all_goals
    go_enter Tryz.func141, Tryz.ntmps141
    go_wp2_with fail
    go_ret
    refine ⟨ret_bool ?_, rfl⟩
    simp [*]
    try omega

theorem s_sort (n : Int) (w : World) :
    Calls Tryz.prog 142 #[.int .i64 n] w fun e w' => e = .returned (.bool (sortB n)) ∧ w' = w := by
  go_enter Tryz.func142, Tryz.ntmps142
  go_wp2_with (go_at_call 141; refine (s_is _ _ _ _).mono ?_; rintro e w' ⟨rfl, rfl⟩)
  go_ret
  exact ⟨ret_bool rfl, rfl⟩

theorem sort_right (n : Int) (w : World) :
    Calls Tryz.prog 270 #[.int .i64 n] w fun e w' => e = .returned (.bool (sortB n)) ∧ w' = w := by
  by_cases h : 0 ≤ n
  all_goals
    go_enter Tryz.func270, Tryz.ntmps270
    go_wp2_with fail
    go_ret
    exact ⟨ret_bool (by simp [sortB, *]; try omega), rfl⟩

set_option maxHeartbeats 400000 in
theorem rec_right (n : Nd) (w : World) (ok : n.ok) :
    Calls Tryz.prog 287 #[n.val] w fun e w' => e = .returned (.bool (recB n)) ∧ Below w.heap.size w w' := by
  have hb : recB n = (n.op == 2 && n.peer.toList == [] && n.many == 0 && n.sort == 0 && wordB n.name) := rfl
  have HR := hide hb
  have HS := hide ok.1
  clear hb ok
  unfold Nd.val
  go_enter Tryz.func287, Tryz.ntmps287
  go_wp2_with (go_at_call 337; refine (word_right n.name _ (unhide HS)).mono ?_; rintro e w' ⟨rfl, rfl⟩)
  all_goals
    go_ret
    refine ⟨ret_bool ?_, alloc1 _ _⟩
    rw [unhide HR]
    simp [*]

set_option maxHeartbeats 400000 in
theorem tname_right (n : Nd) (w : World) (ok : n.ok) :
    Calls Tryz.prog 338 #[n.val] w fun e w' => e = .returned (.bool (tnameB n)) ∧ Below w.heap.size w w' := by
  have HR := hide (show tnameB n = (if n.op == 3 then wordB n.name && !(n.name.toList == n.peer.toList) else n.name.toList == []) from rfl)
  obtain ⟨b, hb⟩ : ∃ b, wordB n.name = b := ⟨_, rfl⟩
  have HB := hide hb
  have HS := hide ok.1
  obtain ⟨c, hc⟩ : ∃ c, (n.op == 3) = c := ⟨_, rfl⟩
  have HC := hide hc
  clear hb ok
  unfold Nd.val
  cases b
  all_goals cases c
  all_goals
    go_enter Tryz.func338, Tryz.ntmps338
    go_wp2_with (go_at_call 337; refine (word_right n.name _ (unhide HS)).mono ?_; rintro e w' ⟨rfl, rfl⟩; rw [unhide HB])
    all_goals
      go_ret
      refine ⟨ret_bool ?_, alloc1 _ _⟩
      rw [unhide HR, unhide HB, unhide HC]
      simp [*]

set_option maxHeartbeats 400000 in
theorem talk_right (n : Nd) (w : World) (ok : n.ok) (hop : n.op = 3 ∨ n.op = 5 ∨ n.op = 6) :
    Calls Tryz.prog 291 #[n.val] w fun e w' => e = .returned (.bool (talkI n)) ∧ Below w.heap.size w w' := by
  have HR : Hid (talkI n = (n.sort == 0 && manyB n.many && wordB n.peer && tnameB n)) := hide (by rcases hop with h | h | h <;> simp [talkI, h])
  obtain ⟨b, hb⟩ : ∃ b, tnameB n = b := ⟨_, rfl⟩
  obtain ⟨c, hc⟩ : ∃ c, wordB n.peer = c := ⟨_, rfl⟩
  have HB := hide hb
  have HB2 : Hid (tnameB ⟨n.op, n.name, n.peer, n.many, 0⟩ = b) := hide hb
  have HC := hide hc
  have HO := hide ok
  have HT := hide ok.2
  clear hb hc ok hop
  unfold Nd.val
  cases b
  all_goals cases c
  all_goals
    go_enter Tryz.func291, Tryz.ntmps291
    go_wp2_with (first | (go_at_call 338; refine (tname_right ⟨n.op, n.name, n.peer, n.many, 0⟩ _ (unhide HO)).mono ?_; rintro e w' ⟨rfl, hb'⟩; rw [HB2.out]; have HBE := hide hb'; clear hb') | (go_at_call_of 337 n.peer; refine (word_right n.peer _ (unhide HT)).mono ?_; rintro e w' ⟨rfl, rfl⟩; rw [unhide HC]))
    all_goals
      go_ret
      refine ⟨ret_bool ?_, ?_⟩
      · rw [unhide HR, unhide HB, unhide HC]
        simp [manyB, *]
        try omega
      · first | exact (alloc1 _ _).trans (HBE.out.mono (alloc1 _ _).size) | exact alloc1 _ _

set_option maxHeartbeats 400000 in
theorem case_right (n : Nd) (w : World) (ok : n.ok) :
    Calls Tryz.prog 339 #[n.val] w fun e w' => e = .returned (.bool (caseB n)) ∧ Below w.heap.size w w' := by
  have HR := hide (show caseB n = (n.op == 4 && n.peer.toList == [] && n.many == 0 && wordB n.name && sortB n.sort) from rfl)
  obtain ⟨b, hb⟩ : ∃ b, wordB n.name = b := ⟨_, rfl⟩
  have HB := hide hb
  have HS := hide ok.1
  clear hb ok
  unfold Nd.val
  cases b
  all_goals
    go_enter Tryz.func339, Tryz.ntmps339
    go_wp2_with (first | (go_at_call 337; refine (word_right n.name _ (unhide HS)).mono ?_; rintro e w' ⟨rfl, rfl⟩; rw [unhide HB]) | (go_at_call 270; refine (sort_right n.sort _).mono ?_; rintro e w' ⟨rfl, rfl⟩))
    all_goals
      go_ret
      refine ⟨ret_bool ?_, alloc1 _ _⟩
      rw [unhide HR, unhide HB]
      simp [*]

set_option maxHeartbeats 800000 in
theorem s_talk (part : Bool) (bx : Nat) (n : Nd) (w : World) (ok : n.ok) (hx : w.cell? ⟨bx, 1, none⟩ = some (.bool part)) :
    Calls Tryz.prog 275 #[.pointer (some ⟨bx, 0, none⟩), n.val] w fun e w' => e = .returned (.bool (talkS part n)) ∧ Below w.heap.size w w' := by
  have HR := hide (show talkS part n = (wordB n.peer && manyB n.many && n.sort == 0 && (if part then n.name.toList == [] && (n.op == 5 || n.op == 6) else n.op == 3 && wordB n.name && !(n.name.toList == n.peer.toList))) from rfl)
  obtain ⟨b, hb⟩ : ∃ b, wordB n.name = b := ⟨_, rfl⟩
  obtain ⟨c, hc⟩ : ∃ c, wordB n.peer = c := ⟨_, rfl⟩
  obtain ⟨d, hd⟩ : ∃ d, (decide (1 ≤ n.many) && decide (n.many ≤ 4)) = d := ⟨_, rfl⟩
  have HB := hide hb
  have HC := hide hc
  have HD := hide hd
  have HM := hide (show manyB n.many = d from hd)
  have HS := hide ok.1
  have HT := hide ok.2
  have hlt : bx < w.heap.size := World.block_lt_of_cell? w _ hx
  clear hb hc hd ok
  unfold Nd.val
  cases b
  all_goals cases c
  all_goals cases d
  all_goals cases part
  all_goals
    go_enter Tryz.func275, Tryz.ntmps275
    go_wp2_with (first | (go_at_call_of 274 n.name; refine (s_name n.name _ (unhide HS)).mono ?_; rintro e w' ⟨rfl, rfl⟩; rw [unhide HB]) | (go_at_call_of 274 n.peer; refine (s_name n.peer _ (unhide HT)).mono ?_; rintro e w' ⟨rfl, rfl⟩; rw [unhide HC]) | (go_at_call 141; refine (s_is _ _ _ _).mono ?_; rintro e w' ⟨rfl, rfl⟩; rw [unhide HD]))
    all_goals
      go_ret
      refine ⟨ret_bool ?_, alloc1 _ _⟩
      rw [unhide HR, unhide HB, unhide HC, unhide HM]
      simp [*]
      try simp_all
end Go.Proofs.YthghhccikgngjaaGreatDoor
