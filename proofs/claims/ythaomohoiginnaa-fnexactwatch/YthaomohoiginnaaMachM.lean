/- What a right machine is; the small functions of the specification that ask for it. -/
import Derived.Test.YthaomohoiginnaaMach
namespace Go.Proofs.Ythaomohoiginnaa
open Go.RowKit

theorem ms_is (n lo hi : Int) (w : World) :
    Calls Try.prog 71 #[.int .i64 n, .int .i64 lo, .int .i64 hi] w fun e w' => e = .returned (.bool (decide (lo ≤ n) && decide (n ≤ hi))) ∧ w' = w := by
  by_cases h : lo ≤ n
  all_goals
    go_enter Try.func71, Try.ntmps71
    go_wp2_with fail
    go_ret
    refine ⟨ret_bool ?_, rfl⟩
    simp [*]
    try omega
def inB (n lo hi : Int) : Bool := decide (lo ≤ n) && decide (n ≤ hi)
theorem ms_in (n lo hi : Int) (w : World) :
    Calls Try.prog 71 #[.int .i64 n, .int .i64 lo, .int .i64 hi] w fun e w' => e = .returned (.bool (inB n lo hi)) ∧ w' = w := ms_is n lo hi w
theorem ms_sort (n : Int) (w : World) :
    Calls Try.prog 72 #[.int .i64 n] w fun e w' => e = .returned (.bool (inB n 0 2)) ∧ w' = w := by
  go_enter Try.func72, Try.ntmps72
  go_wp2_with (go_at_call 71; refine (ms_in _ _ _ _).mono ?_; rintro e w' ⟨rfl, rfl⟩)
  go_ret
  exact ⟨ret_bool rfl, rfl⟩
def mlessE (a b : REdge) : Bool := decide (a.src < b.src) || (a.src == b.src && Op.bytesLess a.label.toList b.label.toList)
theorem ms_less (a b : REdge) (w : World) :
    Calls Try.prog 73 #[a.val, b.val] w fun e w' => e = .returned (.bool (mlessE a b)) ∧ Below w.heap.size w w' := by
  have HE := hide (show mlessE a b = (decide (a.src < b.src) || (a.src == b.src && Op.bytesLess a.label.toList b.label.toList)) from rfl)
  unfold REdge.val
  by_cases h1 : a.src < b.src
  · go_enter Try.func73, Try.ntmps73
    go_wp2_with fail
    all_goals
      go_ret
      refine ⟨ret_bool ?_, (malloc1 _ _).trans ((malloc1 _ _).mono (by simp))⟩
      rw [HE.out]; simp [*]
  · have h1' : decide (a.src < b.src) = false := decide_eq_false h1
    cases h2 : (a.src == b.src)
    all_goals
      have H2 := hide h2
      have H1 := hide h1'
      go_enter Try.func73, Try.ntmps73
      go_wp2_with fail
      all_goals
        go_ret
        refine ⟨ret_bool ?_, (malloc1 _ _).trans ((malloc1 _ _).mono (by simp))⟩
        rw [HE.out, H2.out, H1.out]; simp
def mstB (x : RState) : Bool := if x.kind == 0 then x.peer.toList == [] else nameB x.peer && inB x.kind 0 2
def kindAt (m : Mach) (s : Int) : Int := match m.states[s.toNat]? with
  | some x => x.kind
  | none => 0
def medB (m : Mach) (e : REdge) : Bool := inB e.src 0 ((m.states.length : Int) - 1) && (inB e.dst 0 ((m.states.length : Int) - 1) && (nameB e.label && (inB e.sort 0 2 && !(kindAt m e.src == 0))))
def edgeOk (m : Mach) (i : Nat) : Bool := match m.edges[i]? with
  | none => true
  | some e => medB m e && (match i, m.edges[i - 1]? with
    | 0, _ => true
    | _ + 1, some e' => mlessE e' e
    | _ + 1, none => true)
def headB (m : Mach) : Bool := inB (m.states.length : Int) 1 40 && (decide (m.edges.length ≤ 80) && inB m.start 0 ((m.states.length : Int) - 1))
def machB (m : Mach) : Bool := headB m && (m.states.all mstB && (List.range m.edges.length).all (edgeOk m))

/- the same contracts, their answer given ahead -/
theorem ms_in_at {q : Bool} {n lo hi : Int} (h : inB n lo hi = q) (w : World) :
    Calls Try.prog 71 #[.int .i64 n, .int .i64 lo, .int .i64 hi] w fun e w' => e = .returned (.bool q) ∧ w' = w := by subst h; exact ms_in n lo hi w
theorem ms_sort_at {q : Bool} {n : Int} (h : inB n 0 2 = q) (w : World) :
    Calls Try.prog 72 #[.int .i64 n] w fun e w' => e = .returned (.bool q) ∧ w' = w := by subst h; exact ms_sort n w
theorem ms_less_at {q : Bool} {a b : REdge} (h : mlessE a b = q) (w : World) :
    Calls Try.prog 73 #[a.val, b.val] w fun e w' => e = .returned (.bool q) ∧ Below w.heap.size w w' := by subst h; exact ms_less a b w
theorem spec_name_at {q : Bool} {s : ByteArray} (h : nameB s = q) (hs : s.size ≤ maxLen) (w : World) :
    Calls Try.prog 60 #[.string s] w fun e w' => e = .returned (.bool q) ∧ w' = w := by subst h; exact spec_name s w hs
end Go.Proofs.Ythaomohoiginnaa
