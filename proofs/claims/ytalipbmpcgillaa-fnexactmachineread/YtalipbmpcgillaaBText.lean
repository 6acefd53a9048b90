/- PutText: both functions and the law, walked. -/
import Derived.Test.YtalipbmpcgillaaBJoin
namespace Go.Proofs.Ytalipbmpcgillaa
open Go.RowKit

def textS (s : ByteArray) : ByteArray := if s.size ≤ 8000 then joinS [putS (s.size : Int), s] else ByteArray.empty
theorem textS_yes {s : ByteArray} (h : s.size ≤ 8000) : textS s = joinS [putS (s.size : Int), s] := if_pos h
theorem textS_no {s : ByteArray} (h : 8000 < s.size) : textS s = ByteArray.empty := if_neg (by omega)
theorem putS_size (n : Int) : (putS n).size ≤ 10 := (putL_length _).2
theorem join_two (a b : ByteArray) : joinS [a, b] = a ++ b := by
  apply ByteArray.ext
  simp [joinS, flatTo]

theorem join2 (x y : ByteArray) (b cap : Nat) (w : World) (hb : b < w.heap.size) (h0 : w.cell? ⟨b, 0, none⟩ = some (.string x)) (h1 : w.cell? ⟨b, 1, none⟩ = some (.string y)) (hT : x.size + y.size ≤ 1000000) :
    Calls Try.prog 82 #[.slice (some ⟨b, 0, none⟩) 2 cap] w fun e w' => e = .returned (.string (joinS [x, y])) ∧ Below w.heap.size w w' :=
  join_any [x, y] b cap w hb (fun i hi => match i, hi with
    | 0, _ => h0
    | 1, _ => h1) (by simpa [totTo] using hT) (by simp)
theorem join1 (x : ByteArray) (b cap : Nat) (w : World) (hb : b < w.heap.size) (h0 : w.cell? ⟨b, 0, none⟩ = some (.string x)) (hT : x.size ≤ 1000000) :
    Calls Try.prog 82 #[.slice (some ⟨b, 0, none⟩) 1 cap] w fun e w' => e = .returned (.string (joinS [x])) ∧ Below w.heap.size w w' :=
  join_any [x] b cap w hb (fun i hi => match i, hi with
    | 0, _ => h0) (by simpa [totTo] using hT) (by simp)
theorem join_one (a : ByteArray) : joinS [a] = a := by
  apply ByteArray.ext
  simp [joinS, flatTo]

set_option maxRecDepth 100000 in
set_option maxHeartbeats 400000 in
theorem impl_text (s : ByteArray) (w : World) (hs : s.size ≤ maxLen) :
    Calls Try.prog 81 #[.string s] w fun e w' => e = .returned (.string (textS s)) ∧ Below w.heap.size w w' := by
  unfold maxLen at hs
  by_cases h : 8000 < s.size
  · have HM := hide (textS_no h)
    go_enter Try.func81, Try.ntmps81
    go_wp2_with fail
    go_ret
    exact ⟨ret_str HM.out, Below.refl _ _⟩
  · have HM := hide (textS_yes (s := s) (by omega))
    have HN := hide (putS_size (s.size : Int))
    go_enter Try.func81, Try.ntmps81
    go_wp2_with (first | (go_at_call 80; refine (impl_put _ _ (by omega) (by omega)).mono ?_; rintro e w1 ⟨rfl, hb1⟩; have HB1 := hide hb1; clear hb1))
    refine (join2 (putS (s.size : Int)) s _ _ _ (by simp) ?_ ?_ ?_).mono ?_
    · simp
    · simp
    · have := HN.out; omega
    rintro e w2 ⟨rfl, hb2⟩
    have HB2 := hide hb2
    clear hb2
    go_wp2
    go_ret
    exact ⟨ret_str HM.out, (HB1.out.alloc HB1.out.size _).trans (HB2.out.mono (by simp; have := HB1.out.size; omega))⟩
set_option maxRecDepth 100000 in
set_option maxHeartbeats 400000 in
theorem spec_text (s : ByteArray) (w : World) (hs : s.size ≤ maxLen) :
    Calls Try.prog 138 #[.string s] w fun e w' => e = .returned (.string (textS s)) ∧ Below w.heap.size w w' := by
  unfold maxLen at hs
  by_cases h : 8000 < s.size
  · have HM := hide (textS_no h)
    go_enter Try.func138, Try.ntmps138
    go_wp2_with fail
    go_ret
    exact ⟨ret_str HM.out, Below.refl _ _⟩
  · have HM := hide (textS_yes (s := s) (by omega))
    have hN := putS_size (s.size : Int)
    go_enter Try.func138, Try.ntmps138
    go_wp2_with (go_at_call 137; refine (spec_put _ _ (by omega) (by omega)).mono ?_; rintro e w1 ⟨rfl, hb1⟩; have HB1 := hide hb1; clear hb1)
    go_ret
    exact ⟨ret_str (by rw [HM.out, join_two]), HB1.out⟩
end Go.Proofs.Ytalipbmpcgillaa
