/- join at two, three, four and five texts; talkText. -/
import Derived.Test.YtdaljjpbfogniaaDoorTMath
import Derived.Test.YtdaljjpbfogniaaDoorJoin
namespace Go.Proofs.YtdaljjpbfogniaaDoor
open Go.RowKit

theorem ba_ext {a b : ByteArray} (h : a.data.toList = b.data.toList) : a = b := by
  apply ByteArray.ext
  exact Array.ext' h
theorem app_data (a b : ByteArray) : (a ++ b).data.toList = a.data.toList ++ b.data.toList := by
  rw [ByteArray.data_append, Array.toList_append]
theorem joinS_data (ss : List ByteArray) : (joinS ss).data.toList = ss.flatMap (fun s => s.data.toList) := by
  simp [joinS, flatTo]

theorem join2 (a b : ByteArray) (k : Nat) (w : World) (hk : k = w.heap.size) (h : a.size + b.size ≤ 1000000) :
    Calls Tryd.prog 40 #[.slice (some ⟨k, 0, none⟩) 2 2] (w.alloc (.cells #[.string a, .string b] 9)) fun e w' => e = .returned (.string (a ++ b)) ∧ Below w.heap.size w w' := by
  subst hk
  refine (join_any [a, b] w.heap.size 2 _ (by simp) (fun i hi => ?_) ?_ (by simp)).mono ?_
  · match i, hi with
    | 0, _ => simp
    | 1, _ => simp
  · simp [totTo]; omega
  · rintro e w' ⟨rfl, hb⟩
    refine ⟨ret_str (ba_ext ?_), (alloc1 _ _).trans (hb.mono (by simp))⟩
    rw [joinS_data]
    simp

theorem join3 (a b c : ByteArray) (k : Nat) (w : World) (hk : k = w.heap.size) (h : a.size + b.size + c.size ≤ 1000000) :
    Calls Tryd.prog 40 #[.slice (some ⟨k, 0, none⟩) 3 3] (w.alloc (.cells #[.string a, .string b, .string c] 9)) fun e w' => e = .returned (.string (a ++ b ++ c)) ∧ Below w.heap.size w w' := by
  subst hk
  refine (join_any [a, b, c] w.heap.size 3 _ (by simp) (fun i hi => ?_) ?_ (by simp)).mono ?_
  · match i, hi with
    | 0, _ => simp
    | 1, _ => simp
    | 2, _ => simp
  · simp [totTo]; omega
  · rintro e w' ⟨rfl, hb⟩
    refine ⟨ret_str (ba_ext ?_), (alloc1 _ _).trans (hb.mono (by simp))⟩
    rw [joinS_data]
    simp

theorem join4 (a b c d : ByteArray) (k : Nat) (w : World) (hk : k = w.heap.size) (h : a.size + b.size + c.size + d.size ≤ 1000000) :
    Calls Tryd.prog 40 #[.slice (some ⟨k, 0, none⟩) 4 4] (w.alloc (.cells #[.string a, .string b, .string c, .string d] 9)) fun e w' => e = .returned (.string (a ++ b ++ c ++ d)) ∧ Below w.heap.size w w' := by
  subst hk
  refine (join_any [a, b, c, d] w.heap.size 4 _ (by simp) (fun i hi => ?_) ?_ (by simp)).mono ?_
  · match i, hi with
    | 0, _ => simp
    | 1, _ => simp
    | 2, _ => simp
    | 3, _ => simp
  · simp [totTo]; omega
  · rintro e w' ⟨rfl, hb⟩
    refine ⟨ret_str (ba_ext ?_), (alloc1 _ _).trans (hb.mono (by simp))⟩
    rw [joinS_data]
    simp

theorem join5 (a b c d g : ByteArray) (k : Nat) (w : World) (hk : k = w.heap.size) (h : a.size + b.size + c.size + d.size + g.size ≤ 1000000) :
    Calls Tryd.prog 40 #[.slice (some ⟨k, 0, none⟩) 5 5] (w.alloc (.cells #[.string a, .string b, .string c, .string d, .string g] 9)) fun e w' => e = .returned (.string (a ++ b ++ c ++ d ++ g)) ∧ Below w.heap.size w w' := by
  subst hk
  refine (join_any [a, b, c, d, g] w.heap.size 5 _ (by simp) (fun i hi => ?_) ?_ (by simp)).mono ?_
  · match i, hi with
    | 0, _ => simp
    | 1, _ => simp
    | 2, _ => simp
    | 3, _ => simp
    | 4, _ => simp
  · simp [totTo]; omega
  · rintro e w' ⟨rfl, hb⟩
    refine ⟨ret_str (ba_ext ?_), (alloc1 _ _).trans (hb.mono (by simp))⟩
    rw [joinS_data]
    simp

set_option maxHeartbeats 400000 in
theorem i_talkText (n : Nd) (w : World) (h1 : n.name.size ≤ 1000) (h2 : n.peer.size ≤ 1000) :
    Calls Tryd.prog 42 #[n.val] w fun e w' => e = .returned (.string (talkT n)) ∧ Below w.heap.size w w' := by
  obtain ⟨op, name, peer, many, sort⟩ := n
  simp only at h1 h2
  unfold Nd.val
  by_cases h5 : op = 5
  · subst h5
    have HT : Hid (talkT ⟨5, name, peer, many, sort⟩ = peer ++ ba [33]) := hide rfl
    go_enter Tryd.func42, Tryd.ntmps42
    go_wp2_with (go_at_call 40; refine (join2 peer (ba [33]) _ _ (by simp) (by rw [sz_ba]; simp only [List.length_cons, List.length_nil]; omega)).mono ?_; rintro e w1 ⟨rfl, hb1⟩; have HB1 := hide hb1; clear hb1)
    go_ret
    exact ⟨ret_str HT.out, (alloc1 _ _).trans (HB1.out.mono (by simp))⟩
  · by_cases h6 : op = 6
    · subst h6
      have HT : Hid (talkT ⟨6, name, peer, many, sort⟩ = peer ++ ba [63]) := hide rfl
      go_enter Tryd.func42, Tryd.ntmps42
      go_wp2_with (go_at_call 40; refine (join2 peer (ba [63]) _ _ (by simp) (by rw [sz_ba]; simp only [List.length_cons, List.length_nil]; omega)).mono ?_; rintro e w1 ⟨rfl, hb1⟩; have HB1 := hide hb1; clear hb1)
      go_ret
      exact ⟨ret_str HT.out, (alloc1 _ _).trans (HB1.out.mono (by simp))⟩
    · have g5 : (op == 5) = false := beq_eq_false_iff_ne.2 h5
      have g6 : (op == 6) = false := beq_eq_false_iff_ne.2 h6
      have HT : Hid (talkT ⟨op, name, peer, many, sort⟩ = name ++ ba [62] ++ peer) := hide (by simp [talkT, g5, g6])
      clear h5 h6
      go_enter Tryd.func42, Tryd.ntmps42
      go_wp2_with (go_at_call 40; refine (join3 name (ba [62]) peer _ _ (by simp) (by rw [sz_ba]; simp only [List.length_cons, List.length_nil]; omega)).mono ?_; rintro e w1 ⟨rfl, hb1⟩; have HB1 := hide hb1; clear hb1)
      go_ret
      exact ⟨ret_str HT.out, (alloc1 _ _).trans (HB1.out.mono (by simp))⟩
end Go.Proofs.YtdaljjpbfogniaaDoor
