/- Rows of Msgs that one makes oneself. -/
import Derived.Test.YtonafcifolddjaaGreatDoorQB13
import Derived.Test.YtonafcifolddjaaGreatDoorQB08
import Derived.Test.YtonafcifolddjaaGreatDoorQB12
import Derived.Test.YtonafcifolddjaaGreatDoorQB11
import Derived.RegionTactic
import Derived.BigRegion
namespace Go.Proofs.YtonafcifolddjaaGreatDoor
open Go.RowKit

def RMsg.cells (x : RMsg) : List Value := [.string x.frm, .string x.to, .string x.label, .int .i64 x.sort]
theorem RMsg.cells_len (x : RMsg) : x.cells.length = 4 := rfl
theorem RMsg.cells_one (x : RMsg) : ∀ u ∈ x.cells, u.oneCell' = true := by
  intro u hu
  simp [RMsg.cells] at hu
  rcases hu with rfl | rfl | rfl | rfl <;> rfl
def RMsgOwn (w : World) (base : Nat) (v : Value) (l : List RMsg) : Prop := w.ownsRow base 25 4 v l.length (l.flatMap RMsg.cells)
theorem RMsgOwn.sl {w : World} {base : Nat} {v : Value} {l : List RMsg} (h : RMsgOwn w base v l) (hl : l.length ≤ 4294967296) : RMsgSl w w.heap.size v l := by
  have H := h
  obtain ⟨_, hh⟩ := h
  rcases hh with ⟨rfl, h0⟩ | ⟨gb, cap, cur, rfl, hg, hblk, hc, _⟩
  · have : l = [] := List.length_eq_zero_iff.1 h0
    subst this
    exact ⟨none, 0, rfl, Nat.le_refl _, by simp, fun h => absurd rfl h⟩
  · refine ⟨_, _, rfl, hc, hl, fun _ => ⟨gb, 0, rfl, (Array.getElem?_eq_some_iff.1 hblk).1, RMsgs.of w gb l 0 (fun j hj => ?_)⟩⟩
    rw [Nat.zero_add]
    have e := fun i (hi : i < 4) (x : Value) (hx : (l[j].cells)[i]? = some x) => owns_cell H rfl (j * 4 + i) x ((flat_get RMsg.cells 4 RMsg.cells_len l j hj i hi).trans hx)
    exact ⟨e 0 (by omega) _ rfl, e 1 (by omega) _ rfl, e 2 (by omega) _ rfl, e 3 (by omega) _ rfl⟩
theorem RMsgOwn.keep {w w' : World} {base : Nat} {v : Value} {x : List RMsg} {l : List Nat} (h : RMsgOwn w base v x) (ha : Apart w w' l) (hd : ∀ b ∈ vblocks v, b ∉ l) : RMsgOwn w' base v x := owns_keep h ha hd
theorem RMsgOwn.below {w w' : World} {base : Nat} {v : Value} {x : List RMsg} (h : RMsgOwn w base v x) (hb : Below w.heap.size w w') : RMsgOwn w' base v x := owns_below h hb
theorem RMsgOwn.fresh {w : World} {base : Nat} {v : Value} {x : List RMsg} (h : RMsgOwn w base v x) : Fresh base w v := owns_fresh h
theorem RMsgOwn.nil (w : World) (base : Nat) : RMsgOwn w base (.slice none 0 0) [] := owns_nil w base _ _
theorem RMsgOwn.snoc {w : World} {base : Nat} {v : Value} {l : List RMsg} {x : RMsg} (h : w.ownsRow base 25 4 v (l.length + 1) (l.flatMap RMsg.cells ++ x.cells)) : RMsgOwn w base v (l ++ [x]) := by
  unfold RMsgOwn
  rw [List.length_append, List.length_singleton, List.flatMap_append]
  simpa using h
end Go.Proofs.YtonafcifolddjaaGreatDoor
/- Texts put together: how long they are. -/
namespace Go.Proofs.YtonafcifolddjaaGreatDoor
open Go.RowKit

theorem joinS_app (a b : List ByteArray) : joinS (a ++ b) = joinS a ++ joinS b := by
  apply ByteArray.ext
  simp only [joinS, flatTo, List.take_length, List.flatMap_append]
  simp
theorem joinS_one (a : ByteArray) : joinS [a] = a := join_one a
theorem joinS_cons (a : ByteArray) (l : List ByteArray) : joinS (a :: l) = a ++ joinS l := by
  rw [show a :: l = [a] ++ l from rfl, joinS_app, joinS_one]
theorem joinS_nil : joinS [] = ByteArray.empty := by
  apply ByteArray.ext
  simp [joinS, flatTo]
theorem joinS_size (l : List ByteArray) : (joinS l).size = (l.map ByteArray.size).sum := by
  induction l with
  | nil => rw [joinS_nil]; rfl
  | cons a l ih => rw [joinS_cons, ByteArray.size_append, ih]; simp
theorem textS_size (s : ByteArray) (h : s.size ≤ 20) : (textS s).size ≤ 30 := by
  rw [textS_yes (by omega), join_two, ByteArray.size_append]
  have := putS_size (s.size : Int)
  omega
theorem sum_le_mul {l : List ByteArray} {c : Nat} (h : ∀ x ∈ l, x.size ≤ c) : (l.map ByteArray.size).sum ≤ l.length * c := by
  induction l with
  | nil => simp
  | cons a l ih =>
    have h1 := h a (by simp)
    have h2 := ih (fun x hx => h x (by simp [hx]))
    simp [Nat.succ_mul]
    omega
end Go.Proofs.YtonafcifolddjaaGreatDoor
/- GetText, and its law, walked. -/
namespace Go.Proofs.YtonafcifolddjaaGreatDoor
open Go.RowKit

theorem aggT_ret {r : ByteArray × Int × Int} {x : ByteArray} {y z : Int} (h : r = (x, y, z)) : Ending.returned (.agg #[.string x, .int .i64 y, .int .i64 z]) = .returned (.agg #[.string r.1, .int .i64 r.2.1, .int .i64 r.2.2]) := by rw [h]

set_option maxRecDepth 100000 in
set_option maxHeartbeats 4000000 in
theorem spec_get_text (s : ByteArray) (a : Int) (w : World) (hs : s.size ≤ maxLen) (ha : a ≤ 9223372036854775807) :
    Calls Tryz.prog 85 #[.string s, .int .i64 a] w fun e w' => e = .returned (.agg #[.string (getT s a).1, .int .i64 (getT s a).2.1, .int .i64 (getT s a).2.2]) ∧ Below w.heap.size w w' := by
  have HR : Hid (∀ w, Calls Tryz.prog 86 #[.string s, .int .i64 a] w fun e w' => e = .returned (.agg #[.int .i64 (getN s a).1, .int .i64 (getN s a).2.1, .int .i64 (getN s a).2.2]) ∧ Below w.heap.size w w') := fun w => spec_get s a w hs ha
  have hfa := getN_facts s a
  have HT : Hid (getT s a = if (getN s a).2.2 ≠ 0 then (⟨#[]⟩, 0, (getN s a).2.2) else if (getN s a).1 < 0 ∨ 8000 < (getN s a).1 then (⟨#[]⟩, 0, 3) else if (s.size : Int) - (getN s a).2.1 < (getN s a).1 then (⟨#[]⟩, 0, 4) else (s.extract (getN s a).2.1.toNat ((getN s a).2.1.toNat + (getN s a).1.toNat), (getN s a).2.1 + (getN s a).1, 0)) := rfl
  clear ha
  generalize (getN s a).1 = N at *
  generalize (getN s a).2.1 = B at *
  generalize (getN s a).2.2 = C at *
  unfold maxLen at hs
  rcases hfa with ⟨rfl, h1, h2, h8⟩ | ⟨rfl, rfl, h1, h4⟩
  · by_cases hr : N < 0 ∨ 8000 < N
    · have HZ : Hid (getT s a = (⟨#[]⟩, 0, 3)) := by show _ = _; rw [HT.out, if_neg (by simp), if_pos hr]
      clear HT
      have hcase : (decide (N < 0) = true) ∨ (decide (N < 0) = false ∧ 8000 < N) := by
        rcases hr with h | h
        · exact .inl (decide_eq_true h)
        · exact .inr ⟨decide_eq_false (by omega), h⟩
      clear hr
      rcases hcase with g | ⟨g, g2⟩
      all_goals
        go_enter Tryz.func85, Tryz.ntmps85
        go_wp2_with (go_at_call 86; refine (HR.out _).mono ?_; rintro e w1 ⟨rfl, hb1⟩; obtain ⟨hc, hf⟩ := bcell hb1; have hz : w.heap.size < w1.heap.size := (by have := hb1.size; simp at this; omega); have HB1 := hide hb1; clear hb1)
        exact bodyPost_ret (v := .agg #[.string ⟨#[]⟩, .int .i64 0, .int .i64 3]) (by simp [results, Tryz.results85, go_sem, hc, hz]) rfl ⟨aggT_ret HZ.out, (((((((Below.refl _ _).alloc (Nat.le_refl _) _).trans (HB1.out.mono (by simp))).setCell (Nat.le_refl _) _).setCell (Nat.le_refl _) _).setCell (Nat.le_refl _) _).alloc (by simp [World.setCell]; omega) _)⟩
    · have n0 : 0 ≤ N := by omega
      have n8 : N ≤ 8000 := by omega
      by_cases hsh : (s.size : Int) - B < N
      · have HZ : Hid (getT s a = (⟨#[]⟩, 0, 4)) := by show _ = _; rw [HT.out, if_neg (by simp), if_neg hr, if_pos hsh]
        have hsh' : (s.size : Int) - N < B := by omega
        clear HT hr hsh
        go_enter Tryz.func85, Tryz.ntmps85
        go_wp2_with (go_at_call 86; refine (HR.out _).mono ?_; rintro e w1 ⟨rfl, hb1⟩; obtain ⟨hc, hf⟩ := bcell hb1; have hz : w.heap.size < w1.heap.size := (by have := hb1.size; simp at this; omega); have HB1 := hide hb1; clear hb1)
        exact bodyPost_ret (v := .agg #[.string ⟨#[]⟩, .int .i64 0, .int .i64 4]) (by simp [results, Tryz.results85, go_sem, hc, hz]) rfl ⟨aggT_ret HZ.out, (((((((Below.refl _ _).alloc (Nat.le_refl _) _).trans (HB1.out.mono (by simp))).setCell (Nat.le_refl _) _).setCell (Nat.le_refl _) _).setCell (Nat.le_refl _) _).alloc (by simp [World.setCell]; omega) _)⟩
      · obtain ⟨b, rfl⟩ := Int.eq_ofNat_of_zero_le (show 0 ≤ B by omega)
        obtain ⟨n, rfl⟩ := Int.eq_ofNat_of_zero_le n0
        have HZ : Hid (getT s a = (s.extract b (b + n), (b : Int) + (n : Int), 0)) := by show _ = _; rw [HT.out, if_neg (by simp), if_neg hr, if_neg hsh]; rfl
        have hsh' : ¬ (s.size : Int) - (n : Int) < (b : Int) := by omega
        clear HT hr hsh
        go_enter Tryz.func85, Tryz.ntmps85
        go_wp2_with (go_at_call 86; refine (HR.out _).mono ?_; rintro e w1 ⟨rfl, hb1⟩; obtain ⟨hc, hf⟩ := bcell hb1; have hz : w.heap.size < w1.heap.size := (by have := hb1.size; simp at this; omega); have HB1 := hide hb1; clear hb1)
        have hwr : IntKind.i64.wrap ((b : Int) + (n : Int)) = (b : Int) + (n : Int) := by rw [IntKind.wrap_i64]; omega
        have hsl : ∀ W, (Instr.slice 9 (.string s) (some (.int .i64 (b : Int))) (some (.int .i64 ((b : Int) + (n : Int)))) none).run Tryz.prog W = .ok (.string (s.extract b (b + n))) W := fun W => by
          rw [run_slice_string W 9 s .i64 .i64 (b : Int) ((b : Int) + (n : Int)) Tryz.underlying9 (by omega) (by omega) (by omega)]
          rfl
        clear hsh'
        go_region
        go_wp2
        exact bodyPost_ret (v := .agg #[.string (s.extract b (b + n)), .int .i64 ((b : Int) + (n : Int)), .int .i64 0]) (by simp [results, Tryz.results85, go_sem, hc, hz]) rfl ⟨aggT_ret HZ.out, (((((((Below.refl _ _).alloc (Nat.le_refl _) _).trans (HB1.out.mono (by simp))).setCell (Nat.le_refl _) _).setCell (Nat.le_refl _) _).setCell (Nat.le_refl _) _).alloc (by simp [World.setCell]; omega) _).drew⟩
  · have HZ : Hid (getT s a = (⟨#[]⟩, 0, C)) := by show _ = _; rw [HT.out, if_pos (by omega)]
    have g : (C != 0) = true := by rw [bne_iff_ne]; omega
    clear HT
    go_enter Tryz.func85, Tryz.ntmps85
    go_wp2_with (go_at_call 86; refine (HR.out _).mono ?_; rintro e w1 ⟨rfl, hb1⟩; obtain ⟨hc, hf⟩ := bcell hb1; have hz : w.heap.size < w1.heap.size := (by have := hb1.size; simp at this; omega); have HB1 := hide hb1; clear hb1)
    exact bodyPost_ret (v := .agg #[.string ⟨#[]⟩, .int .i64 0, .int .i64 C]) (by simp [results, Tryz.results85, go_sem, hc, hz]) rfl ⟨aggT_ret HZ.out, (((((((Below.refl _ _).alloc (Nat.le_refl _) _).trans (HB1.out.mono (by simp))).setCell (Nat.le_refl _) _).setCell (Nat.le_refl _) _).setCell (Nat.le_refl _) _).alloc (by simp [World.setCell]; omega) _)⟩
end Go.Proofs.YtonafcifolddjaaGreatDoor
