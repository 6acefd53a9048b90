/- join: texts put together, walked. -/
import Derived.Test.YtonafcifolddjaaGreatDoorQB09
import Derived.Test.YtonafcifolddjaaGreatDoorQB01
import Derived.Lib.BufferWrite
import Derived.Laws.CopyOwn
namespace Go.Proofs.YtonafcifolddjaaGreatDoor
open Go.RowKit

theorem Tryz.infoU8 : (Tryz.prog.info? 5).map (fun i => (i.zero, i.size, i.bytes)) = some (some (.int .u8 0), 1, 1) := by kernel_rfl
/-- How many bytes the first k texts have. -/
def totTo (ss : List ByteArray) (k : Nat) : Nat := ((ss.take k).map ByteArray.size).sum
/-- The bytes of the first k texts. -/
def flatTo (ss : List ByteArray) (k : Nat) : List UInt8 := (ss.take k).flatMap (fun s => s.data.toList)
def joinS (ss : List ByteArray) : ByteArray := ⟨(flatTo ss ss.length).toArray⟩

theorem totTo_succ {ss : List ByteArray} {k : Nat} (h : k < ss.length) : totTo ss (k + 1) = totTo ss k + ss[k].size := by
  unfold totTo
  rw [List.take_succ_eq_append_getElem h, List.map_append, List.sum_append]
  rfl
theorem flatTo_succ {ss : List ByteArray} {k : Nat} (h : k < ss.length) : flatTo ss (k + 1) = flatTo ss k ++ ss[k].data.toList := by
  unfold flatTo
  rw [List.take_succ_eq_append_getElem h, List.flatMap_append]
  simp only [List.flatMap_cons, List.flatMap_nil, List.append_nil]
theorem totTo_le {ss : List ByteArray} : ∀ {k : Nat}, k ≤ ss.length → totTo ss k ≤ totTo ss ss.length := by
  intro k hk
  obtain ⟨d, hd⟩ : ∃ d, k + d = ss.length := ⟨ss.length - k, by omega⟩
  induction d generalizing k with
  | zero => have : k = ss.length := by omega
            subst this; exact Nat.le_refl _
  | succ d ih =>
    have := ih (k := k + 1) (by omega) (by omega)
    rw [totTo_succ (by omega)] at this
    omega
theorem flatTo_length (ss : List ByteArray) (k : Nat) : (flatTo ss k).length = totTo ss k := by
  unfold flatTo totTo
  rw [List.length_flatMap]
  rfl

theorem make_run (w : World) (T : Nat) (h : T ≤ 1000000000) :
    (Instr.makeSlice 22 (.int .i64 (T : Int)) (.int .i64 (T : Int))).run Tryz.prog w = .ok (.slice (some ⟨w.heap.size, 0, none⟩) T T) (w.alloc (.cells (madeCells #[.int .u8 0] T) 5)) := by
  obtain ⟨i0, hi, hz0, hz1, hz2⟩ := info_parts Tryz.infoU8
  have := run_make (P := Tryz.prog) w 22 5 i0 (.int .u8 0) Tryz.underlying22 hi hz0 .i64 .i64 (T : Int) (T : Int) (by omega) (by omega) (by rw [hz2]; omega) (by omega)
  rw [hz1] at this
  simpa [Value.cells] using this

/-- What the room holds behind k texts. -/
def Laid (W : World) (g T : Nat) (l : List UInt8) : Prop := ∃ cur : Array Value, W.heap[g]? = some (.cells cur 5 (0, 0)) ∧ cur.size = T ∧ cur.toList.take l.length = bv l

theorem Laid.copy {W : World} {g T : Nat} {l : List UInt8} (h : Laid W g T l) (s : ByteArray) (hT : l.length + s.size ≤ T) :
    ∃ W', (Builtin.copy_ #[22, 9] 3 #[.slice (some ⟨g, l.length, none⟩) (T - l.length) (T - l.length), .string s]).run Tryz.prog W = .ok (.int .i64 (s.size : Int)) W' ∧ Laid W' g T (l ++ s.data.toList) ∧ (∀ B w0, Below B w0 W → B ≤ g → Below B w0 W') := by
  obtain ⟨cur, hg, hsz, ht⟩ := h
  have e := Lib.run_copy_row_string (P := Tryz.prog) W 22 9 3 5 g l.length (T - l.length) (T - l.length) s cur 5 Tryz.underlying22 (by kernel_rfl) hg (by omega) (by omega)
  refine ⟨_, e, ⟨_, setRow_heap W g cur _ 5 (0, 0) hg, ?_, ?_⟩, fun B w0 hb hB => below_setRow hb hB _⟩
  · have hb : (Lib.byteCells s.data.toList).length = s.size := by rw [Lib.byteCells_length]; rfl
    simp [hb]; omega
  · have hb : (Lib.byteCells s.data.toList).length = s.size := by rw [Lib.byteCells_length]; rfl
    have hl : (bv l).length = l.length := by simp [bv]
    have hsl : (s.data.toList).length = s.size := rfl
    rw [List.length_append, hsl, ht]
    show List.take (l.length + s.size) (bv l ++ Lib.byteCells s.data.toList ++ cur.toList.drop (l.length + s.size)) = bv (l ++ s.data.toList)
    rw [List.take_append_of_le_length (by rw [List.length_append, hl, hb]; exact Nat.le_refl _), List.take_of_length_le (by rw [List.length_append, hl, hb]; exact Nat.le_refl _)]
    simp [bv, Lib.byteCells]

theorem Laid.empty {W : World} {g T : Nat} {l : List UInt8} (h : Laid W g T l) (s : ByteArray) (hs : s.size = 0) : Laid W g T (l ++ s.data.toList) := by
  have : s.data.toList = [] := List.eq_nil_of_length_eq_zero hs
  rw [this, List.append_nil]; exact h

/-- copy(room[at:], t), at the place that the walk hands over. -/
theorem Laid.step {W : World} {g T : Nat} {l : List UInt8} (h : Laid W g T l) (s : ByteArray) (hT : l.length + s.size ≤ T) :
    ∃ W', (Builtin.copy_ #[22, 9] 3 #[.slice (some (if T = l.length then ⟨g, 0, none⟩ else ⟨g, l.length, none⟩)) (T - l.length) (T - l.length), .string s]).run Tryz.prog W = .ok (.int .i64 (s.size : Int)) W' ∧ Laid W' g T (l ++ s.data.toList) ∧ (∀ B w0, Below B w0 W → B ≤ g → Below B w0 W') := by
  by_cases e : T = l.length
  · rw [if_pos e]
    have hs : s.size = 0 := by omega
    refine ⟨W, ?_, h.empty s hs, fun _ _ hb _ => hb⟩
    rw [Lib.run_copy_empty_string (P := Tryz.prog) W 22 9 3 5 _ _ _ s Tryz.underlying22 (by kernel_rfl) hs, hs]
    rfl
  · rw [if_neg e]
    exact h.copy s hT

theorem laid_new (w : World) (T : Nat) : Laid (w.alloc (.cells (madeCells #[.int .u8 0] T) 5)) w.heap.size T [] :=
  ⟨_, heap_alloc_new w _, size_madeCells _ _, rfl⟩

theorem Laid.conv {W : World} {g T : Nat} {l : List UInt8} (h : Laid W g T l) (hl : l.length = T) :
    (convert 22 9 (.slice (some ⟨g, 0, none⟩) T T)).run Tryz.prog W = .ok (.string ⟨l.toArray⟩) W := by
  obtain ⟨cur, hg, hsz, ht⟩ := h
  subst hl
  refine run_convert_bytes_back (P := Tryz.prog) W 22 9 5 ⟨g, 0, none⟩ l.length l Tryz.underlying22 Tryz.underlying5 Tryz.underlying9 (fun j hj => ?_)
  have ea : (⟨g, 0, none⟩ : Addr).add j = ⟨g, j, none⟩ := by unfold Addr.add; split <;> simp_all
  have hc : W.cell? ⟨g, j, none⟩ = cur[j]? := by simp [World.cell?, hg]
  rw [ea, hc]
  have hm : cur.toList[j]? = (bv l)[j]? := by rw [← ht, List.getElem?_take, if_pos hj]
  rw [← Array.getElem?_toList, hm]
  simp [bv, hj]

set_option maxRecDepth 100000 in
set_option maxHeartbeats 1000000 in
theorem join_any (ss : List ByteArray) (b cap : Nat) (w : World) (hb : b < w.heap.size) (hc : ∀ i (h : i < ss.length), w.cell? ⟨b, i, none⟩ = some (.string ss[i])) (hT : totTo ss ss.length ≤ 1000000) (hn : ss.length ≤ 1000) :
    Calls Tryz.prog 46 #[.slice (some ⟨b, 0, none⟩) ss.length cap] w fun e w' => e = .returned (.string (joinS ss)) ∧ Below w.heap.size w w' := by
  have HC := hide hc
  clear hc
  go_enter Tryz.func46, Tryz.ntmps46
  go_wp2
  go_loop [3, 5, 12] (fun z _ i => ∃ k : Nat, k ≤ ss.length ∧ i = .int .i64 k ∧ z = .int .i64 (totTo ss k : Int)) (fun _ _ i => ss.length - (intOf i).toNat)
  case atStart => exact ⟨0, by omega, rfl, rfl⟩
  case round =>
    obtain ⟨k, hk, rfl, rfl⟩ := hrel
    have hle := totTo_le hk
    by_cases hlt : k < ss.length
    · have HS := hide (totTo_succ hlt)
      have hck := HC.out k hlt
      have hsz : ss[k].size ≤ 1000000 := by have := totTo_le (show k + 1 ≤ ss.length by omega); rw [HS.out] at this; omega
      generalize ss[k] = s at *
      go_wp2
      go_round
      case rel => exact ⟨k + 1, by omega, by go_num, by rw [HS.out]; go_num⟩
      case measure => simp [intOf]; omega
    · obtain rfl : k = ss.length := by omega
      have hmk := make_run w (totTo ss ss.length) (by omega)
      go_wp2
      have HT : Hid (∀ k, k ≤ ss.length → totTo ss k ≤ totTo ss ss.length) := hide (fun k hk => totTo_le hk)
      have HE : Hid ((flatTo ss ss.length).length = totTo ss ss.length) := hide (flatTo_length ss _)
      have HL := hide (laid_new w (totTo ss ss.length))
      clear hmk hle hk hlt
      generalize totTo ss ss.length = T at *
      go_loopw [7, 9, 25] (fun a _ i wr => ∃ k : Nat, k ≤ ss.length ∧ i = .int .i64 k ∧ a = .int .i64 (totTo ss k : Int) ∧ Laid wr w.heap.size T (flatTo ss k) ∧ Below w.heap.size w wr) (fun _ _ i _ => ss.length - (intOf i).toNat)
      case atStart => exact ⟨0, by omega, rfl, rfl, HL.out, (Below.refl _ _).alloc (Nat.le_refl _) _⟩
      case round =>
        obtain ⟨k, hk, rfl, rfl, hlaid, hbel⟩ := hrel
        have hle := HT.out k hk
        by_cases hlt : k < ss.length
        · have HS := hide (totTo_succ hlt)
          have HF := hide (flatTo_succ hlt)
          have hck := (hbel.cell (p := ⟨b, k, none⟩) hb).trans (HC.out k hlt)
          have hsz : totTo ss k + ss[k].size ≤ T := by have := HT.out (k + 1) (by omega); rw [HS.out] at this; omega
          have hstep := hlaid.step ss[k] (by rw [flatTo_length]; exact hsz)
          rw [flatTo_length] at hstep
          obtain ⟨W', hcp, hl', hb'⟩ := hstep
          rw [← HF.out] at hl'
          have HLa := hide hl'
          have HBe := hide (hb' _ _ hbel (Nat.le_refl _))
          clear hl' hb' hlaid hbel HF
          generalize totTo ss k = a at *
          generalize ss[k] = s at *
          by_cases e : T = a
          · subst e
            rw [if_pos rfl, Nat.sub_self] at hcp
            go_wp2
            go_roundw
            case rel => exact ⟨k + 1, by omega, by go_num, by rw [HS.out]; go_num, HLa.out, HBe.out⟩
            case measure => simp [intOf]; omega
          · rw [if_neg e] at hcp
            have hlt' : a < T := by omega
            go_wp2
            go_roundw
            case rel => exact ⟨k + 1, by omega, by go_num, by rw [HS.out]; go_num, HLa.out, HBe.out⟩
            case measure => simp [intOf]; omega
        · obtain rfl : k = ss.length := by omega
          have hcv := hlaid.conv HE.out
          have HBe := hide hbel
          clear hlaid hbel
          go_wp2
          go_ret
          exact ⟨rfl, HBe.out⟩
end Go.Proofs.YtonafcifolddjaaGreatDoor
/- PutText: both functions and the law, walked. -/
namespace Go.Proofs.YtonafcifolddjaaGreatDoor
open Go.RowKit

def textS (s : ByteArray) : ByteArray := if s.size ≤ 8000 then joinS [putS (s.size : Int), s] else ByteArray.empty
theorem textS_yes {s : ByteArray} (h : s.size ≤ 8000) : textS s = joinS [putS (s.size : Int), s] := if_pos h
theorem textS_no {s : ByteArray} (h : 8000 < s.size) : textS s = ByteArray.empty := if_neg (by omega)
theorem putS_size (n : Int) : (putS n).size ≤ 10 := (putL_length _).2
theorem join_two (a b : ByteArray) : joinS [a, b] = a ++ b := by
  apply ByteArray.ext
  simp [joinS, flatTo]

theorem join2 (x y : ByteArray) (b cap : Nat) (w : World) (hb : b < w.heap.size) (h0 : w.cell? ⟨b, 0, none⟩ = some (.string x)) (h1 : w.cell? ⟨b, 1, none⟩ = some (.string y)) (hT : x.size + y.size ≤ 1000000) :
    Calls Tryz.prog 46 #[.slice (some ⟨b, 0, none⟩) 2 cap] w fun e w' => e = .returned (.string (joinS [x, y])) ∧ Below w.heap.size w w' :=
  join_any [x, y] b cap w hb (fun i hi => match i, hi with
    | 0, _ => h0
    | 1, _ => h1) (by simpa [totTo] using hT) (by simp)
theorem join1 (x : ByteArray) (b cap : Nat) (w : World) (hb : b < w.heap.size) (h0 : w.cell? ⟨b, 0, none⟩ = some (.string x)) (hT : x.size ≤ 1000000) :
    Calls Tryz.prog 46 #[.slice (some ⟨b, 0, none⟩) 1 cap] w fun e w' => e = .returned (.string (joinS [x])) ∧ Below w.heap.size w w' :=
  join_any [x] b cap w hb (fun i hi => match i, hi with
    | 0, _ => h0) (by simpa [totTo] using hT) (by simp)
theorem join_one (a : ByteArray) : joinS [a] = a := by
  apply ByteArray.ext
  simp [joinS, flatTo]

set_option maxRecDepth 100000 in
set_option maxHeartbeats 400000 in
theorem impl_text (s : ByteArray) (w : World) (hs : s.size ≤ maxLen) :
    Calls Tryz.prog 44 #[.string s] w fun e w' => e = .returned (.string (textS s)) ∧ Below w.heap.size w w' := by
  unfold maxLen at hs
  by_cases h : 8000 < s.size
  · have HM := hide (textS_no h)
    go_enter Tryz.func44, Tryz.ntmps44
    go_wp2_with fail
    go_ret
    exact ⟨ret_str HM.out, Below.refl _ _⟩
  · have HM := hide (textS_yes (s := s) (by omega))
    have HN := hide (putS_size (s.size : Int))
    go_enter Tryz.func44, Tryz.ntmps44
    go_wp2_with (first | (go_at_call 43; refine (impl_put _ _ (by omega) (by omega)).mono ?_; rintro e w1 ⟨rfl, hb1⟩; have HB1 := hide hb1; clear hb1))
    refine (join2 (putS (s.size : Int)) s _ _ _ (by simp) ?_ ?_ ?_).mono ?_
    · simp
    · simp
    · have := HN.out; omega
    rintro e w2 ⟨rfl, hb2⟩
    have HB2 := hide hb2
    clear hb2
    go_wp2
    go_ret
    exact ⟨ret_str HM.out, (HB1.out.alloc HB1.out.size _).trans (HB2.out.mono (by simp; have := HB1.out.size; omega))⟩
set_option maxRecDepth 100000 in
set_option maxHeartbeats 400000 in
theorem spec_text (s : ByteArray) (w : World) (hs : s.size ≤ maxLen) :
    Calls Tryz.prog 61 #[.string s] w fun e w' => e = .returned (.string (textS s)) ∧ Below w.heap.size w w' := by
  unfold maxLen at hs
  by_cases h : 8000 < s.size
  · have HM := hide (textS_no h)
    go_enter Tryz.func61, Tryz.ntmps61
    go_wp2_with fail
    go_ret
    exact ⟨ret_str HM.out, Below.refl _ _⟩
  · have HM := hide (textS_yes (s := s) (by omega))
    have hN := putS_size (s.size : Int)
    go_enter Tryz.func61, Tryz.ntmps61
    go_wp2_with (go_at_call 60; refine (spec_put _ _ (by omega) (by omega)).mono ?_; rintro e w1 ⟨rfl, hb1⟩; have HB1 := hide hb1; clear hb1)
    go_ret
    exact ⟨ret_str (by rw [HM.out, join_two]), HB1.out⟩
end Go.Proofs.YtonafcifolddjaaGreatDoor
