/- join: texts put together, walked. -/
import Derived.Test.YtalipbmpcgillaaBPut
import Derived.Test.YtalipbmpcgillaaMem
import Derived.Lib.BufferWrite
import Derived.Laws.CopyOwn
namespace Go.Proofs.Ytalipbmpcgillaa
open Go.RowKit

theorem Try.infoU8 : (Try.prog.info? 5).map (fun i => (i.zero, i.size, i.bytes)) = some (some (.int .u8 0), 1, 1) := by kernel_rfl
/-- How many bytes the first k texts have. -/
def totTo (ss : List ByteArray) (k : Nat) : Nat := ((ss.take k).map ByteArray.size).sum
/-- The bytes of the first k texts. -/
def flatTo (ss : List ByteArray) (k : Nat) : List UInt8 := (ss.take k).flatMap (fun s => s.data.toList)
def joinS (ss : List ByteArray) : ByteArray := ⟨(flatTo ss ss.length).toArray⟩

theorem totTo_succ {ss : List ByteArray} {k : Nat} (h : k < ss.length) : totTo ss (k + 1) = totTo ss k + ss[k].size := by
  unfold totTo
  rw [List.take_succ_eq_append_getElem h, List.map_append, List.sum_append]
  rfl
theorem flatTo_succ {ss : List ByteArray} {k : Nat} (h : k < ss.length) : flatTo ss (k + 1) = flatTo ss k ++ ss[k].data.toList := by
  unfold flatTo
  rw [List.take_succ_eq_append_getElem h, List.flatMap_append]
  simp only [List.flatMap_cons, List.flatMap_nil, List.append_nil]
theorem totTo_le {ss : List ByteArray} : ∀ {k : Nat}, k ≤ ss.length → totTo ss k ≤ totTo ss ss.length := by
  intro k hk
  obtain ⟨d, hd⟩ : ∃ d, k + d = ss.length := ⟨ss.length - k, by omega⟩
  induction d generalizing k with
  | zero => have : k = ss.length := by omega
            subst this; exact Nat.le_refl _
  | succ d ih =>
    have := ih (k := k + 1) (by omega) (by omega)
    rw [totTo_succ (by omega)] at this
    omega
theorem flatTo_length (ss : List ByteArray) (k : Nat) : (flatTo ss k).length = totTo ss k := by
  unfold flatTo totTo
  rw [List.length_flatMap]
  rfl

theorem make_run (w : World) (T : Nat) (h : T ≤ 1000000000) :
    (Instr.makeSlice 166 (.int .i64 (T : Int)) (.int .i64 (T : Int))).run Try.prog w = .ok (.slice (some ⟨w.heap.size, 0, none⟩) T T) (w.alloc (.cells (madeCells #[.int .u8 0] T) 5)) := by
  obtain ⟨i0, hi, hz0, hz1, hz2⟩ := info_parts Try.infoU8
  have := run_make (P := Try.prog) w 166 5 i0 (.int .u8 0) Try.underlying166 hi hz0 .i64 .i64 (T : Int) (T : Int) (by omega) (by omega) (by rw [hz2]; omega) (by omega)
  rw [hz1] at this
  simpa [Value.cells] using this

/-- What the room holds behind k texts. -/
def Laid (W : World) (g T : Nat) (l : List UInt8) : Prop := ∃ cur : Array Value, W.heap[g]? = some (.cells cur 5 (0, 0)) ∧ cur.size = T ∧ cur.toList.take l.length = bv l

theorem Laid.copy {W : World} {g T : Nat} {l : List UInt8} (h : Laid W g T l) (s : ByteArray) (hT : l.length + s.size ≤ T) :
    ∃ W', (Builtin.copy_ #[166, 9] 3 #[.slice (some ⟨g, l.length, none⟩) (T - l.length) (T - l.length), .string s]).run Try.prog W = .ok (.int .i64 (s.size : Int)) W' ∧ Laid W' g T (l ++ s.data.toList) ∧ (∀ B w0, Below B w0 W → B ≤ g → Below B w0 W') := by
  obtain ⟨cur, hg, hsz, ht⟩ := h
  have e := Lib.run_copy_row_string (P := Try.prog) W 166 9 3 5 g l.length (T - l.length) (T - l.length) s cur 5 Try.underlying166 (by kernel_rfl) hg (by omega) (by omega)
  refine ⟨_, e, ⟨_, setRow_heap W g cur _ 5 (0, 0) hg, ?_, ?_⟩, fun B w0 hb hB => below_setRow hb hB _⟩
  · have hb : (Lib.byteCells s.data.toList).length = s.size := by rw [Lib.byteCells_length]; rfl
    simp [hb]; omega
  · have hb : (Lib.byteCells s.data.toList).length = s.size := by rw [Lib.byteCells_length]; rfl
    have hl : (bv l).length = l.length := by simp [bv]
    have hsl : (s.data.toList).length = s.size := rfl
    rw [List.length_append, hsl, ht]
    show List.take (l.length + s.size) (bv l ++ Lib.byteCells s.data.toList ++ cur.toList.drop (l.length + s.size)) = bv (l ++ s.data.toList)
    rw [List.take_append_of_le_length (by rw [List.length_append, hl, hb]; exact Nat.le_refl _), List.take_of_length_le (by rw [List.length_append, hl, hb]; exact Nat.le_refl _)]
    simp [bv, Lib.byteCells]

theorem Laid.empty {W : World} {g T : Nat} {l : List UInt8} (h : Laid W g T l) (s : ByteArray) (hs : s.size = 0) : Laid W g T (l ++ s.data.toList) := by
  have : s.data.toList = [] := List.eq_nil_of_length_eq_zero hs
  rw [this, List.append_nil]; exact h

/-- copy(room[at:], t), at the place that the walk hands over. -/
theorem Laid.step {W : World} {g T : Nat} {l : List UInt8} (h : Laid W g T l) (s : ByteArray) (hT : l.length + s.size ≤ T) :
    ∃ W', (Builtin.copy_ #[166, 9] 3 #[.slice (some (if T = l.length then ⟨g, 0, none⟩ else ⟨g, l.length, none⟩)) (T - l.length) (T - l.length), .string s]).run Try.prog W = .ok (.int .i64 (s.size : Int)) W' ∧ Laid W' g T (l ++ s.data.toList) ∧ (∀ B w0, Below B w0 W → B ≤ g → Below B w0 W') := by
  by_cases e : T = l.length
  · rw [if_pos e]
    have hs : s.size = 0 := by omega
    refine ⟨W, ?_, h.empty s hs, fun _ _ hb _ => hb⟩
    rw [Lib.run_copy_empty_string (P := Try.prog) W 166 9 3 5 _ _ _ s Try.underlying166 (by kernel_rfl) hs, hs]
    rfl
  · rw [if_neg e]
    exact h.copy s hT

theorem laid_new (w : World) (T : Nat) : Laid (w.alloc (.cells (madeCells #[.int .u8 0] T) 5)) w.heap.size T [] :=
  ⟨_, heap_alloc_new w _, size_madeCells _ _, rfl⟩

theorem Laid.conv {W : World} {g T : Nat} {l : List UInt8} (h : Laid W g T l) (hl : l.length = T) :
    (convert 166 9 (.slice (some ⟨g, 0, none⟩) T T)).run Try.prog W = .ok (.string ⟨l.toArray⟩) W := by
  obtain ⟨cur, hg, hsz, ht⟩ := h
  subst hl
  refine run_convert_bytes_back (P := Try.prog) W 166 9 5 ⟨g, 0, none⟩ l.length l Try.underlying166 Try.underlying5 Try.underlying9 (fun j hj => ?_)
  have ea : (⟨g, 0, none⟩ : Addr).add j = ⟨g, j, none⟩ := by unfold Addr.add; split <;> simp_all
  have hc : W.cell? ⟨g, j, none⟩ = cur[j]? := by simp [World.cell?, hg]
  rw [ea, hc]
  have hm : cur.toList[j]? = (bv l)[j]? := by rw [← ht, List.getElem?_take, if_pos hj]
  rw [← Array.getElem?_toList, hm]
  simp [bv, hj]

set_option maxRecDepth 100000 in
set_option maxHeartbeats 1000000 in
theorem join_any (ss : List ByteArray) (b cap : Nat) (w : World) (hb : b < w.heap.size) (hc : ∀ i (h : i < ss.length), w.cell? ⟨b, i, none⟩ = some (.string ss[i])) (hT : totTo ss ss.length ≤ 1000000) (hn : ss.length ≤ 1000) :
    Calls Try.prog 82 #[.slice (some ⟨b, 0, none⟩) ss.length cap] w fun e w' => e = .returned (.string (joinS ss)) ∧ Below w.heap.size w w' := by
  have HC := hide hc
  clear hc
  go_enter Try.func82, Try.ntmps82
  go_wp2
  go_loop [3, 5, 12] (fun z _ i => ∃ k : Nat, k ≤ ss.length ∧ i = .int .i64 k ∧ z = .int .i64 (totTo ss k : Int)) (fun _ _ i => ss.length - (intOf i).toNat)
  case atStart => exact ⟨0, by omega, rfl, rfl⟩
  case round =>
    obtain ⟨k, hk, rfl, rfl⟩ := hrel
    have hle := totTo_le hk
    by_cases hlt : k < ss.length
    · have HS := hide (totTo_succ hlt)
      have hck := HC.out k hlt
      have hsz : ss[k].size ≤ 1000000 := by have := totTo_le (show k + 1 ≤ ss.length by omega); rw [HS.out] at this; omega
      generalize ss[k] = s at *
      go_wp2
      go_round
      case rel => exact ⟨k + 1, by omega, by go_num, by rw [HS.out]; go_num⟩
      case measure => simp [intOf]; omega
    · obtain rfl : k = ss.length := by omega
      have hmk := make_run w (totTo ss ss.length) (by omega)
      go_wp2
      have HT : Hid (∀ k, k ≤ ss.length → totTo ss k ≤ totTo ss ss.length) := hide (fun k hk => totTo_le hk)
      have HE : Hid ((flatTo ss ss.length).length = totTo ss ss.length) := hide (flatTo_length ss _)
      have HL := hide (laid_new w (totTo ss ss.length))
      clear hmk hle hk hlt
      generalize totTo ss ss.length = T at *
      go_loopw [7, 9, 25] (fun a _ i wr => ∃ k : Nat, k ≤ ss.length ∧ i = .int .i64 k ∧ a = .int .i64 (totTo ss k : Int) ∧ Laid wr w.heap.size T (flatTo ss k) ∧ Below w.heap.size w wr) (fun _ _ i _ => ss.length - (intOf i).toNat)
      case atStart => exact ⟨0, by omega, rfl, rfl, HL.out, (Below.refl _ _).alloc (Nat.le_refl _) _⟩
      case round =>
        obtain ⟨k, hk, rfl, rfl, hlaid, hbel⟩ := hrel
        have hle := HT.out k hk
        by_cases hlt : k < ss.length
        · have HS := hide (totTo_succ hlt)
          have HF := hide (flatTo_succ hlt)
          have hck := (hbel.cell (p := ⟨b, k, none⟩) hb).trans (HC.out k hlt)
          have hsz : totTo ss k + ss[k].size ≤ T := by have := HT.out (k + 1) (by omega); rw [HS.out] at this; omega
          have hstep := hlaid.step ss[k] (by rw [flatTo_length]; exact hsz)
          rw [flatTo_length] at hstep
          obtain ⟨W', hcp, hl', hb'⟩ := hstep
          rw [← HF.out] at hl'
          have HLa := hide hl'
          have HBe := hide (hb' _ _ hbel (Nat.le_refl _))
          clear hl' hb' hlaid hbel HF
          generalize totTo ss k = a at *
          generalize ss[k] = s at *
          by_cases e : T = a
          · subst e
            rw [if_pos rfl, Nat.sub_self] at hcp
            go_wp2
            go_roundw
            case rel => exact ⟨k + 1, by omega, by go_num, by rw [HS.out]; go_num, HLa.out, HBe.out⟩
            case measure => simp [intOf]; omega
          · rw [if_neg e] at hcp
            have hlt' : a < T := by omega
            go_wp2
            go_roundw
            case rel => exact ⟨k + 1, by omega, by go_num, by rw [HS.out]; go_num, HLa.out, HBe.out⟩
            case measure => simp [intOf]; omega
        · obtain rfl : k = ss.length := by omega
          have hcv := hlaid.conv HE.out
          have HBe := hide hbel
          clear hlaid hbel
          go_wp2
          go_ret
          exact ⟨rfl, HBe.out⟩
end Go.Proofs.Ytalipbmpcgillaa
