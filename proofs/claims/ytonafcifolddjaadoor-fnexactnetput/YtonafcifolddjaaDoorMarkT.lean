/- Marks: the texts by which a law tells whether an answer owns its memory; what a store leaves as it was. -/
import Derived.Test.YtonafcifolddjaaDoorMem
import Derived.Test.YtonafcifolddjaaDoorGrown
namespace Go.Proofs.YtonafcifolddjaaDoor
open Go.RowKit

def digF : Nat → Nat → ByteArray → ByteArray
  | 0, _, out => out
  | f + 1, k, out => if k = 0 then out else digF f (k / 10) (ByteArray.mk #[UInt8.ofNat (48 + k % 10)] ++ out)
def markT (k : Nat) : ByteArray := ByteArray.mk #[109] ++ digF 7 k ByteArray.empty

def digit (j : Nat) : UInt8 := UInt8.ofNat (48 + j % 10)
theorem conv_digit (j : Nat) (W : World) :
    (convert 66 9 (.slice (some ⟨W.heap.size, 0, none⟩) 1 1)).run Tryd.prog (W.alloc (.cells #[.int .u8 (48 + (j : Int) % 10)] 5)) = .ok (.string ⟨[digit j].toArray⟩) (W.alloc (.cells #[.int .u8 (48 + (j : Int) % 10)] 5)) := by
  refine run_convert_bytes_back (P := Tryd.prog) _ 66 9 5 ⟨W.heap.size, 0, none⟩ 1 [digit j] Tryd.underlying66 Tryd.underlying5 Tryd.underlying9 (fun i hi => ?_)
  match i, hi with
  | 0, _ =>
    have e : ((digit j).toNat : Int) = 48 + (j : Int) % 10 := by
      have : (digit j).toNat = 48 + j % 10 := by
        rw [digit, UInt8.toNat_ofNat']
        omega
      omega
    simp [Addr.add, e]
theorem dig_next (f j : Nat) (o : ByteArray) (h : 0 < j) : digF (f + 1) j o = digF f (j / 10) (ByteArray.mk [digit j].toArray ++ o) := by
  rw [digF, if_neg (by omega)]; rfl
theorem dig_zero (f : Nat) (o : ByteArray) : digF f 0 o = o := by
  cases f <;> simp [digF]

set_option maxRecDepth 100000 in
set_option maxHeartbeats 1000000 in
theorem mark_text (k : Nat) (w : World) (h1 : 1 ≤ k) (hk : k < 6000001) :
    Calls Tryd.prog 33 #[.int .i64 k] w fun e w' => e = .returned (.string (markT k)) ∧ Below w.heap.size w w' := by
  go_enter Tryd.func33, Tryd.ntmps33
  go_wp2_with fail
  go_loopw [0, 3] (fun kv out wr => ∃ (f j : Nat) (o : ByteArray), kv = .int .i64 j ∧ out = .string o ∧ j < 10 ^ f ∧ f ≤ 7 ∧ o.size ≤ 7 - f ∧ digF f j o = digF 7 k ByteArray.empty ∧ Below w.heap.size w wr)
    (fun kv _ _ => (intOf kv).toNat)
  case atStart => exact ⟨7, k, ByteArray.empty, rfl, rfl, by omega, Nat.le_refl _, Nat.le_refl _, rfl, Below.refl _ _⟩
  case round =>
    obtain ⟨f, j, o, rfl, rfl, hj, hf, hos, hd, hbel⟩ := hrel
    have HD := hide hd
    have HBEL := hide hbel
    have hszr := hbel.size
    have HJ := hide hj
    clear hd hbel hj
    by_cases hz : j = 0
    · subst hz
      have HO := hide (show digF 7 k ByteArray.empty = o by rw [← HD.out, dig_zero])
      have hos2 : o.size ≤ 7 := by omega
      go_wp2_with fail
      go_ret
      refine ⟨ret_str ?_, HBEL.out⟩
      rw [markT, HO.out]
    · have hpos : 0 < j := by omega
      have HP := hide hpos
      have hj12 : j < 10000000 := Nat.lt_of_lt_of_le HJ.out (Nat.le_trans (Nat.pow_le_pow_right (by omega) hf) (by decide))
      have hcv := conv_digit j wr
      have hos2 : o.size ≤ 7 := by omega
      obtain ⟨f', rfl⟩ : ∃ f', f = f' + 1 := ⟨f - 1, by
        rcases Nat.eq_zero_or_pos f with h | h
        · have := HJ.out; rw [h] at this; omega
        · omega⟩
      have hdsz : ByteArray.size ⟨[digit j].toArray⟩ = 1 := rfl
      clear hz
      go_wp2_with fail
      go_roundw
      case rel =>
        refine ⟨f', j / 10, _, by go_num, rfl, ?_, by omega, ?_, ?_, HBEL.out.trans ((malloc1 _ _).mono hszr)⟩
        · have := HJ.out
          rw [Nat.pow_succ] at this
          omega
        · rw [ByteArray.size_append, hdsz]; omega
        · rw [← HD.out, dig_next f' j o HP.out]
      case measure => simp [intOf]; omega
theorem mark_text_at (k : Nat) (z : Int) (w : World) (hz : z = k) (h1 : 1 ≤ k) (hk : k < 6000001) :
    Calls Tryd.prog 33 #[.int .i64 z] w fun e w' => e = .returned (.string (markT k)) ∧ Below w.heap.size w w' := by
  subst hz
  exact mark_text k w h1 hk

theorem grown_below {w wr w1 : World} {row : Option Nat} (hg : w.grownBy wr row) (hb : Below wr.heap.size wr w1) : w.grownBy w1 row :=
  ⟨hb.os.trans hg.os, hb.tape.trans hg.tape, hb.output.trans hg.output, Nat.le_trans hg.size hb.size, fun k hk hne => (hb.block k (Nat.lt_of_lt_of_le hk hg.size)).trans (hg.block k hk hne)⟩
theorem grown_set {w wr : World} {g : Nat} (hg : w.grownBy wr (some g)) (o : Nat) (x : Value) : w.grownBy (wr.setCell ⟨g, o, none⟩ x) (some g) :=
  ⟨hg.os, hg.tape, hg.output, by simp; exact hg.size, fun k hk hne => (Below.heap_setCell wr ⟨g, o, none⟩ x k (fun h => hne (by rw [h]))).trans (hg.block k hk hne)⟩
theorem grown_reflT (w : World) (row : Option Nat) : w.grownBy w row := ⟨rfl, rfl, rfl, Nat.le_refl _, fun _ _ _ => rfl⟩
end Go.Proofs.YtonafcifolddjaaDoor
