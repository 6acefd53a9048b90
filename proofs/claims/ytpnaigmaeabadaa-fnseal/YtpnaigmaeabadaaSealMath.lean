/- What is sealed comes back; with one byte turned it is refused; a CRC goes on: the plain part. -/
import Derived.Test.YtpnaigmaeabadaaUnsealC
import Derived.Test.YtpnaigmaeabadaaCrcMath
namespace Go.Proofs.Ytpnaigmaeabadaa
open Go.RowKit

theorem ba_ext {a b : ByteArray} (h : a.data.toList = b.data.toList) : a = b := by
  apply ByteArray.ext
  exact Array.toList_inj.1 h
theorem app_data (a b : ByteArray) : (a ++ b).data.toList = a.data.toList ++ b.data.toList := by simp [ByteArray.data_append]
theorem crcOf_zero (s : ByteArray) : crcOf 0 s = (crcN 0 s.data.toList : Int) := crcOf_nat 0 (by omega) s
theorem seal_data {t : ByteArray} (h : t.size ≤ 7996) : (sealS t).data.toList = t.data.toList ++ fourL (crcN 0 t.data.toList : Int) := by
  rw [sealS_yes h, app_data, crcOf_zero]; rfl
theorem seal_size {t : ByteArray} (h : t.size ≤ 7996) : (sealS t).size = t.size + 4 := by
  rw [Lib.size_eq, seal_data h, List.length_append, ← Lib.size_eq]; rfl
theorem seal_head {t : ByteArray} (h : t.size ≤ 7996) : (sealS t).extract 0 ((sealS t).size - 4) = t := by
  apply ba_ext
  rw [Lib.extract_data, seal_data h, seal_size h]
  simp
theorem seal_value {t : ByteArray} (h : t.size ≤ 7996) : unV (sealS t) = .agg #[.string t, .int .i64 0, .int .i64 0] := by
  have hs := seal_size h
  have := unV_ok (s := sealS t) (by omega) (by omega) (by rw [seal_head h]; simp)
  rw [seal_head h] at this
  exact this

theorem set_split {T : List UInt8} {i : Nat} (h : i < T.length) (y : UInt8) : T = T.take i ++ T[i] :: T.drop (i + 1) ∧ T.set i y = T.take i ++ y :: T.drop (i + 1) := by
  constructor
  · rw [List.getElem_cons_drop, List.take_append_drop]
  · exact List.set_eq_take_append_cons_drop.trans (by rw [if_pos h])

/-- One byte turned in a sealed text: it is refused. -/
theorem turned_refused {t S' : ByteArray} (h : t.size ≤ 7996) {i : Nat} (hi : i < t.size + 4) (y : UInt8) (hy : (sealS t).data.toList[i]? ≠ some y) (hS : S'.data.toList = (sealS t).data.toList.set i y) :
    unV S' = .agg #[.string ⟨#[]⟩, .int .i64 0, .int .i64 5] := by
  have hT : t.data.toList.length = t.size := (Lib.size_eq t).symm
  have hn : S'.size = t.size + 4 := by rw [Lib.size_eq, hS, List.length_set, ← Lib.size_eq, seal_size h]
  refine unV_sum (by omega) (by omega) ?_
  rw [unseal_eq (by omega)]
  rw [beq_eq_false_iff_ne]
  intro he
  rw [ByteArray.toList_eq, Lib.extract_toList, crcOf_zero, Lib.extract_data, hn, hS, seal_data h] at he
  have hf : (fourL (crcN 0 t.data.toList : Int)).length = 4 := rfl
  rw [seal_data h] at hy
  simp only [Nat.add_sub_cancel, List.drop_zero, Nat.sub_zero] at he
  have hr : (fourS (crcN 0 (((t.data.toList ++ fourL (crcN 0 t.data.toList : Int)).set i y).take t.size) : Int)).data.toList = fourL (crcN 0 (((t.data.toList ++ fourL (crcN 0 t.data.toList : Int)).set i y).take t.size) : Int) := rfl
  rw [hr] at he
  have htk : ∀ (l : List UInt8), l.length = 4 → l.take (t.size + 4 - t.size) = l := fun l hl => List.take_of_length_le (by omega)
  rw [htk _ (by simp [hT, hf])] at he
  by_cases hlt : i < t.size
  · rw [List.set_append, if_pos (by omega), List.take_left' (by simp [hT]), List.drop_left' (by simp [hT])] at he
    have e := fourL_inj (crcN_lt 0 (by omega) _) (crcN_lt 0 (by omega) _) he
    obtain ⟨s1, s2⟩ := set_split (T := t.data.toList) (i := i) (by omega) y
    rw [s2] at e
    conv at e => rhs; rw [s1]
    have := crcN_turned _ _ _ _ e
    apply hy
    rw [List.getElem?_append_left (by omega), List.getElem?_eq_getElem (by omega)]
    exact congrArg some this.symm
  · rw [List.set_append, if_neg (by omega), List.take_left' hT, List.drop_left' hT] at he
    apply hy
    have e := congrArg (fun l : List UInt8 => l[i - t.data.toList.length]?) he
    rw [List.getElem?_append_right (by omega)]
    rw [e, List.getElem?_set_self (by rw [hf]; omega)]

theorem more_more {t u : ByteArray} (h : t.size + u.size ≤ 8000) : moreB (moreB 0 t) u = moreB 0 (t ++ u) := by
  have e1 : moreB 0 t = (crcN 0 t.data.toList : Int) := by rw [moreB_yes (by omega) (by omega) (by omega), crcOf_zero]
  have hl := crcN_lt 0 (by omega) t.data.toList
  have hz : (t ++ u).size = t.size + u.size := by simp
  rw [e1, moreB_yes (by omega) (by omega) (by omega), moreB_yes (by omega) (by omega) (by omega), crcOf_zero, crcOf_nat _ hl, crcN_more, app_data]
end Go.Proofs.Ytpnaigmaeabadaa
