/- Unseal: both functions and the law, walked. -/
import Derived.Test.YtpbaljoindljnaaBSeal
namespace Go.Proofs.Ytpbaljoindljnaa
open Go.RowKit

/-- What Unseal tells: a text and a code. -/
def unT (s : ByteArray) : ByteArray := if s.size ≤ 8000 ∧ 4 ≤ s.size ∧ (sealS (s.extract 0 (s.size - 4))).toList = s.toList then s.extract 0 (s.size - 4) else ⟨#[]⟩
def unC (s : ByteArray) : Int := if 8000 < s.size then 2 else if s.size < 4 then 4 else if (sealS (s.extract 0 (s.size - 4))).toList = s.toList then 0 else 5
def unV (s : ByteArray) : Value := .agg #[.string (unT s), .int .i64 0, .int .i64 (unC s)]

theorem unV_long {s : ByteArray} (h : 8000 < s.size) : unV s = .agg #[.string ⟨#[]⟩, .int .i64 0, .int .i64 2] := by
  unfold unV unT unC; rw [if_neg (by omega), if_pos h]
theorem unV_short {s : ByteArray} (h : s.size < 4) : unV s = .agg #[.string ⟨#[]⟩, .int .i64 0, .int .i64 4] := by
  unfold unV unT unC; rw [if_neg (by omega), if_neg (by omega), if_pos h]
theorem unV_sum {s : ByteArray} (h : s.size ≤ 8000) (h4 : 4 ≤ s.size) (hn : ((sealS (s.extract 0 (s.size - 4))).toList == s.toList) = false) : unV s = .agg #[.string ⟨#[]⟩, .int .i64 0, .int .i64 5] := by
  have hn' : ¬ (sealS (s.extract 0 (s.size - 4))).toList = s.toList := by simpa using hn
  unfold unV unT unC; rw [if_neg (fun x => hn' x.2.2), if_neg (by omega), if_neg (by omega), if_neg hn']
theorem unV_ok {s : ByteArray} (h : s.size ≤ 8000) (h4 : 4 ≤ s.size) (hn : ((sealS (s.extract 0 (s.size - 4))).toList == s.toList) = true) : unV s = .agg #[.string (s.extract 0 (s.size - 4)), .int .i64 0, .int .i64 0] := by
  have hn' : (sealS (s.extract 0 (s.size - 4))).toList = s.toList := by simpa using hn
  unfold unV unT unC; rw [if_pos ⟨h, h4, hn'⟩, if_neg (by omega), if_neg (by omega), if_pos hn']
theorem ret_val {a b : Value} (h : b = a) : Ending.returned a = .returned b := by rw [h]

set_option maxRecDepth 100000 in
set_option maxHeartbeats 1000000 in
theorem impl_unseal (s : ByteArray) (w : World) (hs : s.size ≤ maxLen) :
    Calls Try.prog 59 #[.string s] w fun e w' => e = .returned (unV s) ∧ Below w.heap.size w w' := by
  unfold maxLen at hs
  by_cases h : 8000 < s.size
  · have HU := hide (unV_long h)
    go_enter Try.func59, Try.ntmps59
    go_wp2_with fail
    exact bodyPost_ret (v := .agg #[.string ⟨#[]⟩, .int .i64 0, .int .i64 2]) (by simp [results, Try.results59, go_sem]) rfl ⟨ret_val HU.out, (Below.refl _ _).alloc (Nat.le_refl _) _⟩
  · by_cases h4 : s.size < 4
    · have HU := hide (unV_short h4)
      go_enter Try.func59, Try.ntmps59
      go_wp2_with fail
      exact bodyPost_ret (v := .agg #[.string ⟨#[]⟩, .int .i64 0, .int .i64 4]) (by simp [results, Try.results59, go_sem]) rfl ⟨ret_val HU.out, (Below.refl _ _).alloc (Nat.le_refl _) _⟩
    · have HS := hide (show (s.extract 0 (s.size - 4)).size ≤ maxLen by simp [maxLen]; omega)
      have HZ := hide (show (s.extract 0 (s.size - 4)).size ≤ 1000000 by simp; omega)
      cases hb : ((sealS (s.extract 0 (s.size - 4))).toList == s.toList)
      · have HU := hide (unV_sum (by omega) (by omega) hb)
        go_enter Try.func59, Try.ntmps59
        go_wp2_with (go_at_call 55; refine (impl_seal _ _ HS.out).mono ?_; rintro e w1 ⟨rfl, hb1⟩; obtain ⟨hc, hf⟩ := bcell hb1; have hz : w.heap.size < w1.heap.size := (by have := hb1.size; simp at this; omega); have HB1 := hide hb1; clear hb1)
        exact bodyPost_ret (v := .agg #[.string ⟨#[]⟩, .int .i64 0, .int .i64 5]) (by simp [results, Try.results59, go_sem, hc]) rfl ⟨ret_val HU.out, ((((((Below.refl _ _).alloc (Nat.le_refl _) _).trans (HB1.out.mono (by simp))).setCell (Nat.le_refl _) _).setCell (Nat.le_refl _) _).setCell (Nat.le_refl _) _)⟩
      · have HU := hide (unV_ok (by omega) (by omega) hb)
        go_enter Try.func59, Try.ntmps59
        go_wp2_with (go_at_call 55; refine (impl_seal _ _ HS.out).mono ?_; rintro e w1 ⟨rfl, hb1⟩; obtain ⟨hc, hf⟩ := bcell hb1; have hz : w.heap.size < w1.heap.size := (by have := hb1.size; simp at this; omega); have HB1 := hide hb1; clear hb1)
        refine (join1 (s.extract 0 (s.size - 4)) _ _ _ (by simp) (by simp) HZ.out).mono ?_
        rintro e w2 ⟨rfl, hb2⟩
        rw [join_one]
        have hb12 : Below (w.heap.size + 1) (w.alloc (Obj.cells #[Value.string ⟨#[]⟩, Value.int IntKind.i64 0, Value.int IntKind.i64 0] 61)) w2 :=
          ((HB1.out.mono (by simp)).alloc (by omega) _).trans (hb2.mono (by simp; omega))
        clear hc hf hb2 hz HB1
        have hc0 : w2.cell? ⟨w.heap.size, 0, none⟩ = some (.string ⟨#[]⟩) := (hb12.cell (p := ⟨w.heap.size, 0, none⟩) (by simp)).trans (by simp)
        have hc1 : w2.cell? ⟨w.heap.size, 1, none⟩ = some (.int .i64 0) := (hb12.cell (p := ⟨w.heap.size, 1, none⟩) (by simp)).trans (by simp)
        have hc2 : w2.cell? ⟨w.heap.size, 2, none⟩ = some (.int .i64 0) := (hb12.cell (p := ⟨w.heap.size, 2, none⟩) (by simp)).trans (by simp)
        have hf0 : ∀ o, w2.frozen? ⟨w.heap.size, o, none⟩ = false := fun o => (hb12.frozen (p := ⟨w.heap.size, o, none⟩) (by simp)).trans (by simp [World.frozen?_alloc_at])
        have hz2 : w.heap.size < w2.heap.size := by have := hb12.size; simp at this; omega
        have HB := hide hb12
        clear hb12
        go_wp2
        exact bodyPost_ret (v := .agg #[.string (s.extract 0 (s.size - 4)), .int .i64 0, .int .i64 0]) (by simp [results, Try.results59, go_sem, hc0, hc1, hc2]) rfl ⟨ret_val HU.out, ((((((Below.refl _ _).alloc (Nat.le_refl _) _).trans (HB.out.mono (by omega))).setCell (Nat.le_refl _) _).setCell (Nat.le_refl _) _).setCell (Nat.le_refl _) _)⟩
end Go.Proofs.Ytpbaljoindljnaa
