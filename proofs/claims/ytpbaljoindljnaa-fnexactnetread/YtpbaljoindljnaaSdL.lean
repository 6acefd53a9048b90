/- The specification's NetRead, of any text. -/
import Derived.Test.YtpbaljoindljnaaSdM
namespace Go.Proofs.Ytpbaljoindljnaa
open Go.RowKit
set_option maxRecDepth 100000 in
set_option maxHeartbeats 2000000 in
theorem s_netRead_any (t : ByteArray) (w : World) (hs : t.size ≤ maxLen) :
    Calls Try.prog 18 #[.string t] w fun e w' => ∃ v, e = .returned (netV v noRMsg (netC t)) ∧ RMsgOwn w' w.heap.size v (netL t) ∧ Below w.heap.size w w' := by
  by_cases h : 8000 < t.size
  · unfold maxLen at hs
    have HC : Hid (netC t = 2) := hide (if_pos h)
    have HL : Hid (netL t = []) := hide (if_pos h)
    have hn : NoB (w.alloc (.cells #[.slice none 0 0, .string ⟨#[]⟩, .string ⟨#[]⟩, .string ⟨#[]⟩, .int .i64 0, .int .i64 0] 38)) w.heap.size := by
      refine ⟨?_, ?_, ?_, ?_, ?_, ?_, ?_⟩
      all_goals simp
    have HN := hide hn
    clear hn
    go_enter Try.func18, Try.ntmps18
    go_wp2_with (go_at_call 37; refine (sr_ill 2 _).mono ?_; rintro e w6 ⟨rfl, hb6⟩; have HB6 := hide hb6; have HN6 := hide (HN.out.keep (below_apart hb6) (by simp)); obtain ⟨m0, m1, m2, m3, m4, m5, fz⟩ := HN6.out; clear hb6; unfold netV)
    refine bodyPost_ret (v := .agg #[.slice none 0 0, .string ⟨#[]⟩, .string ⟨#[]⟩, .string ⟨#[]⟩, .int .i64 0, .int .i64 2]) (by simp [results, Try.results18, go_sem, m0, m1, m2, m3, m4, m5]; exact ⟨rfl, rfl, rfl, rfl⟩) rfl ⟨.slice none 0 0, ret_val ?_, ?_, ((((((((malloc1 w _).trans (HB6.out.mono (by simp))).setCell (Nat.le_refl _) _).setCell (Nat.le_refl _) _).setCell (Nat.le_refl _) _).setCell (Nat.le_refl _) _).setCell (Nat.le_refl _) _).setCell (Nat.le_refl _) _)⟩
    · rw [HC.out]; rfl
    · rw [HL.out]; exact RMsgOwn.nil _ _
  · exact s_netRead t w (by omega)
theorem netL_len (t : ByteArray) : (netL t).length ≤ 36 := by
  unfold netL
  split
  · simp
  · split
    · rename_i h
      have h3 := ((okB_iff t).1 h).2.2
      exact net_len h3
    · simp
end Go.Proofs.Ytpbaljoindljnaa
