/- Marks on rows of texts and of Nodes; whether they are held; rows of texts held one against another. -/
import Derived.Test.YtdaljjpbfogniaaMark
import Derived.Test.YtdaljjpbfogniaaRolesOf
namespace Go.Proofs.Ytdaljjpbfogniaa
open Go.RowKit

set_option maxHeartbeats 400000 in
theorem eq_texts (ls : List ByteArray) (v u : Value) (w : World) (hv : TextsAt w v ls) (hu : TextsAt w u ls) :
    Calls Try.prog 16 #[v, u] w fun e w' => e = .returned (.bool true) ∧ Below w.heap.size w w' := by
  obtain ⟨ao, cap, rfl, hc, hm, hr⟩ := hv
  obtain ⟨ao', cap', rfl, hc', hm', hr'⟩ := hu
  have HR := hide hr
  have HR' := hide hr'
  clear hr hr'
  go_enter Try.func16, Try.ntmps16
  go_wp2_with fail
  go_loopw [5] (fun i wr => ∃ k : Nat, k ≤ ls.length ∧ i = .int .i64 k ∧ Below w.heap.size w wr) (fun i _ => ls.length - (intOf i).toNat)
  case atStart => exact ⟨0, Nat.zero_le _, rfl, Below.refl _ _⟩
  case round =>
    obtain ⟨k, hk, rfl, hbel⟩ := hrel
    have HBEL := hide hbel
    have hszr := hbel.size
    by_cases hlt : k < ls.length
    · obtain ⟨b, o, rfl, hcell⟩ := HR.out (by intro h; simp [h] at hlt)
      obtain ⟨b', o', rfl, hcell'⟩ := HR'.out (by intro h; simp [h] at hlt)
      have c0 := (hbel.cell (p := ⟨b, _, none⟩) (World.block_lt_of_cell? w _ (hcell k hlt))).trans (hcell k hlt)
      have d0 := (hbel.cell (p := ⟨b', _, none⟩) (World.block_lt_of_cell? w _ (hcell' k hlt))).trans (hcell' k hlt)
      obtain ⟨s, hs⟩ : ∃ s, s = ls[k] := ⟨_, rfl⟩
      rw [← hs] at c0 d0
      clear hs hcell hcell' hbel
      go_wp2_with fail
      go_region
      go_wp2_with fail
      all_goals
        go_roundw
        case rel => exact ⟨k + 1, by omega, by go_num, by first | exact HBEL.out | exact HBEL.out.drew | exact HBEL.out.drew.drew⟩
        case measure => simp [intOf]; omega
    · clear hbel
      go_wp2_with fail
      go_ret
      exact ⟨rfl, HBEL.out⟩

def marks (k n : Nat) : List ByteArray := (List.range n).map fun i => markT (k + i)
theorem marks_len (k n : Nat) : (marks k n).length = n := by simp [marks]
theorem marks_get (k n i : Nat) (h : i < (marks k n).length) : (marks k n)[i] = markT (k + i) := by simp [marks]

set_option maxHeartbeats 400000 in
theorem held_texts (k0 n : Nat) (v : Value) (w : World) (h1 : 1 ≤ k0) (hk : k0 + n ≤ 6000000) (hv : TextsAt w v (marks k0 n)) :
    Calls Try.prog 19 #[v, .int .i64 k0] w fun e w' => e = .returned (.int .i64 ((k0 + n : Nat) : Int)) ∧ Below w.heap.size w w' := by
  have HV := hide hv
  obtain ⟨ao, cap, rfl, hc, hm, hr⟩ := hv
  rw [marks_len] at hc hm ⊢
  have HR := hide hr
  clear hr
  go_enter Try.func19, Try.ntmps19
  go_wp2_with fail
  go_loopw [1, 5] (fun kv i wr => ∃ k : Nat, k ≤ n ∧ i = .int .i64 k ∧ kv = .int .i64 ((k0 + k : Nat) : Int) ∧ Below w.heap.size w wr) (fun _ i _ => n - (intOf i).toNat)
  case atStart => exact ⟨0, Nat.zero_le _, rfl, rfl, Below.refl _ _⟩
  case round =>
    obtain ⟨k, hk, rfl, rfl, hbel⟩ := hrel
    have HBEL := hide hbel
    have hszr := hbel.size
    by_cases hlt : k < n
    · have hlt' : k < (marks k0 n).length := by rw [marks_len]; exact hlt
      obtain ⟨b, o, rfl, hcell⟩ := HR.out (by intro h; rw [h] at hlt'; simp at hlt')
      have c0 := (hbel.cell (p := ⟨b, _, none⟩) (World.block_lt_of_cell? w _ (hcell k hlt'))).trans (hcell k hlt')
      have hbw : b < wr.heap.size := World.block_lt_of_cell? wr _ c0
      rw [marks_get] at c0
      have HC := hide c0
      obtain ⟨kk, hkk⟩ : ∃ kk, k0 + k = kk := ⟨_, rfl⟩
      rw [hkk] at c0 ⊢
      have hkk2 : kk < 6000001 := by omega
      have hkk1 : 1 ≤ kk := by omega
      have HKK := hide hkk
      obtain ⟨m, hmm⟩ : ∃ m, m = markT kk := ⟨_, rfl⟩
      rw [← hmm] at c0
      have HM := hide hmm
      clear hcell hbel hkk hmm
      go_wp2_with fail
      go_region_with (go_at_call 40; refine (mark_text kk _ hkk1 hkk2).mono ?_; rintro e w1 ⟨rfl, hb1⟩; rw [← HM.out]; have c1 := (hb1.cell (p := ⟨b, _, none⟩) hbw).trans c0; have HB1 := hide hb1; clear hb1)
      go_wp2_with fail
      all_goals
        go_roundw
        case rel => exact ⟨k + 1, by omega, by go_num, by have := HKK.out; congr 1; omega, by first | exact HBEL.out.trans (HB1.out.mono hszr) | exact HBEL.out.drew.trans (HB1.out.mono hszr) | exact HBEL.out.drew.drew.trans (HB1.out.mono hszr)⟩
        case measure => simp [intOf]; omega
    · clear hbel
      go_wp2_with fail
      go_ret
      exact ⟨ret_int (by omega), HBEL.out⟩
end Go.Proofs.Ytdaljjpbfogniaa
