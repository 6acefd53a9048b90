/- Rows of texts: compared, marked, and whether they hold their marks. -/
import Derived.Test.YthghhccikgngjaaGreatDoorTxt
import Derived.Test.YthghhccikgngjaaGreatDoorMarkT
namespace Go.Proofs.YthghhccikgngjaaGreatDoor
open Go.RowKit


/-- what a slice lies in is new, and may be written to -/
structure OwnAt (B : Nat) (w : World) (v : Value) : Prop where
  free : ∀ b, v.ownBlock = some b → B ≤ b ∧ b < w.heap.size ∧ ∀ j, w.frozen? ⟨b, j, none⟩ = false
theorem OwnAt.carry {B : Nat} {w w' : World} {v : Value} (h : OwnAt B w v) (hb : Below w.heap.size w w') : OwnAt B w' v :=
  ⟨fun b e => ⟨(h.free b e).1, Nat.lt_of_lt_of_le (h.free b e).2.1 hb.size, fun j => (hb.frozen (p := ⟨b, j, none⟩) (h.free b e).2.1).trans ((h.free b e).2.2 j)⟩⟩
theorem own_at {B e size : Nat} {w : World} {v : Value} {n : Nat} {xs : List Value} (h : w.ownsRow B e size v n xs) : OwnAt B w v := by
  refine ⟨fun b hb => ?_⟩
  obtain ⟨_, hv⟩ := h
  rcases hv with ⟨rfl, _⟩ | ⟨g, cap, cur, rfl, hg, hh, _⟩
  · cases hb
  · simp [Value.ownBlock] at hb
    subst hb
    exact ⟨hg, (Array.getElem?_eq_some_iff.1 hh).1, fun j => by simp [World.frozen?, hh]⟩



set_option maxHeartbeats 400000 in
theorem eq_texts (ls : List ByteArray) (v u : Value) (w : World) (hv : TextsAt w v ls) (hu : TextsAt w u ls) :
    Calls Tryz.prog 20 #[v, u] w fun e w' => e = .returned (.bool true) ∧ Below w.heap.size w w' := by
  obtain ⟨ao, cap, rfl, hc, hm, hr⟩ := hv
  obtain ⟨ao', cap', rfl, hc', hm', hr'⟩ := hu
  have HR := hide hr
  have HR' := hide hr'
  clear hr hr'
  go_enter Tryz.func20, Tryz.ntmps20
  go_wp2_with fail
  go_loopw [5] (fun i wr => ∃ k : Nat, k ≤ ls.length ∧ i = .int .i64 k ∧ Below w.heap.size w wr) (fun i _ => ls.length - (intOf i).toNat)
  case atStart => exact ⟨0, Nat.zero_le _, rfl, Below.refl _ _⟩
  case round =>
    obtain ⟨k, hk, rfl, hbel⟩ := hrel
    have HBEL := hide hbel
    have hszr := hbel.size
    by_cases hlt : k < ls.length
    · obtain ⟨b, o, rfl, hcell⟩ := HR.out (by intro h; simp [h] at hlt)
      obtain ⟨b', o', rfl, hcell'⟩ := HR'.out (by intro h; simp [h] at hlt)
      have c0 := (hbel.cell (p := ⟨b, _, none⟩) (World.block_lt_of_cell? w _ (hcell k hlt))).trans (hcell k hlt)
      have d0 := (hbel.cell (p := ⟨b', _, none⟩) (World.block_lt_of_cell? w _ (hcell' k hlt))).trans (hcell' k hlt)
      obtain ⟨s, hs⟩ : ∃ s, s = ls[k] := ⟨_, rfl⟩
      rw [← hs] at c0 d0
      clear hs hcell hcell' hbel
      go_wp2_with fail
      go_region
      go_wp2_with fail
      all_goals
        go_roundw
        case rel => exact ⟨k + 1, by omega, by go_num, by first | exact HBEL.out | exact HBEL.out.drew | exact HBEL.out.drew.drew⟩
        case measure => simp [intOf]; omega
    · clear hbel
      go_wp2_with fail
      go_ret
      exact ⟨rfl, HBEL.out⟩

def marks (k n : Nat) : List ByteArray := (List.range n).map fun i => markT (k + i)
theorem marks_len (k n : Nat) : (marks k n).length = n := by simp [marks]
theorem marks_get (k n i : Nat) (h : i < (marks k n).length) : (marks k n)[i] = markT (k + i) := by simp [marks]

set_option maxHeartbeats 400000 in
theorem held_texts (k0 n : Nat) (v : Value) (w : World) (h1 : 1 ≤ k0) (hk : k0 + n ≤ 6000000) (hv : TextsAt w v (marks k0 n)) :
    Calls Tryz.prog 22 #[v, .int .i64 k0] w fun e w' => e = .returned (.int .i64 ((k0 + n : Nat) : Int)) ∧ Below w.heap.size w w' := by
  have HV := hide hv
  obtain ⟨ao, cap, rfl, hc, hm, hr⟩ := hv
  rw [marks_len] at hc hm ⊢
  have HR := hide hr
  clear hr
  go_enter Tryz.func22, Tryz.ntmps22
  go_wp2_with fail
  go_loopw [1, 5] (fun kv i wr => ∃ k : Nat, k ≤ n ∧ i = .int .i64 k ∧ kv = .int .i64 ((k0 + k : Nat) : Int) ∧ Below w.heap.size w wr) (fun _ i _ => n - (intOf i).toNat)
  case atStart => exact ⟨0, Nat.zero_le _, rfl, rfl, Below.refl _ _⟩
  case round =>
    obtain ⟨k, hk, rfl, rfl, hbel⟩ := hrel
    have HBEL := hide hbel
    have hszr := hbel.size
    by_cases hlt : k < n
    · have hlt' : k < (marks k0 n).length := by rw [marks_len]; exact hlt
      obtain ⟨b, o, rfl, hcell⟩ := HR.out (by intro h; rw [h] at hlt'; simp at hlt')
      have c0 := (hbel.cell (p := ⟨b, _, none⟩) (World.block_lt_of_cell? w _ (hcell k hlt'))).trans (hcell k hlt')
      have hbw : b < wr.heap.size := World.block_lt_of_cell? wr _ c0
      rw [marks_get] at c0
      have HC := hide c0
      obtain ⟨kk, hkk⟩ : ∃ kk, k0 + k = kk := ⟨_, rfl⟩
      rw [hkk] at c0 ⊢
      have hkk2 : kk < 6000001 := by omega
      have hkk1 : 1 ≤ kk := by omega
      have HKK := hide hkk
      obtain ⟨m, hmm⟩ : ∃ m, m = markT kk := ⟨_, rfl⟩
      rw [← hmm] at c0
      have HM := hide hmm
      clear hcell hbel hkk hmm
      go_wp2_with fail
      go_region_with (go_at_call 37; refine (mark_text kk _ hkk1 hkk2).mono ?_; rintro e w1 ⟨rfl, hb1⟩; rw [← HM.out]; have c1 := (hb1.cell (p := ⟨b, _, none⟩) hbw).trans c0; have HB1 := hide hb1; clear hb1)
      go_wp2_with fail
      all_goals
        go_roundw
        case rel => exact ⟨k + 1, by omega, by go_num, by have := HKK.out; congr 1; omega, by first | exact HBEL.out.trans (HB1.out.mono hszr) | exact HBEL.out.drew.trans (HB1.out.mono hszr) | exact HBEL.out.drew.drew.trans (HB1.out.mono hszr)⟩
        case measure => simp [intOf]; omega
    · clear hbel
      go_wp2_with fail
      go_ret
      exact ⟨ret_int (by omega), HBEL.out⟩


set_option maxRecDepth 100000 in
set_option maxHeartbeats 1000000 in
theorem mark_texts (k0 : Nat) (ls : List ByteArray) (v : Value) (w : World) (B : Nat) (h1 : 1 ≤ k0) (hk : k0 + ls.length ≤ 6000000) (hv : TextsAt w v ls) (hown : OwnAt B w v) :
    Calls Tryz.prog 21 #[v, .int .i64 k0] w fun e w' => e = .returned (.int .i64 ((k0 + ls.length : Nat) : Int)) ∧ TextsAt w' v (marks k0 ls.length) ∧ w.grownBy w' v.ownBlock := by
  obtain ⟨ao, cap, rfl, hc, hm, hr⟩ := hv
  have HR := hide hr
  have HO := hide hown
  obtain ⟨n, hn⟩ : ∃ n, ls.length = n := ⟨_, rfl⟩
  rw [hn] at hc hm hk ⊢
  have HN := hide hn
  clear hr hown hn
  by_cases hn0 : n = 0
  · subst hn0
    go_enter Tryz.func21, Tryz.ntmps21
    go_wp2_with fail
    go_loopw [1, 5] (fun kv i wr => i = .int .i64 0 ∧ kv = .int .i64 (k0 : Int) ∧ wr = w) (fun _ _ _ => 0)
    case atStart => exact ⟨rfl, rfl, rfl⟩
    case round =>
      obtain ⟨rfl, rfl, rfl⟩ := hrel
      go_wp2_with fail
      go_ret
      exact ⟨ret_int rfl, ⟨_, _, rfl, by simp [marks], by simp [marks], fun h => absurd rfl h⟩, grown_refl _ _⟩
  · have hne : ls ≠ [] := fun h => hn0 (by rw [← HN.out, h]; rfl)
    obtain ⟨b, o, rfl, hcell⟩ := HR.out hne
    obtain ⟨hB, hlt, hfr⟩ := HO.out.free b rfl
    have HC0 : Hid (∀ i, i < n → ∃ x, w.cell? ⟨b, o + i, none⟩ = some x) := hide (fun i hi => ⟨_, hcell i (by rw [HN.out]; exact hi)⟩)
    have HFR := hide hfr
    clear hcell hfr
    go_enter Tryz.func21, Tryz.ntmps21
    go_wp2_with fail
    go_loopw [1, 5] (fun kv i wr => ∃ k : Nat, k ≤ n ∧ i = .int .i64 k ∧ kv = .int .i64 ((k0 + k : Nat) : Int) ∧ (∀ j, j < k → wr.cell? ⟨b, o + j, none⟩ = some (.string (markT (k0 + j)))) ∧ (∀ j, j < n → ∃ x, wr.cell? ⟨b, o + j, none⟩ = some x) ∧ (∀ j, wr.frozen? ⟨b, j, none⟩ = false) ∧ w.grownBy wr (some b)) (fun _ i _ => n - (intOf i).toNat)
    case atStart => exact ⟨0, Nat.zero_le _, rfl, rfl, fun j h => absurd h (by omega), HC0.out, HFR.out, grown_refl _ _⟩
    case round =>
      obtain ⟨k, hk, rfl, rfl, hdone, hex, hfro, hgr⟩ := hrel
      have HD := hide hdone
      have HE := hide hex
      have HF := hide hfro
      have HG := hide hgr
      have hbw : b < wr.heap.size := Nat.lt_of_lt_of_le hlt hgr.size
      by_cases hkn : k < n
      · obtain ⟨x0, g0⟩ := hex k hkn
        have hfk := hfro (o + k)
        obtain ⟨kk, hkk⟩ : ∃ kk, k0 + k = kk := ⟨_, rfl⟩
        rw [hkk]
        have hkk2 : kk < 6000001 := by omega
        have hkk1 : 1 ≤ kk := by omega
        have HKK := hide hkk
        obtain ⟨m, hmm⟩ : ∃ m, m = markT kk := ⟨_, rfl⟩
        have HM := hide hmm
        clear hdone hex hfro hgr hkk hmm
        go_wp2_with (go_at_call 37; refine (mark_text kk _ hkk1 hkk2).mono ?_; rintro e w1 ⟨rfl, hb1⟩; rw [← HM.out]; have c1 := (hb1.cell (p := ⟨b, _, none⟩) hbw).trans g0; have f1 := (hb1.frozen (p := ⟨b, _, none⟩) hbw).trans hfk; have HB1 := hide hb1; clear hb1)
        go_roundw
        case rel =>
          have hoth : ∀ j, j ≠ k → (w1.setCell ⟨b, o + k, none⟩ (.string m)).cell? ⟨b, o + j, none⟩ = wr.cell? ⟨b, o + j, none⟩ := fun j hj => by
            rw [World.cell?_setCell_other _ _ _ _ (fun h => hj (by injection h with h1 h2; omega))]
            exact HB1.out.cell (p := ⟨b, _, none⟩) hbw
          have hsame : (w1.setCell ⟨b, o + k, none⟩ (.string m)).cell? ⟨b, o + k, none⟩ = some (.string m) := World.cell?_setCell_same _ _ _ c1
          refine ⟨k + 1, by omega, by go_num, by have := HKK.out; congr 1; omega, fun j hj => ?_, fun j hj => ?_, fun j => ?_, grown_set (grown_below HG.out HB1.out) _ _⟩
          · by_cases hjk : j = k
            · subst hjk; rw [hsame, HM.out, HKK.out]
            · rw [hoth j hjk]; exact HD.out j (by omega)
          · by_cases hjk : j = k
            · subst hjk; exact ⟨_, hsame⟩
            · rw [hoth j hjk]; exact HE.out j hj
          · rw [World.frozen?_setCell]
            exact (HB1.out.frozen (p := ⟨b, _, none⟩) hbw).trans (HF.out j)
        case measure => simp [intOf]; omega
      · clear hdone hex hfro hgr
        go_wp2_with fail
        go_ret
        refine ⟨ret_int (by omega), ⟨_, _, by rw [marks_len], by rw [marks_len]; exact hc, by rw [marks_len]; exact hm, fun _ => ⟨b, o, rfl, fun i hi => ?_⟩⟩, HG.out⟩
        rw [marks_get]
        rw [marks_len] at hi
        exact HD.out i (by omega)

theorem Tryz.infoS : (Tryz.prog.info? 9).map (fun i => (i.zero, i.size, i.bytes)) = some (some (.string ByteArray.empty), 1, 16) := by kernel_rfl
end Go.Proofs.YthghhccikgngjaaGreatDoor
