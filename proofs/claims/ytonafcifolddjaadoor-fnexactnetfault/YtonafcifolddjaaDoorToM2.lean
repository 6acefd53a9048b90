/- A row of messages as the law copies it: it is made, never nil. -/
import Derived.Test.YtonafcifolddjaaDoorSzMsg
namespace Go.Proofs.YtonafcifolddjaaDoor
open Go.RowKit

set_option maxHeartbeats 2000000 in
set_option maxRecDepth 100000 in
theorem to_msgs2 (l : List RMsg) (ao : Option Addr) (cap : Nat) (w : World) (hl : l.length ≤ 1048576) (hr : l ≠ [] → ∃ b o, ao = some ⟨b, o, none⟩ ∧ b < w.heap.size ∧ RMsgs w b o l) :
    Calls Tryd.prog 10 #[.slice ao l.length cap] w fun e w' => ∃ v', e = .returned v' ∧ (∃ g, v' = .slice (some ⟨g, 0, none⟩) l.length l.length) ∧ RMsgSl w' w'.heap.size v' l ∧ MOwn w.heap.size w' v' ∧ Below w.heap.size w w' := by
  have HR := hide hr
  obtain ⟨i0, hi, hz0, hz1, hz2⟩ := info_parts Tryd.infoRMsg
  obtain ⟨M, hM⟩ : ∃ M, M = madeCells (Value.agg #[.string ByteArray.empty, .string ByteArray.empty, .string ByteArray.empty, .int .i64 0]).cells (l.length * 4) := ⟨_, rfl⟩
  have hMs : M.size = l.length * 4 := by rw [hM, size_madeCells]
  have hmk : ∀ W : World, (Instr.makeSlice 27 (.int .i64 (l.length : Int)) (.int .i64 (l.length : Int))).run Tryd.prog W = .ok (.slice (some ⟨W.heap.size, 0, none⟩) l.length l.length) (W.alloc (.cells M 28)) := fun W => by
    have h := run_make (P := Tryd.prog) W 27 28 i0 _ Tryd.underlying27 hi hz0 .i64 .i64 (l.length : Int) (l.length : Int) (by omega) (by omega) (by rw [hz2]; omega) (by omega)
    rw [hz1] at h
    simp only [Int.toNat_natCast] at h
    rw [← hM] at h
    exact h
  have HMS := hide hMs
  clear hr hM hMs hi hz0 hz1 hz2
  go_enter Tryd.func10, Tryd.ntmps10
  go_wp2_with fail
  go_loopw [4] (fun i wr => ∃ k : Nat, k ≤ l.length ∧ i = .int .i64 k ∧ (∀ j (h : j < l.length), j < k → RMsgAt wr w.heap.size (j * 4) l[j]) ∧ (∀ j, j < l.length * 4 → ∃ y, wr.cell? ⟨w.heap.size, j, none⟩ = some y) ∧ (∀ j, wr.frozen? ⟨w.heap.size, j, none⟩ = false) ∧ w.heap.size < wr.heap.size ∧ Below w.heap.size w wr)
    (fun i _ => l.length - (intOf i).toNat)
  case atStart =>
    refine ⟨0, Nat.zero_le _, rfl, fun j _ h => absurd h (by omega), fun j hj => ?_, fun j => ?_, by simp, malloc1 _ _⟩
    · rw [← HMS.out] at hj
      exact ⟨M[j], by simp [hj]⟩
    · simp
  case round =>
    obtain ⟨k, hk, rfl, hall, hcells, hfro, hsz, hbel⟩ := hrel
    have HA := hide hall
    have HC := hide hcells
    have HFR := hide hfro
    have HBEL := hide hbel
    clear hall hbel
    by_cases hlt : k < l.length
    · obtain ⟨b, o, rfl, hbB, hrow⟩ := HR.out (by intro h; simp [h] at hlt)
      have hnode := (hrow.get k hlt).carry hbB HBEL.out
      obtain ⟨x1, hx1⟩ : ∃ x1, x1 = l[k] := ⟨_, rfl⟩
      rw [← hx1] at hnode
      have HN := hide hx1
      clear hx1 hrow
      have hbw : b < wr.heap.size := hnode.lt
      obtain ⟨c0, c1, c2, c3⟩ := hnode
      obtain ⟨y0, g0⟩ := hcells (k * 4) (by omega)
      obtain ⟨y1, g1⟩ := hcells (k * 4 + 1) (by omega)
      obtain ⟨y2, g2⟩ := hcells (k * 4 + 2) (by omega)
      obtain ⟨y3, g3⟩ := hcells (k * 4 + 3) (by omega)
      have HG := hide (And.intro g0 (And.intro g1 (And.intro g2 g3)))
      clear hcells hfro g0 g1 g2 g3
      go_wp2_with (go_at_call 11; refine (to_msg x1 _).mono ?_; rintro e w1 ⟨rfl, hb1⟩; unfold RMsg.val; have hs1 := hb1.size; have HF1 : Hid (∀ j, w1.frozen? ⟨w.heap.size, j, none⟩ = false) := hide (fun j => (hb1.frozen (p := ⟨w.heap.size, j, none⟩) hsz).trans (HFR.out j)); have HC1 : Hid (∀ j, w1.cell? ⟨w.heap.size, j, none⟩ = wr.cell? ⟨w.heap.size, j, none⟩) := hide (fun j => hb1.cell (p := ⟨w.heap.size, j, none⟩) hsz); have g0 := (HC1.out (k * 4)).trans HG.out.1; have g1 := (HC1.out (k * 4 + 1)).trans HG.out.2.1; have g2 := (HC1.out (k * 4 + 2)).trans HG.out.2.2.1; have g3 := (HC1.out (k * 4 + 3)).trans HG.out.2.2.2; have f0 := HF1.out (k * 4); have f1 := HF1.out (k * 4 + 1); have f2 := HF1.out (k * 4 + 2); have f3 := HF1.out (k * 4 + 3); have HB1 := hide hb1; clear hb1)
      go_roundw
      case rel =>
        have e := hide (show (((w1.setCell ⟨w.heap.size, k * 4, none⟩ (.string x1.frm)).setCell ⟨w.heap.size, k * 4 + 1, none⟩ (.string x1.to)).setCell ⟨w.heap.size, k * 4 + 2, none⟩ (.string x1.label)).setCell ⟨w.heap.size, k * 4 + 3, none⟩ (.int .i64 x1.sort) = putMsg w1 w.heap.size (k * 4) x1 from rfl)
        rw [e.out]
        have hex : ∀ i, i < 4 → ∃ y, w1.cell? ⟨w.heap.size, k * 4 + i, none⟩ = some y := fun i hi => by rw [HC1.out]; exact HC.out _ (by omega)
        have hnew := putMsg_at w1 w.heap.size (k * 4) x1 hex
        have hoth : ∀ j, (j < k * 4 ∨ k * 4 + 4 ≤ j) → (putMsg w1 w.heap.size (k * 4) x1).cell? ⟨w.heap.size, j, none⟩ = wr.cell? ⟨w.heap.size, j, none⟩ := fun j hj => by
          rw [putMsg_other _ _ _ _ _ (fun i hi h => by injection h with h1 h2; omega), HC1.out]
        refine ⟨k + 1, by omega, by go_num, fun j hj hjk => ?_, fun j hj => ?_, fun j => by rw [putMsg_frozen]; exact HF1.out j, by rw [putMsg_size]; omega, putMsg_below (HBEL.out.trans (HB1.out.mono HBEL.out.size)) (Nat.le_refl _) _ _⟩
        · by_cases hjk' : j = k
          · subst hjk'; rw [← HN.out]; exact hnew
          · obtain ⟨a0, a1, a2, a3⟩ := HA.out j hj (by omega)
            exact ⟨(hoth _ (by omega)).trans a0, (hoth _ (by omega)).trans a1, (hoth _ (by omega)).trans a2, (hoth _ (by omega)).trans a3⟩
        · by_cases hin : j < k * 4 ∨ k * 4 + 4 ≤ j
          · rw [hoth j hin]; exact HC.out j hj
          · obtain ⟨a0, a1, a2, a3⟩ := hnew
            rcases (show j = k * 4 ∨ j = k * 4 + 1 ∨ j = k * 4 + 2 ∨ j = k * 4 + 3 by omega) with h | h | h | h
            · subst h; exact ⟨_, a0⟩
            · subst h; exact ⟨_, a1⟩
            · subst h; exact ⟨_, a2⟩
            · subst h; exact ⟨_, a3⟩
      case measure => simp [intOf]; omega
    · go_wp2_with fail
      go_ret
      refine ⟨_, rfl, ⟨_, rfl⟩, ⟨_, _, rfl, Nat.le_refl _, by omega, fun hne => ⟨w.heap.size, 0, rfl, hsz, ?_⟩⟩, ⟨fun b hb => by simp [Value.ownBlock] at hb; subst hb; exact ⟨Nat.le_refl _, hsz, HFR.out⟩⟩, HBEL.out⟩
      exact RMsgs.of _ _ l 0 (fun j hj => by rw [Nat.zero_add]; exact HA.out j hj (by omega))

theorem msgs_to2 (l : List RMsg) (ao : Option Addr) (cap : Nat) (w : World) (hl : l.length ≤ 1048576) (hr : l ≠ [] → ∃ b o, ao = some ⟨b, o, none⟩ ∧ b < w.heap.size ∧ RMsgs w b o l) :
    Calls Tryd.prog 10 #[.slice ao l.length cap] w fun e w' => ∃ v', e = .returned v' ∧ (∃ g, v' = .slice (some ⟨g, 0, none⟩) l.length l.length) ∧ RMsgSl w' w'.heap.size v' l ∧ Fresh w.heap.size w' v' ∧ Below w.heap.size w w' :=
  (to_msgs2 l ao cap w hl hr).mono fun e w' ⟨v', h1, hg, h2, h3, h4⟩ => by
    obtain ⟨p, c, rfl⟩ := h2.shape
    exact ⟨_, h1, hg, h2, fresh_slice h3, h4⟩
end Go.Proofs.YtonafcifolddjaaDoor
