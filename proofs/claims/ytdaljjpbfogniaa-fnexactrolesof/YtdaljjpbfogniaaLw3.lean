/- Copies of rows of Nodes that own their memory; marks on them. -/
import Derived.Test.YtdaljjpbfogniaaMark2
namespace Go.Proofs.Ytdaljjpbfogniaa
open Go.RowKit

/-- what a slice lies in is new, and may be written to -/
structure OwnAt (B : Nat) (w : World) (v : Value) : Prop where
  free : ∀ b, v.ownBlock = some b → B ≤ b ∧ b < w.heap.size ∧ ∀ j, w.frozen? ⟨b, j, none⟩ = false
theorem OwnAt.carry {B : Nat} {w w' : World} {v : Value} (h : OwnAt B w v) (hb : Below w.heap.size w w') : OwnAt B w' v :=
  ⟨fun b e => ⟨(h.free b e).1, Nat.lt_of_lt_of_le (h.free b e).2.1 hb.size, fun j => (hb.frozen (p := ⟨b, j, none⟩) (h.free b e).2.1).trans ((h.free b e).2.2 j)⟩⟩
theorem own_at {B e size : Nat} {w : World} {v : Value} {n : Nat} {xs : List Value} (h : w.ownsRow B e size v n xs) : OwnAt B w v := by
  refine ⟨fun b hb => ?_⟩
  obtain ⟨_, hv⟩ := h
  rcases hv with ⟨rfl, _⟩ | ⟨g, cap, cur, rfl, hg, hh, _⟩
  · cases hb
  · simp [Value.ownBlock] at hb
    subst hb
    exact ⟨hg, (Array.getElem?_eq_some_iff.1 hh).1, fun j => by simp [World.frozen?, hh]⟩

theorem grown_below {w wr w1 : World} {row : Option Nat} (hg : w.grownBy wr row) (hb : Below wr.heap.size wr w1) : w.grownBy w1 row :=
  ⟨hb.os.trans hg.os, hb.tape.trans hg.tape, hb.output.trans hg.output, Nat.le_trans hg.size hb.size, fun k hk hne => (hb.block k (Nat.lt_of_lt_of_le hk hg.size)).trans (hg.block k hk hne)⟩
theorem grown_set {w wr : World} {g : Nat} (hg : w.grownBy wr (some g)) (o : Nat) (x : Value) : w.grownBy (wr.setCell ⟨g, o, none⟩ x) (some g) :=
  ⟨hg.os, hg.tape, hg.output, by simp; exact hg.size, fun k hk hne => (Below.heap_setCell wr ⟨g, o, none⟩ x k (fun h => hne (by rw [h]))).trans (hg.block k hk hne)⟩
theorem grown_refl (w : World) (row : Option Nat) : w.grownBy w row := ⟨rfl, rfl, rfl, Nat.le_refl _, fun _ _ _ => rfl⟩

set_option maxHeartbeats 2000000 in
set_option maxRecDepth 100000 in
theorem to_nodes_own (ns : List Nd) (ao : Option Addr) (cap : Nat) (w : World) (hl : ns.length ≤ 1048576) (hr : ns ≠ [] → ∃ b o, ao = some ⟨b, o, none⟩ ∧ b < w.heap.size ∧ RowAt w b o ns) :
    Calls Try.prog 11 #[.slice ao ns.length cap] w fun e w' => ∃ v', e = .returned v' ∧ SlAt w' w'.heap.size v' ns ∧ OwnAt w.heap.size w' v' ∧ Below w.heap.size w w' := by
  have HR := hide hr
  obtain ⟨i0, hi, hz0, hz1, hz2⟩ := info_parts Try.infoN
  obtain ⟨M, hM⟩ : ∃ M, M = madeCells (Value.agg #[.int .i64 0, .string ByteArray.empty, .string ByteArray.empty, .int .i64 0, .int .i64 0]).cells (ns.length * 5) := ⟨_, rfl⟩
  have hMs : M.size = ns.length * 5 := by rw [hM, madeN]
  have hmk : ∀ W : World, (Instr.makeSlice 25 (.int .i64 (ns.length : Int)) (.int .i64 (ns.length : Int))).run Try.prog W = .ok (.slice (some ⟨W.heap.size, 0, none⟩) ns.length ns.length) (W.alloc (.cells M 46)) := fun W => by
    have h := run_make (P := Try.prog) W 25 46 i0 _ Try.underlying25 hi hz0 .i64 .i64 (ns.length : Int) (ns.length : Int) (by omega) (by omega) (by rw [hz2]; omega) (by omega)
    rw [hz1] at h
    simp only [Int.toNat_natCast] at h
    rw [← hM] at h
    exact h
  have HMS := hide hMs
  clear hr hM hMs hi hz0 hz1 hz2
  have HLL := hide hl
  go_enter Try.func11, Try.ntmps11
  go_wp2_with fail
  go_loopw [4] (fun i wr => ∃ k : Nat, k ≤ ns.length ∧ i = .int .i64 k ∧ (∀ j (h : j < ns.length), j < k → NodeAt wr w.heap.size (j * 5) ns[j]) ∧ (∀ j, j < ns.length * 5 → ∃ x, wr.cell? ⟨w.heap.size, j, none⟩ = some x) ∧ (∀ j, wr.frozen? ⟨w.heap.size, j, none⟩ = false) ∧ w.heap.size < wr.heap.size ∧ Below w.heap.size w wr)
    (fun i _ => ns.length - (intOf i).toNat)
  case atStart =>
    refine ⟨0, Nat.zero_le _, rfl, fun j _ h => absurd h (by omega), fun j hj => ?_, fun j => ?_, by simp, alloc1 _ _⟩
    · rw [← HMS.out] at hj
      exact ⟨M[j], by simp [hj]⟩
    · simp
  case round =>
    obtain ⟨k, hk, rfl, hall, hcells, hfro, hsz, hbel⟩ := hrel
    have HA := hide hall
    have HC := hide hcells
    have HFR := hide hfro
    have HBEL := hide hbel
    clear hall hbel
    by_cases hlt : k < ns.length
    · obtain ⟨b, o, rfl, hbB, hrow⟩ := HR.out (by intro h; simp [h] at hlt)
      have hnode := (hrow.get k hlt).carry hbB HBEL.out
      obtain ⟨n1, hn1⟩ : ∃ n1, n1 = ns[k] := ⟨_, rfl⟩
      rw [← hn1] at hnode
      have HN := hide hn1
      clear hn1 hrow
      have hbw : b < wr.heap.size := hnode.lt
      obtain ⟨c0, c1, c2, c3, c4⟩ := hnode
      obtain ⟨y0, g0⟩ := hcells (k * 5) (by omega)
      obtain ⟨y1, g1⟩ := hcells (k * 5 + 1) (by omega)
      obtain ⟨y2, g2⟩ := hcells (k * 5 + 2) (by omega)
      obtain ⟨y3, g3⟩ := hcells (k * 5 + 3) (by omega)
      obtain ⟨y4, g4⟩ := hcells (k * 5 + 4) (by omega)
      have HG := hide (And.intro g0 (And.intro g1 (And.intro g2 (And.intro g3 g4))))
      clear hcells hfro g0 g1 g2 g3 g4
      go_wp2_with (go_at_call 33; refine (to_node n1 _).mono ?_; rintro e w1 ⟨rfl, hb1⟩; unfold Nd.val; have hs1 := hb1.size; have HF1 : Hid (∀ j, w1.frozen? ⟨w.heap.size, j, none⟩ = false) := hide (fun j => (hb1.frozen (p := ⟨w.heap.size, j, none⟩) hsz).trans (HFR.out j)); have HC1 : Hid (∀ j, w1.cell? ⟨w.heap.size, j, none⟩ = wr.cell? ⟨w.heap.size, j, none⟩) := hide (fun j => hb1.cell (p := ⟨w.heap.size, j, none⟩) hsz); have g0 := (HC1.out (k * 5)).trans HG.out.1; have g1 := (HC1.out (k * 5 + 1)).trans HG.out.2.1; have g2 := (HC1.out (k * 5 + 2)).trans HG.out.2.2.1; have g3 := (HC1.out (k * 5 + 3)).trans HG.out.2.2.2.1; have g4 := (HC1.out (k * 5 + 4)).trans HG.out.2.2.2.2; have f0 := HF1.out (k * 5); have f1 := HF1.out (k * 5 + 1); have f2 := HF1.out (k * 5 + 2); have f3 := HF1.out (k * 5 + 3); have f4 := HF1.out (k * 5 + 4); have HB1 := hide hb1; clear hb1)
      go_roundw
      case rel =>
        have e := hide (show ((((w1.setCell ⟨w.heap.size, k * 5, none⟩ (.int .i64 n1.op)).setCell ⟨w.heap.size, k * 5 + 1, none⟩ (.string n1.name)).setCell ⟨w.heap.size, k * 5 + 2, none⟩ (.string n1.peer)).setCell ⟨w.heap.size, k * 5 + 3, none⟩ (.int .i64 n1.many)).setCell ⟨w.heap.size, k * 5 + 4, none⟩ (.int .i64 n1.sort) = putNode w1 w.heap.size (k * 5) n1 from rfl)
        rw [e.out]
        have hex : ∀ i, i < 5 → ∃ x, w1.cell? ⟨w.heap.size, k * 5 + i, none⟩ = some x := fun i hi => by rw [HC1.out]; exact HC.out _ (by omega)
        have hnew := put_node w1 w.heap.size (k * 5) n1 hex
        have hoth : ∀ j, (j < k * 5 ∨ k * 5 + 5 ≤ j) → (putNode w1 w.heap.size (k * 5) n1).cell? ⟨w.heap.size, j, none⟩ = wr.cell? ⟨w.heap.size, j, none⟩ := fun j hj => by
          rw [put_other _ _ _ _ _ (fun i hi h => by injection h with h1 h2; omega), HC1.out]
        refine ⟨k + 1, by omega, by go_num, fun j hj hjk => ?_, fun j hj => ?_, fun j => by rw [put_frozen]; exact HF1.out j, by rw [put_size]; omega, put_below (HBEL.out.trans (HB1.out.mono HBEL.out.size)) (Nat.le_refl _) _ _⟩
        · by_cases hjk' : j = k
          · subst hjk'; rw [← HN.out]; exact hnew
          · obtain ⟨a0, a1, a2, a3, a4⟩ := HA.out j hj (by omega)
            exact ⟨(hoth _ (by omega)).trans a0, (hoth _ (by omega)).trans a1, (hoth _ (by omega)).trans a2, (hoth _ (by omega)).trans a3, (hoth _ (by omega)).trans a4⟩
        · by_cases hin : j < k * 5 ∨ k * 5 + 5 ≤ j
          · rw [hoth j hin]; exact HC.out j hj
          · obtain ⟨a0, a1, a2, a3, a4⟩ := hnew
            rcases (show j = k * 5 ∨ j = k * 5 + 1 ∨ j = k * 5 + 2 ∨ j = k * 5 + 3 ∨ j = k * 5 + 4 by omega) with h | h | h | h | h
            · subst h; exact ⟨_, a0⟩
            · subst h; exact ⟨_, a1⟩
            · subst h; exact ⟨_, a2⟩
            · subst h; exact ⟨_, a3⟩
            · subst h; exact ⟨_, a4⟩
      case measure => simp [intOf]; omega
    · go_wp2_with fail
      go_ret
      refine ⟨_, rfl, ⟨_, _, rfl, Nat.le_refl _, by omega, fun hne => ⟨w.heap.size, 0, rfl, hsz, ?_⟩⟩, ⟨fun b hb => by simp [Value.ownBlock] at hb; subst hb; exact ⟨Nat.le_refl _, hsz, HFR.out⟩⟩, HBEL.out⟩
      exact row_of _ _ ns 0 (fun j hj => by rw [Nat.zero_add]; exact HA.out j hj (by omega))

set_option maxRecDepth 100000 in
set_option maxHeartbeats 1000000 in
theorem mark_texts (k0 : Nat) (ls : List ByteArray) (v : Value) (w : World) (B : Nat) (h1 : 1 ≤ k0) (hk : k0 + ls.length ≤ 6000000) (hv : TextsAt w v ls) (hown : OwnAt B w v) :
    Calls Try.prog 18 #[v, .int .i64 k0] w fun e w' => e = .returned (.int .i64 ((k0 + ls.length : Nat) : Int)) ∧ TextsAt w' v (marks k0 ls.length) ∧ w.grownBy w' v.ownBlock := by
  obtain ⟨ao, cap, rfl, hc, hm, hr⟩ := hv
  have HR := hide hr
  have HO := hide hown
  obtain ⟨n, hn⟩ : ∃ n, ls.length = n := ⟨_, rfl⟩
  rw [hn] at hc hm hk ⊢
  have HN := hide hn
  clear hr hown hn
  by_cases hn0 : n = 0
  · subst hn0
    go_enter Try.func18, Try.ntmps18
    go_wp2_with fail
    go_loopw [1, 5] (fun kv i wr => i = .int .i64 0 ∧ kv = .int .i64 (k0 : Int) ∧ wr = w) (fun _ _ _ => 0)
    case atStart => exact ⟨rfl, rfl, rfl⟩
    case round =>
      obtain ⟨rfl, rfl, rfl⟩ := hrel
      go_wp2_with fail
      go_ret
      exact ⟨ret_int rfl, ⟨_, _, rfl, by simp [marks], by simp [marks], fun h => absurd rfl h⟩, grown_refl _ _⟩
  · have hne : ls ≠ [] := fun h => hn0 (by rw [← HN.out, h]; rfl)
    obtain ⟨b, o, rfl, hcell⟩ := HR.out hne
    obtain ⟨hB, hlt, hfr⟩ := HO.out.free b rfl
    have HC0 : Hid (∀ i, i < n → ∃ x, w.cell? ⟨b, o + i, none⟩ = some x) := hide (fun i hi => ⟨_, hcell i (by rw [HN.out]; exact hi)⟩)
    have HFR := hide hfr
    clear hcell hfr
    go_enter Try.func18, Try.ntmps18
    go_wp2_with fail
    go_loopw [1, 5] (fun kv i wr => ∃ k : Nat, k ≤ n ∧ i = .int .i64 k ∧ kv = .int .i64 ((k0 + k : Nat) : Int) ∧ (∀ j, j < k → wr.cell? ⟨b, o + j, none⟩ = some (.string (markT (k0 + j)))) ∧ (∀ j, j < n → ∃ x, wr.cell? ⟨b, o + j, none⟩ = some x) ∧ (∀ j, wr.frozen? ⟨b, j, none⟩ = false) ∧ w.grownBy wr (some b)) (fun _ i _ => n - (intOf i).toNat)
    case atStart => exact ⟨0, Nat.zero_le _, rfl, rfl, fun j h => absurd h (by omega), HC0.out, HFR.out, grown_refl _ _⟩
    case round =>
      obtain ⟨k, hk, rfl, rfl, hdone, hex, hfro, hgr⟩ := hrel
      have HD := hide hdone
      have HE := hide hex
      have HF := hide hfro
      have HG := hide hgr
      have hbw : b < wr.heap.size := Nat.lt_of_lt_of_le hlt hgr.size
      by_cases hkn : k < n
      · obtain ⟨x0, g0⟩ := hex k hkn
        have hfk := hfro (o + k)
        obtain ⟨kk, hkk⟩ : ∃ kk, k0 + k = kk := ⟨_, rfl⟩
        rw [hkk]
        have hkk2 : kk < 6000001 := by omega
        have hkk1 : 1 ≤ kk := by omega
        have HKK := hide hkk
        obtain ⟨m, hmm⟩ : ∃ m, m = markT kk := ⟨_, rfl⟩
        have HM := hide hmm
        clear hdone hex hfro hgr hkk hmm
        go_wp2_with (go_at_call 40; refine (mark_text kk _ hkk1 hkk2).mono ?_; rintro e w1 ⟨rfl, hb1⟩; rw [← HM.out]; have c1 := (hb1.cell (p := ⟨b, _, none⟩) hbw).trans g0; have f1 := (hb1.frozen (p := ⟨b, _, none⟩) hbw).trans hfk; have HB1 := hide hb1; clear hb1)
        go_roundw
        case rel =>
          have hoth : ∀ j, j ≠ k → (w1.setCell ⟨b, o + k, none⟩ (.string m)).cell? ⟨b, o + j, none⟩ = wr.cell? ⟨b, o + j, none⟩ := fun j hj => by
            rw [World.cell?_setCell_other _ _ _ _ (fun h => hj (by injection h with h1 h2; omega))]
            exact HB1.out.cell (p := ⟨b, _, none⟩) hbw
          have hsame : (w1.setCell ⟨b, o + k, none⟩ (.string m)).cell? ⟨b, o + k, none⟩ = some (.string m) := World.cell?_setCell_same _ _ _ c1
          refine ⟨k + 1, by omega, by go_num, by have := HKK.out; congr 1; omega, fun j hj => ?_, fun j hj => ?_, fun j => ?_, grown_set (grown_below HG.out HB1.out) _ _⟩
          · by_cases hjk : j = k
            · subst hjk; rw [hsame, HM.out, HKK.out]
            · rw [hoth j hjk]; exact HD.out j (by omega)
          · by_cases hjk : j = k
            · subst hjk; exact ⟨_, hsame⟩
            · rw [hoth j hjk]; exact HE.out j hj
          · rw [World.frozen?_setCell]
            exact (HB1.out.frozen (p := ⟨b, _, none⟩) hbw).trans (HF.out j)
        case measure => simp [intOf]; omega
      · clear hdone hex hfro hgr
        go_wp2_with fail
        go_ret
        refine ⟨ret_int (by omega), ⟨_, _, by rw [marks_len], by rw [marks_len]; exact hc, by rw [marks_len]; exact hm, fun _ => ⟨b, o, rfl, fun i hi => ?_⟩⟩, HG.out⟩
        rw [marks_get]
        rw [marks_len] at hi
        exact HD.out i (by omega)
end Go.Proofs.Ytdaljjpbfogniaa
