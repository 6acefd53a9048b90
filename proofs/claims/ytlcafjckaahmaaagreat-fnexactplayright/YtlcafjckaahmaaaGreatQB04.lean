/- What lies apart in memory: the blocks that a value leads to; worlds that differ in given blocks alone. -/
import Derived.Test.YtlcafjckaahmaaaGreatQB01
import Derived.Deep.Slices
import Derived.ChangeArms
import Derived.ChangeSame
import Derived.WalkKit
namespace Go.Proofs.YtlcafjckaahmaaaGreat
open Go.RowKit

def cellBlocks : Value → List Nat
  | .slice (some a) _ _ => [a.block]
  | _ => []
def vblocks : Value → List Nat
  | .agg cs => cs.toList.flatMap cellBlocks
  | v => cellBlocks v
/-- what a value leads to was made at or behind lo, may be written to, and no two of it are one -/
structure Fresh (lo : Nat) (w : World) (v : Value) : Prop where
  lo : ∀ b ∈ vblocks v, lo ≤ b
  hi : ∀ b ∈ vblocks v, b < w.heap.size
  free : ∀ b ∈ vblocks v, ∀ j, w.frozen? ⟨b, j, none⟩ = false
  nodup : (vblocks v).Nodup
structure Apart (w w' : World) (l : List Nat) : Prop where
  os : w'.os = w.os
  tape : w'.tape = w.tape
  output : w'.output = w.output
  size : w.heap.size ≤ w'.heap.size
  block : ∀ b, b < w.heap.size → b ∉ l → w'.heap[b]? = w.heap[b]?
theorem Apart.refl (w : World) : Apart w w [] := ⟨rfl, rfl, rfl, Nat.le_refl _, fun _ _ _ => rfl⟩
theorem below_apart {w w' : World} (h : Below w.heap.size w w') : Apart w w' [] := ⟨h.os, h.tape, h.output, h.size, fun b hb _ => h.block b hb⟩
theorem Apart.trans {a b c : World} {l l' : List Nat} (h : Apart a b l) (h' : Apart b c l') : Apart a c (l ++ l') :=
  ⟨h'.os.trans h.os, h'.tape.trans h.tape, h'.output.trans h.output, Nat.le_trans h.size h'.size, fun k hk hn => by
    rw [List.mem_append, not_or] at hn
    exact (h'.block k (Nat.lt_of_lt_of_le hk h.size) hn.2).trans (h.block k hk hn.1)⟩
theorem Apart.then {a b c : World} {l : List Nat} (h : Apart a b l) (h' : Below b.heap.size b c) : Apart a c l := by
  have := h.trans (below_apart h')
  rwa [List.append_nil] at this
theorem Apart.drew {a b : World} {l : List Nat} (h : Apart a b l) : Apart a b.drew l := ⟨h.os, h.tape, h.output, h.size, h.block⟩
theorem Apart.below {w w' : World} {l : List Nat} (h : Apart w w' l) {B : Nat} (hB : B ≤ w.heap.size) (hl : ∀ b ∈ l, B ≤ b) : Below B w w' :=
  ⟨h.os, h.tape, h.output, h.size, fun k hk => h.block k (Nat.lt_of_lt_of_le hk hB) (fun hm => absurd (hl k hm) (by omega))⟩
theorem Apart.cell {w w' : World} {l : List Nat} (h : Apart w w' l) {b o : Nat} {x : Value} (hc : w.cell? ⟨b, o, none⟩ = some x) (hl : ∀ k ∈ l, b < k) : w'.cell? ⟨b, o, none⟩ = some x :=
  (World.cell?_of_block (a := ⟨b, o, none⟩) (h.block b (World.block_lt_of_cell? w _ hc) (fun hm => absurd (hl b hm) (by omega)))).trans hc
theorem Apart.grown {w w' : World} {b : Nat} (h : w.grownBy w' (some b)) : Apart w w' [b] :=
  ⟨h.os, h.tape, h.output, h.size, fun k hk hn => h.block k hk (fun e => hn (by simp at e; simp [e]))⟩
theorem Apart.grown_none {w w' : World} (h : w.grownBy w' none) : Apart w w' [] :=
  ⟨h.os, h.tape, h.output, h.size, fun k hk _ => h.block k hk (by simp)⟩
theorem grownBy_apart {w w' : World} {p : Option Addr} {n c : Nat} (h : w.grownBy w' (Value.slice p n c).ownBlock) : Apart w w' (vblocks (.slice p n c)) := by
  cases p with
  | none => exact Apart.grown_none h
  | some a => exact Apart.grown h
theorem Fresh.keep {lo : Nat} {w w' : World} {v : Value} {l : List Nat} (h : Fresh lo w v) (ha : Apart w w' l) (hd : ∀ b ∈ vblocks v, b ∉ l) : Fresh lo w' v :=
  ⟨h.lo, fun b hb => Nat.lt_of_lt_of_le (h.hi b hb) ha.size, fun b hb j => (World.frozen?_of_block (a := ⟨b, j, none⟩) (ha.block b (h.hi b hb) (hd b hb))).trans (h.free b hb j), h.nodup⟩
theorem fresh_slice {lo : Nat} {w : World} {p : Option Addr} {n c : Nat} (h : MOwn lo w (.slice p n c)) : Fresh lo w (.slice p n c) := by
  cases p with
  | none => exact ⟨by simp [vblocks, cellBlocks], by simp [vblocks, cellBlocks], by simp [vblocks, cellBlocks], by simp [vblocks, cellBlocks]⟩
  | some a =>
    have hf := h.free a.block rfl
    exact ⟨by simp [vblocks, cellBlocks]; exact hf.1, by simp [vblocks, cellBlocks]; exact hf.2.1, by simp [vblocks, cellBlocks]; exact hf.2.2, by simp [vblocks, cellBlocks]⟩
theorem Fresh.own {lo : Nat} {w : World} {p : Option Addr} {n c : Nat} (h : Fresh lo w (.slice p n c)) : MOwn lo w (.slice p n c) := by
  cases p with
  | none => exact ⟨fun b hb => by cases hb⟩
  | some a => exact ⟨fun b hb => by
      simp [Value.ownBlock] at hb; subst hb
      exact ⟨h.lo _ (by simp [vblocks, cellBlocks]), h.hi _ (by simp [vblocks, cellBlocks]), h.free _ (by simp [vblocks, cellBlocks])⟩⟩
theorem own_blocks {v : Value} {p : Option Addr} {n c : Nat} (e : v = .slice p n c) {b : Nat} : v.ownBlock = some b ↔ b ∈ vblocks v := by
  subst e
  cases p with
  | none => simp [Value.ownBlock, vblocks, cellBlocks]
  | some a => simp [Value.ownBlock, vblocks, cellBlocks]; exact ⟨fun h => h.symm, fun h => h.symm⟩
/-- two that were made one behind the other have nothing in common -/
theorem Fresh.disj {lo1 lo2 : Nat} {w1 w2 : World} {v1 v2 : Value} (h1 : Fresh lo1 w1 v1) (h2 : Fresh lo2 w2 v2) (h : w1.heap.size ≤ lo2) : (∀ b ∈ vblocks v1, b ∉ vblocks v2) ∧ (∀ b ∈ vblocks v2, b ∉ vblocks v1) :=
  ⟨fun b hb hb' => absurd (h1.hi b hb) (by have := h2.lo b hb'; omega), fun b hb hb' => absurd (h1.hi b hb') (by have := h2.lo b hb; omega)⟩
end Go.Proofs.YtlcafjckaahmaaaGreat
/- Rows of States: as values and in memory; the law's own helpers over them. -/
namespace Go.Proofs.YtlcafjckaahmaaaGreat
open Go.RowKit

structure RState where
  kind : Int
  peer : ByteArray

def RState.val (x : RState) : Value := .agg #[.int .i64 x.kind, .string x.peer]
def RState.ok (x : RState) : Prop := x.peer.size ≤ maxLen
def RState.fit (x : RState) : Prop := x.peer.size ≤ 1048576
def RStateAt (w : World) (b o : Nat) (x : RState) : Prop := w.cell? ⟨b, o, none⟩ = some (.int .i64 x.kind) ∧ w.cell? ⟨b, o + 1, none⟩ = some (.string x.peer)
def RStates (w : World) (b : Nat) : Nat → List RState → Prop
  | _, [] => True
  | o, x :: l => RStateAt w b o x ∧ RStates w b (o + 2) l
theorem RStateAt.carry {w w' : World} {b o : Nat} {x : RState} (h : RStateAt w b o x) {B : Nat} (hB : b < B) (hb : Below B w w') : RStateAt w' b o x := by
  obtain ⟨h0, h1⟩ := h
  exact ⟨(hb.cell (p := ⟨b, _, none⟩) hB).trans h0, (hb.cell (p := ⟨b, _, none⟩) hB).trans h1⟩
theorem RStateAt.lt {w : World} {b o : Nat} {x : RState} (h : RStateAt w b o x) : b < w.heap.size := World.block_lt_of_cell? w _ h.1
theorem RStates.carry {w w' : World} {b B : Nat} (hB : b < B) (hb : Below B w w') : ∀ {l : List RState} {o : Nat}, RStates w b o l → RStates w' b o l
  | [], _, _ => trivial
  | _ :: _, _, h => ⟨h.1.carry hB hb, RStates.carry hB hb h.2⟩
theorem RStates.get {w : World} {b : Nat} : ∀ {l : List RState} {o : Nat}, RStates w b o l → ∀ i (h : i < l.length), RStateAt w b (o + i * 2) l[i]
  | _ :: _, _, h, 0, _ => by simpa using h.1
  | _ :: l, o, h, i + 1, hi => by
    have := h.2.get i (by simpa using hi)
    rw [show o + 2 + i * 2 = o + (i + 1) * 2 from by omega] at this
    simpa using this
theorem RStates.of (w : World) (g : Nat) : ∀ (l : List RState) (o : Nat), (∀ j (h : j < l.length), RStateAt w g (o + j * 2) l[j]) → RStates w g o l
  | [], _, _ => trivial
  | x :: l, o, h => ⟨by have := h 0 (by simp); simpa only [Nat.zero_mul, Nat.add_zero, List.getElem_cons_zero] using this, RStates.of w g l (o + 2) (fun j hj => by
      have := h (j + 1) (by simpa using hj)
      rw [show o + (j + 1) * 2 = o + 2 + j * 2 from by omega] at this
      simpa only [List.getElem_cons_succ] using this)⟩
/-- a slice's value holds such a row, in a block below B -/
def RStateSl (w : World) (B : Nat) (v : Value) (l : List RState) : Prop :=
  ∃ ao cap, v = .slice ao l.length cap ∧ l.length ≤ cap ∧ l.length ≤ 4294967296 ∧ (l ≠ [] → ∃ b o, ao = some ⟨b, o, none⟩ ∧ b < B ∧ RStates w b o l)
theorem RStateSl.carry {w w' : World} {B : Nat} {v : Value} {l : List RState} (h : RStateSl w B v l) (hb : Below B w w') : RStateSl w' B v l := by
  obtain ⟨ao, cap, h1, h2, h3, h4⟩ := h
  refine ⟨ao, cap, h1, h2, h3, fun hne => ?_⟩
  obtain ⟨b, o, e, hlt, hr⟩ := h4 hne
  exact ⟨b, o, e, hlt, hr.carry hlt hb⟩
theorem RStateSl.up {w : World} {B B' : Nat} {v : Value} {l : List RState} (h : RStateSl w B v l) (hB : B ≤ B') : RStateSl w B' v l := by
  obtain ⟨ao, cap, h1, h2, h3, h4⟩ := h
  refine ⟨ao, cap, h1, h2, h3, fun hne => ?_⟩
  obtain ⟨b, o, e, hlt, hr⟩ := h4 hne
  exact ⟨b, o, e, by omega, hr⟩
theorem RStateAt.block {w w' : World} {b o : Nat} {x : RState} (h : RStateAt w b o x) (hb : w'.heap[b]? = w.heap[b]?) : RStateAt w' b o x := by
  obtain ⟨h0, h1⟩ := h
  exact ⟨(World.cell?_of_block (a := ⟨b, _, none⟩) hb).trans h0, (World.cell?_of_block (a := ⟨b, _, none⟩) hb).trans h1⟩
theorem RStates.block {w w' : World} {b : Nat} (hb : w'.heap[b]? = w.heap[b]?) : ∀ {l : List RState} {o : Nat}, RStates w b o l → RStates w' b o l
  | [], _, _ => trivial
  | _ :: _, _, h => ⟨h.1.block hb, RStates.block hb h.2⟩
theorem RStateSl.keep {w w' : World} {B B' : Nat} {v : Value} {l : List RState} (h : RStateSl w B v l) (hB : B ≤ B') (hk : ∀ b, v.ownBlock = some b → b < B → w'.heap[b]? = w.heap[b]?) : RStateSl w' B' v l := by
  obtain ⟨ao, cap, rfl, h2, h3, h4⟩ := h
  refine ⟨ao, cap, rfl, h2, h3, fun hne => ?_⟩
  obtain ⟨b, o, rfl, hlt, hr⟩ := h4 hne
  exact ⟨b, o, rfl, by omega, hr.block (hk b rfl hlt)⟩
theorem RStateSl.lenm {w : World} {B : Nat} {v : Value} {l : List RState} (h : RStateSl w B v l) : l.length ≤ 4294967296 := by
  obtain ⟨ao, cap, _, h1, h2, _⟩ := h
  omega

theorem Tryz.infoRState : (Tryz.prog.info? 103).map (fun i => (i.zero, i.size, i.bytes)) = some (some (.agg #[.int .i64 0, .string ByteArray.empty]), 2, 24) := by kernel_rfl

set_option maxHeartbeats 400000 in
theorem to_state (x : RState) (w : World) :
    Calls Tryz.prog 145 #[x.val] w fun e w' => e = .returned x.val ∧ Below w.heap.size w w' := by
  have hi : (Tryz.prog.info? 103).map (·.size) = some 2 := by
    obtain ⟨i0, hi, _, hz1, _⟩ := info_parts Tryz.infoRState
    rw [hi]; simp [hz1]
  have HI := hide hi
  clear hi
  unfold RState.val
  go_enter Tryz.func145, Tryz.ntmps145
  go_wp2_with fail
  refine bodyPost_ret_by (results_cell_row rfl _ _ (w.heap.size + 1) 103 #[.int .i64 x.kind, .string x.peer] (0, 0) _ rfl ?_ Tryz.underlying103 rfl HI.out) rfl ⟨rfl, ((malloc1 _ _).trans ((malloc1 _ _).mono (by simp))).trans ((malloc1 _ _).mono (by simp; omega))⟩
  rw [mheap_old _ _ _ (by simp), mheap_new _ _ _ (by simp)]

def putState (w : World) (g p : Nat) (x : RState) : World := (w.setCell ⟨g, p, none⟩ (.int .i64 x.kind)).setCell ⟨g, p + 1, none⟩ (.string x.peer)
theorem putState_other (w : World) (g p : Nat) (x : RState) (a : Addr) (h : ∀ i, i < 2 → a ≠ ⟨g, p + i, none⟩) : (putState w g p x).cell? a = w.cell? a := by
  unfold putState
  rw [World.cell?_setCell_other _ _ _ _ (Ne.symm (h 1 (by omega))), World.cell?_setCell_other _ ⟨g, p, none⟩ _ _ (Ne.symm (h 0 (by omega)))]
theorem putState_at (w : World) (g p : Nat) (x : RState) (hc : ∀ i, i < 2 → ∃ y, w.cell? ⟨g, p + i, none⟩ = some y) : RStateAt (putState w g p x) g p x := by
  obtain ⟨y0, h0⟩ := hc 0 (by omega)
  obtain ⟨y1, h1⟩ := hc 1 (by omega)
  unfold putState
  refine ⟨?_, ?_⟩
  · rw [World.cell?_setCell_other _ _ _ _ (by simp)]
    exact World.cell?_setCell_same _ _ _ h0
  · exact World.cell?_setCell_same _ _ _ (u := y1) (by rw [World.cell?_setCell_other _ _ _ _ (by simp)]; exact h1)
theorem putState_below {B : Nat} {a w : World} (h : Below B a w) {g : Nat} (hg : B ≤ g) (p : Nat) (x : RState) : Below B a (putState w g p x) :=
  ((h.setCell (p := ⟨g, p, none⟩) hg _).setCell (p := ⟨g, p + 1, none⟩) hg _)
theorem putState_size (w : World) (g p : Nat) (x : RState) : (putState w g p x).heap.size = w.heap.size := by simp [putState]
theorem putState_frozen (w : World) (g p : Nat) (x : RState) (a : Addr) : (putState w g p x).frozen? a = w.frozen? a := by simp [putState]

set_option maxHeartbeats 2000000 in
set_option maxRecDepth 100000 in
theorem to_states (l : List RState) (ao : Option Addr) (cap : Nat) (w : World) (hl : l.length ≤ 1048576) (hr : l ≠ [] → ∃ b o, ao = some ⟨b, o, none⟩ ∧ b < w.heap.size ∧ RStates w b o l) :
    Calls Tryz.prog 107 #[.slice ao l.length cap] w fun e w' => ∃ v', e = .returned v' ∧ RStateSl w' w'.heap.size v' l ∧ MOwn w.heap.size w' v' ∧ Below w.heap.size w w' := by
  have HR := hide hr
  obtain ⟨i0, hi, hz0, hz1, hz2⟩ := info_parts Tryz.infoRState
  obtain ⟨M, hM⟩ : ∃ M, M = madeCells (Value.agg #[.int .i64 0, .string ByteArray.empty]).cells (l.length * 2) := ⟨_, rfl⟩
  have hMs : M.size = l.length * 2 := by rw [hM, size_madeCells]
  have hmk : ∀ W : World, (Instr.makeSlice 56 (.int .i64 (l.length : Int)) (.int .i64 (l.length : Int))).run Tryz.prog W = .ok (.slice (some ⟨W.heap.size, 0, none⟩) l.length l.length) (W.alloc (.cells M 103)) := fun W => by
    have h := run_make (P := Tryz.prog) W 56 103 i0 _ Tryz.underlying56 hi hz0 .i64 .i64 (l.length : Int) (l.length : Int) (by omega) (by omega) (by rw [hz2]; omega) (by omega)
    rw [hz1] at h
    simp only [Int.toNat_natCast] at h
    rw [← hM] at h
    exact h
  have HMS := hide hMs
  clear hr hM hMs hi hz0 hz1 hz2
  go_enter Tryz.func107, Tryz.ntmps107
  go_wp2_with fail
  go_loopw [4] (fun i wr => ∃ k : Nat, k ≤ l.length ∧ i = .int .i64 k ∧ (∀ j (h : j < l.length), j < k → RStateAt wr w.heap.size (j * 2) l[j]) ∧ (∀ j, j < l.length * 2 → ∃ y, wr.cell? ⟨w.heap.size, j, none⟩ = some y) ∧ (∀ j, wr.frozen? ⟨w.heap.size, j, none⟩ = false) ∧ w.heap.size < wr.heap.size ∧ Below w.heap.size w wr)
    (fun i _ => l.length - (intOf i).toNat)
  case atStart =>
    refine ⟨0, Nat.zero_le _, rfl, fun j _ h => absurd h (by omega), fun j hj => ?_, fun j => ?_, by simp, malloc1 _ _⟩
    · rw [← HMS.out] at hj
      exact ⟨M[j], by simp [hj]⟩
    · simp
  case round =>
    obtain ⟨k, hk, rfl, hall, hcells, hfro, hsz, hbel⟩ := hrel
    have HA := hide hall
    have HC := hide hcells
    have HFR := hide hfro
    have HBEL := hide hbel
    clear hall hbel
    by_cases hlt : k < l.length
    · obtain ⟨b, o, rfl, hbB, hrow⟩ := HR.out (by intro h; simp [h] at hlt)
      have hnode := (hrow.get k hlt).carry hbB HBEL.out
      obtain ⟨x1, hx1⟩ : ∃ x1, x1 = l[k] := ⟨_, rfl⟩
      rw [← hx1] at hnode
      have HN := hide hx1
      clear hx1 hrow
      have hbw : b < wr.heap.size := hnode.lt
      obtain ⟨c0, c1⟩ := hnode
      obtain ⟨y0, g0⟩ := hcells (k * 2) (by omega)
      obtain ⟨y1, g1⟩ := hcells (k * 2 + 1) (by omega)
      have HG := hide (And.intro g0 g1)
      clear hcells hfro g0 g1
      go_wp2_with (go_at_call 145; refine (to_state x1 _).mono ?_; rintro e w1 ⟨rfl, hb1⟩; unfold RState.val; have hs1 := hb1.size; have HF1 : Hid (∀ j, w1.frozen? ⟨w.heap.size, j, none⟩ = false) := hide (fun j => (hb1.frozen (p := ⟨w.heap.size, j, none⟩) hsz).trans (HFR.out j)); have HC1 : Hid (∀ j, w1.cell? ⟨w.heap.size, j, none⟩ = wr.cell? ⟨w.heap.size, j, none⟩) := hide (fun j => hb1.cell (p := ⟨w.heap.size, j, none⟩) hsz); have g0 := (HC1.out (k * 2)).trans HG.out.1; have g1 := (HC1.out (k * 2 + 1)).trans HG.out.2; have f0 := HF1.out (k * 2); have f1 := HF1.out (k * 2 + 1); have HB1 := hide hb1; clear hb1)
      go_roundw
      case rel =>
        have e := hide (show (w1.setCell ⟨w.heap.size, k * 2, none⟩ (.int .i64 x1.kind)).setCell ⟨w.heap.size, k * 2 + 1, none⟩ (.string x1.peer) = putState w1 w.heap.size (k * 2) x1 from rfl)
        rw [e.out]
        have hex : ∀ i, i < 2 → ∃ y, w1.cell? ⟨w.heap.size, k * 2 + i, none⟩ = some y := fun i hi => by rw [HC1.out]; exact HC.out _ (by omega)
        have hnew := putState_at w1 w.heap.size (k * 2) x1 hex
        have hoth : ∀ j, (j < k * 2 ∨ k * 2 + 2 ≤ j) → (putState w1 w.heap.size (k * 2) x1).cell? ⟨w.heap.size, j, none⟩ = wr.cell? ⟨w.heap.size, j, none⟩ := fun j hj => by
          rw [putState_other _ _ _ _ _ (fun i hi h => by injection h with h1 h2; omega), HC1.out]
        refine ⟨k + 1, by omega, by go_num, fun j hj hjk => ?_, fun j hj => ?_, fun j => by rw [putState_frozen]; exact HF1.out j, by rw [putState_size]; omega, putState_below (HBEL.out.trans (HB1.out.mono HBEL.out.size)) (Nat.le_refl _) _ _⟩
        · by_cases hjk' : j = k
          · subst hjk'; rw [← HN.out]; exact hnew
          · obtain ⟨a0, a1⟩ := HA.out j hj (by omega)
            exact ⟨(hoth _ (by omega)).trans a0, (hoth _ (by omega)).trans a1⟩
        · by_cases hin : j < k * 2 ∨ k * 2 + 2 ≤ j
          · rw [hoth j hin]; exact HC.out j hj
          · obtain ⟨a0, a1⟩ := hnew
            rcases (show j = k * 2 ∨ j = k * 2 + 1 by omega) with h | h
            · subst h; exact ⟨_, a0⟩
            · subst h; exact ⟨_, a1⟩
      case measure => simp [intOf]; omega
    · go_wp2_with fail
      go_ret
      refine ⟨_, rfl, ⟨_, _, rfl, Nat.le_refl _, by omega, fun hne => ⟨w.heap.size, 0, rfl, hsz, ?_⟩⟩, ⟨fun b hb => by simp [Value.ownBlock] at hb; subst hb; exact ⟨Nat.le_refl _, hsz, HFR.out⟩⟩, HBEL.out⟩
      exact RStates.of _ _ l 0 (fun j hj => by rw [Nat.zero_add]; exact HA.out j hj (by omega))

set_option maxHeartbeats 400000 in
theorem sz_state (x : RState) (left : Int) (w : World) (ok : x.ok) (hl : 0 ≤ left) (hm : left ≤ 1048576) :
    Calls Tryz.prog 143 #[x.val, .int .i64 left] w fun e w' => ∃ r : Int, e = .returned (.int .i64 r) ∧ r ≤ 1048576 ∧ (0 ≤ r → x.fit) ∧ Below w.heap.size w w' := by
  unfold RState.ok maxLen at ok
  have HFI := hide (show x.fit = (x.peer.size ≤ 1048576) from rfl)
  unfold RState.val
  by_cases a2 : left - x.peer.size < 0
  · go_enter Tryz.func143, Tryz.ntmps143
    go_wp2_with fail
    go_ret
    exact ⟨_, rfl, by omega, fun h => absurd h (by omega), malloc1 _ _⟩
  · skip
    go_enter Tryz.func143, Tryz.ntmps143
    go_wp2_with fail
    go_ret
    exact ⟨_, rfl, by omega, fun h => by rw [HFI.out]; omega, malloc1 _ _⟩

set_option maxHeartbeats 400000 in
theorem sz_states (l : List RState) (left : Int) (ao : Option Addr) (cap : Nat) (w : World) (ok : ∀ x ∈ l, x.ok) (hl : l.length ≤ maxLen) (h0 : 0 ≤ left) (h1 : left ≤ 1048576) (hr : l ≠ [] → ∃ b o, ao = some ⟨b, o, none⟩ ∧ b < w.heap.size ∧ RStates w b o l) :
    Calls Tryz.prog 101 #[.slice ao l.length cap, .int .i64 left] w fun e w' => ∃ r : Int, e = .returned (.int .i64 r) ∧ r ≤ 1048576 ∧ (0 ≤ r → l.length ≤ 1048576 ∧ ∀ x ∈ l, x.fit) ∧ Below w.heap.size w w' := by
  have HR := hide hr
  have HOK := hide ok
  unfold maxLen at hl
  clear hr ok
  by_cases hle : (l.length : Int) ≤ left
  · go_enter Tryz.func101, Tryz.ntmps101
    go_wp2_with fail
    go_loopw [1, 5] (fun lf i wr => ∃ (k : Nat) (z : Int), k ≤ l.length ∧ i = .int .i64 k ∧ lf = .int .i64 z ∧ 0 ≤ z ∧ z ≤ 1048576 ∧ (∀ j (h : j < l.length), j < k → l[j].fit) ∧ Below w.heap.size w wr)
      (fun _ i _ => l.length - (intOf i).toNat)
    case atStart => exact ⟨0, left - (l.length : Int), Nat.zero_le _, rfl, rfl, by omega, by omega, fun j _ h => absurd h (by omega), Below.refl _ _⟩
    case round =>
      obtain ⟨k, z, hk, rfl, rfl, hl0, hl1, hall, hbel⟩ := hrel
      have HA := hide hall
      have HBEL := hide hbel
      have hszr := hbel.size
      clear hall hbel
      by_cases hlt : k < l.length
      · obtain ⟨b, o, rfl, hbB, hrow⟩ := HR.out (by intro h; simp [h] at hlt)
        have hnode := (hrow.get k hlt).carry hbB HBEL.out
        obtain ⟨x1, hx1⟩ : ∃ x1, x1 = l[k] := ⟨_, rfl⟩
        rw [← hx1] at hnode
        have HN := hide hx1
        have HN1 := hide (show x1.ok by rw [hx1]; exact HOK.out _ (List.getElem_mem hlt))
        clear hx1 hrow
        have hbw : b < wr.heap.size := hnode.lt
        obtain ⟨c0, c1⟩ := hnode
        go_wp2_with (go_at_call 143; refine (sz_state x1 z _ HN1.out hl0 hl1).mono ?_; rintro e w1 ⟨r, rfl, hr1, hrf, hb1⟩; have HRF := hide hrf; have HB1 := hide hb1; clear hrf hb1)
        all_goals
          first
            | (go_ret
               exact ⟨_, rfl, by omega, fun h => absurd h (by omega), HBEL.out.trans (HB1.out.mono hszr)⟩)
            | (go_roundw
               case rel =>
                 refine ⟨k + 1, r, by omega, by go_num, rfl, by omega, hr1, fun j hj hjk => ?_, HBEL.out.trans (HB1.out.mono hszr)⟩
                 by_cases hjk' : j = k
                 · subst hjk'; rw [← HN.out]; exact HRF.out (by omega)
                 · exact HA.out j hj (by omega)
               case measure => simp [intOf]; omega)
      · go_wp2_with fail
        go_ret
        refine ⟨_, rfl, by omega, fun _ => ⟨by omega, fun x hx => ?_⟩, HBEL.out⟩
        obtain ⟨j, hj, rfl⟩ := List.getElem_of_mem hx
        exact HA.out j hj (by omega)
  · go_enter Tryz.func101, Tryz.ntmps101
    go_wp2_with fail
    go_ret
    exact ⟨_, rfl, by omega, fun h => absurd h (by omega), Below.refl _ _⟩

theorem eq_state (x : RState) (w : World) :
    Calls Tryz.prog 152 #[x.val, x.val] w fun e w' => e = .returned (.bool true) ∧ Below w.heap.size w w' := by
  unfold RState.val
  go_enter Tryz.func152, Tryz.ntmps152
  go_wp2_with fail
  go_ret
  exact ⟨rfl, (malloc1 _ _).trans ((malloc1 _ _).mono (by simp))⟩

set_option maxHeartbeats 400000 in
theorem eq_states (l : List RState) (v u : Value) (w : World) (hv : RStateSl w w.heap.size v l) (hu : RStateSl w w.heap.size u l) :
    Calls Tryz.prog 114 #[v, u] w fun e w' => e = .returned (.bool true) ∧ Below w.heap.size w w' := by
  obtain ⟨ao, cap, rfl, hc, hm, hr⟩ := hv
  obtain ⟨ao', cap', rfl, hc', hm', hr'⟩ := hu
  have HR := hide hr
  have HR' := hide hr'
  clear hr hr'
  go_enter Tryz.func114, Tryz.ntmps114
  go_wp2_with fail
  go_loopw [5] (fun i wr => ∃ k : Nat, k ≤ l.length ∧ i = .int .i64 k ∧ Below w.heap.size w wr) (fun i _ => l.length - (intOf i).toNat)
  case atStart => exact ⟨0, Nat.zero_le _, rfl, Below.refl _ _⟩
  case round =>
    obtain ⟨k, hk, rfl, hbel⟩ := hrel
    have HBEL := hide hbel
    have hszr := hbel.size
    clear hbel
    by_cases hlt : k < l.length
    · obtain ⟨b, o, rfl, hbB, hrow⟩ := HR.out (by intro h; simp [h] at hlt)
      obtain ⟨b', o', rfl, hbB', hrow'⟩ := HR'.out (by intro h; simp [h] at hlt)
      have hnode := (hrow.get k hlt).carry hbB HBEL.out
      have hnode' := (hrow'.get k hlt).carry hbB' HBEL.out
      obtain ⟨x1, hx1⟩ : ∃ x1, x1 = l[k] := ⟨_, rfl⟩
      rw [← hx1] at hnode hnode'
      clear hx1 hrow hrow'
      obtain ⟨c0, c1⟩ := hnode
      obtain ⟨d0, d1⟩ := hnode'
      go_wp2_with fail
      go_region_with (go_at_call 152; refine (eq_state x1 _).mono ?_; rintro e w1 ⟨rfl, hb1⟩; have HB1 := hide hb1; clear hb1)
      go_wp2_with fail
      all_goals
        go_roundw
        case rel => exact ⟨k + 1, by omega, by go_num, by first | exact HBEL.out.trans (HB1.out.mono hszr) | exact HBEL.out.drew.trans (HB1.out.mono hszr) | exact HBEL.out.drew.drew.trans (HB1.out.mono hszr)⟩
        case measure => simp [intOf]; omega
    · go_wp2_with fail
      go_ret
      exact ⟨rfl, HBEL.out⟩
end Go.Proofs.YtlcafjckaahmaaaGreat
/- Marks: the texts by which a law tells whether an answer owns its memory; what a store leaves as it was. -/
namespace Go.Proofs.YtlcafjckaahmaaaGreat
open Go.RowKit

def digF : Nat → Nat → ByteArray → ByteArray
  | 0, _, out => out
  | f + 1, k, out => if k = 0 then out else digF f (k / 10) (ByteArray.mk #[UInt8.ofNat (48 + k % 10)] ++ out)
def markT (k : Nat) : ByteArray := ByteArray.mk #[109] ++ digF 7 k ByteArray.empty

def digit (j : Nat) : UInt8 := UInt8.ofNat (48 + j % 10)
theorem conv_digit (j : Nat) (W : World) :
    (convert 146 9 (.slice (some ⟨W.heap.size, 0, none⟩) 1 1)).run Tryz.prog (W.alloc (.cells #[.int .u8 (48 + (j : Int) % 10)] 5)) = .ok (.string ⟨[digit j].toArray⟩) (W.alloc (.cells #[.int .u8 (48 + (j : Int) % 10)] 5)) := by
  refine run_convert_bytes_back (P := Tryz.prog) _ 146 9 5 ⟨W.heap.size, 0, none⟩ 1 [digit j] Tryz.underlying146 Tryz.underlying5 Tryz.underlying9 (fun i hi => ?_)
  match i, hi with
  | 0, _ =>
    have e : ((digit j).toNat : Int) = 48 + (j : Int) % 10 := by
      have : (digit j).toNat = 48 + j % 10 := by
        rw [digit, UInt8.toNat_ofNat']
        omega
      omega
    simp [Addr.add, e]
theorem dig_next (f j : Nat) (o : ByteArray) (h : 0 < j) : digF (f + 1) j o = digF f (j / 10) (ByteArray.mk [digit j].toArray ++ o) := by
  rw [digF, if_neg (by omega)]; rfl
theorem dig_zero (f : Nat) (o : ByteArray) : digF f 0 o = o := by
  cases f <;> simp [digF]

set_option maxRecDepth 100000 in
set_option maxHeartbeats 1000000 in
theorem mark_text (k : Nat) (w : World) (h1 : 1 ≤ k) (hk : k < 6000001) :
    Calls Tryz.prog 55 #[.int .i64 k] w fun e w' => e = .returned (.string (markT k)) ∧ Below w.heap.size w w' := by
  go_enter Tryz.func55, Tryz.ntmps55
  go_wp2_with fail
  go_loopw [0, 3] (fun kv out wr => ∃ (f j : Nat) (o : ByteArray), kv = .int .i64 j ∧ out = .string o ∧ j < 10 ^ f ∧ f ≤ 7 ∧ o.size ≤ 7 - f ∧ digF f j o = digF 7 k ByteArray.empty ∧ Below w.heap.size w wr)
    (fun kv _ _ => (intOf kv).toNat)
  case atStart => exact ⟨7, k, ByteArray.empty, rfl, rfl, by omega, Nat.le_refl _, Nat.le_refl _, rfl, Below.refl _ _⟩
  case round =>
    obtain ⟨f, j, o, rfl, rfl, hj, hf, hos, hd, hbel⟩ := hrel
    have HD := hide hd
    have HBEL := hide hbel
    have hszr := hbel.size
    have HJ := hide hj
    clear hd hbel hj
    by_cases hz : j = 0
    · subst hz
      have HO := hide (show digF 7 k ByteArray.empty = o by rw [← HD.out, dig_zero])
      have hos2 : o.size ≤ 7 := by omega
      go_wp2_with fail
      go_ret
      refine ⟨ret_str ?_, HBEL.out⟩
      rw [markT, HO.out]
    · have hpos : 0 < j := by omega
      have HP := hide hpos
      have hj12 : j < 10000000 := Nat.lt_of_lt_of_le HJ.out (Nat.le_trans (Nat.pow_le_pow_right (by omega) hf) (by decide))
      have hcv := conv_digit j wr
      have hos2 : o.size ≤ 7 := by omega
      obtain ⟨f', rfl⟩ : ∃ f', f = f' + 1 := ⟨f - 1, by
        rcases Nat.eq_zero_or_pos f with h | h
        · have := HJ.out; rw [h] at this; omega
        · omega⟩
      have hdsz : ByteArray.size ⟨[digit j].toArray⟩ = 1 := rfl
      clear hz
      go_wp2_with fail
      go_roundw
      case rel =>
        refine ⟨f', j / 10, _, by go_num, rfl, ?_, by omega, ?_, ?_, HBEL.out.trans ((malloc1 _ _).mono hszr)⟩
        · have := HJ.out
          rw [Nat.pow_succ] at this
          omega
        · rw [ByteArray.size_append, hdsz]; omega
        · rw [← HD.out, dig_next f' j o HP.out]
      case measure => simp [intOf]; omega
theorem mark_text_at (k : Nat) (z : Int) (w : World) (hz : z = k) (h1 : 1 ≤ k) (hk : k < 6000001) :
    Calls Tryz.prog 55 #[.int .i64 z] w fun e w' => e = .returned (.string (markT k)) ∧ Below w.heap.size w w' := by
  subst hz
  exact mark_text k w h1 hk

theorem grown_below {w wr w1 : World} {row : Option Nat} (hg : w.grownBy wr row) (hb : Below wr.heap.size wr w1) : w.grownBy w1 row :=
  ⟨hb.os.trans hg.os, hb.tape.trans hg.tape, hb.output.trans hg.output, Nat.le_trans hg.size hb.size, fun k hk hne => (hb.block k (Nat.lt_of_lt_of_le hk hg.size)).trans (hg.block k hk hne)⟩
theorem grown_set {w wr : World} {g : Nat} (hg : w.grownBy wr (some g)) (o : Nat) (x : Value) : w.grownBy (wr.setCell ⟨g, o, none⟩ x) (some g) :=
  ⟨hg.os, hg.tape, hg.output, by simp; exact hg.size, fun k hk hne => (Below.heap_setCell wr ⟨g, o, none⟩ x k (fun h => hne (by rw [h]))).trans (hg.block k hk hne)⟩
theorem grown_refl (w : World) (row : Option Nat) : w.grownBy w row := ⟨rfl, rfl, rfl, Nat.le_refl _, fun _ _ _ => rfl⟩
end Go.Proofs.YtlcafjckaahmaaaGreat
/- Is a number between two: of the specification. -/
namespace Go.Proofs.YtlcafjckaahmaaaGreat
open Go.RowKit

theorem ms_is (n lo hi : Int) (w : World) :
    Calls Tryz.prog 82 #[.int .i64 n, .int .i64 lo, .int .i64 hi] w fun e w' => e = .returned (.bool (decide (lo ≤ n) && decide (n ≤ hi))) ∧ w' = w := by
  by_cases h : lo ≤ n
  all_goals
    go_enter Tryz.func82, Tryz.ntmps82
    go_wp2_with fail
    go_ret
    refine ⟨ret_bool ?_, rfl⟩
    simp [*]
    try omega
end Go.Proofs.YtlcafjckaahmaaaGreat
/- What is wanted for arguments that are handed in. -/
namespace Go.Proofs.YtlcafjckaahmaaaGreat
open Go.RowKit Go.ChangeShapes Go.WideShapes

theorem Tryz.ocI : Tryz.prog.cellsOf 2 = 1 := by kernel_rfl
theorem Tryz.ocS : Tryz.prog.cellsOf 9 = 1 := by kernel_rfl
theorem int_range {H : Type} {enc : TypeId × Value → H} {w : World} {base : Nat} {spare : Nat → Bool} {held : Bool} {fuel : Nat} {z : Int} {x : DataW H × List MemPlace} (h : DataW.trod enc Tryz.prog w base spare held fuel 2 [.int .i64 z] = some x) : -9223372036854775808 ≤ z ∧ z ≤ 9223372036854775807 := by
  obtain ⟨n, e, _, hw⟩ := DataW.trod_int Tryz.underlying2 h
  simp at e
  subst e
  simp [Lit.wf, IntKind.min, IntKind.max, IntKind.signed, IntKind.bits] at hw
  omega
end Go.Proofs.YtlcafjckaahmaaaGreat
