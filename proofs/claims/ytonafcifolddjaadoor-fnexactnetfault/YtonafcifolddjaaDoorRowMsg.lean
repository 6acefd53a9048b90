/- Rows of Msgs: as values and in memory; the law's own helpers over them. -/
import Derived.Test.YtonafcifolddjaaDoorMem
namespace Go.Proofs.YtonafcifolddjaaDoor
open Go.RowKit

structure RMsg where
  frm : ByteArray
  to : ByteArray
  label : ByteArray
  sort : Int

def RMsg.val (x : RMsg) : Value := .agg #[.string x.frm, .string x.to, .string x.label, .int .i64 x.sort]
def RMsg.ok (x : RMsg) : Prop := x.frm.size ≤ maxLen ∧ x.to.size ≤ maxLen ∧ x.label.size ≤ maxLen
def RMsg.fit (x : RMsg) : Prop := x.frm.size ≤ 1048576 ∧ x.to.size ≤ 1048576 ∧ x.label.size ≤ 1048576
def RMsgAt (w : World) (b o : Nat) (x : RMsg) : Prop := w.cell? ⟨b, o, none⟩ = some (.string x.frm) ∧ w.cell? ⟨b, o + 1, none⟩ = some (.string x.to) ∧ w.cell? ⟨b, o + 2, none⟩ = some (.string x.label) ∧ w.cell? ⟨b, o + 3, none⟩ = some (.int .i64 x.sort)
def RMsgs (w : World) (b : Nat) : Nat → List RMsg → Prop
  | _, [] => True
  | o, x :: l => RMsgAt w b o x ∧ RMsgs w b (o + 4) l
theorem RMsgAt.carry {w w' : World} {b o : Nat} {x : RMsg} (h : RMsgAt w b o x) {B : Nat} (hB : b < B) (hb : Below B w w') : RMsgAt w' b o x := by
  obtain ⟨h0, h1, h2, h3⟩ := h
  exact ⟨(hb.cell (p := ⟨b, _, none⟩) hB).trans h0, (hb.cell (p := ⟨b, _, none⟩) hB).trans h1, (hb.cell (p := ⟨b, _, none⟩) hB).trans h2, (hb.cell (p := ⟨b, _, none⟩) hB).trans h3⟩
theorem RMsgAt.lt {w : World} {b o : Nat} {x : RMsg} (h : RMsgAt w b o x) : b < w.heap.size := World.block_lt_of_cell? w _ h.1
theorem RMsgs.carry {w w' : World} {b B : Nat} (hB : b < B) (hb : Below B w w') : ∀ {l : List RMsg} {o : Nat}, RMsgs w b o l → RMsgs w' b o l
  | [], _, _ => trivial
  | _ :: _, _, h => ⟨h.1.carry hB hb, RMsgs.carry hB hb h.2⟩
theorem RMsgs.get {w : World} {b : Nat} : ∀ {l : List RMsg} {o : Nat}, RMsgs w b o l → ∀ i (h : i < l.length), RMsgAt w b (o + i * 4) l[i]
  | _ :: _, _, h, 0, _ => by simpa using h.1
  | _ :: l, o, h, i + 1, hi => by
    have := h.2.get i (by simpa using hi)
    rw [show o + 4 + i * 4 = o + (i + 1) * 4 from by omega] at this
    simpa using this
theorem RMsgs.of (w : World) (g : Nat) : ∀ (l : List RMsg) (o : Nat), (∀ j (h : j < l.length), RMsgAt w g (o + j * 4) l[j]) → RMsgs w g o l
  | [], _, _ => trivial
  | x :: l, o, h => ⟨by have := h 0 (by simp); simpa only [Nat.zero_mul, Nat.add_zero, List.getElem_cons_zero] using this, RMsgs.of w g l (o + 4) (fun j hj => by
      have := h (j + 1) (by simpa using hj)
      rw [show o + (j + 1) * 4 = o + 4 + j * 4 from by omega] at this
      simpa only [List.getElem_cons_succ] using this)⟩
/-- a slice's value holds such a row, in a block below B -/
def RMsgSl (w : World) (B : Nat) (v : Value) (l : List RMsg) : Prop :=
  ∃ ao cap, v = .slice ao l.length cap ∧ l.length ≤ cap ∧ l.length ≤ 4294967296 ∧ (l ≠ [] → ∃ b o, ao = some ⟨b, o, none⟩ ∧ b < B ∧ RMsgs w b o l)
theorem RMsgSl.carry {w w' : World} {B : Nat} {v : Value} {l : List RMsg} (h : RMsgSl w B v l) (hb : Below B w w') : RMsgSl w' B v l := by
  obtain ⟨ao, cap, h1, h2, h3, h4⟩ := h
  refine ⟨ao, cap, h1, h2, h3, fun hne => ?_⟩
  obtain ⟨b, o, e, hlt, hr⟩ := h4 hne
  exact ⟨b, o, e, hlt, hr.carry hlt hb⟩
theorem RMsgSl.up {w : World} {B B' : Nat} {v : Value} {l : List RMsg} (h : RMsgSl w B v l) (hB : B ≤ B') : RMsgSl w B' v l := by
  obtain ⟨ao, cap, h1, h2, h3, h4⟩ := h
  refine ⟨ao, cap, h1, h2, h3, fun hne => ?_⟩
  obtain ⟨b, o, e, hlt, hr⟩ := h4 hne
  exact ⟨b, o, e, by omega, hr⟩
theorem RMsgAt.block {w w' : World} {b o : Nat} {x : RMsg} (h : RMsgAt w b o x) (hb : w'.heap[b]? = w.heap[b]?) : RMsgAt w' b o x := by
  obtain ⟨h0, h1, h2, h3⟩ := h
  exact ⟨(World.cell?_of_block (a := ⟨b, _, none⟩) hb).trans h0, (World.cell?_of_block (a := ⟨b, _, none⟩) hb).trans h1, (World.cell?_of_block (a := ⟨b, _, none⟩) hb).trans h2, (World.cell?_of_block (a := ⟨b, _, none⟩) hb).trans h3⟩
theorem RMsgs.block {w w' : World} {b : Nat} (hb : w'.heap[b]? = w.heap[b]?) : ∀ {l : List RMsg} {o : Nat}, RMsgs w b o l → RMsgs w' b o l
  | [], _, _ => trivial
  | _ :: _, _, h => ⟨h.1.block hb, RMsgs.block hb h.2⟩
theorem RMsgSl.keep {w w' : World} {B B' : Nat} {v : Value} {l : List RMsg} (h : RMsgSl w B v l) (hB : B ≤ B') (hk : ∀ b, v.ownBlock = some b → b < B → w'.heap[b]? = w.heap[b]?) : RMsgSl w' B' v l := by
  obtain ⟨ao, cap, rfl, h2, h3, h4⟩ := h
  refine ⟨ao, cap, rfl, h2, h3, fun hne => ?_⟩
  obtain ⟨b, o, rfl, hlt, hr⟩ := h4 hne
  exact ⟨b, o, rfl, by omega, hr.block (hk b rfl hlt)⟩
theorem RMsgSl.lenm {w : World} {B : Nat} {v : Value} {l : List RMsg} (h : RMsgSl w B v l) : l.length ≤ 4294967296 := by
  obtain ⟨ao, cap, _, h1, h2, _⟩ := h
  omega

theorem Tryd.infoRMsg : (Tryd.prog.info? 28).map (fun i => (i.zero, i.size, i.bytes)) = some (some (.agg #[.string ByteArray.empty, .string ByteArray.empty, .string ByteArray.empty, .int .i64 0]), 4, 56) := by kernel_rfl

set_option maxHeartbeats 400000 in
theorem to_msg (x : RMsg) (w : World) :
    Calls Tryd.prog 11 #[x.val] w fun e w' => e = .returned x.val ∧ Below w.heap.size w w' := by
  have hi : (Tryd.prog.info? 28).map (·.size) = some 4 := by
    obtain ⟨i0, hi, _, hz1, _⟩ := info_parts Tryd.infoRMsg
    rw [hi]; simp [hz1]
  have HI := hide hi
  clear hi
  unfold RMsg.val
  go_enter Tryd.func11, Tryd.ntmps11
  go_wp2_with fail
  refine bodyPost_ret_by (results_cell_row rfl _ _ (w.heap.size + 1) 28 #[.string x.frm, .string x.to, .string x.label, .int .i64 x.sort] (0, 0) _ rfl ?_ Tryd.underlying28 rfl HI.out) rfl ⟨rfl, ((malloc1 _ _).trans ((malloc1 _ _).mono (by simp))).trans ((malloc1 _ _).mono (by simp; omega))⟩
  rw [mheap_old _ _ _ (by simp), mheap_new _ _ _ (by simp)]

def putMsg (w : World) (g p : Nat) (x : RMsg) : World := (((w.setCell ⟨g, p, none⟩ (.string x.frm)).setCell ⟨g, p + 1, none⟩ (.string x.to)).setCell ⟨g, p + 2, none⟩ (.string x.label)).setCell ⟨g, p + 3, none⟩ (.int .i64 x.sort)
theorem putMsg_other (w : World) (g p : Nat) (x : RMsg) (a : Addr) (h : ∀ i, i < 4 → a ≠ ⟨g, p + i, none⟩) : (putMsg w g p x).cell? a = w.cell? a := by
  unfold putMsg
  rw [World.cell?_setCell_other _ _ _ _ (Ne.symm (h 3 (by omega))), World.cell?_setCell_other _ _ _ _ (Ne.symm (h 2 (by omega))), World.cell?_setCell_other _ _ _ _ (Ne.symm (h 1 (by omega))), World.cell?_setCell_other _ ⟨g, p, none⟩ _ _ (Ne.symm (h 0 (by omega)))]
theorem putMsg_at (w : World) (g p : Nat) (x : RMsg) (hc : ∀ i, i < 4 → ∃ y, w.cell? ⟨g, p + i, none⟩ = some y) : RMsgAt (putMsg w g p x) g p x := by
  obtain ⟨y0, h0⟩ := hc 0 (by omega)
  obtain ⟨y1, h1⟩ := hc 1 (by omega)
  obtain ⟨y2, h2⟩ := hc 2 (by omega)
  obtain ⟨y3, h3⟩ := hc 3 (by omega)
  unfold putMsg
  refine ⟨?_, ?_, ?_, ?_⟩
  · rw [World.cell?_setCell_other _ _ _ _ (by simp), World.cell?_setCell_other _ _ _ _ (by simp), World.cell?_setCell_other _ _ _ _ (by simp)]
    exact World.cell?_setCell_same _ _ _ h0
  · rw [World.cell?_setCell_other _ _ _ _ (by simp), World.cell?_setCell_other _ _ _ _ (by simp)]
    exact World.cell?_setCell_same _ _ _ (u := y1) (by rw [World.cell?_setCell_other _ _ _ _ (by simp)]; exact h1)
  · rw [World.cell?_setCell_other _ _ _ _ (by simp)]
    exact World.cell?_setCell_same _ _ _ (u := y2) (by rw [World.cell?_setCell_other _ _ _ _ (by simp), World.cell?_setCell_other _ _ _ _ (by simp)]; exact h2)
  · exact World.cell?_setCell_same _ _ _ (u := y3) (by rw [World.cell?_setCell_other _ _ _ _ (by simp), World.cell?_setCell_other _ _ _ _ (by simp), World.cell?_setCell_other _ _ _ _ (by simp)]; exact h3)
theorem putMsg_below {B : Nat} {a w : World} (h : Below B a w) {g : Nat} (hg : B ≤ g) (p : Nat) (x : RMsg) : Below B a (putMsg w g p x) :=
  ((((h.setCell (p := ⟨g, p, none⟩) hg _).setCell (p := ⟨g, p + 1, none⟩) hg _).setCell (p := ⟨g, p + 2, none⟩) hg _).setCell (p := ⟨g, p + 3, none⟩) hg _)
theorem putMsg_size (w : World) (g p : Nat) (x : RMsg) : (putMsg w g p x).heap.size = w.heap.size := by simp [putMsg]
theorem putMsg_frozen (w : World) (g p : Nat) (x : RMsg) (a : Addr) : (putMsg w g p x).frozen? a = w.frozen? a := by simp [putMsg]

set_option maxHeartbeats 2000000 in
set_option maxRecDepth 100000 in
theorem to_msgs (l : List RMsg) (ao : Option Addr) (cap : Nat) (w : World) (hl : l.length ≤ 1048576) (hr : l ≠ [] → ∃ b o, ao = some ⟨b, o, none⟩ ∧ b < w.heap.size ∧ RMsgs w b o l) :
    Calls Tryd.prog 10 #[.slice ao l.length cap] w fun e w' => ∃ v', e = .returned v' ∧ RMsgSl w' w'.heap.size v' l ∧ MOwn w.heap.size w' v' ∧ Below w.heap.size w w' := by
  have HR := hide hr
  obtain ⟨i0, hi, hz0, hz1, hz2⟩ := info_parts Tryd.infoRMsg
  obtain ⟨M, hM⟩ : ∃ M, M = madeCells (Value.agg #[.string ByteArray.empty, .string ByteArray.empty, .string ByteArray.empty, .int .i64 0]).cells (l.length * 4) := ⟨_, rfl⟩
  have hMs : M.size = l.length * 4 := by rw [hM, size_madeCells]
  have hmk : ∀ W : World, (Instr.makeSlice 27 (.int .i64 (l.length : Int)) (.int .i64 (l.length : Int))).run Tryd.prog W = .ok (.slice (some ⟨W.heap.size, 0, none⟩) l.length l.length) (W.alloc (.cells M 28)) := fun W => by
    have h := run_make (P := Tryd.prog) W 27 28 i0 _ Tryd.underlying27 hi hz0 .i64 .i64 (l.length : Int) (l.length : Int) (by omega) (by omega) (by rw [hz2]; omega) (by omega)
    rw [hz1] at h
    simp only [Int.toNat_natCast] at h
    rw [← hM] at h
    exact h
  have HMS := hide hMs
  clear hr hM hMs hi hz0 hz1 hz2
  go_enter Tryd.func10, Tryd.ntmps10
  go_wp2_with fail
  go_loopw [4] (fun i wr => ∃ k : Nat, k ≤ l.length ∧ i = .int .i64 k ∧ (∀ j (h : j < l.length), j < k → RMsgAt wr w.heap.size (j * 4) l[j]) ∧ (∀ j, j < l.length * 4 → ∃ y, wr.cell? ⟨w.heap.size, j, none⟩ = some y) ∧ (∀ j, wr.frozen? ⟨w.heap.size, j, none⟩ = false) ∧ w.heap.size < wr.heap.size ∧ Below w.heap.size w wr)
    (fun i _ => l.length - (intOf i).toNat)
  case atStart =>
    refine ⟨0, Nat.zero_le _, rfl, fun j _ h => absurd h (by omega), fun j hj => ?_, fun j => ?_, by simp, malloc1 _ _⟩
    · rw [← HMS.out] at hj
      exact ⟨M[j], by simp [hj]⟩
    · simp
  case round =>
    obtain ⟨k, hk, rfl, hall, hcells, hfro, hsz, hbel⟩ := hrel
    have HA := hide hall
    have HC := hide hcells
    have HFR := hide hfro
    have HBEL := hide hbel
    clear hall hbel
    by_cases hlt : k < l.length
    · obtain ⟨b, o, rfl, hbB, hrow⟩ := HR.out (by intro h; simp [h] at hlt)
      have hnode := (hrow.get k hlt).carry hbB HBEL.out
      obtain ⟨x1, hx1⟩ : ∃ x1, x1 = l[k] := ⟨_, rfl⟩
      rw [← hx1] at hnode
      have HN := hide hx1
      clear hx1 hrow
      have hbw : b < wr.heap.size := hnode.lt
      obtain ⟨c0, c1, c2, c3⟩ := hnode
      obtain ⟨y0, g0⟩ := hcells (k * 4) (by omega)
      obtain ⟨y1, g1⟩ := hcells (k * 4 + 1) (by omega)
      obtain ⟨y2, g2⟩ := hcells (k * 4 + 2) (by omega)
      obtain ⟨y3, g3⟩ := hcells (k * 4 + 3) (by omega)
      have HG := hide (And.intro g0 (And.intro g1 (And.intro g2 g3)))
      clear hcells hfro g0 g1 g2 g3
      go_wp2_with (go_at_call 11; refine (to_msg x1 _).mono ?_; rintro e w1 ⟨rfl, hb1⟩; unfold RMsg.val; have hs1 := hb1.size; have HF1 : Hid (∀ j, w1.frozen? ⟨w.heap.size, j, none⟩ = false) := hide (fun j => (hb1.frozen (p := ⟨w.heap.size, j, none⟩) hsz).trans (HFR.out j)); have HC1 : Hid (∀ j, w1.cell? ⟨w.heap.size, j, none⟩ = wr.cell? ⟨w.heap.size, j, none⟩) := hide (fun j => hb1.cell (p := ⟨w.heap.size, j, none⟩) hsz); have g0 := (HC1.out (k * 4)).trans HG.out.1; have g1 := (HC1.out (k * 4 + 1)).trans HG.out.2.1; have g2 := (HC1.out (k * 4 + 2)).trans HG.out.2.2.1; have g3 := (HC1.out (k * 4 + 3)).trans HG.out.2.2.2; have f0 := HF1.out (k * 4); have f1 := HF1.out (k * 4 + 1); have f2 := HF1.out (k * 4 + 2); have f3 := HF1.out (k * 4 + 3); have HB1 := hide hb1; clear hb1)
      go_roundw
      case rel =>
        have e := hide (show (((w1.setCell ⟨w.heap.size, k * 4, none⟩ (.string x1.frm)).setCell ⟨w.heap.size, k * 4 + 1, none⟩ (.string x1.to)).setCell ⟨w.heap.size, k * 4 + 2, none⟩ (.string x1.label)).setCell ⟨w.heap.size, k * 4 + 3, none⟩ (.int .i64 x1.sort) = putMsg w1 w.heap.size (k * 4) x1 from rfl)
        rw [e.out]
        have hex : ∀ i, i < 4 → ∃ y, w1.cell? ⟨w.heap.size, k * 4 + i, none⟩ = some y := fun i hi => by rw [HC1.out]; exact HC.out _ (by omega)
        have hnew := putMsg_at w1 w.heap.size (k * 4) x1 hex
        have hoth : ∀ j, (j < k * 4 ∨ k * 4 + 4 ≤ j) → (putMsg w1 w.heap.size (k * 4) x1).cell? ⟨w.heap.size, j, none⟩ = wr.cell? ⟨w.heap.size, j, none⟩ := fun j hj => by
          rw [putMsg_other _ _ _ _ _ (fun i hi h => by injection h with h1 h2; omega), HC1.out]
        refine ⟨k + 1, by omega, by go_num, fun j hj hjk => ?_, fun j hj => ?_, fun j => by rw [putMsg_frozen]; exact HF1.out j, by rw [putMsg_size]; omega, putMsg_below (HBEL.out.trans (HB1.out.mono HBEL.out.size)) (Nat.le_refl _) _ _⟩
        · by_cases hjk' : j = k
          · subst hjk'; rw [← HN.out]; exact hnew
          · obtain ⟨a0, a1, a2, a3⟩ := HA.out j hj (by omega)
            exact ⟨(hoth _ (by omega)).trans a0, (hoth _ (by omega)).trans a1, (hoth _ (by omega)).trans a2, (hoth _ (by omega)).trans a3⟩
        · by_cases hin : j < k * 4 ∨ k * 4 + 4 ≤ j
          · rw [hoth j hin]; exact HC.out j hj
          · obtain ⟨a0, a1, a2, a3⟩ := hnew
            rcases (show j = k * 4 ∨ j = k * 4 + 1 ∨ j = k * 4 + 2 ∨ j = k * 4 + 3 by omega) with h | h | h | h
            · subst h; exact ⟨_, a0⟩
            · subst h; exact ⟨_, a1⟩
            · subst h; exact ⟨_, a2⟩
            · subst h; exact ⟨_, a3⟩
      case measure => simp [intOf]; omega
    · go_wp2_with fail
      go_ret
      refine ⟨_, rfl, ⟨_, _, rfl, Nat.le_refl _, by omega, fun hne => ⟨w.heap.size, 0, rfl, hsz, ?_⟩⟩, ⟨fun b hb => by simp [Value.ownBlock] at hb; subst hb; exact ⟨Nat.le_refl _, hsz, HFR.out⟩⟩, HBEL.out⟩
      exact RMsgs.of _ _ l 0 (fun j hj => by rw [Nat.zero_add]; exact HA.out j hj (by omega))

set_option maxHeartbeats 400000 in
theorem sz_msg (x : RMsg) (left : Int) (w : World) (ok : x.ok) (hl : 0 ≤ left) (hm : left ≤ 1048576) :
    Calls Tryd.prog 8 #[x.val, .int .i64 left] w fun e w' => ∃ r : Int, e = .returned (.int .i64 r) ∧ r ≤ 1048576 ∧ (0 ≤ r → x.fit) ∧ Below w.heap.size w w' := by
  unfold RMsg.ok maxLen at ok
  have HFI := hide (show x.fit = (x.frm.size ≤ 1048576 ∧ x.to.size ≤ 1048576 ∧ x.label.size ≤ 1048576) from rfl)
  unfold RMsg.val
  by_cases a2 : left - x.frm.size < 0
  · go_enter Tryd.func8, Tryd.ntmps8
    go_wp2_with fail
    go_ret
    exact ⟨_, rfl, by omega, fun h => absurd h (by omega), malloc1 _ _⟩
  · skip
    by_cases a4 : left - x.frm.size - x.to.size < 0
    · go_enter Tryd.func8, Tryd.ntmps8
      go_wp2_with fail
      go_ret
      exact ⟨_, rfl, by omega, fun h => absurd h (by omega), malloc1 _ _⟩
    · skip
      by_cases a6 : left - x.frm.size - x.to.size - x.label.size < 0
      · go_enter Tryd.func8, Tryd.ntmps8
        go_wp2_with fail
        go_ret
        exact ⟨_, rfl, by omega, fun h => absurd h (by omega), malloc1 _ _⟩
      · skip
        go_enter Tryd.func8, Tryd.ntmps8
        go_wp2_with fail
        go_ret
        exact ⟨_, rfl, by omega, fun h => by rw [HFI.out]; omega, malloc1 _ _⟩

set_option maxHeartbeats 400000 in
theorem sz_msgs (l : List RMsg) (left : Int) (ao : Option Addr) (cap : Nat) (w : World) (ok : ∀ x ∈ l, x.ok) (hl : l.length ≤ maxLen) (h0 : 0 ≤ left) (h1 : left ≤ 1048576) (hr : l ≠ [] → ∃ b o, ao = some ⟨b, o, none⟩ ∧ b < w.heap.size ∧ RMsgs w b o l) :
    Calls Tryd.prog 7 #[.slice ao l.length cap, .int .i64 left] w fun e w' => ∃ r : Int, e = .returned (.int .i64 r) ∧ r ≤ 1048576 ∧ (0 ≤ r → l.length ≤ 1048576 ∧ ∀ x ∈ l, x.fit) ∧ Below w.heap.size w w' := by
  have HR := hide hr
  have HOK := hide ok
  unfold maxLen at hl
  clear hr ok
  by_cases hle : (l.length : Int) ≤ left
  · go_enter Tryd.func7, Tryd.ntmps7
    go_wp2_with fail
    go_loopw [1, 5] (fun lf i wr => ∃ (k : Nat) (z : Int), k ≤ l.length ∧ i = .int .i64 k ∧ lf = .int .i64 z ∧ 0 ≤ z ∧ z ≤ 1048576 ∧ (∀ j (h : j < l.length), j < k → l[j].fit) ∧ Below w.heap.size w wr)
      (fun _ i _ => l.length - (intOf i).toNat)
    case atStart => exact ⟨0, left - (l.length : Int), Nat.zero_le _, rfl, rfl, by omega, by omega, fun j _ h => absurd h (by omega), Below.refl _ _⟩
    case round =>
      obtain ⟨k, z, hk, rfl, rfl, hl0, hl1, hall, hbel⟩ := hrel
      have HA := hide hall
      have HBEL := hide hbel
      have hszr := hbel.size
      clear hall hbel
      by_cases hlt : k < l.length
      · obtain ⟨b, o, rfl, hbB, hrow⟩ := HR.out (by intro h; simp [h] at hlt)
        have hnode := (hrow.get k hlt).carry hbB HBEL.out
        obtain ⟨x1, hx1⟩ : ∃ x1, x1 = l[k] := ⟨_, rfl⟩
        rw [← hx1] at hnode
        have HN := hide hx1
        have HN1 := hide (show x1.ok by rw [hx1]; exact HOK.out _ (List.getElem_mem hlt))
        clear hx1 hrow
        have hbw : b < wr.heap.size := hnode.lt
        obtain ⟨c0, c1, c2, c3⟩ := hnode
        go_wp2_with (go_at_call 8; refine (sz_msg x1 z _ HN1.out hl0 hl1).mono ?_; rintro e w1 ⟨r, rfl, hr1, hrf, hb1⟩; have HRF := hide hrf; have HB1 := hide hb1; clear hrf hb1)
        all_goals
          first
            | (go_ret
               exact ⟨_, rfl, by omega, fun h => absurd h (by omega), HBEL.out.trans (HB1.out.mono hszr)⟩)
            | (go_roundw
               case rel =>
                 refine ⟨k + 1, r, by omega, by go_num, rfl, by omega, hr1, fun j hj hjk => ?_, HBEL.out.trans (HB1.out.mono hszr)⟩
                 by_cases hjk' : j = k
                 · subst hjk'; rw [← HN.out]; exact HRF.out (by omega)
                 · exact HA.out j hj (by omega)
               case measure => simp [intOf]; omega)
      · go_wp2_with fail
        go_ret
        refine ⟨_, rfl, by omega, fun _ => ⟨by omega, fun x hx => ?_⟩, HBEL.out⟩
        obtain ⟨j, hj, rfl⟩ := List.getElem_of_mem hx
        exact HA.out j hj (by omega)
  · go_enter Tryd.func7, Tryd.ntmps7
    go_wp2_with fail
    go_ret
    exact ⟨_, rfl, by omega, fun h => absurd h (by omega), Below.refl _ _⟩

theorem eq_msg (x : RMsg) (w : World) :
    Calls Tryd.prog 32 #[x.val, x.val] w fun e w' => e = .returned (.bool true) ∧ Below w.heap.size w w' := by
  unfold RMsg.val
  go_enter Tryd.func32, Tryd.ntmps32
  go_wp2_with fail
  go_ret
  exact ⟨rfl, (malloc1 _ _).trans ((malloc1 _ _).mono (by simp))⟩

set_option maxHeartbeats 400000 in
theorem eq_msgs (l : List RMsg) (v u : Value) (w : World) (hv : RMsgSl w w.heap.size v l) (hu : RMsgSl w w.heap.size u l) :
    Calls Tryd.prog 14 #[v, u] w fun e w' => e = .returned (.bool true) ∧ Below w.heap.size w w' := by
  obtain ⟨ao, cap, rfl, hc, hm, hr⟩ := hv
  obtain ⟨ao', cap', rfl, hc', hm', hr'⟩ := hu
  have HR := hide hr
  have HR' := hide hr'
  clear hr hr'
  go_enter Tryd.func14, Tryd.ntmps14
  go_wp2_with fail
  go_loopw [5] (fun i wr => ∃ k : Nat, k ≤ l.length ∧ i = .int .i64 k ∧ Below w.heap.size w wr) (fun i _ => l.length - (intOf i).toNat)
  case atStart => exact ⟨0, Nat.zero_le _, rfl, Below.refl _ _⟩
  case round =>
    obtain ⟨k, hk, rfl, hbel⟩ := hrel
    have HBEL := hide hbel
    have hszr := hbel.size
    clear hbel
    by_cases hlt : k < l.length
    · obtain ⟨b, o, rfl, hbB, hrow⟩ := HR.out (by intro h; simp [h] at hlt)
      obtain ⟨b', o', rfl, hbB', hrow'⟩ := HR'.out (by intro h; simp [h] at hlt)
      have hnode := (hrow.get k hlt).carry hbB HBEL.out
      have hnode' := (hrow'.get k hlt).carry hbB' HBEL.out
      obtain ⟨x1, hx1⟩ : ∃ x1, x1 = l[k] := ⟨_, rfl⟩
      rw [← hx1] at hnode hnode'
      clear hx1 hrow hrow'
      obtain ⟨c0, c1, c2, c3⟩ := hnode
      obtain ⟨d0, d1, d2, d3⟩ := hnode'
      go_wp2_with fail
      go_region_with (go_at_call 32; refine (eq_msg x1 _).mono ?_; rintro e w1 ⟨rfl, hb1⟩; have HB1 := hide hb1; clear hb1)
      go_wp2_with fail
      all_goals
        go_roundw
        case rel => exact ⟨k + 1, by omega, by go_num, by first | exact HBEL.out.trans (HB1.out.mono hszr) | exact HBEL.out.drew.trans (HB1.out.mono hszr) | exact HBEL.out.drew.drew.trans (HB1.out.mono hszr)⟩
        case measure => simp [intOf]; omega
    · go_wp2_with fail
      go_ret
      exact ⟨rfl, HBEL.out⟩
end Go.Proofs.YtonafcifolddjaaDoor
