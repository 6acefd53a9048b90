import Derived.Test.YtaaeledleldllaaGreatQB01
import Derived.Deep.Slices
import Derived.ChangeArms
import Derived.ChangeSame
import Derived.WalkKit
namespace Go.Proofs.YtaaeledleldllaaGreat
open Go.RowKit

def cellBlocks : Value → List Nat
  | .slice (some a) _ _ => [a.block]
  | _ => []
def vblocks : Value → List Nat
  | .agg cs => cs.toList.flatMap cellBlocks
  | v => cellBlocks v
structure Fresh (lo : Nat) (w : World) (v : Value) : Prop where
  lo : ∀ b ∈ vblocks v, lo ≤ b
  hi : ∀ b ∈ vblocks v, b < w.heap.size
  free : ∀ b ∈ vblocks v, ∀ j, w.frozen? ⟨b, j, none⟩ = false
  nodup : (vblocks v).Nodup
structure Apart (w w' : World) (l : List Nat) : Prop where
  os : w'.os = w.os
  tape : w'.tape = w.tape
  output : w'.output = w.output
  size : w.heap.size ≤ w'.heap.size
  block : ∀ b, b < w.heap.size → b ∉ l → w'.heap[b]? = w.heap[b]?
theorem Apart.refl (w : World) : Apart w w [] := ⟨rfl, rfl, rfl, Nat.le_refl _, fun _ _ _ => rfl⟩
theorem below_apart {w w' : World} (h : Below w.heap.size w w') : Apart w w' [] := ⟨h.os, h.tape, h.output, h.size, fun b hb _ => h.block b hb⟩
theorem Apart.trans {a b c : World} {l l' : List Nat} (h : Apart a b l) (h' : Apart b c l') : Apart a c (l ++ l') :=
  ⟨h'.os.trans h.os, h'.tape.trans h.tape, h'.output.trans h.output, Nat.le_trans h.size h'.size, fun k hk hn => by
    rw [List.mem_append, not_or] at hn
    exact (h'.block k (Nat.lt_of_lt_of_le hk h.size) hn.2).trans (h.block k hk hn.1)⟩
theorem Apart.then {a b c : World} {l : List Nat} (h : Apart a b l) (h' : Below b.heap.size b c) : Apart a c l := by
  have := h.trans (below_apart h')
  rwa [List.append_nil] at this
theorem Apart.drew {a b : World} {l : List Nat} (h : Apart a b l) : Apart a b.drew l := ⟨h.os, h.tape, h.output, h.size, h.block⟩
theorem Apart.below {w w' : World} {l : List Nat} (h : Apart w w' l) {B : Nat} (hB : B ≤ w.heap.size) (hl : ∀ b ∈ l, B ≤ b) : Below B w w' :=
  ⟨h.os, h.tape, h.output, h.size, fun k hk => h.block k (Nat.lt_of_lt_of_le hk hB) (fun hm => absurd (hl k hm) (by omega))⟩
theorem Apart.cell {w w' : World} {l : List Nat} (h : Apart w w' l) {b o : Nat} {x : Value} (hc : w.cell? ⟨b, o, none⟩ = some x) (hl : ∀ k ∈ l, b < k) : w'.cell? ⟨b, o, none⟩ = some x :=
  (World.cell?_of_block (a := ⟨b, o, none⟩) (h.block b (World.block_lt_of_cell? w _ hc) (fun hm => absurd (hl b hm) (by omega)))).trans hc
theorem Apart.grown {w w' : World} {b : Nat} (h : w.grownBy w' (some b)) : Apart w w' [b] :=
  ⟨h.os, h.tape, h.output, h.size, fun k hk hn => h.block k hk (fun e => hn (by simp at e; simp [e]))⟩
theorem Apart.grown_none {w w' : World} (h : w.grownBy w' none) : Apart w w' [] :=
  ⟨h.os, h.tape, h.output, h.size, fun k hk _ => h.block k hk (by simp)⟩
theorem grownBy_apart {w w' : World} {p : Option Addr} {n c : Nat} (h : w.grownBy w' (Value.slice p n c).ownBlock) : Apart w w' (vblocks (.slice p n c)) := by
  cases p with
  | none => exact Apart.grown_none h
  | some a => exact Apart.grown h
theorem Fresh.keep {lo : Nat} {w w' : World} {v : Value} {l : List Nat} (h : Fresh lo w v) (ha : Apart w w' l) (hd : ∀ b ∈ vblocks v, b ∉ l) : Fresh lo w' v :=
  ⟨h.lo, fun b hb => Nat.lt_of_lt_of_le (h.hi b hb) ha.size, fun b hb j => (World.frozen?_of_block (a := ⟨b, j, none⟩) (ha.block b (h.hi b hb) (hd b hb))).trans (h.free b hb j), h.nodup⟩
theorem fresh_slice {lo : Nat} {w : World} {p : Option Addr} {n c : Nat} (h : MOwn lo w (.slice p n c)) : Fresh lo w (.slice p n c) := by
  cases p with
  | none => exact ⟨by simp [vblocks, cellBlocks], by simp [vblocks, cellBlocks], by simp [vblocks, cellBlocks], by simp [vblocks, cellBlocks]⟩
  | some a =>
    have hf := h.free a.block rfl
    exact ⟨by simp [vblocks, cellBlocks]; exact hf.1, by simp [vblocks, cellBlocks]; exact hf.2.1, by simp [vblocks, cellBlocks]; exact hf.2.2, by simp [vblocks, cellBlocks]⟩
theorem Fresh.own {lo : Nat} {w : World} {p : Option Addr} {n c : Nat} (h : Fresh lo w (.slice p n c)) : MOwn lo w (.slice p n c) := by
  cases p with
  | none => exact ⟨fun b hb => by cases hb⟩
  | some a => exact ⟨fun b hb => by
      simp [Value.ownBlock] at hb; subst hb
      exact ⟨h.lo _ (by simp [vblocks, cellBlocks]), h.hi _ (by simp [vblocks, cellBlocks]), h.free _ (by simp [vblocks, cellBlocks])⟩⟩
theorem own_blocks {v : Value} {p : Option Addr} {n c : Nat} (e : v = .slice p n c) {b : Nat} : v.ownBlock = some b ↔ b ∈ vblocks v := by
  subst e
  cases p with
  | none => simp [Value.ownBlock, vblocks, cellBlocks]
  | some a => simp [Value.ownBlock, vblocks, cellBlocks]; exact ⟨fun h => h.symm, fun h => h.symm⟩
end Go.Proofs.YtaaeledleldllaaGreat
namespace Go.Proofs.YtaaeledleldllaaGreat
open Go.RowKit

structure RState where
  kind : Int
  peer : ByteArray

def RState.val (x : RState) : Value := .agg #[.int .i64 x.kind, .string x.peer]
def RState.ok (x : RState) : Prop := x.peer.size ≤ maxLen
def RState.fit (x : RState) : Prop := x.peer.size ≤ 1048576
def RStateAt (w : World) (b o : Nat) (x : RState) : Prop := w.cell? ⟨b, o, none⟩ = some (.int .i64 x.kind) ∧ w.cell? ⟨b, o + 1, none⟩ = some (.string x.peer)
def RStates (w : World) (b : Nat) : Nat → List RState → Prop
  | _, [] => True
  | o, x :: l => RStateAt w b o x ∧ RStates w b (o + 2) l
theorem RStateAt.carry {w w' : World} {b o : Nat} {x : RState} (h : RStateAt w b o x) {B : Nat} (hB : b < B) (hb : Below B w w') : RStateAt w' b o x := by
  obtain ⟨h0, h1⟩ := h
  exact ⟨(hb.cell (p := ⟨b, _, none⟩) hB).trans h0, (hb.cell (p := ⟨b, _, none⟩) hB).trans h1⟩
theorem RStateAt.lt {w : World} {b o : Nat} {x : RState} (h : RStateAt w b o x) : b < w.heap.size := World.block_lt_of_cell? w _ h.1
theorem RStates.carry {w w' : World} {b B : Nat} (hB : b < B) (hb : Below B w w') : ∀ {l : List RState} {o : Nat}, RStates w b o l → RStates w' b o l
  | [], _, _ => trivial
  | _ :: _, _, h => ⟨h.1.carry hB hb, RStates.carry hB hb h.2⟩
theorem RStates.get {w : World} {b : Nat} : ∀ {l : List RState} {o : Nat}, RStates w b o l → ∀ i (h : i < l.length), RStateAt w b (o + i * 2) l[i]
  | _ :: _, _, h, 0, _ => by simpa using h.1
  | _ :: l, o, h, i + 1, hi => by
    have := h.2.get i (by simpa using hi)
    rw [show o + 2 + i * 2 = o + (i + 1) * 2 from by omega] at this
    simpa using this
theorem RStates.of (w : World) (g : Nat) : ∀ (l : List RState) (o : Nat), (∀ j (h : j < l.length), RStateAt w g (o + j * 2) l[j]) → RStates w g o l
  | [], _, _ => trivial
  | x :: l, o, h => ⟨by have := h 0 (by simp); simpa only [Nat.zero_mul, Nat.add_zero, List.getElem_cons_zero] using this, RStates.of w g l (o + 2) (fun j hj => by
      have := h (j + 1) (by simpa using hj)
      rw [show o + (j + 1) * 2 = o + 2 + j * 2 from by omega] at this
      simpa only [List.getElem_cons_succ] using this)⟩
def RStateSl (w : World) (B : Nat) (v : Value) (l : List RState) : Prop :=
  ∃ ao cap, v = .slice ao l.length cap ∧ l.length ≤ cap ∧ l.length ≤ 4294967296 ∧ (l ≠ [] → ∃ b o, ao = some ⟨b, o, none⟩ ∧ b < B ∧ RStates w b o l)
theorem RStateSl.carry {w w' : World} {B : Nat} {v : Value} {l : List RState} (h : RStateSl w B v l) (hb : Below B w w') : RStateSl w' B v l := by
  obtain ⟨ao, cap, h1, h2, h3, h4⟩ := h
  refine ⟨ao, cap, h1, h2, h3, fun hne => ?_⟩
  obtain ⟨b, o, e, hlt, hr⟩ := h4 hne
  exact ⟨b, o, e, hlt, hr.carry hlt hb⟩
theorem RStateSl.up {w : World} {B B' : Nat} {v : Value} {l : List RState} (h : RStateSl w B v l) (hB : B ≤ B') : RStateSl w B' v l := by
  obtain ⟨ao, cap, h1, h2, h3, h4⟩ := h
  refine ⟨ao, cap, h1, h2, h3, fun hne => ?_⟩
  obtain ⟨b, o, e, hlt, hr⟩ := h4 hne
  exact ⟨b, o, e, by omega, hr⟩
theorem RStateAt.block {w w' : World} {b o : Nat} {x : RState} (h : RStateAt w b o x) (hb : w'.heap[b]? = w.heap[b]?) : RStateAt w' b o x := by
  obtain ⟨h0, h1⟩ := h
  exact ⟨(World.cell?_of_block (a := ⟨b, _, none⟩) hb).trans h0, (World.cell?_of_block (a := ⟨b, _, none⟩) hb).trans h1⟩
theorem RStates.block {w w' : World} {b : Nat} (hb : w'.heap[b]? = w.heap[b]?) : ∀ {l : List RState} {o : Nat}, RStates w b o l → RStates w' b o l
  | [], _, _ => trivial
  | _ :: _, _, h => ⟨h.1.block hb, RStates.block hb h.2⟩
theorem RStateSl.keep {w w' : World} {B B' : Nat} {v : Value} {l : List RState} (h : RStateSl w B v l) (hB : B ≤ B') (hk : ∀ b, v.ownBlock = some b → b < B → w'.heap[b]? = w.heap[b]?) : RStateSl w' B' v l := by
  obtain ⟨ao, cap, rfl, h2, h3, h4⟩ := h
  refine ⟨ao, cap, rfl, h2, h3, fun hne => ?_⟩
  obtain ⟨b, o, rfl, hlt, hr⟩ := h4 hne
  exact ⟨b, o, rfl, by omega, hr.block (hk b rfl hlt)⟩
theorem RStateSl.lenm {w : World} {B : Nat} {v : Value} {l : List RState} (h : RStateSl w B v l) : l.length ≤ 4294967296 := by
  obtain ⟨ao, cap, _, h1, h2, _⟩ := h
  omega

theorem Tryz.infoRState : (Tryz.prog.info? 103).map (fun i => (i.zero, i.size, i.bytes)) = some (some (.agg #[.int .i64 0, .string ByteArray.empty]), 2, 24) := by kernel_rfl

end Go.Proofs.YtaaeledleldllaaGreat
namespace Go.Proofs.YtaaeledleldllaaGreat
open Go.RowKit

def digF : Nat → Nat → ByteArray → ByteArray
  | 0, _, out => out
  | f + 1, k, out => if k = 0 then out else digF f (k / 10) (ByteArray.mk #[UInt8.ofNat (48 + k % 10)] ++ out)
def markT (k : Nat) : ByteArray := ByteArray.mk #[109] ++ digF 7 k ByteArray.empty

def digit (j : Nat) : UInt8 := UInt8.ofNat (48 + j % 10)
theorem conv_digit (j : Nat) (W : World) :
    (convert 146 9 (.slice (some ⟨W.heap.size, 0, none⟩) 1 1)).run Tryz.prog (W.alloc (.cells #[.int .u8 (48 + (j : Int) % 10)] 5)) = .ok (.string ⟨[digit j].toArray⟩) (W.alloc (.cells #[.int .u8 (48 + (j : Int) % 10)] 5)) := by
  refine run_convert_bytes_back (P := Tryz.prog) _ 146 9 5 ⟨W.heap.size, 0, none⟩ 1 [digit j] Tryz.underlying146 Tryz.underlying5 Tryz.underlying9 (fun i hi => ?_)
  match i, hi with
  | 0, _ =>
    have e : ((digit j).toNat : Int) = 48 + (j : Int) % 10 := by
      have : (digit j).toNat = 48 + j % 10 := by
        rw [digit, UInt8.toNat_ofNat']
        omega
      omega
    simp [Addr.add, e]
theorem dig_next (f j : Nat) (o : ByteArray) (h : 0 < j) : digF (f + 1) j o = digF f (j / 10) (ByteArray.mk [digit j].toArray ++ o) := by
  rw [digF, if_neg (by omega)]; rfl
theorem dig_zero (f : Nat) (o : ByteArray) : digF f 0 o = o := by
  cases f <;> simp [digF]

set_option maxRecDepth 100000 in
set_option maxHeartbeats 1000000 in
theorem mark_text (k : Nat) (w : World) (h1 : 1 ≤ k) (hk : k < 6000001) :
    Calls Tryz.prog 55 #[.int .i64 k] w fun e w' => e = .returned (.string (markT k)) ∧ Below w.heap.size w w' := by
  go_enter Tryz.func55, Tryz.ntmps55
  go_wp2_with fail
  go_loopw [0, 3] (fun kv out wr => ∃ (f j : Nat) (o : ByteArray), kv = .int .i64 j ∧ out = .string o ∧ j < 10 ^ f ∧ f ≤ 7 ∧ o.size ≤ 7 - f ∧ digF f j o = digF 7 k ByteArray.empty ∧ Below w.heap.size w wr)
    (fun kv _ _ => (intOf kv).toNat)
  case atStart => exact ⟨7, k, ByteArray.empty, rfl, rfl, by omega, Nat.le_refl _, Nat.le_refl _, rfl, Below.refl _ _⟩
  case round =>
    obtain ⟨f, j, o, rfl, rfl, hj, hf, hos, hd, hbel⟩ := hrel
    have HD := hide hd
    have HBEL := hide hbel
    have hszr := hbel.size
    have HJ := hide hj
    clear hd hbel hj
    by_cases hz : j = 0
    · subst hz
      have HO := hide (show digF 7 k ByteArray.empty = o by rw [← HD.out, dig_zero])
      have hos2 : o.size ≤ 7 := by omega
      go_wp2_with fail
      go_ret
      refine ⟨ret_str ?_, HBEL.out⟩
      rw [markT, HO.out]
    · have hpos : 0 < j := by omega
      have HP := hide hpos
      have hj12 : j < 10000000 := Nat.lt_of_lt_of_le HJ.out (Nat.le_trans (Nat.pow_le_pow_right (by omega) hf) (by decide))
      have hcv := conv_digit j wr
      have hos2 : o.size ≤ 7 := by omega
      obtain ⟨f', rfl⟩ : ∃ f', f = f' + 1 := ⟨f - 1, by
        rcases Nat.eq_zero_or_pos f with h | h
        · have := HJ.out; rw [h] at this; omega
        · omega⟩
      have hdsz : ByteArray.size ⟨[digit j].toArray⟩ = 1 := rfl
      clear hz
      go_wp2_with fail
      go_roundw
      case rel =>
        refine ⟨f', j / 10, _, by go_num, rfl, ?_, by omega, ?_, ?_, HBEL.out.trans ((malloc1 _ _).mono hszr)⟩
        · have := HJ.out
          rw [Nat.pow_succ] at this
          omega
        · rw [ByteArray.size_append, hdsz]; omega
        · rw [← HD.out, dig_next f' j o HP.out]
      case measure => simp [intOf]; omega
theorem mark_text_at (k : Nat) (z : Int) (w : World) (hz : z = k) (h1 : 1 ≤ k) (hk : k < 6000001) :
    Calls Tryz.prog 55 #[.int .i64 z] w fun e w' => e = .returned (.string (markT k)) ∧ Below w.heap.size w w' := by
  subst hz
  exact mark_text k w h1 hk

theorem grown_below {w wr w1 : World} {row : Option Nat} (hg : w.grownBy wr row) (hb : Below wr.heap.size wr w1) : w.grownBy w1 row :=
  ⟨hb.os.trans hg.os, hb.tape.trans hg.tape, hb.output.trans hg.output, Nat.le_trans hg.size hb.size, fun k hk hne => (hb.block k (Nat.lt_of_lt_of_le hk hg.size)).trans (hg.block k hk hne)⟩
theorem grown_set {w wr : World} {g : Nat} (hg : w.grownBy wr (some g)) (o : Nat) (x : Value) : w.grownBy (wr.setCell ⟨g, o, none⟩ x) (some g) :=
  ⟨hg.os, hg.tape, hg.output, by simp; exact hg.size, fun k hk hne => (Below.heap_setCell wr ⟨g, o, none⟩ x k (fun h => hne (by rw [h]))).trans (hg.block k hk hne)⟩
theorem grown_refl (w : World) (row : Option Nat) : w.grownBy w row := ⟨rfl, rfl, rfl, Nat.le_refl _, fun _ _ _ => rfl⟩
end Go.Proofs.YtaaeledleldllaaGreat
namespace Go.Proofs.YtaaeledleldllaaGreat
open Go.RowKit

theorem ms_is (n lo hi : Int) (w : World) :
    Calls Tryz.prog 82 #[.int .i64 n, .int .i64 lo, .int .i64 hi] w fun e w' => e = .returned (.bool (decide (lo ≤ n) && decide (n ≤ hi))) ∧ w' = w := by
  by_cases h : lo ≤ n
  all_goals
    go_enter Tryz.func82, Tryz.ntmps82
    go_wp2_with fail
    go_ret
    refine ⟨ret_bool ?_, rfl⟩
    simp [*]
    try omega
end Go.Proofs.YtaaeledleldllaaGreat
namespace Go.Proofs.YtaaeledleldllaaGreat
open Go.RowKit Go.ChangeShapes Go.WideShapes

theorem Tryz.ocI : Tryz.prog.cellsOf 2 = 1 := by kernel_rfl
theorem Tryz.ocS : Tryz.prog.cellsOf 9 = 1 := by kernel_rfl
end Go.Proofs.YtaaeledleldllaaGreat
