/- What holds of memory, whatever the program's functions: new blocks, rows of one's own; names kept apart from those of the texts on plans. -/
import Derived.Test.YtonafcifolddjaaGreatDoorRows
import Derived.Test.YtonafcifolddjaaGreatDoorQB00
import Derived.Deep.RegionWith
import Derived.Deep.LoopGhost
import Derived.Laws.Rows
import Derived.Laws.MakeOwn
import Derived.Deep.Slices
import Derived.ChangeArms
import Derived.ChangeSame
import Derived.BigQuiet
import Derived.Below
import Derived.WalkKit
import Derived.WalkSpells
import Derived.WalkLawsBesides
namespace Go.Proofs.YtonafcifolddjaaGreatDoor
open Go.RowKit

theorem malloc1 (w : World) (o : Obj) : Below w.heap.size w (w.alloc o) := (Below.refl _ _).alloc (Nat.le_refl _) o
theorem mheap_new (W : World) (o : Obj) (k : Nat) (h : k = W.heap.size) : (W.alloc o).heap[k]? = some o := by
  subst h; show (W.heap.push o)[W.heap.size]? = _; simp
theorem mheap_old (W : World) (o : Obj) (k : Nat) (h : k < W.heap.size) : (W.alloc o).heap[k]? = W.heap[k]? := Below.heap_alloc W o k h
/-- what a slice lies in is new, and may be written to -/
structure MOwn (B : Nat) (w : World) (v : Value) : Prop where
  free : ∀ b, v.ownBlock = some b → B ≤ b ∧ b < w.heap.size ∧ ∀ j, w.frozen? ⟨b, j, none⟩ = false
theorem MOwn.carry {B : Nat} {w w' : World} {v : Value} (h : MOwn B w v) (hb : Below w.heap.size w w') : MOwn B w' v :=
  ⟨fun b e => ⟨(h.free b e).1, Nat.lt_of_lt_of_le (h.free b e).2.1 hb.size, fun j => (hb.frozen (p := ⟨b, j, none⟩) (h.free b e).2.1).trans ((h.free b e).2.2 j)⟩⟩
theorem m_one_of {α : Type} {l : List α} {j : Nat} {v : α} (h : (l.drop j).take 1 = [v]) : l[j]? = some v := by
  have h1 : ((l.drop j).take 1)[0]? = some v := by rw [h]; rfl
  rw [List.getElem?_take, if_pos (by omega), List.getElem?_drop] at h1
  simpa using h1
end Go.Proofs.YtonafcifolddjaaGreatDoor
/- A region that draws its order, whose operations read and whose callees only make new memory: one walk in the order of the text. -/
namespace Go.Proofs.YtonafcifolddjaaGreatDoor
open Go.RowKit

/-- a world that has grown out of w -/
structure Grown (w : World) where
  val : World
  bel : Below w.heap.size w val
theorem grown_some (w : World) : Nonempty (Grown w) := ⟨⟨w, Below.refl _ _⟩⟩
theorem Grown.cell {w : World} (g : Grown w) {p : Addr} (h : p.block < w.heap.size) : g.val.cell? p = w.cell? p := g.bel.cell h
theorem grown_cell {w : World} {b o : Nat} {v : Value} (h : w.cell? ⟨b, o, none⟩ = some v) : ∀ g : Grown w, g.val.cell? ⟨b, o, none⟩ = some v :=
  fun g => (g.bel.cell (p := ⟨b, o, none⟩) (World.block_lt_of_cell? w _ h)).trans h
theorem wp_region_grown {P : Program} {id : Nat} {Q : Exit → Act → World → Prop} {a : Act} {w : World} {l : List Oper} (hm : P.follows .mixedOrders = true) (hB : Region.lexB .any l.toArray = true)
    (h : ∀ W, W = w → wpQuiet P l.toArray (fun w' => ∃ g : Grown W, w' = g.val) (fun a' => ∀ w', Below W.heap.size W w' → Q .normal a' w') l a) : (Code.region id l.toArray true).wp P Q a w := by
  refine wp_region_quiet (C := fun w' => ∃ g : Grown w, w' = g.val) hm hB ⟨⟨_, (Below.refl _ _).drew⟩, rfl⟩ ?_
  have h0 := h w rfl
  have e : (fun a' => ∀ w', (∃ g : Grown w, w' = g.val) → Q .normal a' w') = (fun a' => ∀ w', Below w.heap.size w w' → Q .normal a' w') := by
    funext a'
    refine propext ⟨fun h w' hb => h w' ⟨⟨w', hb⟩, rfl⟩, fun h w' ⟨g, hg⟩ => ?_⟩
    rw [hg]; exact h _ g.bel
  rw [e]
  simpa using h0
theorem wpList_quiet {P : Program} {ops : Array Oper} {C : World → Prop} {Q : Exit → Act → World → Prop} : ∀ (l : List Oper) (a : Act) (w : World), C w → wpQuiet P ops C (fun a' => ∀ w', C w' → Q .normal a' w') l a → wpList P ops Q l a w
  | [], _, w, hw, h => h w hw
  | o :: rest, a, w, hw, h => by
    unfold wpList
    unfold wpQuiet at h
    split
    · rename_i hwant
      rw [if_pos hwant] at h
      exact .inl (Oper.wp_of_quiet hw (fun a' w' hw' h' => wpList_quiet rest a' w' hw' h') h)
    · rename_i hwant
      rw [if_neg hwant] at h
      exact wpList_quiet rest _ w hw h
/-- the same for a region in the order of the text -/
theorem wp_region_text {P : Program} {id : Nat} {Q : Exit → Act → World → Prop} {a : Act} {w : World} {l : List Oper}
    (h : ∀ W, W = w → wpQuiet P l.toArray (fun w' => ∃ g : Grown W, w' = g.val) (fun a' => ∀ w', Below W.heap.size W w' → Q .normal a' w') l a) : (Code.region id l.toArray false).wp P Q a w := by
  refine wp_region_lit (wpList_quiet (C := fun w' => ∃ g : Grown w, w' = g.val) _ _ _ ⟨⟨w, Below.refl _ _⟩, rfl⟩ ?_)
  have h0 := h w rfl
  have e : (fun a' => ∀ w', (∃ g : Grown w, w' = g.val) → Q .normal a' w') = (fun a' => ∀ w', Below w.heap.size w w' → Q .normal a' w') := by
    funext a'
    refine propext ⟨fun h w' hb => h w' ⟨⟨w', hb⟩, rfl⟩, fun h w' ⟨g, hg⟩ => ?_⟩
    rw [hg]; exact h _ g.bel
  rw [e]
  exact h0
/-- the same from the operation on that writes the slot d -/
theorem wp_text_from (d : Nat) {P : Program} {ops : Array Oper} {Q : Exit → Act → World → Prop} {a : Act} {w : World} {op : Op} {ty : TypeId} {pos : String} {af : Array Edge} {gu : Option (Nat × Bool)} {rest : List Oper}
    (h : ∀ W, W = w → wpQuiet P ops (fun w' => ∃ g : Grown W, w' = g.val) (fun a' => ∀ w', Below W.heap.size W w' → Q .normal a' w') (⟨some d, op, ty, pos, af, gu⟩ :: rest) a) : wpList P ops Q (⟨some d, op, ty, pos, af, gu⟩ :: rest) a w := by
  refine wpList_quiet (C := fun w' => ∃ g : Grown w, w' = g.val) _ _ _ ⟨⟨w, Below.refl _ _⟩, rfl⟩ ?_
  have h0 := h w rfl
  have e : (fun a' => ∀ w', (∃ g : Grown w, w' = g.val) → Q .normal a' w') = (fun a' => ∀ w', Below w.heap.size w w' → Q .normal a' w') := by
    funext a'
    refine propext ⟨fun h w' hb => h w' ⟨⟨w', hb⟩, rfl⟩, fun h w' ⟨g, hg⟩ => ?_⟩
    rw [hg]; exact h _ g.bel
  rw [e]
  exact h0
theorem grown_same {P : Program} {f : FuncId} {args : Array Value} {w : World} {g : Grown w} {v : Value}
    (h : Calls P f args g.val fun e w' => e = .returned v ∧ w' = g.val) : Calls P f args g.val fun e w'' => e = .returned v ∧ ∃ g' : Grown w, w'' = g'.val :=
  h.mono fun _ _ ⟨he, hm⟩ => ⟨he, g, hm⟩
theorem grown_more {P : Program} {f : FuncId} {args : Array Value} {w : World} {g : Grown w} {v : Value}
    (h : Calls P f args g.val fun e w' => e = .returned v ∧ Below g.val.heap.size g.val w') : Calls P f args g.val fun e w'' => e = .returned v ∧ ∃ g' : Grown w, w'' = g'.val :=
  h.mono fun _ w' ⟨he, hm⟩ => ⟨he, ⟨w', g.bel.trans (hm.mono g.bel.size)⟩, rfl⟩
end Go.Proofs.YtonafcifolddjaaGreatDoor
/- Numbers in bytes: the plain part: digits of seven bits, how many there are, the folded sign. -/
namespace Go.Proofs.YtonafcifolddjaaGreatDoor
open Go.RowKit

/-- A number that fits in 64 bits (kept behind a name). -/
def U64b (v : Nat) : Prop := v < 18446744073709551616
theorem U64b.lt {v : Nat} (h : U64b v) : v < 18446744073709551616 := h

def dig (u i : Nat) : UInt8 := UInt8.ofNat (u / 128 ^ i % 128 + 128)
def lastB (u k : Nat) : UInt8 := UInt8.ofNat (u / 128 ^ k)
def cnt : Nat → Nat → Nat
  | 0, _ => 0
  | f + 1, u => if u < 128 then 0 else cnt f (u / 128) + 1
def putL (u : Nat) : List UInt8 := (List.range (cnt 9 u)).map (dig u) ++ [lastB u (cnt 9 u)]
def foldN (n : Int) : Nat := if n < 0 then (-2 * n - 1).toNat else (2 * n).toNat
def putS (n : Int) : ByteArray := ⟨(putL (foldN n)).toArray⟩

theorem div_pow_succ (u k : Nat) : u / 128 ^ (k + 1) = u / 128 ^ k / 128 := by
  rw [Nat.pow_succ, Nat.div_div_eq_div_mul]
theorem div_pow_succ' (u k : Nat) : u / 128 ^ (k + 1) = u / 128 / 128 ^ k := by
  rw [Nat.pow_succ, Nat.mul_comm, Nat.div_div_eq_div_mul]

theorem cnt_eq : ∀ (f u k : Nat), k ≤ f → (∀ i, i < k → 128 ≤ u / 128 ^ i) → (u / 128 ^ k < 128 ∨ k = f) → cnt f u = k := by
  intro f
  induction f with
  | zero => intro u k h _ _; simp [cnt]; omega
  | succ f ih =>
    intro u k hk h1 h2
    unfold cnt
    cases k with
    | zero =>
      have : u < 128 := by simpa using h2
      simp [this]
    | succ k =>
      have h0 := h1 0 (by omega)
      simp at h0
      rw [if_neg (by omega), ih (u / 128) k (by omega) (fun i hi => by rw [← div_pow_succ']; exact h1 (i + 1) (by omega)) (by rw [← div_pow_succ']; omega)]

theorem foldN_u64 {n : Int} (h0 : -9223372036854775808 ≤ n) (h1 : n ≤ 9223372036854775807) : U64b (foldN n) := by
  unfold U64b foldN; split <;> omega

theorem div_pow_lt {u : Nat} (h : U64b u) : u / 128 ^ 9 < 128 := by
  have := h.lt
  have e : (128 : Nat) ^ 9 = 9223372036854775808 := by decide
  rw [e]; omega

theorem U64b.div {u : Nat} (h : U64b u) (k : Nat) : U64b (u / 128 ^ k) := Nat.lt_of_le_of_lt (Nat.div_le_self _ _) h

theorem and_127 (v : Nat) (h : U64b v) : bits .and .u64 (v : Int) 127 = ((v % 128 : Nat) : Int) := by
  rw [show (127 : Int) = ((127 : Nat) : Int) from rfl, bits_and_u64_nat v 127 h.lt (by decide)]
  rw [show v &&& 127 = v % 128 from Nat.and_two_pow_sub_one_eq_mod v 7]
theorem more_byte (v : Nat) (h : U64b v) : bits .or .u8 (bits .and .u64 (v : Int) 127 % 256) 128 = ((v % 128 + 128 : Nat) : Int) := by
  rw [and_127 v h, show ((v % 128 : Nat) : Int) % 256 = ((v % 128 : Nat) : Int) from by omega, u8_or128_right _ (by omega) (by omega)]
  omega
theorem not_u64 (x : Nat) (h : x < 18446744073709551616) : bits .xor .u64 IntKind.u64.max (x : Int) = 18446744073709551615 - (x : Int) := by
  have e : (BitVec.ofInt 64 IntKind.u64.max ^^^ BitVec.ofInt 64 (x : Int)) = ~~~ (BitVec.ofNat 64 x) := by
    rw [show BitVec.ofInt 64 IntKind.u64.max = BitVec.allOnes 64 from by decide]
    rw [show BitVec.ofInt 64 (x : Int) = BitVec.ofNat 64 x from by simp]
    exact BitVec.allOnes_xor
  show IntKind.u64.wrap ((BitVec.ofInt 64 IntKind.u64.max ^^^ BitVec.ofInt 64 (x : Int)).toNat : Nat) = _
  rw [e, BitVec.toNat_not, BitVec.toNat_ofNat, IntKind.wrap_u64]
  omega
theorem fold_neg {n : Int} (h : n < 0) (h0 : -9223372036854775808 ≤ n) :
    bits .xor .u64 IntKind.u64.max (IntKind.u64.wrap (IntKind.u64.wrap n * 2)) = (foldN n : Int) := by
  have e : IntKind.u64.wrap (IntKind.u64.wrap n * 2) = (((2 * n + 18446744073709551616).toNat : Nat) : Int) := by
    rw [IntKind.wrap_u64, IntKind.wrap_u64]; omega
  rw [e, not_u64 _ (by omega)]
  unfold foldN
  rw [if_pos h]; omega
theorem foldN_neg {n : Int} (h : n < 0) : (foldN n : Int) = 2 * -(n + 1) + 1 := by
  unfold foldN; rw [if_pos h]; omega
theorem foldN_pos {n : Int} (h : ¬ n < 0) : (foldN n : Int) = 2 * n := by
  unfold foldN; rw [if_neg h]; omega
theorem foldN_pos' {n : Int} (h : ¬ n < 0) : (foldN n : Int) = n * 2 := by
  rw [foldN_pos h]; omega

theorem dig_toNat (u i : Nat) : ((dig u i).toNat : Int) = ((u / 128 ^ i % 128 + 128 : Nat) : Int) := by
  unfold dig; rw [UInt8.toNat_ofNat']
  omega
theorem lastB_toNat {u k : Nat} (h : u / 128 ^ k < 128) : ((lastB u k).toNat : Int) = ((u / 128 ^ k : Nat) : Int) := by
  unfold lastB
  generalize u / 128 ^ k = v at *
  rw [UInt8.toNat_ofNat']
  omega

/-- The bytes with k digits that go on. -/
def putK (u k : Nat) : List UInt8 := (List.range k).map (dig u) ++ [lastB u k]
theorem putK_length (u k : Nat) : (putK u k).length = k + 1 := by simp [putK]
theorem putK_lt {u k i : Nat} (h : i < k) : (putK u k)[i]? = some (dig u i) := by
  unfold putK
  rw [List.getElem?_append_left (by simpa using h)]
  simp [h]
theorem putK_last (u k : Nat) : (putK u k)[k]? = some (lastB u k) := by
  unfold putK
  rw [List.getElem?_append_right (by simp)]
  simp
theorem putL_eq {u k : Nat} (hk : k ≤ 9) (h1 : ∀ i, i < k → 128 ≤ u / 128 ^ i) (h2 : u / 128 ^ k < 128) : putL u = putK u k := by
  unfold putL putK
  rw [cnt_eq 9 u k hk h1 (.inl h2)]
theorem putL_length (u : Nat) : 1 ≤ (putL u).length ∧ (putL u).length ≤ 10 := by
  have : ∀ f u, cnt f u ≤ f := by
    intro f
    induction f with
    | zero => intro u; simp [cnt]
    | succ f ih => intro u; unfold cnt; split; omega; have := ih (u / 128); omega
  have := this 9 u
  simp [putL]; omega
end Go.Proofs.YtonafcifolddjaaGreatDoor
