/- The smaller ones of a tape. -/
import Derived.Test.YtehodjfgojcnlaaTlI
import Derived.Test.YtehodjfgojcnlaaNeu
import Derived.Test.YtehodjfgojcnlaaStrRow
import Derived.Lib.AppendZeros
import Derived.Lib.SliceRun
import Derived.Laws.AppendOwnNone
namespace Go.Proofs.Ytehodjfgojcnlaa
open Go.RowKit

/-- a tape with these numbers in the place of the one that stands there -/
def turnT (t : List Int) (i : Nat) (ins : List Int) : List Int := t.take i ++ (ins ++ t.drop (i + 1))
/-- what a pass puts instead of a number; none: nothing -/
def pickP : Nat → Int → Option (List Int)
  | 0, x => if -1 < x then some [] else none
  | 1, x => if 0 < x then some [0] else none
  | 2, x => if 1 < x then some [x / 2] else none
  | 3, x => if 2 < x then some [x - 1] else none
  | _, _ => none
def oneP (n : Nat) (t : List Int) (i : Nat) : List (List Int) := match t[i]? with
  | none => []
  | some x => match pickP n x with
    | none => []
    | some ins => [turnT t i ins]
def passTo (n : Nat) (t : List Int) (k : Nat) : List (List Int) := (List.range k).flatMap (oneP n t)
def smallTo (t : List Int) (n : Nat) : List (List Int) := (List.range n).flatMap (fun p => passTo p t t.length)
def smallB (t : List Int) : List (List Int) := if tapeB t then smallTo t 4 else []
theorem pass_succ (n : Nat) (t : List Int) (k : Nat) : passTo n t (k + 1) = passTo n t k ++ oneP n t k := by
  unfold passTo
  rw [List.range_succ, List.flatMap_append]
  simp
theorem small_succ (t : List Int) (n : Nat) : smallTo t (n + 1) = smallTo t n ++ passTo n t t.length := by
  unfold smallTo
  rw [List.range_succ, List.flatMap_append]
  simp
theorem one_len (n : Nat) (t : List Int) (i : Nat) : (oneP n t i).length ≤ 1 := by
  unfold oneP
  split
  · simp
  · split <;> simp
theorem pass_len (n : Nat) (t : List Int) : ∀ k : Nat, (passTo n t k).length ≤ k
  | 0 => by simp [passTo]
  | k + 1 => by rw [pass_succ, List.length_append]; have := pass_len n t k; have := one_len n t k; omega
theorem small_len (t : List Int) : ∀ n : Nat, (smallTo t n).length ≤ n * t.length
  | 0 => by simp [smallTo]
  | n + 1 => by rw [small_succ, List.length_append, Nat.add_mul]; have := small_len t n; have := pass_len n t t.length; omega
theorem pick_len {n : Nat} {x : Int} {ins : List Int} (h : pickP n x = some ins) : ins.length ≤ 1 := by
  match n, h with
  | 0, h => rw [pickP] at h; split at h; (injection h with h; subst h; simp); cases h
  | 1, h => rw [pickP] at h; split at h; (injection h with h; subst h; simp); cases h
  | 2, h => rw [pickP] at h; split at h; (injection h with h; subst h; simp); cases h
  | 3, h => rw [pickP] at h; split at h; (injection h with h; subst h; simp); cases h
  | n + 4, h => cases h
/-- numbers of a call's own -/
def numV (l : List Int) : List Value := l.map fun z => .int .i64 z
def NumOwn (w : World) (base : Nat) (v : Value) (l : List Int) : Prop := w.ownsRow base 2 1 v l.length (numV l)
theorem numV_get {l : List Int} {j : Nat} {u : Value} (h : (numV l)[j]? = some u) : ∃ hj : j < l.length, u = .int .i64 l[j] := by
  unfold numV at h
  rw [List.getElem?_map] at h
  cases hx : l[j]? with
  | none => rw [hx] at h; cases h
  | some x =>
    rw [hx] at h
    simp only [Option.map_some, Option.some.injEq] at h
    obtain ⟨hj, he⟩ := List.getElem?_eq_some_iff.1 hx
    exact ⟨hj, by rw [he]; exact h.symm⟩
theorem numV_at {l : List Int} {j : Nat} (hj : j < l.length) : (numV l)[j]? = some (.int .i64 l[j]) := by
  unfold numV
  rw [List.getElem?_map, List.getElem?_eq_getElem hj]
  rfl
theorem numV_one (l : List Int) : ∀ u ∈ numV l, u.oneCell' = true := by
  intro u hu
  obtain ⟨z, _, rfl⟩ := List.mem_map.1 hu
  rfl
theorem numV_app (l r : List Int) : numV (l ++ r) = numV l ++ numV r := List.map_append
theorem numV_len (l : List Int) : (numV l).length = l.length * 1 := by unfold numV; rw [List.length_map, Nat.mul_one]
/-- a slice of numbers that is read: none, or where it lies -/
def SrcAt (w : World) (B : Nat) (u : Value) (l : List Int) : Prop := (u = .slice none 0 0 ∧ l = []) ∨ ∃ b o c, u = .slice (some ⟨b, o, none⟩) l.length c ∧ b < B ∧ Nums w b o l
theorem SrcAt.carry {w w' : World} {B : Nat} {u : Value} {l : List Int} (h : SrcAt w B u l) (hb : Below B w w') : SrcAt w' B u l := by
  rcases h with h | ⟨b, o, c, e, hlt, hn⟩
  · exact .inl h
  · exact .inr ⟨b, o, c, e, hlt, hn.carry hlt hb⟩
theorem SrcAt.up {w : World} {B B' : Nat} {u : Value} {l : List Int} (h : SrcAt w B u l) (hB : B ≤ B') : SrcAt w B' u l := by
  rcases h with h | ⟨b, o, c, e, hlt, hn⟩
  · exact .inl h
  · exact .inr ⟨b, o, c, e, Nat.lt_of_lt_of_le hlt hB, hn⟩
theorem NumOwn.src {w : World} {base : Nat} {v : Value} {l : List Int} (h : NumOwn w base v l) : SrcAt w w.heap.size v l := by
  have H := h
  rcases h.2 with ⟨rfl, h0⟩ | ⟨g, cap, cur, rfl, hg, hblk, hc, hm, _⟩
  · exact .inl ⟨rfl, List.length_eq_zero_iff.1 h0⟩
  · refine .inr ⟨g, 0, cap, rfl, (Array.getElem?_eq_some_iff.1 hblk).1, fun j hj => ?_⟩
    rw [Nat.zero_add]
    exact owns_cell H rfl j _ (numV_at hj)
end Go.Proofs.Ytehodjfgojcnlaa
