/- l02Text: at every right beginning. -/
import Derived.Test.YtdaljjpbfogniaaDoorICases
import Derived.Test.YtdaljjpbfogniaaDoorKids
import Derived.Test.YtdaljjpbfogniaaDoorSteps
import Derived.Laws.Concat
namespace Go.Proofs.YtdaljjpbfogniaaDoor
open Go.RowKit

theorem s_sortText (n : Int) (w : World) (h0 : 0 ≤ n) (h2 : n ≤ 2) :
    Calls Tryd.prog 53 #[.int .i64 n] w fun e w' => e = .returned (.string (sortT n)) ∧ Below w.heap.size w w' := by
  rcases (show n = 0 ∨ n = 1 ∨ n = 2 by omega) with h | h | h
  all_goals
    subst h
    go_enter Tryd.func53, Tryd.ntmps53
    go_wp2_with fail
    go_ret
    exact ⟨ret_str rfl, alloc1 _ _⟩

/-- a row in memory, as a slice's value -/
def ArrAt (w : World) (v : Value) (all : List Nd) : Prop :=
  ∃ b o cap, v = .slice (some ⟨b, o, none⟩) all.length cap ∧ all.length ≤ cap ∧ all.length ≤ 4294967296 ∧ RowAt w b o all ∧ b < w.heap.size
theorem ArrAt.carry {w w' : World} {v : Value} {all : List Nd} (h : ArrAt w v all) (hb : Below w.heap.size w w') : ArrAt w' v all := by
  obtain ⟨b, o, cap, e, h1, h2, h3, h4⟩ := h
  exact ⟨b, o, cap, e, h1, h2, h3.carry h4 hb, Nat.lt_of_lt_of_le h4 hb.size⟩

theorem joinC_snoc : ∀ {acc : List ByteArray} {x : ByteArray}, acc ≠ [] → joinC (acc ++ [x]) = joinC acc ++ ba [44] ++ x
  | [], _, h => absurd rfl h
  | [t], x, _ => rfl
  | t :: u :: ts, x, _ => by
    have ih := joinC_snoc (acc := u :: ts) (x := x) (by simp)
    rw [joinC, List.cons_append, List.cons_append, joinC]
    rw [← List.cons_append, ih]
    apply ba_ext
    simp
theorem step_concat {P : Program} {ops : Array Oper} {o : Oper} {a : Act} {w : World} {K : Act → World → Prop} {Q : Exit → Act → World → Prop} {E : Prop}
    (hg : o.guard = none) (x y : Operand) (ty tz : TypeId) (hop : o.op = Op.binOp BinOp.add ty x y tz) (s t : ByteArray) (hx : a.eval x = .string s) (hy : a.eval y = .string t) (hb : s.size + t.size ≤ 100000)
    (hK : K (a.put o.dst (.string (s ++ t))) w) :
    if Region.wanted o (yielded ops a.tmps) = true then Oper.wp P o a w K Q else E := by
  have hw : Region.wanted o (yielded ops a.tmps) = true := by simp [Region.wanted, hg]
  rw [if_pos hw]
  unfold Oper.wp
  have hr := run_string_add_sum (P := P) w s t (by omega)
  have he : (eqGuard BinOp.add ty x y (.string s) (.string t)).run P w = .ok () w := by simp [eqGuard]
  simp [execOp, hop, hx, hy, Go.binOp, Result.andThen]
  rw [he]
  simp only [hr]
  exact hK

def STextCalls (part : Bool) (f : Nat) : Prop := ∀ (st all r : List Nd) (pos : Nat) (a : Int) (v : Value) (w : World), st.length + f = 10 → StW st → a = pos → pos ≤ all.length → all.length ≤ 40 → ahead (talkS part) f st (all.drop pos) = some r → ArrAt w v all →
  Calls Tryd.prog 37 #[v, .int .i64 a] w fun e w' => e = .returned (.tuple #[.string (textF f (all.drop pos)).1, .int .i64 ((all.length - r.length : Nat) : Int)]) ∧ Below w.heap.size w w'

end Go.Proofs.YtdaljjpbfogniaaDoor
