/- FnNet: what its pieces share. -/
import Derived.Test.YtonafcifolddjaaGreatDoorQB40
import Derived.Test.YtonafcifolddjaaGreatDoorQB36
import Derived.Test.YtonafcifolddjaaGreatDoorQB24
import Derived.Test.YtonafcifolddjaaGreatDoorQB41
import Derived.Test.YtonafcifolddjaaGreatDoorQB43
import Derived.Test.YtonafcifolddjaaGreatDoorQB26
import Derived.Test.YtonafcifolddjaaGreatDoorQB27
import Derived.Deep.RegionHeld3
import Derived.Deep.RegionWith
import Derived.Deep.DeepCutAuto
namespace Go.Proofs.YtonafcifolddjaaGreatDoor
open Go.RowKit
set_option linter.unusedSimpArgs false
set_option linter.unusedVariables false
attribute [local go_sem ↓] Go.wp_at_zero Go.wp_at_succ

def regOf (k : Nat) : Code → Option Code
  | .region id ops d => if id == k then some (.region id ops d) else none
  | .seq a b => match regOf k a with
    | some c => some c
    | none => regOf k b
  | .cond _ a b => match regOf k a with
    | some c => some c
    | none => regOf k b
  | .block _ c => regOf k c
  | .loop c => regOf k c
  | .scope c => regOf k c
  | _ => none
/-- it goes on, and so -/
def OnlyN (K : Act → World → Prop) : Exit → Act → World → Prop
  | .normal, a, w => K a w
  | _, _, _ => False
theorem wp_only {P : Program} {c : Code} {Q : Exit → Act → World → Prop} {a : Act} {w : World} (h : c.wp P (OnlyN fun a' w' => Q .normal a' w') a w) : c.wp P Q a w :=
  Code.wp_mono (fun e a' w' h' => by cases e <;> first | exact h' | exact h'.elim) h
theorem bel_next {a b c : World} (h1 : Below a.heap.size a b) (h2 : Below b.heap.size b c) : Below a.heap.size a c := h1.trans (h2.mono h1.size)
/-- what stays readable from a world on -/
def Stays (w : World) (v : Value) (l : List RMsg) : Prop := ∀ W, Below w.heap.size w W → RMsgSl W W.heap.size v l
theorem stays {w : World} {v : Value} {l : List RMsg} (h : RMsgSl w w.heap.size v l) : Stays w v l := fun W hb => (h.carry hb).up hb.size
theorem Stays.go {w w' : World} {v : Value} {l : List RMsg} (h : Stays w v l) (hb : Below w.heap.size w w') : Stays w' v l := fun W hW => h W (bel_next hb hW)
theorem Stays.now {w : World} {v : Value} {l : List RMsg} (h : Stays w v l) : RMsgSl w w.heap.size v l := h w (Below.refl _ _)
theorem Stays.alloc {w : World} {v : Value} {l : List RMsg} (h : Stays w v l) (o : Obj) : Stays (w.alloc o) v l := h.go (malloc1 w o)
/-- the six cells of an answer, from a world on -/
def Box6 (w : World) (b : Nat) (v : Value) (M : RMsg) (C : Int) : Prop := ∀ W, Below w.heap.size w W → BoxAt W b v M C
theorem box6 (w : World) (v : Value) (M : RMsg) (C : Int) : Box6 (w.alloc (.cells #[v, .string M.frm, .string M.to, .string M.label, .int .i64 M.sort, .int .i64 C] 29)) w.heap.size v M C := fun W hb => (box_new w v M C).carry hb
theorem Box6.go {w w' : World} {b : Nat} {v : Value} {M : RMsg} {C : Int} (h : Box6 w b v M C) (hb : Below w.heap.size w w') : Box6 w' b v M C := fun W hW => h W (bel_next hb hW)
def Box4 (w : World) (b : Nat) (m : RMsg) : Prop := ∀ W, Below w.heap.size w W → RMsgAt W b 0 m
theorem box4 (w : World) (m : RMsg) : Box4 (w.alloc (.cells #[.string m.frm, .string m.to, .string m.label, .int .i64 m.sort] 25)) w.heap.size m := fun W hb => by
  refine RMsgAt.carry (w := w.alloc (.cells #[.string m.frm, .string m.to, .string m.label, .int .i64 m.sort] 25)) ⟨?_, ?_, ?_, ?_⟩ (B := (w.alloc (.cells #[.string m.frm, .string m.to, .string m.label, .int .i64 m.sort] 25)).heap.size) (by simp) hb <;> simp
theorem Box4.go {w w' : World} {b : Nat} {m : RMsg} (h : Box4 w b m) (hb : Below w.heap.size w w') : Box4 w' b m := fun W hW => h W (bel_next hb hW)
theorem neq_no {x z : Int} (h : x = z) (h0 : -100 ≤ z) (h1 : z ≤ 100) : Value.bool (x != IntKind.i64.wrap z) = .bool false := by
  rw [show IntKind.i64.wrap z = z from by rw [IntKind.wrap_i64]; omega, h]
  simp
theorem field_net (p : Option Addr) (n c : Nat) (M : RMsg) (C : Int) (W : World) : Sem.run Tryz.prog (Instr.field 29 (.agg #[.slice p n c, .string M.frm, .string M.to, .string M.label, .int .i64 M.sort, .int .i64 C]) 0) W = .ok (.slice p n c) W := by kernel_rfl
theorem ownS_shape {w : World} {lo : Nat} {v : Value} {l : List RMsg} (h : OwnS w lo v l) : ∃ p c, v = .slice p l.length c := h.1.shape
theorem doneR_mem {l : List RMsg} {a n : Int} (hl : 0 < l.length) {x : RMsg} (h : x ∈ doneR l a n) : x ∈ l := by
  have hf : faultK l n < l.length := Nat.mod_lt _ hl
  unfold doneR at h
  split at h
  · exact (List.eraseIdx_sublist _ _).subset h
  · split at h
    · rcases insL_mem h with h | rfl
      · exact h
      · rw [List.getD_eq_getElem?_getD, List.getElem?_eq_getElem hf]; exact List.getElem_mem hf
    · exact swapR_mem hf h
theorem fault_mem {l : List RMsg} {a n : Int} {x : RMsg} (h : x ∈ faultR l a n) : x ∈ l := by
  by_cases hw : faultW l a n = .normal
  · rw [faultR_yes hw] at h
    refine doneR_mem (Nat.pos_of_ne_zero fun h0 => ?_) h
    have hr : refuseW l (kindB a && timeB n) = .normal := Classical.byContradiction fun e => by rw [faultW_no e] at hw; exact e hw
    rw [faultW_yes hr, doneW, if_pos h0] at hw
    cases hw
  · rw [faultR_no hw] at h; cases h
theorem netL_ok (u : ByteArray) : ∀ x ∈ netL u, x.ok := fun x hx => by
  unfold netL at hx
  split at hx
  · cases hx
  · split at hx
    · obtain ⟨s, _, rfl⟩ := List.mem_map.1 hx
      exact unMsg_ok s
    · cases hx
end Go.Proofs.YtonafcifolddjaaGreatDoor
