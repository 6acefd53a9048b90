/- An answer that a law keeps in a variable of its own. -/
import Derived.Test.YtonafcifolddjaaDoorOutI
namespace Go.Proofs.YtonafcifolddjaaDoor
open Go.RowKit

def BoxAt (W : World) (b : Nat) (sv : Value) (M : RMsg) (C : Int) : Prop := W.cell? ⟨b, 0, none⟩ = some sv ∧ W.cell? ⟨b, 1, none⟩ = some (.string M.frm) ∧ W.cell? ⟨b, 2, none⟩ = some (.string M.to) ∧ W.cell? ⟨b, 3, none⟩ = some (.string M.label) ∧ W.cell? ⟨b, 4, none⟩ = some (.int .i64 M.sort) ∧ W.cell? ⟨b, 5, none⟩ = some (.int .i64 C)
theorem box_new (w : World) (sv : Value) (M : RMsg) (C : Int) : BoxAt (w.alloc (.cells #[sv, .string M.frm, .string M.to, .string M.label, .int .i64 M.sort, .int .i64 C] 30)) w.heap.size sv M C := by
  refine ⟨?_, ?_, ?_, ?_, ?_, ?_⟩ <;> simp
theorem BoxAt.keep {W W' : World} {b : Nat} {sv : Value} {M : RMsg} {C : Int} {l : List Nat} (h : BoxAt W b sv M C) (ha : Apart W W' l) (hn : b ∉ l) : BoxAt W' b sv M C := by
  obtain ⟨h0, h1, h2, h3, h4, h5⟩ := h
  exact ⟨ha.cellN h0 hn, ha.cellN h1 hn, ha.cellN h2 hn, ha.cellN h3 hn, ha.cellN h4 hn, ha.cellN h5 hn⟩
theorem BoxAt.carry {W W' : World} {b : Nat} {sv : Value} {M : RMsg} {C : Int} (h : BoxAt W b sv M C) (hb : Below W.heap.size W W') : BoxAt W' b sv M C := h.keep (below_apart hb) (by simp)
theorem BoxAt.lt {W : World} {b : Nat} {sv : Value} {M : RMsg} {C : Int} (h : BoxAt W b sv M C) : b < W.heap.size := World.block_lt_of_cell? W _ h.1
theorem below_markM {B : Nat} {w0 w1 w2 : World} {v : Value} {lo : Nat} (h1 : Below B w0 w1) (ha : Apart w1 w2 (vblocks v)) (hf : Fresh lo w1 v) (hl : B ≤ lo) (hB : B ≤ w0.heap.size) : Below B w0 w2 :=
  h1.trans (ha.below (Nat.le_trans hB h1.size) (fun b hb => Nat.le_trans hl (hf.lo b hb)))
theorem out_mark (k0 : Nat) (ns : List RMsg) (M : RMsg) (C : Int) (p : Option Addr) (n c : Nat) (w : World) (B : Nat) (h1 : 1 ≤ k0) (hk : k0 + ns.length * 4 ≤ 5900000) (hv : RMsgSl w w.heap.size (.slice p n c) ns) (hf : Fresh B w (.slice p n c)) :
    Calls Tryd.prog 16 #[netV (.slice p n c) M C, .int .i64 k0] w fun e w' => e = .returned (.int .i64 ((k0 + ns.length * 4 : Nat) : Int)) ∧ RMsgSl w' w'.heap.size (.slice p n c) (markRMsgs k0 ns.length) ∧ Apart w w' (vblocks (.slice p n c)) :=
  (mark_netOut k0 ns M C _ w B h1 hk hv hf.own).mono fun _ _ ⟨e1, e2, W, hb, e3⟩ => ⟨e1, e2, by have := (below_apart hb).trans (grownBy_apart e3); rwa [List.nil_append] at this⟩
end Go.Proofs.YtonafcifolddjaaDoor
