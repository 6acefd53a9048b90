/- A region that draws its order, whose operations read and whose callees only make new memory: one walk in the order of the text. -/
import Derived.Test.YtonafcifolddjaaDoorBase
import Derived.BigQuiet
import Derived.Below
namespace Go.Proofs.YtonafcifolddjaaDoor
open Go.RowKit

/-- a world that has grown out of w -/
structure Grown (w : World) where
  val : World
  bel : Below w.heap.size w val
theorem grown_some (w : World) : Nonempty (Grown w) := ⟨⟨w, Below.refl _ _⟩⟩
theorem Grown.cell {w : World} (g : Grown w) {p : Addr} (h : p.block < w.heap.size) : g.val.cell? p = w.cell? p := g.bel.cell h
theorem grown_cell {w : World} {b o : Nat} {v : Value} (h : w.cell? ⟨b, o, none⟩ = some v) : ∀ g : Grown w, g.val.cell? ⟨b, o, none⟩ = some v :=
  fun g => (g.bel.cell (p := ⟨b, o, none⟩) (World.block_lt_of_cell? w _ h)).trans h
theorem wp_region_grown {P : Program} {id : Nat} {Q : Exit → Act → World → Prop} {a : Act} {w : World} {l : List Oper} (hm : P.follows .mixedOrders = true) (hB : Region.lexB .any l.toArray = true)
    (h : ∀ W, W = w → wpQuiet P l.toArray (fun w' => ∃ g : Grown W, w' = g.val) (fun a' => ∀ w', Below W.heap.size W w' → Q .normal a' w') l a) : (Code.region id l.toArray true).wp P Q a w := by
  refine wp_region_quiet (C := fun w' => ∃ g : Grown w, w' = g.val) hm hB ⟨⟨_, (Below.refl _ _).drew⟩, rfl⟩ ?_
  have h0 := h w rfl
  have e : (fun a' => ∀ w', (∃ g : Grown w, w' = g.val) → Q .normal a' w') = (fun a' => ∀ w', Below w.heap.size w w' → Q .normal a' w') := by
    funext a'
    refine propext ⟨fun h w' hb => h w' ⟨⟨w', hb⟩, rfl⟩, fun h w' ⟨g, hg⟩ => ?_⟩
    rw [hg]; exact h _ g.bel
  rw [e]
  simpa using h0
theorem wpList_quiet {P : Program} {ops : Array Oper} {C : World → Prop} {Q : Exit → Act → World → Prop} : ∀ (l : List Oper) (a : Act) (w : World), C w → wpQuiet P ops C (fun a' => ∀ w', C w' → Q .normal a' w') l a → wpList P ops Q l a w
  | [], _, w, hw, h => h w hw
  | o :: rest, a, w, hw, h => by
    unfold wpList
    unfold wpQuiet at h
    split
    · rename_i hwant
      rw [if_pos hwant] at h
      exact .inl (Oper.wp_of_quiet hw (fun a' w' hw' h' => wpList_quiet rest a' w' hw' h') h)
    · rename_i hwant
      rw [if_neg hwant] at h
      exact wpList_quiet rest _ w hw h
/-- the same for a region in the order of the text -/
theorem wp_region_text {P : Program} {id : Nat} {Q : Exit → Act → World → Prop} {a : Act} {w : World} {l : List Oper}
    (h : ∀ W, W = w → wpQuiet P l.toArray (fun w' => ∃ g : Grown W, w' = g.val) (fun a' => ∀ w', Below W.heap.size W w' → Q .normal a' w') l a) : (Code.region id l.toArray false).wp P Q a w := by
  refine wp_region_lit (wpList_quiet (C := fun w' => ∃ g : Grown w, w' = g.val) _ _ _ ⟨⟨w, Below.refl _ _⟩, rfl⟩ ?_)
  have h0 := h w rfl
  have e : (fun a' => ∀ w', (∃ g : Grown w, w' = g.val) → Q .normal a' w') = (fun a' => ∀ w', Below w.heap.size w w' → Q .normal a' w') := by
    funext a'
    refine propext ⟨fun h w' hb => h w' ⟨⟨w', hb⟩, rfl⟩, fun h w' ⟨g, hg⟩ => ?_⟩
    rw [hg]; exact h _ g.bel
  rw [e]
  exact h0
/-- the same from the operation on that writes the slot d -/
theorem wp_text_from (d : Nat) {P : Program} {ops : Array Oper} {Q : Exit → Act → World → Prop} {a : Act} {w : World} {op : Op} {ty : TypeId} {pos : String} {af : Array Edge} {gu : Option (Nat × Bool)} {rest : List Oper}
    (h : ∀ W, W = w → wpQuiet P ops (fun w' => ∃ g : Grown W, w' = g.val) (fun a' => ∀ w', Below W.heap.size W w' → Q .normal a' w') (⟨some d, op, ty, pos, af, gu⟩ :: rest) a) : wpList P ops Q (⟨some d, op, ty, pos, af, gu⟩ :: rest) a w := by
  refine wpList_quiet (C := fun w' => ∃ g : Grown w, w' = g.val) _ _ _ ⟨⟨w, Below.refl _ _⟩, rfl⟩ ?_
  have h0 := h w rfl
  have e : (fun a' => ∀ w', (∃ g : Grown w, w' = g.val) → Q .normal a' w') = (fun a' => ∀ w', Below w.heap.size w w' → Q .normal a' w') := by
    funext a'
    refine propext ⟨fun h w' hb => h w' ⟨⟨w', hb⟩, rfl⟩, fun h w' ⟨g, hg⟩ => ?_⟩
    rw [hg]; exact h _ g.bel
  rw [e]
  exact h0
theorem grown_same {P : Program} {f : FuncId} {args : Array Value} {w : World} {g : Grown w} {v : Value}
    (h : Calls P f args g.val fun e w' => e = .returned v ∧ w' = g.val) : Calls P f args g.val fun e w'' => e = .returned v ∧ ∃ g' : Grown w, w'' = g'.val :=
  h.mono fun _ _ ⟨he, hm⟩ => ⟨he, g, hm⟩
theorem grown_more {P : Program} {f : FuncId} {args : Array Value} {w : World} {g : Grown w} {v : Value}
    (h : Calls P f args g.val fun e w' => e = .returned v ∧ Below g.val.heap.size g.val w') : Calls P f args g.val fun e w'' => e = .returned v ∧ ∃ g' : Grown w, w'' = g'.val :=
  h.mono fun _ w' ⟨he, hm⟩ => ⟨he, ⟨w', g.bel.trans (hm.mono g.bel.size)⟩, rfl⟩
end Go.Proofs.YtonafcifolddjaaDoor
