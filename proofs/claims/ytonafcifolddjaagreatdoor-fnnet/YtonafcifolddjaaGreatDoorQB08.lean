/- What a call leaves, apart from the blocks it writes. -/
import Derived.Test.YtonafcifolddjaaGreatDoorQB01
import Derived.Test.YtonafcifolddjaaGreatDoorQB05
import Derived.Test.YtonafcifolddjaaGreatDoorQB02
import Derived.Laws.AppendOwn
import Derived.Maps.AppendAt
import Derived.Test.YtonafcifolddjaaGreatDoorQB06
import Derived.Test.YtonafcifolddjaaGreatDoorQB07
import Derived.Stop.LaidTwo
import Derived.ChangeVars
import Derived.OpenShut
namespace Go.Proofs.YtonafcifolddjaaGreatDoor
open Go.RowKit
theorem Apart.cell' {w w' : World} {l : List Nat} (h : Apart w w' l) {b o : Nat} {x : Value} (hc : w.cell? ⟨b, o, none⟩ = some x) (hl : b ∉ l) : w'.cell? ⟨b, o, none⟩ = some x :=
  (World.cell?_of_block (a := ⟨b, o, none⟩) (h.block b (World.block_lt_of_cell? w _ hc) hl)).trans hc
theorem Apart.frozen' {w w' : World} {l : List Nat} (h : Apart w w' l) {b o : Nat} {x : Bool} (hb : b < w.heap.size) (hc : w.frozen? ⟨b, o, none⟩ = x) (hl : b ∉ l) : w'.frozen? ⟨b, o, none⟩ = x :=
  (World.frozen?_of_block (a := ⟨b, o, none⟩) (h.block b hb hl)).trans hc
theorem Apart.weak {w w' : World} {l : List Nat} (h : Apart w w' []) : Apart w w' l := ⟨h.os, h.tape, h.output, h.size, fun b hb _ => h.block b hb (by simp)⟩
theorem Apart.same {w w' : World} {b : Nat} (h : Apart w w' ([b] ++ [b])) : Apart w w' [b] := ⟨h.os, h.tape, h.output, h.size, fun k hk hn => h.block k hk (by simp at hn; simp [hn])⟩
theorem Apart.setCell {w w' : World} {b : Nat} (h : Apart w w' [b]) (o : Nat) (x : Value) : Apart w (w'.setCell ⟨b, o, none⟩ x) [b] :=
  ⟨h.os, h.tape, h.output, by simp; exact h.size, fun k hk hn => (Below.heap_setCell w' ⟨b, o, none⟩ x k (fun e => hn (by simp [e]))).trans (h.block k hk hn)⟩
end Go.Proofs.YtonafcifolddjaaGreatDoor
/- The draws: a number at some limit. -/
namespace Go.Proofs.YtonafcifolddjaaGreatDoor
open Go.RowKit
set_option linter.unusedSimpArgs false
set_option linter.unusedVariables false

set_option maxRecDepth 100000 in
set_option maxHeartbeats 2000000 in
theorem edge_any (sb : Nat) (ao : Option Addr) (len cap : Nat) (w : World) (hl : len ≤ 1048576) (h : Src w sb ao len cap) :
    Calls Tryz.prog 40 #[.pointer (some ⟨sb, 0, none⟩)] w fun e w' => ∃ r : Int, e = .returned (.int .i64 r) ∧ -9223372036854775808 ≤ r ∧ r ≤ 9223372036854775807 ∧ Src w' sb ao len cap ∧ w.grownBy w' (some sb) := by
  have HN : Hid (∀ w, Src w sb ao len cap → Calls Tryz.prog 34 #[.pointer (some ⟨sb, 0, none⟩), .int .i64 14] w fun e w' => ∃ r : Int, e = .returned (.int .i64 r) ∧ 0 ≤ r ∧ r < 14 ∧ Src w' sb ao len cap ∧ w.grownBy w' (some sb)) := fun w h => n_any sb ao len cap 14 w (by omega) (by omega) hl h
  have HH := hide h
  clear h hl
  go_enter Tryz.func40, Tryz.ntmps40
  go_wp2_with fail
  refine (HN.out _ (HH.out.kept (grown_alloc w _ none) (fun k h => by cases h))).mono ?_
  rintro e w1 ⟨r, rfl, r0, r1, hs1, hg1⟩
  obtain ⟨j, rfl⟩ := Int.eq_ofNat_of_zero_le r0
  have hlt := HH.out.lt
  have key := fun v h => hg1.cell (a := ⟨w.heap.size, j, none⟩) (v := v) ((World.cell?_alloc_at _ _ _ _ rfl).trans h) (by simp; omega)
  obtain ⟨v, hv, v0, v1⟩ : ∃ v : Int, w1.cell? ⟨w.heap.size, j, none⟩ = some (.int .i64 v) ∧ -9223372036854775808 ≤ v ∧ v ≤ 9223372036854775807 := by
    have hj : j = 0 ∨ j = 1 ∨ j = 2 ∨ j = 3 ∨ j = 4 ∨ j = 5 ∨ j = 6 ∨ j = 7 ∨ j = 8 ∨ j = 9 ∨ j = 10 ∨ j = 11 ∨ j = 12 ∨ j = 13 := by omega
    rcases hj with rfl | rfl | rfl | rfl | rfl | rfl | rfl | rfl | rfl | rfl | rfl | rfl | rfl | rfl <;> exact ⟨_, key _ rfl, by omega, by omega⟩
  have H1 := hide (And.intro hs1 (And.intro (grown_trans (grown_alloc w _ (some sb)) hg1) (And.intro v0 v1)))
  clear hs1 hg1 v0 v1 key
  go_wp2
  go_ret
  exact ⟨v, rfl, H1.out.2.2.1, H1.out.2.2.2, H1.out.1, H1.out.2.1⟩

end Go.Proofs.YtonafcifolddjaaGreatDoor
/- Rows of structs as rows of cells. -/
namespace Go.Proofs.YtonafcifolddjaaGreatDoor
open Go.RowKit

theorem flat_get {α β : Type} (f : α → List β) (n : Nat) (hf : ∀ x, (f x).length = n) : ∀ (l : List α) (j : Nat) (hj : j < l.length) (i : Nat), i < n → (l.flatMap f)[j * n + i]? = (f l[j])[i]?
  | x :: l, 0, _, i, hi => by
    rw [List.flatMap_cons, List.getElem?_append_left (by rw [hf]; omega)]
    simp
  | x :: l, j + 1, hj, i, hi => by
    rw [List.flatMap_cons, List.getElem?_append_right (by rw [hf, Nat.succ_mul]; omega), hf, show (j + 1) * n + i - n = j * n + i by rw [Nat.succ_mul]; omega]
    exact flat_get f n hf l j (by simpa using hj) i hi
theorem flat_len {α β : Type} (f : α → List β) (n : Nat) (hf : ∀ x, (f x).length = n) : ∀ (l : List α), (l.flatMap f).length = l.length * n
  | [] => by simp
  | x :: l => by rw [List.flatMap_cons, List.length_append, hf, flat_len f n hf l, List.length_cons, Nat.succ_mul, Nat.add_comm]
/-- the cells of a row that one has made -/
theorem owns_cell {w : World} {base e size n : Nat} {v : Value} {xs : List Value} (h : w.ownsRow base e size v n xs) {g c : Nat} (hv : v = .slice (some ⟨g, 0, none⟩) n c) (k : Nat) (x : Value) (hk : xs[k]? = some x) : w.cell? ⟨g, k, none⟩ = some x := by
  obtain ⟨hl, hh⟩ := h
  rcases hh with ⟨rfl, _⟩ | ⟨g', cap, cur, rfl, _, hblk, _, _, _, hcur⟩
  · cases hv
  · injection hv with h1 _ h3
    injection h1 with h1
    injection h1 with h1
    subst h1
    have hkl : k < n * size := by
      rw [← hl]
      exact (List.getElem?_eq_some_iff.1 hk).1
    rw [← hcur, List.getElem?_take, if_pos hkl] at hk
    simp only [World.cell?, hblk]
    simpa using hk
theorem owns_fresh {w : World} {base e size n : Nat} {v : Value} {xs : List Value} (h : w.ownsRow base e size v n xs) : Fresh base w v := by
  obtain ⟨_, hh⟩ := h
  rcases hh with ⟨rfl, _⟩ | ⟨g, cap, cur, rfl, hg, hblk, _⟩
  · exact ⟨by simp [vblocks, cellBlocks], by simp [vblocks, cellBlocks], by simp [vblocks, cellBlocks], by simp [vblocks, cellBlocks]⟩
  · refine ⟨by simp [vblocks, cellBlocks]; exact hg, by simp [vblocks, cellBlocks]; exact (Array.getElem?_eq_some_iff.1 hblk).1, ?_, by simp [vblocks, cellBlocks]⟩
    intro b hb j
    simp [vblocks, cellBlocks] at hb
    subst hb
    simp [World.frozen?, hblk]
theorem owns_shape {w : World} {base e size n : Nat} {v : Value} {xs : List Value} (h : w.ownsRow base e size v n xs) : ∃ p c, v = .slice p n c := by
  obtain ⟨_, hh⟩ := h
  rcases hh with ⟨rfl, h0⟩ | ⟨gb, cap, cur, rfl, _⟩
  · exact ⟨none, 0, by rw [h0]⟩
  · exact ⟨_, _, rfl⟩
theorem owns_nil (w : World) (base e size : Nat) : w.ownsRow base e size (.slice none 0 0) 0 [] := ⟨by simp, .inl ⟨rfl, rfl⟩⟩
theorem owns_empty (w : World) (base e size g : Nat) (hg : base ≤ g) (hb : w.heap[g]? = some (.cells #[] e (0, 0))) : w.ownsRow base e size (.slice (some ⟨g, 0, none⟩) 0 0) 0 [] :=
  ⟨by simp, .inr ⟨g, 0, #[], rfl, hg, hb, Nat.le_refl _, by simp [maxLen], by simp, by simp⟩⟩
/-- kept by whatever leaves its block as it was -/
theorem owns_keep {w w' : World} {base e size n : Nat} {v : Value} {xs : List Value} {l : List Nat} (h : w.ownsRow base e size v n xs) (ha : Apart w w' l) (hd : ∀ b ∈ vblocks v, b ∉ l) : w'.ownsRow base e size v n xs := by
  obtain ⟨hl, hh⟩ := h
  refine ⟨hl, ?_⟩
  rcases hh with hh | ⟨g, cap, cur, rfl, hg, hblk, hr⟩
  · exact .inl hh
  · exact .inr ⟨g, cap, cur, rfl, hg, (ha.block g (Array.getElem?_eq_some_iff.1 hblk).1 (hd g (by simp [vblocks, cellBlocks]))).trans hblk, hr⟩
theorem owns_below {w w' : World} {base e size n : Nat} {v : Value} {xs : List Value} (h : w.ownsRow base e size v n xs) (hb : Below w.heap.size w w') : w'.ownsRow base e size v n xs :=
  owns_keep h (below_apart hb) (fun _ _ => by simp)
end Go.Proofs.YtonafcifolddjaaGreatDoor
/- Marks on rows of Msgs; whether they are held. -/
namespace Go.Proofs.YtonafcifolddjaaGreatDoor
open Go.RowKit

def markRMsg (k : Nat) : RMsg := ⟨markT (k + 0), markT (k + 1), markT (k + 2), ((k + 3 : Nat) : Int)⟩
def markRMsgs (k n : Nat) : List RMsg := (List.range n).map fun i => markRMsg (k + i * 4)
theorem markRMsgs_len (k n : Nat) : (markRMsgs k n).length = n := by simp [markRMsgs]
theorem markRMsgs_get (k n i : Nat) (h : i < (markRMsgs k n).length) : (markRMsgs k n)[i] = markRMsg (k + i * 4) := by simp [markRMsgs]

end Go.Proofs.YtonafcifolddjaaGreatDoor
/- What the listed variables' condition gives: the four errors, and that they are not the same. -/
namespace Go.Proofs.YtonafcifolddjaaGreatDoor
open Go.RowKit Go.ChangeShapes

theorem Tryz.gNamed0 : Tryz.prog.globalNamed "loop.example/g00574/impl.errNothing" = some 0 := by kernel_rfl
theorem Tryz.gNamed1 : Tryz.prog.globalNamed "loop.example/g00574/impl.errTooLong" = some 1 := by kernel_rfl
theorem Tryz.gNamed2 : Tryz.prog.globalNamed "loop.example/g00574/impl.errNotRight" = some 2 := by kernel_rfl
theorem Tryz.gNamed3 : Tryz.prog.globalNamed "loop.example/g00574/impl.errNoRoom" = some 3 := by kernel_rfl
theorem Tryz.gType0 : (Tryz.prog.globals[0]?).map (·.type) = some 52 := by kernel_rfl
theorem Tryz.gType1 : (Tryz.prog.globals[1]?).map (·.type) = some 52 := by kernel_rfl
theorem Tryz.gType2 : (Tryz.prog.globals[2]?).map (·.type) = some 52 := by kernel_rfl
theorem Tryz.gType3 : (Tryz.prog.globals[3]?).map (·.type) = some 52 := by kernel_rfl
theorem Tryz.errsCells : Tryz.prog.cellsOf 159 = 1 := by kernel_rfl
theorem Tryz.strCellsM : Tryz.prog.cellsOf 9 = 1 := by kernel_rfl
theorem Tryz.starE : "*" ++ "errors.errorString" = "*errors.errorString" := by decide
theorem Tryz.errpRow (u : TypeId) (h : Tryz.prog.typeName? 3 u = some "*errors.errorString") : u = 136 :=
  typeName_ptr_named (nm := "errors.errorString") (by rw [Tryz.starE]; kernel_rfl) (by kernel_rfl) (by decide) u (by rw [Tryz.starE]; exact h)
theorem apart_text {W : World} {a b : Addr} {s t : ByteArray} {x y : List UInt8} (ha : W.cell? a = some (.string s)) (hb : W.cell? b = some (.string t)) (hs : s.data.toList = x) (ht : t.data.toList = y) (hne : x ≠ y) : a ≠ b := by
  rintro rfl
  rw [ha] at hb
  injection hb with hb
  injection hb with hb
  exact hne (by rw [← hs, ← ht, hb])
theorem sent_of_laid {W : World} (h : laidMet Tryz.prog [("loop.example/g00574/impl.errTooLong", Rows.laid_loop_example_g00574_impl_errTooLong), ("loop.example/g00574/impl.errNotRight", Rows.laid_loop_example_g00574_impl_errNotRight), ("loop.example/g00574/impl.errNothing", Rows.laid_loop_example_g00574_impl_errNothing), ("loop.example/g00574/impl.errNoRoom", Rows.laid_loop_example_g00574_impl_errNoRoom)] W) : ∃ E, SentAt W E := by
  have h2 := h.tail.tail
  unfold Rows.laid_loop_example_g00574_impl_errTooLong Rows.laid_loop_example_g00574_impl_errNotRight at h
  unfold Rows.laid_loop_example_g00574_impl_errNothing Rows.laid_loop_example_g00574_impl_errNoRoom at h2
  obtain ⟨aL, aR, sL, sR, cL, cR, tL, tR, vL, vR, hcL, hsL, -, hcR, hsR, -, hLR, bL, bR⟩ := laid_sentinels2 h Tryz.gNamed1 Tryz.gType1 Tryz.gNamed2 Tryz.gType2 Tryz.underlying52 Tryz.errpRow Tryz.underlying136 Tryz.underlying159 rfl rfl Tryz.underlying9 Tryz.errsCells Tryz.strCellsM
  obtain ⟨aN, aM, sN, sM, cN, cM, tN, tM, vN, vM, hcN, hsN, -, hcM, hsM, -, hNM, bN, bM⟩ := laid_sentinels2 h2 Tryz.gNamed0 Tryz.gType0 Tryz.gNamed3 Tryz.gType3 Tryz.underlying52 Tryz.errpRow Tryz.underlying136 Tryz.underlying159 rfl rfl Tryz.underlying9 Tryz.errsCells Tryz.strCellsM
  refine ⟨⟨aN, aL, aR, aM⟩, ?_, ?_, ?_, ?_, ⟨_, _, bN⟩, ⟨_, _, bL⟩, ⟨_, _, bR⟩, ⟨_, _, bM⟩, ?_, ?_, hNM, hLR, ?_, ?_⟩
  · simpa using World.var?_cell Tryz.gNamed0 vN 0
  · simpa using World.var?_cell Tryz.gNamed1 vL 0
  · simpa using World.var?_cell Tryz.gNamed2 vR 0
  · simpa using World.var?_cell Tryz.gNamed3 vM 0
  · exact apart_text hcN hcL hsN hsL (by decide)
  · exact apart_text hcN hcR hsN hsR (by decide)
  · exact apart_text hcL hcM hsL hsM (by decide)
  · exact apart_text hcR hcM hsR hsM (by decide)
theorem vars_four {H : Type} {enc : TypeId × Value → H} {P : Program} {w : World} {spare : Nat → Bool} {a b c d : String} {gs : List (DataW H)} {ps : List MemPlace} (h : DataW.TrodVars enc P w spare [a, b, c, d] gs ps) : ∃ g1 g2 g3 g4, gs = [g1, g2, g3, g4] := by
  cases gs with
  | nil => exact h.elim
  | cons g1 gs =>
    obtain ⟨_, _, _, _, _, _, _, _, _, _, h, _⟩ := h
    cases gs with
    | nil => exact h.elim
    | cons g2 gs =>
      obtain ⟨_, _, _, _, _, _, _, _, _, _, h, _⟩ := h
      obtain ⟨_, _, _, _, g3, _, _, _, _, _, g4, _, rfl, _⟩ := trodVars_two h
      exact ⟨g1, g2, g3, g4, rfl⟩
end Go.Proofs.YtonafcifolddjaaGreatDoor
