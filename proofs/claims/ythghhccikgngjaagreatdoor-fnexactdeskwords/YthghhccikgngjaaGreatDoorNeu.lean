/- What serves every walk: a block's cells, what is kept apart, append as one step. -/
import Derived.Test.YthghhccikgngjaaGreatDoorApartB
import Derived.Test.YthghhccikgngjaaGreatDoorFlatRow
import Derived.Test.YthghhccikgngjaaGreatDoorMem
import Derived.Deep.RegionLaw
import Derived.Deep.DrawnRows
import Derived.Laws.AppendOwn
import Derived.Maps.AppendAt
namespace Go.Proofs.YthghhccikgngjaaGreatDoor
open Go.RowKit

theorem setCell_apart (w : World) (b o : Nat) (x : Value) : Apart w (w.setCell ⟨b, o, none⟩ x) [b] := Apart.setCell ⟨rfl, rfl, rfl, Nat.le_refl _, fun _ _ _ => rfl⟩ o x
theorem owns_down {w : World} {base base' e size n : Nat} {v : Value} {xs : List Value} (h : w.ownsRow base e size v n xs) (hb : base' ≤ base) : w.ownsRow base' e size v n xs := by
  obtain ⟨h1, h2⟩ := h
  refine ⟨h1, ?_⟩
  rcases h2 with h2 | ⟨g, cap, cur, a, b, c⟩
  · exact .inl h2
  · exact .inr ⟨g, cap, cur, a, Nat.le_trans hb b, c⟩
theorem stepM_at {P : Program} {ops : Array Oper} {o : Oper} {a : Act} {w : World} {K : Act → World → Prop} {Q : Exit → Act → World → Prop} {E : Prop}
    (hg : o.guard = none) (s x : Operand) (t : TypeId) (hop : o.op = Op.call { callee := Callee.builtin Builtin.append, args := #[s, x], argTypes := #[t, t] })
    (base : Nat) (e : TypeId) (i : TypeInfo) (z : Value) (size bytes : Nat) (h1 : P.underlying t = some (.slice e)) (h2 : P.info? e = some i) (h3 : i.zero = some z) (h4 : i.size = size) (h5 : i.bytes = bytes) (h6 : z.cells.size = size) (h7 : 0 < size)
    (v : Value) (n : Nat) (xs : List Value) (hs : a.eval s = v) (hown : w.ownsRow base e size v n xs)
    (ad : Addr) (m c : Nat) (news : List Value) (hx : a.eval x = .slice (some ad) m c) (hn : news.length = m * size) (hc : ∀ j u, news[j]? = some u → w.cell? (ad.add j) = some u) (h1c : ∀ u ∈ news, u.oneCell' = true)
    (b1 : n + m ≤ maxLen) (b2 : (n + m) * bytes ≤ 140737488355328) (hbase : base ≤ w.heap.size)
    (hK : ∀ v' w', w'.ownsRow base e size v' (n + m) (xs ++ news) → w.grownBy w' v.ownBlock → (v'.ownBlock = v.ownBlock ∨ v'.ownBlock = some w.heap.size) → K (a.put o.dst v') w') :
    if Region.wanted o (yielded ops a.tmps) = true then Oper.wp P o a w K Q else E := by
  have hw : Region.wanted o (yielded ops a.tmps) = true := by simp [Region.wanted, hg]
  rw [if_pos hw]
  obtain ⟨v', w', hrun, r1, r2, _, r3⟩ := run_append_own_at (P := P) w base t o.type e i z size bytes h1 h2 h3 h4 h5 h6 h7 v n xs hown ad m c news hn hc h1c b1 b2 hbase
  unfold Oper.wp
  simp [execOp, hop, resolve, invoke, builtin, hs, hx, hrun, Result.andThen]
  exact hK v' w' r1 r2 r3
theorem Apart.sub {w w' : World} {l l' : List Nat} (h : Apart w w' l) (hs : ∀ b ∈ l, b ∈ l') : Apart w w' l' := ⟨h.os, h.tape, h.output, h.size, fun b hb hn => h.block b hb (fun hm => hn (hs b hm))⟩
structure BoxL (w : World) (b : Nat) (vs : List Value) : Prop where
  cell : ∀ i v, vs[i]? = some v → w.cell? ⟨b, i, none⟩ = some v
  fz : ∀ o, w.frozen? ⟨b, o, none⟩ = false
  lt : b < w.heap.size
theorem BoxL.keep {w w' : World} {b : Nat} {vs : List Value} {l : List Nat} (h : BoxL w b vs) (ha : Apart w w' l) (hl : b ∉ l) : BoxL w' b vs :=
  ⟨fun i v hv => ha.cell' (h.cell i v hv) hl, fun o => ha.frozen' h.lt (h.fz o) hl, Nat.lt_of_lt_of_le h.lt ha.size⟩
theorem BoxL.set {w : World} {b : Nat} {vs : List Value} (h : BoxL w b vs) (k : Nat) (hk : k < vs.length) (y : Value) : BoxL (w.setCell ⟨b, k, none⟩ y) b (vs.set k y) := by
  refine ⟨fun i v hv => ?_, fun o => (World.frozen?_setCell ..).trans (h.fz o), by rw [World.size_setCell]; exact h.lt⟩
  by_cases hi : k = i
  · subst hi
    rw [List.getElem?_set_self hk] at hv
    injection hv with hv
    subst hv
    exact World.cell?_setCell_same _ _ _ (h.cell k vs[k] (by simp [hk]))
  · rw [List.getElem?_set_ne hi] at hv
    rw [World.cell?_setCell_other _ _ _ _ (by intro e; injection e with _ e2; exact hi e2)]
    exact h.cell i v hv
theorem BoxL.new (w : World) (vs : List Value) (T : TypeId) : BoxL (w.alloc (.cells vs.toArray T)) w.heap.size vs := by
  refine ⟨fun i v hv => ?_, fun o => by simp, by simp⟩
  obtain ⟨h1, h2⟩ := List.getElem?_eq_some_iff.1 hv
  simp [h1, h2]
end Go.Proofs.YthghhccikgngjaaGreatDoor
