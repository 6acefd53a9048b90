/- Marks on rows of States; whether they are held. -/
import Derived.Test.YtlcafjckaahmaaaGreatQB04
import Derived.Test.YtlcafjckaahmaaaGreatQB05
import Derived.Test.YtlcafjckaahmaaaGreatQB01
import Derived.Laws.AppendOwn
import Derived.Maps.AppendAt
namespace Go.Proofs.YtlcafjckaahmaaaGreat
open Go.RowKit

def markRState (k : Nat) : RState := ⟨((k : Nat) : Int), markT (k + 1)⟩
def markRStates (k n : Nat) : List RState := (List.range n).map fun i => markRState (k + i * 2)
theorem markRStates_len (k n : Nat) : (markRStates k n).length = n := by simp [markRStates]
theorem markRStates_get (k n i : Nat) (h : i < (markRStates k n).length) : (markRStates k n)[i] = markRState (k + i * 2) := by simp [markRStates]

end Go.Proofs.YtlcafjckaahmaaaGreat
/- Marks on rows of Edges; whether they are held. -/
namespace Go.Proofs.YtlcafjckaahmaaaGreat
open Go.RowKit

def markREdge (k : Nat) : REdge := ⟨((k : Nat) : Int), markT (k + 1), ((k + 2 : Nat) : Int), ((k + 3 : Nat) : Int)⟩
def markREdges (k n : Nat) : List REdge := (List.range n).map fun i => markREdge (k + i * 4)
theorem markREdges_len (k n : Nat) : (markREdges k n).length = n := by simp [markREdges]
theorem markREdges_get (k n i : Nat) (h : i < (markREdges k n).length) : (markREdges k n)[i] = markREdge (k + i * 4) := by simp [markREdges]

end Go.Proofs.YtlcafjckaahmaaaGreat
/- What a call leaves, apart from the blocks it writes. -/
namespace Go.Proofs.YtlcafjckaahmaaaGreat
open Go.RowKit
theorem Apart.cell' {w w' : World} {l : List Nat} (h : Apart w w' l) {b o : Nat} {x : Value} (hc : w.cell? ⟨b, o, none⟩ = some x) (hl : b ∉ l) : w'.cell? ⟨b, o, none⟩ = some x :=
  (World.cell?_of_block (a := ⟨b, o, none⟩) (h.block b (World.block_lt_of_cell? w _ hc) hl)).trans hc
theorem Apart.frozen' {w w' : World} {l : List Nat} (h : Apart w w' l) {b o : Nat} {x : Bool} (hb : b < w.heap.size) (hc : w.frozen? ⟨b, o, none⟩ = x) (hl : b ∉ l) : w'.frozen? ⟨b, o, none⟩ = x :=
  (World.frozen?_of_block (a := ⟨b, o, none⟩) (h.block b hb hl)).trans hc
theorem Apart.weak {w w' : World} {l : List Nat} (h : Apart w w' []) : Apart w w' l := ⟨h.os, h.tape, h.output, h.size, fun b hb _ => h.block b hb (by simp)⟩
theorem Apart.same {w w' : World} {b : Nat} (h : Apart w w' ([b] ++ [b])) : Apart w w' [b] := ⟨h.os, h.tape, h.output, h.size, fun k hk hn => h.block k hk (by simp at hn; simp [hn])⟩
theorem Apart.setCell {w w' : World} {b : Nat} (h : Apart w w' [b]) (o : Nat) (x : Value) : Apart w (w'.setCell ⟨b, o, none⟩ x) [b] :=
  ⟨h.os, h.tape, h.output, by simp; exact h.size, fun k hk hn => (Below.heap_setCell w' ⟨b, o, none⟩ x k (fun e => hn (by simp [e]))).trans (h.block k hk hn)⟩
end Go.Proofs.YtlcafjckaahmaaaGreat
/- Rows of structs as rows of cells. -/
namespace Go.Proofs.YtlcafjckaahmaaaGreat
open Go.RowKit

theorem flat_get {α β : Type} (f : α → List β) (n : Nat) (hf : ∀ x, (f x).length = n) : ∀ (l : List α) (j : Nat) (hj : j < l.length) (i : Nat), i < n → (l.flatMap f)[j * n + i]? = (f l[j])[i]?
  | x :: l, 0, _, i, hi => by
    rw [List.flatMap_cons, List.getElem?_append_left (by rw [hf]; omega)]
    simp
  | x :: l, j + 1, hj, i, hi => by
    rw [List.flatMap_cons, List.getElem?_append_right (by rw [hf, Nat.succ_mul]; omega), hf, show (j + 1) * n + i - n = j * n + i by rw [Nat.succ_mul]; omega]
    exact flat_get f n hf l j (by simpa using hj) i hi
theorem flat_len {α β : Type} (f : α → List β) (n : Nat) (hf : ∀ x, (f x).length = n) : ∀ (l : List α), (l.flatMap f).length = l.length * n
  | [] => by simp
  | x :: l => by rw [List.flatMap_cons, List.length_append, hf, flat_len f n hf l, List.length_cons, Nat.succ_mul, Nat.add_comm]
/-- the cells of a row that one has made -/
theorem owns_cell {w : World} {base e size n : Nat} {v : Value} {xs : List Value} (h : w.ownsRow base e size v n xs) {g c : Nat} (hv : v = .slice (some ⟨g, 0, none⟩) n c) (k : Nat) (x : Value) (hk : xs[k]? = some x) : w.cell? ⟨g, k, none⟩ = some x := by
  obtain ⟨hl, hh⟩ := h
  rcases hh with ⟨rfl, _⟩ | ⟨g', cap, cur, rfl, _, hblk, _, _, _, hcur⟩
  · cases hv
  · injection hv with h1 _ h3
    injection h1 with h1
    injection h1 with h1
    subst h1
    have hkl : k < n * size := by
      rw [← hl]
      exact (List.getElem?_eq_some_iff.1 hk).1
    rw [← hcur, List.getElem?_take, if_pos hkl] at hk
    simp only [World.cell?, hblk]
    simpa using hk
theorem owns_fresh {w : World} {base e size n : Nat} {v : Value} {xs : List Value} (h : w.ownsRow base e size v n xs) : Fresh base w v := by
  obtain ⟨_, hh⟩ := h
  rcases hh with ⟨rfl, _⟩ | ⟨g, cap, cur, rfl, hg, hblk, _⟩
  · exact ⟨by simp [vblocks, cellBlocks], by simp [vblocks, cellBlocks], by simp [vblocks, cellBlocks], by simp [vblocks, cellBlocks]⟩
  · refine ⟨by simp [vblocks, cellBlocks]; exact hg, by simp [vblocks, cellBlocks]; exact (Array.getElem?_eq_some_iff.1 hblk).1, ?_, by simp [vblocks, cellBlocks]⟩
    intro b hb j
    simp [vblocks, cellBlocks] at hb
    subst hb
    simp [World.frozen?, hblk]
theorem owns_shape {w : World} {base e size n : Nat} {v : Value} {xs : List Value} (h : w.ownsRow base e size v n xs) : ∃ p c, v = .slice p n c := by
  obtain ⟨_, hh⟩ := h
  rcases hh with ⟨rfl, h0⟩ | ⟨gb, cap, cur, rfl, _⟩
  · exact ⟨none, 0, by rw [h0]⟩
  · exact ⟨_, _, rfl⟩
theorem owns_nil (w : World) (base e size : Nat) : w.ownsRow base e size (.slice none 0 0) 0 [] := ⟨by simp, .inl ⟨rfl, rfl⟩⟩
theorem owns_empty (w : World) (base e size g : Nat) (hg : base ≤ g) (hb : w.heap[g]? = some (.cells #[] e (0, 0))) : w.ownsRow base e size (.slice (some ⟨g, 0, none⟩) 0 0) 0 [] :=
  ⟨by simp, .inr ⟨g, 0, #[], rfl, hg, hb, Nat.le_refl _, by simp [maxLen], by simp, by simp⟩⟩
/-- kept by whatever leaves its block as it was -/
theorem owns_keep {w w' : World} {base e size n : Nat} {v : Value} {xs : List Value} {l : List Nat} (h : w.ownsRow base e size v n xs) (ha : Apart w w' l) (hd : ∀ b ∈ vblocks v, b ∉ l) : w'.ownsRow base e size v n xs := by
  obtain ⟨hl, hh⟩ := h
  refine ⟨hl, ?_⟩
  rcases hh with hh | ⟨g, cap, cur, rfl, hg, hblk, hr⟩
  · exact .inl hh
  · exact .inr ⟨g, cap, cur, rfl, hg, (ha.block g (Array.getElem?_eq_some_iff.1 hblk).1 (hd g (by simp [vblocks, cellBlocks]))).trans hblk, hr⟩
theorem owns_below {w w' : World} {base e size n : Nat} {v : Value} {xs : List Value} (h : w.ownsRow base e size v n xs) (hb : Below w.heap.size w w') : w'.ownsRow base e size v n xs :=
  owns_keep h (below_apart hb) (fun _ _ => by simp)
end Go.Proofs.YtlcafjckaahmaaaGreat
/- A row of States that is handed in, opened. -/
namespace Go.Proofs.YtlcafjckaahmaaaGreat
open Go.RowKit Go.ChangeShapes Go.WideShapes

theorem Tryz.cRState : Tryz.prog.cellsOf 202 = 2 := by kernel_rfl
theorem open_state {H : Type} {enc : TypeId × Value → H} {w : World} {base : Nat} {spare : Nat → Bool} {held : Bool} {fuel : Nat} {cs : List Value} {x : DataW H × List MemPlace} (h : DataW.trod enc Tryz.prog w base spare held fuel 202 cs = some x) :
    ∃ n : RState, n.ok ∧ cs[0]? = some (.int .i64 n.kind) ∧ cs[1]? = some (.string n.peer) := by
  obtain ⟨xs, n, _, _, hl, hlen, hf⟩ := DataW.trod_struct Tryz.underlying202 h
  have hx5 : xs.length = 2 := hlen
  match xs, hx5 with
  | [y0, y1], _ =>
    have g0 : DataW.trod enc Tryz.prog w base spare held n 2 ((cs.drop 0).take (Tryz.prog.cellsOf 2)) = some y0 := hf 0 _ rfl
    have g1 : DataW.trod enc Tryz.prog w base spare held n 9 ((cs.drop 1).take (Tryz.prog.cellsOf 9)) = some y1 := hf 1 _ rfl
    rw [Tryz.ocI] at g0
    rw [Tryz.ocS] at g1
    obtain ⟨z0, e0, _⟩ := DataW.trod_int Tryz.underlying2 g0
    obtain ⟨z1, e1, _, k1⟩ := DataW.trod_string Tryz.underlying9 g1
    exact ⟨⟨z0, z1⟩, k1, m_one_of e0, m_one_of e1⟩

theorem open_states {H : Type} {enc : TypeId × Value → H} {w : World} {base : Nat} {spare : Nat → Bool} {held : Bool} {fuel : Nat} {a0 : Option Addr} {len0 cap0 : Nat} {x : DataW H × List MemPlace} (h : DataW.trod enc Tryz.prog w base spare held fuel 48 [.slice a0 len0 cap0] = some x) :
    ∃ ns : List RState, ns.length = len0 ∧ (∀ n ∈ ns, n.ok) ∧ ns.length ≤ maxLen ∧ (ns ≠ [] → ∃ b o, a0 = some ⟨b, o, none⟩ ∧ b < w.heap.size ∧ RStates w b o ns) := by
  rcases Go.Deep.open_slice Tryz.underlying48 h with ⟨h0, _⟩ | ⟨a, len, cap, m, n, D, Pl, hcs, hb, hl, hm, hmm, hx, hel⟩
  · simp at h0
    obtain ⟨rfl, rfl, rfl⟩ := h0
    exact ⟨[], rfl, by simp, Nat.zero_le _, fun h => absurd rfl h⟩
  · simp at hcs
    obtain ⟨rfl, rfl, rfl⟩ := hcs
    have hlm : len0 ≤ m := by rw [hmm]; split <;> omega
    have each : ∀ i, i < len0 → ∃ nd : RState, nd.ok ∧ ∀ b o, a = ⟨b, o, none⟩ → RStateAt w b (o + i * 2) nd := by
      intro i hi
      obtain ⟨cs', h1, h2⟩ := hel i (by omega)
      rw [Tryz.cRState] at h1
      obtain ⟨_, hlen, hcell⟩ := World.cells?_some h1
      obtain ⟨nd, hok, e0, e1⟩ := open_state h2
      refine ⟨nd, hok, fun b o hab => ?_⟩
      subst hab
      have pl : ∀ j, ((⟨b, o, none⟩ : Addr).add (i * 2)).add j = ⟨b, o + i * 2 + j, none⟩ := fun j => by
        rw [Go.Deep.add_add]
        unfold Addr.add
        split <;> simp_all <;> omega
      refine ⟨?_, ?_⟩
      · have := hcell 0 (by omega); rw [pl, e0] at this; exact this
      · have := hcell 1 (by omega); rw [pl, e1] at this; exact this
    have : Inhabited RState := ⟨⟨0, ByteArray.empty⟩⟩
    obtain ⟨q, hq⟩ := Go.Deep.choose_lt each
    refine ⟨(List.range len0).map q, by simp, ?_, by simp; omega, fun hne => ?_⟩
    · intro x hx
      obtain ⟨i, hi, rfl⟩ := List.mem_map.1 hx
      exact (hq i (List.mem_range.1 hi)).1
    · have hpos : 0 < len0 := by
        rcases Nat.eq_zero_or_pos len0 with h | h
        · subst h; simp at hne
        · exact h
      obtain ⟨b, o, s⟩ := a
      have hsp : ∀ i, i < len0 → ((Addr.add ⟨b, o, s⟩ (i * 2)).add 0).spot = none := by
        intro i hi
        obtain ⟨cs', h1, h2⟩ := hel i (by omega)
        rw [Tryz.cRState] at h1
        obtain ⟨_, hlen, hcell⟩ := World.cells?_some h1
        obtain ⟨nd, hok, e0, _⟩ := open_state h2
        have h0 := hcell 0 (by omega)
        rw [e0] at h0
        exact World.cell?_spot h0
      have hspot : s = none := by simpa [Addr.add] using hsp 0 hpos
      subst hspot
      have hrow : RStates w b o ((List.range len0).map q) := RStates.of w b _ o (fun j hj => by
        simp only [List.getElem_map, List.getElem_range]
        exact (hq j (by simpa using hj)).2 b o rfl)
      refine ⟨b, o, rfl, ?_, hrow⟩
      have := (hq 0 hpos).2 b o rfl
      exact this.lt
end Go.Proofs.YtlcafjckaahmaaaGreat
/- A row of Edges that is handed in, opened. -/
namespace Go.Proofs.YtlcafjckaahmaaaGreat
open Go.RowKit Go.ChangeShapes Go.WideShapes

theorem Tryz.cREdge : Tryz.prog.cellsOf 204 = 4 := by kernel_rfl
theorem open_edge {H : Type} {enc : TypeId × Value → H} {w : World} {base : Nat} {spare : Nat → Bool} {held : Bool} {fuel : Nat} {cs : List Value} {x : DataW H × List MemPlace} (h : DataW.trod enc Tryz.prog w base spare held fuel 204 cs = some x) :
    ∃ n : REdge, n.ok ∧ cs[0]? = some (.int .i64 n.src) ∧ cs[1]? = some (.string n.label) ∧ cs[2]? = some (.int .i64 n.sort) ∧ cs[3]? = some (.int .i64 n.dst) := by
  obtain ⟨xs, n, _, _, hl, hlen, hf⟩ := DataW.trod_struct Tryz.underlying204 h
  have hx5 : xs.length = 4 := hlen
  match xs, hx5 with
  | [y0, y1, y2, y3], _ =>
    have g0 : DataW.trod enc Tryz.prog w base spare held n 2 ((cs.drop 0).take (Tryz.prog.cellsOf 2)) = some y0 := hf 0 _ rfl
    have g1 : DataW.trod enc Tryz.prog w base spare held n 9 ((cs.drop 1).take (Tryz.prog.cellsOf 9)) = some y1 := hf 1 _ rfl
    have g2 : DataW.trod enc Tryz.prog w base spare held n 2 ((cs.drop 2).take (Tryz.prog.cellsOf 2)) = some y2 := hf 2 _ rfl
    have g3 : DataW.trod enc Tryz.prog w base spare held n 2 ((cs.drop 3).take (Tryz.prog.cellsOf 2)) = some y3 := hf 3 _ rfl
    rw [Tryz.ocI] at g0 g2 g3
    rw [Tryz.ocS] at g1
    obtain ⟨z0, e0, _⟩ := DataW.trod_int Tryz.underlying2 g0
    obtain ⟨z1, e1, _, k1⟩ := DataW.trod_string Tryz.underlying9 g1
    obtain ⟨z2, e2, _⟩ := DataW.trod_int Tryz.underlying2 g2
    obtain ⟨z3, e3, _⟩ := DataW.trod_int Tryz.underlying2 g3
    exact ⟨⟨z0, z1, z2, z3⟩, k1, m_one_of e0, m_one_of e1, m_one_of e2, m_one_of e3⟩

theorem open_edges {H : Type} {enc : TypeId × Value → H} {w : World} {base : Nat} {spare : Nat → Bool} {held : Bool} {fuel : Nat} {a0 : Option Addr} {len0 cap0 : Nat} {x : DataW H × List MemPlace} (h : DataW.trod enc Tryz.prog w base spare held fuel 49 [.slice a0 len0 cap0] = some x) :
    ∃ ns : List REdge, ns.length = len0 ∧ (∀ n ∈ ns, n.ok) ∧ ns.length ≤ maxLen ∧ (ns ≠ [] → ∃ b o, a0 = some ⟨b, o, none⟩ ∧ b < w.heap.size ∧ REdges w b o ns) := by
  rcases Go.Deep.open_slice Tryz.underlying49 h with ⟨h0, _⟩ | ⟨a, len, cap, m, n, D, Pl, hcs, hb, hl, hm, hmm, hx, hel⟩
  · simp at h0
    obtain ⟨rfl, rfl, rfl⟩ := h0
    exact ⟨[], rfl, by simp, Nat.zero_le _, fun h => absurd rfl h⟩
  · simp at hcs
    obtain ⟨rfl, rfl, rfl⟩ := hcs
    have hlm : len0 ≤ m := by rw [hmm]; split <;> omega
    have each : ∀ i, i < len0 → ∃ nd : REdge, nd.ok ∧ ∀ b o, a = ⟨b, o, none⟩ → REdgeAt w b (o + i * 4) nd := by
      intro i hi
      obtain ⟨cs', h1, h2⟩ := hel i (by omega)
      rw [Tryz.cREdge] at h1
      obtain ⟨_, hlen, hcell⟩ := World.cells?_some h1
      obtain ⟨nd, hok, e0, e1, e2, e3⟩ := open_edge h2
      refine ⟨nd, hok, fun b o hab => ?_⟩
      subst hab
      have pl : ∀ j, ((⟨b, o, none⟩ : Addr).add (i * 4)).add j = ⟨b, o + i * 4 + j, none⟩ := fun j => by
        rw [Go.Deep.add_add]
        unfold Addr.add
        split <;> simp_all <;> omega
      refine ⟨?_, ?_, ?_, ?_⟩
      · have := hcell 0 (by omega); rw [pl, e0] at this; exact this
      · have := hcell 1 (by omega); rw [pl, e1] at this; exact this
      · have := hcell 2 (by omega); rw [pl, e2] at this; exact this
      · have := hcell 3 (by omega); rw [pl, e3] at this; exact this
    have : Inhabited REdge := ⟨⟨0, ByteArray.empty, 0, 0⟩⟩
    obtain ⟨q, hq⟩ := Go.Deep.choose_lt each
    refine ⟨(List.range len0).map q, by simp, ?_, by simp; omega, fun hne => ?_⟩
    · intro x hx
      obtain ⟨i, hi, rfl⟩ := List.mem_map.1 hx
      exact (hq i (List.mem_range.1 hi)).1
    · have hpos : 0 < len0 := by
        rcases Nat.eq_zero_or_pos len0 with h | h
        · subst h; simp at hne
        · exact h
      obtain ⟨b, o, s⟩ := a
      have hsp : ∀ i, i < len0 → ((Addr.add ⟨b, o, s⟩ (i * 4)).add 0).spot = none := by
        intro i hi
        obtain ⟨cs', h1, h2⟩ := hel i (by omega)
        rw [Tryz.cREdge] at h1
        obtain ⟨_, hlen, hcell⟩ := World.cells?_some h1
        obtain ⟨nd, hok, e0, _⟩ := open_edge h2
        have h0 := hcell 0 (by omega)
        rw [e0] at h0
        exact World.cell?_spot h0
      have hspot : s = none := by simpa [Addr.add] using hsp 0 hpos
      subst hspot
      have hrow : REdges w b o ((List.range len0).map q) := REdges.of w b _ o (fun j hj => by
        simp only [List.getElem_map, List.getElem_range]
        exact (hq j (by simpa using hj)).2 b o rfl)
      refine ⟨b, o, rfl, ?_, hrow⟩
      have := (hq 0 hpos).2 b o rfl
      exact this.lt
end Go.Proofs.YtlcafjckaahmaaaGreat
