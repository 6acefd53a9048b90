import Derived.Test.YtaaeledleldllaaGreatQB01
namespace Go.Proofs.YtaaeledleldllaaGreat
open Go.RowKit

structure REdge where
  src : Int
  label : ByteArray
  sort : Int
  dst : Int

def REdge.val (x : REdge) : Value := .agg #[.int .i64 x.src, .string x.label, .int .i64 x.sort, .int .i64 x.dst]
def REdge.ok (x : REdge) : Prop := x.label.size ≤ maxLen
def REdge.fit (x : REdge) : Prop := x.label.size ≤ 1048576
def REdgeAt (w : World) (b o : Nat) (x : REdge) : Prop := w.cell? ⟨b, o, none⟩ = some (.int .i64 x.src) ∧ w.cell? ⟨b, o + 1, none⟩ = some (.string x.label) ∧ w.cell? ⟨b, o + 2, none⟩ = some (.int .i64 x.sort) ∧ w.cell? ⟨b, o + 3, none⟩ = some (.int .i64 x.dst)
def REdges (w : World) (b : Nat) : Nat → List REdge → Prop
  | _, [] => True
  | o, x :: l => REdgeAt w b o x ∧ REdges w b (o + 4) l
theorem REdgeAt.carry {w w' : World} {b o : Nat} {x : REdge} (h : REdgeAt w b o x) {B : Nat} (hB : b < B) (hb : Below B w w') : REdgeAt w' b o x := by
  obtain ⟨h0, h1, h2, h3⟩ := h
  exact ⟨(hb.cell (p := ⟨b, _, none⟩) hB).trans h0, (hb.cell (p := ⟨b, _, none⟩) hB).trans h1, (hb.cell (p := ⟨b, _, none⟩) hB).trans h2, (hb.cell (p := ⟨b, _, none⟩) hB).trans h3⟩
theorem REdgeAt.lt {w : World} {b o : Nat} {x : REdge} (h : REdgeAt w b o x) : b < w.heap.size := World.block_lt_of_cell? w _ h.1
theorem REdges.carry {w w' : World} {b B : Nat} (hB : b < B) (hb : Below B w w') : ∀ {l : List REdge} {o : Nat}, REdges w b o l → REdges w' b o l
  | [], _, _ => trivial
  | _ :: _, _, h => ⟨h.1.carry hB hb, REdges.carry hB hb h.2⟩
theorem REdges.get {w : World} {b : Nat} : ∀ {l : List REdge} {o : Nat}, REdges w b o l → ∀ i (h : i < l.length), REdgeAt w b (o + i * 4) l[i]
  | _ :: _, _, h, 0, _ => by simpa using h.1
  | _ :: l, o, h, i + 1, hi => by
    have := h.2.get i (by simpa using hi)
    rw [show o + 4 + i * 4 = o + (i + 1) * 4 from by omega] at this
    simpa using this
theorem REdges.of (w : World) (g : Nat) : ∀ (l : List REdge) (o : Nat), (∀ j (h : j < l.length), REdgeAt w g (o + j * 4) l[j]) → REdges w g o l
  | [], _, _ => trivial
  | x :: l, o, h => ⟨by have := h 0 (by simp); simpa only [Nat.zero_mul, Nat.add_zero, List.getElem_cons_zero] using this, REdges.of w g l (o + 4) (fun j hj => by
      have := h (j + 1) (by simpa using hj)
      rw [show o + (j + 1) * 4 = o + 4 + j * 4 from by omega] at this
      simpa only [List.getElem_cons_succ] using this)⟩
def REdgeSl (w : World) (B : Nat) (v : Value) (l : List REdge) : Prop :=
  ∃ ao cap, v = .slice ao l.length cap ∧ l.length ≤ cap ∧ l.length ≤ 4294967296 ∧ (l ≠ [] → ∃ b o, ao = some ⟨b, o, none⟩ ∧ b < B ∧ REdges w b o l)
theorem REdgeSl.carry {w w' : World} {B : Nat} {v : Value} {l : List REdge} (h : REdgeSl w B v l) (hb : Below B w w') : REdgeSl w' B v l := by
  obtain ⟨ao, cap, h1, h2, h3, h4⟩ := h
  refine ⟨ao, cap, h1, h2, h3, fun hne => ?_⟩
  obtain ⟨b, o, e, hlt, hr⟩ := h4 hne
  exact ⟨b, o, e, hlt, hr.carry hlt hb⟩
theorem REdgeSl.up {w : World} {B B' : Nat} {v : Value} {l : List REdge} (h : REdgeSl w B v l) (hB : B ≤ B') : REdgeSl w B' v l := by
  obtain ⟨ao, cap, h1, h2, h3, h4⟩ := h
  refine ⟨ao, cap, h1, h2, h3, fun hne => ?_⟩
  obtain ⟨b, o, e, hlt, hr⟩ := h4 hne
  exact ⟨b, o, e, by omega, hr⟩
theorem REdgeAt.block {w w' : World} {b o : Nat} {x : REdge} (h : REdgeAt w b o x) (hb : w'.heap[b]? = w.heap[b]?) : REdgeAt w' b o x := by
  obtain ⟨h0, h1, h2, h3⟩ := h
  exact ⟨(World.cell?_of_block (a := ⟨b, _, none⟩) hb).trans h0, (World.cell?_of_block (a := ⟨b, _, none⟩) hb).trans h1, (World.cell?_of_block (a := ⟨b, _, none⟩) hb).trans h2, (World.cell?_of_block (a := ⟨b, _, none⟩) hb).trans h3⟩
theorem REdges.block {w w' : World} {b : Nat} (hb : w'.heap[b]? = w.heap[b]?) : ∀ {l : List REdge} {o : Nat}, REdges w b o l → REdges w' b o l
  | [], _, _ => trivial
  | _ :: _, _, h => ⟨h.1.block hb, REdges.block hb h.2⟩
theorem REdgeSl.keep {w w' : World} {B B' : Nat} {v : Value} {l : List REdge} (h : REdgeSl w B v l) (hB : B ≤ B') (hk : ∀ b, v.ownBlock = some b → b < B → w'.heap[b]? = w.heap[b]?) : REdgeSl w' B' v l := by
  obtain ⟨ao, cap, rfl, h2, h3, h4⟩ := h
  refine ⟨ao, cap, rfl, h2, h3, fun hne => ?_⟩
  obtain ⟨b, o, rfl, hlt, hr⟩ := h4 hne
  exact ⟨b, o, rfl, by omega, hr.block (hk b rfl hlt)⟩
theorem REdgeSl.lenm {w : World} {B : Nat} {v : Value} {l : List REdge} (h : REdgeSl w B v l) : l.length ≤ 4294967296 := by
  obtain ⟨ao, cap, _, h1, h2, _⟩ := h
  omega

theorem Tryz.infoREdge : (Tryz.prog.info? 154).map (fun i => (i.zero, i.size, i.bytes)) = some (some (.agg #[.int .i64 0, .string ByteArray.empty, .int .i64 0, .int .i64 0]), 4, 40) := by kernel_rfl

end Go.Proofs.YtaaeledleldllaaGreat
