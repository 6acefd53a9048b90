import Derived.Test.YtlbcnmcfljaijaaQF00
import Derived.StillTail
namespace Go.Proofs.Ytlbcnmcfljaijaa
open Go.RowKit

structure RState where
  kind : Int
  peer : ByteArray

def RState.val (x : RState) : Value := .agg #[.int .i64 x.kind, .string x.peer]
def RState.ok (x : RState) : Prop := x.peer.size ≤ maxLen
def RState.fit (x : RState) : Prop := x.peer.size ≤ 1048576
def RStateAt (w : World) (b o : Nat) (x : RState) : Prop := w.cell? ⟨b, o, none⟩ = some (.int .i64 x.kind) ∧ w.cell? ⟨b, o + 1, none⟩ = some (.string x.peer)
def RStates (w : World) (b : Nat) : Nat → List RState → Prop
  | _, [] => True
  | o, x :: l => RStateAt w b o x ∧ RStates w b (o + 2) l
theorem RStateAt.carry {w w' : World} {b o : Nat} {x : RState} (h : RStateAt w b o x) {B : Nat} (hB : b < B) (hb : Below B w w') : RStateAt w' b o x := by
  obtain ⟨h0, h1⟩ := h
  exact ⟨(hb.cell (p := ⟨b, _, none⟩) hB).trans h0, (hb.cell (p := ⟨b, _, none⟩) hB).trans h1⟩
theorem RStateAt.lt {w : World} {b o : Nat} {x : RState} (h : RStateAt w b o x) : b < w.heap.size := World.block_lt_of_cell? w _ h.1
theorem RStates.carry {w w' : World} {b B : Nat} (hB : b < B) (hb : Below B w w') : ∀ {l : List RState} {o : Nat}, RStates w b o l → RStates w' b o l
  | [], _, _ => trivial
  | _ :: _, _, h => ⟨h.1.carry hB hb, RStates.carry hB hb h.2⟩
theorem RStates.get {w : World} {b : Nat} : ∀ {l : List RState} {o : Nat}, RStates w b o l → ∀ i (h : i < l.length), RStateAt w b (o + i * 2) l[i]
  | _ :: _, _, h, 0, _ => by simpa using h.1
  | _ :: l, o, h, i + 1, hi => by
    have := h.2.get i (by simpa using hi)
    rw [show o + 2 + i * 2 = o + (i + 1) * 2 from by omega] at this
    simpa using this
theorem RStates.of (w : World) (g : Nat) : ∀ (l : List RState) (o : Nat), (∀ j (h : j < l.length), RStateAt w g (o + j * 2) l[j]) → RStates w g o l
  | [], _, _ => trivial
  | x :: l, o, h => ⟨by have := h 0 (by simp); simpa only [Nat.zero_mul, Nat.add_zero, List.getElem_cons_zero] using this, RStates.of w g l (o + 2) (fun j hj => by
      have := h (j + 1) (by simpa using hj)
      rw [show o + (j + 1) * 2 = o + 2 + j * 2 from by omega] at this
      simpa only [List.getElem_cons_succ] using this)⟩
def RStateSl (w : World) (B : Nat) (v : Value) (l : List RState) : Prop :=
  ∃ ao cap, v = .slice ao l.length cap ∧ l.length ≤ cap ∧ l.length ≤ 4294967296 ∧ (l ≠ [] → ∃ b o, ao = some ⟨b, o, none⟩ ∧ b < B ∧ RStates w b o l)
theorem RStateSl.carry {w w' : World} {B : Nat} {v : Value} {l : List RState} (h : RStateSl w B v l) (hb : Below B w w') : RStateSl w' B v l := by
  obtain ⟨ao, cap, h1, h2, h3, h4⟩ := h
  refine ⟨ao, cap, h1, h2, h3, fun hne => ?_⟩
  obtain ⟨b, o, e, hlt, hr⟩ := h4 hne
  exact ⟨b, o, e, hlt, hr.carry hlt hb⟩
theorem RStateSl.up {w : World} {B B' : Nat} {v : Value} {l : List RState} (h : RStateSl w B v l) (hB : B ≤ B') : RStateSl w B' v l := by
  obtain ⟨ao, cap, h1, h2, h3, h4⟩ := h
  refine ⟨ao, cap, h1, h2, h3, fun hne => ?_⟩
  obtain ⟨b, o, e, hlt, hr⟩ := h4 hne
  exact ⟨b, o, e, by omega, hr⟩
theorem RStateAt.block {w w' : World} {b o : Nat} {x : RState} (h : RStateAt w b o x) (hb : w'.heap[b]? = w.heap[b]?) : RStateAt w' b o x := by
  obtain ⟨h0, h1⟩ := h
  exact ⟨(World.cell?_of_block (a := ⟨b, _, none⟩) hb).trans h0, (World.cell?_of_block (a := ⟨b, _, none⟩) hb).trans h1⟩
theorem RStates.block {w w' : World} {b : Nat} (hb : w'.heap[b]? = w.heap[b]?) : ∀ {l : List RState} {o : Nat}, RStates w b o l → RStates w' b o l
  | [], _, _ => trivial
  | _ :: _, _, h => ⟨h.1.block hb, RStates.block hb h.2⟩
theorem RStateSl.keep {w w' : World} {B B' : Nat} {v : Value} {l : List RState} (h : RStateSl w B v l) (hB : B ≤ B') (hk : ∀ b, v.ownBlock = some b → b < B → w'.heap[b]? = w.heap[b]?) : RStateSl w' B' v l := by
  obtain ⟨ao, cap, rfl, h2, h3, h4⟩ := h
  refine ⟨ao, cap, rfl, h2, h3, fun hne => ?_⟩
  obtain ⟨b, o, rfl, hlt, hr⟩ := h4 hne
  exact ⟨b, o, rfl, by omega, hr.block (hk b rfl hlt)⟩
theorem RStateSl.lenm {w : World} {B : Nat} {v : Value} {l : List RState} (h : RStateSl w B v l) : l.length ≤ 4294967296 := by
  obtain ⟨ao, cap, _, h1, h2, _⟩ := h
  omega

theorem Try.infoRState : (Try.prog.info? 48).map (fun i => (i.zero, i.size, i.bytes)) = some (some (.agg #[.int .i64 0, .string ByteArray.empty]), 2, 24) := by kernel_rfl

end Go.Proofs.Ytlbcnmcfljaijaa
namespace Go.Proofs.Ytlbcnmcfljaijaa
open Go.RowKit

structure REdge where
  src : Int
  label : ByteArray
  sort : Int
  dst : Int

def REdge.val (x : REdge) : Value := .agg #[.int .i64 x.src, .string x.label, .int .i64 x.sort, .int .i64 x.dst]
def REdge.ok (x : REdge) : Prop := x.label.size ≤ maxLen
def REdge.fit (x : REdge) : Prop := x.label.size ≤ 1048576
def REdgeAt (w : World) (b o : Nat) (x : REdge) : Prop := w.cell? ⟨b, o, none⟩ = some (.int .i64 x.src) ∧ w.cell? ⟨b, o + 1, none⟩ = some (.string x.label) ∧ w.cell? ⟨b, o + 2, none⟩ = some (.int .i64 x.sort) ∧ w.cell? ⟨b, o + 3, none⟩ = some (.int .i64 x.dst)
def REdges (w : World) (b : Nat) : Nat → List REdge → Prop
  | _, [] => True
  | o, x :: l => REdgeAt w b o x ∧ REdges w b (o + 4) l
theorem REdgeAt.carry {w w' : World} {b o : Nat} {x : REdge} (h : REdgeAt w b o x) {B : Nat} (hB : b < B) (hb : Below B w w') : REdgeAt w' b o x := by
  obtain ⟨h0, h1, h2, h3⟩ := h
  exact ⟨(hb.cell (p := ⟨b, _, none⟩) hB).trans h0, (hb.cell (p := ⟨b, _, none⟩) hB).trans h1, (hb.cell (p := ⟨b, _, none⟩) hB).trans h2, (hb.cell (p := ⟨b, _, none⟩) hB).trans h3⟩
theorem REdgeAt.lt {w : World} {b o : Nat} {x : REdge} (h : REdgeAt w b o x) : b < w.heap.size := World.block_lt_of_cell? w _ h.1
theorem REdges.carry {w w' : World} {b B : Nat} (hB : b < B) (hb : Below B w w') : ∀ {l : List REdge} {o : Nat}, REdges w b o l → REdges w' b o l
  | [], _, _ => trivial
  | _ :: _, _, h => ⟨h.1.carry hB hb, REdges.carry hB hb h.2⟩
theorem REdges.get {w : World} {b : Nat} : ∀ {l : List REdge} {o : Nat}, REdges w b o l → ∀ i (h : i < l.length), REdgeAt w b (o + i * 4) l[i]
  | _ :: _, _, h, 0, _ => by simpa using h.1
  | _ :: l, o, h, i + 1, hi => by
    have := h.2.get i (by simpa using hi)
    rw [show o + 4 + i * 4 = o + (i + 1) * 4 from by omega] at this
    simpa using this
theorem REdges.of (w : World) (g : Nat) : ∀ (l : List REdge) (o : Nat), (∀ j (h : j < l.length), REdgeAt w g (o + j * 4) l[j]) → REdges w g o l
  | [], _, _ => trivial
  | x :: l, o, h => ⟨by have := h 0 (by simp); simpa only [Nat.zero_mul, Nat.add_zero, List.getElem_cons_zero] using this, REdges.of w g l (o + 4) (fun j hj => by
      have := h (j + 1) (by simpa using hj)
      rw [show o + (j + 1) * 4 = o + 4 + j * 4 from by omega] at this
      simpa only [List.getElem_cons_succ] using this)⟩
def REdgeSl (w : World) (B : Nat) (v : Value) (l : List REdge) : Prop :=
  ∃ ao cap, v = .slice ao l.length cap ∧ l.length ≤ cap ∧ l.length ≤ 4294967296 ∧ (l ≠ [] → ∃ b o, ao = some ⟨b, o, none⟩ ∧ b < B ∧ REdges w b o l)
theorem REdgeSl.carry {w w' : World} {B : Nat} {v : Value} {l : List REdge} (h : REdgeSl w B v l) (hb : Below B w w') : REdgeSl w' B v l := by
  obtain ⟨ao, cap, h1, h2, h3, h4⟩ := h
  refine ⟨ao, cap, h1, h2, h3, fun hne => ?_⟩
  obtain ⟨b, o, e, hlt, hr⟩ := h4 hne
  exact ⟨b, o, e, hlt, hr.carry hlt hb⟩
theorem REdgeSl.up {w : World} {B B' : Nat} {v : Value} {l : List REdge} (h : REdgeSl w B v l) (hB : B ≤ B') : REdgeSl w B' v l := by
  obtain ⟨ao, cap, h1, h2, h3, h4⟩ := h
  refine ⟨ao, cap, h1, h2, h3, fun hne => ?_⟩
  obtain ⟨b, o, e, hlt, hr⟩ := h4 hne
  exact ⟨b, o, e, by omega, hr⟩
theorem REdgeAt.block {w w' : World} {b o : Nat} {x : REdge} (h : REdgeAt w b o x) (hb : w'.heap[b]? = w.heap[b]?) : REdgeAt w' b o x := by
  obtain ⟨h0, h1, h2, h3⟩ := h
  exact ⟨(World.cell?_of_block (a := ⟨b, _, none⟩) hb).trans h0, (World.cell?_of_block (a := ⟨b, _, none⟩) hb).trans h1, (World.cell?_of_block (a := ⟨b, _, none⟩) hb).trans h2, (World.cell?_of_block (a := ⟨b, _, none⟩) hb).trans h3⟩
theorem REdges.block {w w' : World} {b : Nat} (hb : w'.heap[b]? = w.heap[b]?) : ∀ {l : List REdge} {o : Nat}, REdges w b o l → REdges w' b o l
  | [], _, _ => trivial
  | _ :: _, _, h => ⟨h.1.block hb, REdges.block hb h.2⟩
theorem REdgeSl.keep {w w' : World} {B B' : Nat} {v : Value} {l : List REdge} (h : REdgeSl w B v l) (hB : B ≤ B') (hk : ∀ b, v.ownBlock = some b → b < B → w'.heap[b]? = w.heap[b]?) : REdgeSl w' B' v l := by
  obtain ⟨ao, cap, rfl, h2, h3, h4⟩ := h
  refine ⟨ao, cap, rfl, h2, h3, fun hne => ?_⟩
  obtain ⟨b, o, rfl, hlt, hr⟩ := h4 hne
  exact ⟨b, o, rfl, by omega, hr.block (hk b rfl hlt)⟩
theorem REdgeSl.lenm {w : World} {B : Nat} {v : Value} {l : List REdge} (h : REdgeSl w B v l) : l.length ≤ 4294967296 := by
  obtain ⟨ao, cap, _, h1, h2, _⟩ := h
  omega

theorem Try.infoREdge : (Try.prog.info? 52).map (fun i => (i.zero, i.size, i.bytes)) = some (some (.agg #[.int .i64 0, .string ByteArray.empty, .int .i64 0, .int .i64 0]), 4, 40) := by kernel_rfl

end Go.Proofs.Ytlbcnmcfljaijaa
namespace Go.Proofs.Ytlbcnmcfljaijaa
open Go.RowKit

section
variable {P : Program} {ops : Array Oper} {md : Region.Mode} {C : World → Prop}

def headQ (P : Program) (md : Region.Mode) (ops : Array Oper) (C : World → Prop) (n : Nat) (L : Array Bool → Act → Prop) : Nat → Array Bool → Act → Prop
  | 0, listed, a => L listed a
  | f + 1, listed, a => Region.ready md ops listed ≠ [] ∧ ∀ i ∈ Region.ready md ops listed, i < n ∧ qOp P ops C i (headQ P md ops C n L f (listed.setIfInBounds i true)) a

theorem any_of_headQ {n g : Nat} {L : Array Bool → Act → Prop} {Q' : Exit → Act → World → Prop} (hL : ∀ listed a w, C w → L listed a → wpAny P md ops Q' g listed a w) :
    ∀ (f : Nat) (listed : Array Bool) (a : Act) (w : World), C w → headQ P md ops C n L f listed a → wpAny P md ops Q' (f + g) listed a w
  | 0, listed, a, w, hw, h => by rw [Nat.zero_add]; exact hL _ _ _ hw h
  | f + 1, listed, a, w, hw, h => by
    rw [show f + 1 + g = (f + g) + 1 by omega]
    exact ⟨fun h0 => absurd h0 h.1, fun i hi => wpOp_of_qOp hw (fun a' w' hw' h' => any_of_headQ hL f _ a' w' hw' h') (h.2 i hi).2⟩

theorem headQ_first {n i : Nat} {oi : Oper} {v : Value} {L : Array Bool → Act → Prop} (hi : ops[i]? = some oi) (hsel : ∀ (j : Nat) (o : Oper) cs b, ops[j]? = some o → o.op ≠ .select cs b)
    (hs : Region.sinkB md ops n = true) (hc : Region.chainB md ops n = true) (hn : n < ops.size) (hin : i < n)
    (hdone : ∀ listed a, L listed a → ∀ j ∈ Region.ready md ops listed, n ≤ j) (f : Nat) :
    ∀ (listed : Array Bool) (a : Act), HeadInv md ops n listed →
      (∀ j oj, ops[j]? = some oj → j ≠ i → listed.getD j true = false → (∀ e ∈ oj.after, Region.binds md e = true → e.on ≠ i) → oi.apart ops oj = true) →
      i ∈ Region.ready md ops listed → YieldsIn P ops C oi v a →
      headQ P md ops C n L f (listed.setIfInBounds i true) (a.put oi.dst v) → headQ P md ops C n L (f + 1) listed a := by
  induction f with
  | zero =>
    intro listed a inv _ hr hy H
    refine ⟨fun h => (by rw [h] at hr; cases hr), fun j hj => ?_⟩
    have hjn : j < n := Nat.lt_of_not_le fun h => tail_waits hs hc hn inv _ i rfl hin (mem_ready.1 hr).1 j h hj
    refine ⟨hjn, ?_⟩
    by_cases hji : j = i
    · subst hji; exact hy.qOp hi H
    · exact absurd (hdone _ _ H j (ready_mono hj hji)) (by omega)
  | succ f ih =>
    intro listed a inv hfree hr hy H
    refine ⟨fun h => (by rw [h] at hr; cases hr), fun j hj => ?_⟩
    have hun := (mem_ready.1 hr).1
    have hjn : j < n := Nat.lt_of_not_le fun h => tail_waits hs hc hn inv _ i rfl hin hun j h hj
    refine ⟨hjn, ?_⟩
    by_cases hji : j = i
    · subst hji; exact hy.qOp hi H
    · obtain ⟨hjun, oj, hoj, hall⟩ := mem_ready.1 hj
      have hnot : ∀ e ∈ oj.after, Region.binds md e = true → e.on ≠ i := fun e he hb heq => by
        have h1 := hall e he hb
        rw [heq, getD_both hun] at h1
        cases h1
      have h2 := qOp_put hoj (hfree j oj hoj hji hjun hnot) (fun cs b => hsel i oi cs b hi) (fun cs b => hsel j oj cs b hoj) hy (H.2 j (ready_mono hj hji)).2
      refine qOp_mono (fun a' h3 => ih (listed.setIfInBounds j true) a' (inv.set hj hjn) (fun k ok hk hki hk' hno => ?_) (ready_mono hr (Ne.symm hji)) h3.1 ?_) h2
      · refine hfree k ok hk hki ?_ hno
        by_cases hjk : j = k
        · subst hjk; exact hjun
        · rwa [getD_set_ne true hjk] at hk'
      · rw [Array.setIfInBounds_comm _ _ hji]
        exact h3.2

theorem headQ_lex {n g : Nat} {Lq : Act → Prop} (hsel : Region.noSelect ops = true) (hs : Region.sinkB md ops n = true) (hc : Region.chainB md ops n = true) (hn : n < ops.size) :
    ∀ (l : List Oper) (k : Nat) (listed : Array Bool) (a : Act), (∀ j, j < l.length → l[j]? = ops[k + j]?) → k + l.length = n → HeadInv md ops n listed →
    Region.lexHead md ops g l.length k listed = true → wpQuiet P ops C Lq l a →
    headQ P md ops C n (fun listed' a' => Region.seqB md ops g n listed' = true ∧ Lq a') l.length listed a
  | [], k, listed, a, _, hk, _, hB, h => by
    have e : k = n := by simpa using hk
    subst e
    exact ⟨by simpa [Region.lexHead] using hB, h⟩
  | o :: l, k, listed, a, hl, hk, inv, hB, h => by
    have h0 : ops[k]? = some o := by simpa using (hl 0 (by simp)).symm
    simp only [List.length_cons, Region.lexHead, Bool.and_eq_true] at hB
    have hkn : k < n := by simp only [List.length_cons] at hk; omega
    have hr : k ∈ Region.ready md ops listed := by simpa using hB.1.1
    obtain ⟨v, hy, hK⟩ := yieldsIn_of_qOp h0 (show qOp P ops C k (wpQuiet P ops C Lq l) a by unfold qOp; simp only [h0]; exact h)
    exact headQ_first h0 (Region.noSelect_spec hsel) hs hc hn hkn (fun _ _ hL => seqB_ready hL.1) l.length listed a inv (Region.free_spec h0 hB.1.2) hr hy
      (headQ_lex hsel hs hc hn l (k + 1) _ _ (fun j hj => by have := hl (j + 1) (by simp; omega); simpa [Nat.add_assoc, Nat.add_comm 1 j] using this) (by simp only [List.length_cons] at hk; omega) (inv.set hr hkn) hB.2 hK)
end

theorem wp_region_tail {P : Program} {id : Nat} {Q : Exit → Act → World → Prop} {a : Act} {w : World} {l : List Oper} (n : Nat) (hm : P.follows .mixedOrders = true) (hB : Region.lexTailB .any l.toArray n = true)
    (h : ∀ W, W = w → wpQuiet P l.toArray (fun w' => ∃ g : Grown W, w' = g.val) (fun a' => ∀ w', Below W.heap.size W w' → wpList P l.toArray Q (l.drop n) a' w') (l.take n) a) : (Code.region id l.toArray true).wp P Q a w := by
  simp only [Region.lexTailB, Bool.and_eq_true, decide_eq_true_eq] at hB
  obtain ⟨⟨⟨⟨hsel, hn⟩, hs⟩, hc⟩, hlex⟩ := hB
  have htl : (l.take n).length = n := by have : n < l.length := by simpa using hn
                                         simp; omega
  have hdl : (l.drop n).length = l.toArray.size - n := by simp
  have inv0 : HeadInv .any l.toArray n (Array.replicate l.toArray.size false) :=
    ⟨by simp, fun j oj _ hl => (by rw [getD_replicate_false] at hl; cases hl), fun t _ ht => getD_in (by simpa using ht) (getD_replicate_false _ _)⟩
  have H := headQ_lex (md := .any) (C := fun w' => ∃ g : Grown w, w' = g.val) (g := l.toArray.size - n) hsel hs hc hn (l.take n) 0 _ a (fun j hj => by
    have hj' : j < n := by rw [htl] at hj; exact hj
    simp [hj']) (by simpa using htl) inv0 (by rw [htl]; exact hlex) (h w rfl)
  refine wp_region_any hm ?_
  have K := any_of_headQ (Q' := Q) (g := l.toArray.size - n) (fun listed a' w' hw hL => by
    obtain ⟨g, rfl⟩ := hw
    have := wpAny_of_seq (md := .any) (Q' := Q) (l.drop n) n listed a' g.val (fun j => by simp [List.getElem?_drop]) (by rw [hdl]; exact hL.1) (hL.2 _ g.bel)
    rwa [hdl] at this) _ _ _ { w with drawn := w.drawn + 1 } ⟨⟨_, (Below.refl _ _).drew⟩, rfl⟩ H
  rw [htl, show n + (l.toArray.size - n) = l.toArray.size by omega] at K
  exact K
end Go.Proofs.Ytlbcnmcfljaijaa
namespace Go.Proofs.Ytlbcnmcfljaijaa
open Go.RowKit

structure RAct where
  kind : Int
  peer : ByteArray
  label : ByteArray
  sort : Int

def RAct.val (x : RAct) : Value := .agg #[.int .i64 x.kind, .string x.peer, .string x.label, .int .i64 x.sort]
def RAct.ok (x : RAct) : Prop := x.peer.size ≤ maxLen ∧ x.label.size ≤ maxLen
def RAct.fit (x : RAct) : Prop := x.peer.size ≤ 1048576 ∧ x.label.size ≤ 1048576
def RActAt (w : World) (b o : Nat) (x : RAct) : Prop := w.cell? ⟨b, o, none⟩ = some (.int .i64 x.kind) ∧ w.cell? ⟨b, o + 1, none⟩ = some (.string x.peer) ∧ w.cell? ⟨b, o + 2, none⟩ = some (.string x.label) ∧ w.cell? ⟨b, o + 3, none⟩ = some (.int .i64 x.sort)
def RActs (w : World) (b : Nat) : Nat → List RAct → Prop
  | _, [] => True
  | o, x :: l => RActAt w b o x ∧ RActs w b (o + 4) l
theorem RActAt.carry {w w' : World} {b o : Nat} {x : RAct} (h : RActAt w b o x) {B : Nat} (hB : b < B) (hb : Below B w w') : RActAt w' b o x := by
  obtain ⟨h0, h1, h2, h3⟩ := h
  exact ⟨(hb.cell (p := ⟨b, _, none⟩) hB).trans h0, (hb.cell (p := ⟨b, _, none⟩) hB).trans h1, (hb.cell (p := ⟨b, _, none⟩) hB).trans h2, (hb.cell (p := ⟨b, _, none⟩) hB).trans h3⟩
theorem RActAt.lt {w : World} {b o : Nat} {x : RAct} (h : RActAt w b o x) : b < w.heap.size := World.block_lt_of_cell? w _ h.1
theorem RActs.carry {w w' : World} {b B : Nat} (hB : b < B) (hb : Below B w w') : ∀ {l : List RAct} {o : Nat}, RActs w b o l → RActs w' b o l
  | [], _, _ => trivial
  | _ :: _, _, h => ⟨h.1.carry hB hb, RActs.carry hB hb h.2⟩
theorem RActs.get {w : World} {b : Nat} : ∀ {l : List RAct} {o : Nat}, RActs w b o l → ∀ i (h : i < l.length), RActAt w b (o + i * 4) l[i]
  | _ :: _, _, h, 0, _ => by simpa using h.1
  | _ :: l, o, h, i + 1, hi => by
    have := h.2.get i (by simpa using hi)
    rw [show o + 4 + i * 4 = o + (i + 1) * 4 from by omega] at this
    simpa using this
theorem RActs.of (w : World) (g : Nat) : ∀ (l : List RAct) (o : Nat), (∀ j (h : j < l.length), RActAt w g (o + j * 4) l[j]) → RActs w g o l
  | [], _, _ => trivial
  | x :: l, o, h => ⟨by have := h 0 (by simp); simpa only [Nat.zero_mul, Nat.add_zero, List.getElem_cons_zero] using this, RActs.of w g l (o + 4) (fun j hj => by
      have := h (j + 1) (by simpa using hj)
      rw [show o + (j + 1) * 4 = o + 4 + j * 4 from by omega] at this
      simpa only [List.getElem_cons_succ] using this)⟩
def RActSl (w : World) (B : Nat) (v : Value) (l : List RAct) : Prop :=
  ∃ ao cap, v = .slice ao l.length cap ∧ l.length ≤ cap ∧ l.length ≤ 4294967296 ∧ (l ≠ [] → ∃ b o, ao = some ⟨b, o, none⟩ ∧ b < B ∧ RActs w b o l)
theorem RActSl.carry {w w' : World} {B : Nat} {v : Value} {l : List RAct} (h : RActSl w B v l) (hb : Below B w w') : RActSl w' B v l := by
  obtain ⟨ao, cap, h1, h2, h3, h4⟩ := h
  refine ⟨ao, cap, h1, h2, h3, fun hne => ?_⟩
  obtain ⟨b, o, e, hlt, hr⟩ := h4 hne
  exact ⟨b, o, e, hlt, hr.carry hlt hb⟩
theorem RActSl.up {w : World} {B B' : Nat} {v : Value} {l : List RAct} (h : RActSl w B v l) (hB : B ≤ B') : RActSl w B' v l := by
  obtain ⟨ao, cap, h1, h2, h3, h4⟩ := h
  refine ⟨ao, cap, h1, h2, h3, fun hne => ?_⟩
  obtain ⟨b, o, e, hlt, hr⟩ := h4 hne
  exact ⟨b, o, e, by omega, hr⟩
theorem RActAt.block {w w' : World} {b o : Nat} {x : RAct} (h : RActAt w b o x) (hb : w'.heap[b]? = w.heap[b]?) : RActAt w' b o x := by
  obtain ⟨h0, h1, h2, h3⟩ := h
  exact ⟨(World.cell?_of_block (a := ⟨b, _, none⟩) hb).trans h0, (World.cell?_of_block (a := ⟨b, _, none⟩) hb).trans h1, (World.cell?_of_block (a := ⟨b, _, none⟩) hb).trans h2, (World.cell?_of_block (a := ⟨b, _, none⟩) hb).trans h3⟩
theorem RActs.block {w w' : World} {b : Nat} (hb : w'.heap[b]? = w.heap[b]?) : ∀ {l : List RAct} {o : Nat}, RActs w b o l → RActs w' b o l
  | [], _, _ => trivial
  | _ :: _, _, h => ⟨h.1.block hb, RActs.block hb h.2⟩
theorem RActSl.keep {w w' : World} {B B' : Nat} {v : Value} {l : List RAct} (h : RActSl w B v l) (hB : B ≤ B') (hk : ∀ b, v.ownBlock = some b → b < B → w'.heap[b]? = w.heap[b]?) : RActSl w' B' v l := by
  obtain ⟨ao, cap, rfl, h2, h3, h4⟩ := h
  refine ⟨ao, cap, rfl, h2, h3, fun hne => ?_⟩
  obtain ⟨b, o, rfl, hlt, hr⟩ := h4 hne
  exact ⟨b, o, rfl, by omega, hr.block (hk b rfl hlt)⟩
theorem RActSl.lenm {w : World} {B : Nat} {v : Value} {l : List RAct} (h : RActSl w B v l) : l.length ≤ 4294967296 := by
  obtain ⟨ao, cap, _, h1, h2, _⟩ := h
  omega

end Go.Proofs.Ytlbcnmcfljaijaa
