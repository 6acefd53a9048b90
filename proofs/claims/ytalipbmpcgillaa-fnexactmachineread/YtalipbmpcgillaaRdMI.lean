/- The program's readMachine: the States. -/
import Derived.Test.YtalipbmpcgillaaRdN
import Derived.Test.YtalipbmpcgillaaSdI
import Derived.Test.YtalipbmpcgillaaOwnRState
import Derived.Test.YtalipbmpcgillaaOwnREdge
import Derived.Test.YtalipbmpcgillaaStrRow
import Derived.Test.YtalipbmpcgillaaStepsM
import Derived.Deep.RegionLaw
namespace Go.Proofs.Ytalipbmpcgillaa
open Go.RowKit
attribute [local go_sem ↓] Go.wp_at_zero Go.wp_at_succ

theorem NumB.lt {w : World} {b : Nat} {x0 x1 x2 : Value} (h : NumB w b x0 x1 x2) : b < w.heap.size := World.block_lt_of_cell? w _ h.k0
theorem NumB.keep {w w' : World} {b : Nat} {x0 x1 x2 : Value} {l : List Nat} (h : NumB w b x0 x1 x2) (ha : Apart w w' l) (hl : b ∉ l) : NumB w' b x0 x1 x2 :=
  ⟨ha.cell' h.k0 hl, ha.cell' h.k1 hl, ha.cell' h.k2 hl, ha.frozen' h.lt h.q0 hl, ha.frozen' h.lt h.q1 hl, ha.frozen' h.lt h.q2 hl⟩
theorem num_set0 {w : World} {b : Nat} {x0 x1 x2 : Value} (h : NumB w b x0 x1 x2) (y : Value) : NumB (w.setCell ⟨b, 0, none⟩ y) b y x1 x2 := by
  refine ⟨World.cell?_setCell_same _ _ _ h.k0, ?_, ?_, ?_, ?_, ?_⟩
  · rw [World.cell?_setCell_other _ _ _ _ (by simp)]; exact h.k1
  · rw [World.cell?_setCell_other _ _ _ _ (by simp)]; exact h.k2
  · rw [World.frozen?_setCell]; exact h.q0
  · rw [World.frozen?_setCell]; exact h.q1
  · rw [World.frozen?_setCell]; exact h.q2
theorem num_set1 {w : World} {b : Nat} {x0 x1 x2 : Value} (h : NumB w b x0 x1 x2) (y : Value) : NumB (w.setCell ⟨b, 1, none⟩ y) b x0 y x2 := by
  refine ⟨?_, World.cell?_setCell_same _ _ _ h.k1, ?_, ?_, ?_, ?_⟩
  · rw [World.cell?_setCell_other _ _ _ _ (by simp)]; exact h.k0
  · rw [World.cell?_setCell_other _ _ _ _ (by simp)]; exact h.k2
  · rw [World.frozen?_setCell]; exact h.q0
  · rw [World.frozen?_setCell]; exact h.q1
  · rw [World.frozen?_setCell]; exact h.q2
theorem num_set2 {w : World} {b : Nat} {x0 x1 x2 : Value} (h : NumB w b x0 x1 x2) (y : Value) : NumB (w.setCell ⟨b, 2, none⟩ y) b x0 x1 y := by
  refine ⟨?_, ?_, World.cell?_setCell_same _ _ _ h.k2, ?_, ?_, ?_⟩
  · rw [World.cell?_setCell_other _ _ _ _ (by simp)]; exact h.k0
  · rw [World.cell?_setCell_other _ _ _ _ (by simp)]; exact h.k1
  · rw [World.frozen?_setCell]; exact h.q0
  · rw [World.frozen?_setCell]; exact h.q1
  · rw [World.frozen?_setCell]; exact h.q2
def rmW (w : World) : World := (w.alloc (.cells #[.slice none 0 0, .slice none 0 0, .int .i64 0] 45)).alloc (.cells #[.slice none 0 0, .slice none 0 0, .int .i64 0] 45)
theorem rm_start (w : World) : NumB (rmW w) w.heap.size (.slice none 0 0) (.slice none 0 0) (.int .i64 0) ∧ NumB (rmW w) (w.heap.size + 1) (.slice none 0 0) (.slice none 0 0) (.int .i64 0) ∧ Below w.heap.size w (rmW w) ∧ (rmW w).heap.size = w.heap.size + 2 := by
  refine ⟨?_, ?_, ((Below.refl _ _).alloc (Nat.le_refl _) _).alloc (by simp) _, by simp [rmW]⟩
  · exact (num_late w _ _ _ 45).keep (below_apart (malloc1 _ _)) (by simp)
  · have := num_late (w.alloc (.cells #[.slice none 0 0, .slice none 0 0, .int .i64 0] 45)) (.slice none 0 0) (.slice none 0 0) (.int .i64 0) 45
    simpa [rmW] using this
/-- what stands while a machine is read: the reader, the result's cell, the machine so far -/
structure RmAt (w0 w : World) (rb : Nat) (t : ByteArray) (a c : Int) (sv ev : Value) (ls : List RState) (le : List REdge) : Prop where
  rd : RdAt w rb t a c
  ra : 0 ≤ a ∧ a ≤ 8000
  res : NumB w w0.heap.size (.slice none 0 0) (.slice none 0 0) (.int .i64 0)
  box : NumB w (w0.heap.size + 1) sv ev (.int .i64 0)
  st : RStateOwn w (w0.heap.size + 2) sv ls
  ed : REdgeOwn w (w0.heap.size + 2) ev le
  dis : ∀ b ∈ vblocks sv, b ∉ vblocks ev
  sz : w0.heap.size + 2 ≤ w.heap.size
  ap : Apart w0 w [rb]
theorem RmAt.rdOn {w0 w w' : World} {rb : Nat} {t : ByteArray} {a c a' c' : Int} {sv ev : Value} {ls : List RState} {le : List REdge} (h : RmAt w0 w rb t a c sv ev ls le) (hrb : rb < w0.heap.size) (hr : RdAt w' rb t a' c') (hra : 0 ≤ a' ∧ a' ≤ 8000) (ha : Apart w w' [rb]) : RmAt w0 w' rb t a' c' sv ev ls le :=
  ⟨hr, hra, h.res.keep ha (by simp; omega), h.box.keep ha (by simp; omega), h.st.keep ha (fun b hb hm => by have := h.st.fresh.lo b hb; simp at hm; omega), h.ed.keep ha (fun b hb hm => by have := h.ed.fresh.lo b hb; simp at hm; omega), h.dis, Nat.le_trans h.sz ha.size, h.ap.andThen' ha⟩
theorem RmAt.drew {w0 w : World} {rb : Nat} {t : ByteArray} {a c : Int} {sv ev : Value} {ls : List RState} {le : List REdge} (h : RmAt w0 w rb t a c sv ev ls le) (hrb : rb < w0.heap.size) : RmAt w0 w.drew rb t a c sv ev ls le :=
  h.rdOn hrb (h.rd.keep (Apart.refl _).drew (by simp)) h.ra (Apart.weak (Apart.refl _).drew)
theorem stepM_at {P : Program} {ops : Array Oper} {o : Oper} {a : Act} {w : World} {K : Act → World → Prop} {Q : Exit → Act → World → Prop} {E : Prop}
    (hg : o.guard = none) (s x : Operand) (t : TypeId) (hop : o.op = Op.call { callee := Callee.builtin Builtin.append, args := #[s, x], argTypes := #[t, t] })
    (base : Nat) (e : TypeId) (i : TypeInfo) (z : Value) (size bytes : Nat) (h1 : P.underlying t = some (.slice e)) (h2 : P.info? e = some i) (h3 : i.zero = some z) (h4 : i.size = size) (h5 : i.bytes = bytes) (h6 : z.cells.size = size) (h7 : 0 < size)
    (v : Value) (n : Nat) (xs : List Value) (hs : a.eval s = v) (hown : w.ownsRow base e size v n xs)
    (ad : Addr) (m c : Nat) (news : List Value) (hx : a.eval x = .slice (some ad) m c) (hn : news.length = m * size) (hc : ∀ j u, news[j]? = some u → w.cell? (ad.add j) = some u) (h1c : ∀ u ∈ news, u.oneCell' = true)
    (b1 : n + m ≤ maxLen) (b2 : (n + m) * bytes ≤ 140737488355328) (hbase : base ≤ w.heap.size)
    (hK : ∀ v' w', w'.ownsRow base e size v' (n + m) (xs ++ news) → w.grownBy w' v.ownBlock → (v'.ownBlock = v.ownBlock ∨ v'.ownBlock = some w.heap.size) → K (a.put o.dst v') w') :
    if Region.wanted o (yielded ops a.tmps) = true then Oper.wp P o a w K Q else E := by
  have hw : Region.wanted o (yielded ops a.tmps) = true := by simp [Region.wanted, hg]
  rw [if_pos hw]
  obtain ⟨v', w', hrun, r1, r2, _, r3⟩ := run_append_own_at (P := P) w base t o.type e i z size bytes h1 h2 h3 h4 h5 h6 h7 v n xs hown ad m c news hn hc h1c b1 b2 hbase
  unfold Oper.wp
  simp [execOp, hop, resolve, invoke, builtin, hs, hx, hrun, Result.andThen]
  exact hK v' w' r1 r2 r3
theorem rm_push1 {w0 w3 w4 : World} {rb : Nat} {t : ByteArray} {a c : Int} {sv ev v4 : Value} {ls : List RState} {le : List REdge} (h : RmAt w0 w3 rb t a c sv ev ls le) (hrb : rb < w0.heap.size) (x : RState) (o : Obj)
    (hown : w4.ownsRow (w0.heap.size + 2) 93 2 v4 (ls.length + 1) (ls.flatMap RState.cells ++ x.cells)) (hg : (w3.alloc o).grownBy w4 sv.ownBlock) (hat : v4.ownBlock = sv.ownBlock ∨ v4.ownBlock = some (w3.alloc o).heap.size) :
    RmAt w0 (w4.setCell ⟨w0.heap.size + 1, 0, none⟩ v4) rb t a c v4 ev (ls ++ [x]) le := by
  obtain ⟨p, cp, rfl⟩ := owns_shape h.st
  obtain ⟨p4, c4, rfl⟩ := owns_shape hown
  obtain ⟨p5, c5, rfl⟩ := owns_shape h.ed
  have hA : Apart w3 w4 (vblocks (.slice p ls.length cp)) := by
    have := (below_apart (malloc1 w3 o)).trans (grownBy_apart hg)
    rwa [List.nil_append] at this
  have lo := h.st.fresh.lo
  have lo5 := h.ed.fresh.lo
  have lo4 := (owns_fresh hown).lo
  have hS := setCell_apart w4 (w0.heap.size + 1) 0 (.slice p4 (ls.length + 1) c4)
  have hA2 := hA.trans hS
  have hin : ∀ b, (b ∈ vblocks (.slice p ls.length cp) ++ [w0.heap.size + 1]) → w0.heap.size + 1 ≤ b := fun b hb => by
    rw [List.mem_append] at hb
    rcases hb with hb | hb
    · have := lo b hb; omega
    · simp at hb; omega
  refine ⟨h.rd.keep hA2 (fun hb => by have := hin _ hb; omega), h.ra, h.res.keep hA2 (fun hb => by have := hin _ hb; omega), num_set0 (h.box.keep hA (fun hb => by have := lo _ hb; omega)) _, ?_, ?_, ?_, ?_, ?_⟩
  · exact RStateOwn.snoc (owns_keep hown hS (fun b hb hm => by have := lo4 b hb; simp at hm; omega))
  · exact h.ed.keep hA2 (fun b hb hm => by
      rw [List.mem_append] at hm
      rcases hm with hm | hm
      · exact h.dis b hm hb
      · have := lo5 b hb; simp at hm; omega)
  · intro b hb hm
    have hb' := (own_blocks rfl).2 hb
    rcases hat with e | e
    · rw [e] at hb'
      exact h.dis b ((own_blocks rfl).1 hb') hm
    · rw [e] at hb'
      have := h.ed.fresh.hi b hm
      simp at hb'
      omega
  · have := h.sz; have := hA2.size; omega
  · have := h.ap.trans hA2
    exact ⟨this.os, this.tape, this.output, this.size, fun b hb hn => this.block b hb (fun hm => by
      rw [List.mem_append] at hm
      rcases hm with hm | hm
      · exact hn hm
      · have := hin _ hm; omega)⟩
theorem rm_push2 {w0 w3 w4 : World} {rb : Nat} {t : ByteArray} {a c : Int} {sv ev v4 : Value} {ls : List RState} {le : List REdge} (h : RmAt w0 w3 rb t a c sv ev ls le) (hrb : rb < w0.heap.size) (x : REdge) (o : Obj)
    (hown : w4.ownsRow (w0.heap.size + 2) 95 4 v4 (le.length + 1) (le.flatMap REdge.cells ++ x.cells)) (hg : (w3.alloc o).grownBy w4 ev.ownBlock) (hat : v4.ownBlock = ev.ownBlock ∨ v4.ownBlock = some (w3.alloc o).heap.size) :
    RmAt w0 (w4.setCell ⟨w0.heap.size + 1, 1, none⟩ v4) rb t a c sv v4 ls (le ++ [x]) := by
  obtain ⟨p, cp, rfl⟩ := owns_shape h.ed
  obtain ⟨p4, c4, rfl⟩ := owns_shape hown
  obtain ⟨p5, c5, rfl⟩ := owns_shape h.st
  have hA : Apart w3 w4 (vblocks (.slice p le.length cp)) := by
    have := (below_apart (malloc1 w3 o)).trans (grownBy_apart hg)
    rwa [List.nil_append] at this
  have lo := h.ed.fresh.lo
  have lo5 := h.st.fresh.lo
  have lo4 := (owns_fresh hown).lo
  have hS := setCell_apart w4 (w0.heap.size + 1) 1 (.slice p4 (le.length + 1) c4)
  have hA2 := hA.trans hS
  have hin : ∀ b, (b ∈ vblocks (.slice p le.length cp) ++ [w0.heap.size + 1]) → w0.heap.size + 1 ≤ b := fun b hb => by
    rw [List.mem_append] at hb
    rcases hb with hb | hb
    · have := lo b hb; omega
    · simp at hb; omega
  refine ⟨h.rd.keep hA2 (fun hb => by have := hin _ hb; omega), h.ra, h.res.keep hA2 (fun hb => by have := hin _ hb; omega), num_set1 (h.box.keep hA (fun hb => by have := lo _ hb; omega)) _, ?_, ?_, ?_, ?_, ?_⟩
  · exact h.st.keep hA2 (fun b hb hm => by
      rw [List.mem_append] at hm
      rcases hm with hm | hm
      · exact h.dis b hb hm
      · have := lo5 b hb; simp at hm; omega)
  · exact REdgeOwn.snoc (owns_keep hown hS (fun b hb hm => by have := lo4 b hb; simp at hm; omega))
  · intro b hm hb
    have hb' := (own_blocks rfl).2 hb
    rcases hat with e | e
    · rw [e] at hb'
      exact h.dis b hm ((own_blocks rfl).1 hb')
    · rw [e] at hb'
      have := h.st.fresh.hi b hm
      simp at hb'
      omega
  · have := h.sz; have := hA2.size; omega
  · have := h.ap.trans hA2
    exact ⟨this.os, this.tape, this.output, this.size, fun b hb hn => this.block b hb (fun hm => by
      rw [List.mem_append] at hm
      rcases hm with hm | hm
      · exact hn hm
      · have := hin _ hm; omega)⟩
end Go.Proofs.Ytalipbmpcgillaa
