/- The program's readMachine: the States. -/
import Derived.Test.YtalipbmpcgillaaRdN
import Derived.Test.YtalipbmpcgillaaSdI
import Derived.Test.YtalipbmpcgillaaOwnRState
import Derived.Test.YtalipbmpcgillaaOwnREdge
import Derived.Test.YtalipbmpcgillaaStrRow
import Derived.Test.YtalipbmpcgillaaStepsM
import Derived.Deep.RegionLaw
namespace Go.Proofs.Ytalipbmpcgillaa
open Go.RowKit
attribute [local go_sem ↓] Go.wp_at_zero Go.wp_at_succ

theorem NumB.lt {w : World} {b : Nat} {x0 x1 x2 : Value} (h : NumB w b x0 x1 x2) : b < w.heap.size := World.block_lt_of_cell? w _ h.k0
theorem NumB.keep {w w' : World} {b : Nat} {x0 x1 x2 : Value} {l : List Nat} (h : NumB w b x0 x1 x2) (ha : Apart w w' l) (hl : b ∉ l) : NumB w' b x0 x1 x2 :=
  ⟨ha.cell' h.k0 hl, ha.cell' h.k1 hl, ha.cell' h.k2 hl, ha.frozen' h.lt h.q0 hl, ha.frozen' h.lt h.q1 hl, ha.frozen' h.lt h.q2 hl⟩
theorem num_set0 {w : World} {b : Nat} {x0 x1 x2 : Value} (h : NumB w b x0 x1 x2) (y : Value) : NumB (w.setCell ⟨b, 0, none⟩ y) b y x1 x2 := by
  refine ⟨World.cell?_setCell_same _ _ _ h.k0, ?_, ?_, ?_, ?_, ?_⟩
  · rw [World.cell?_setCell_other _ _ _ _ (by simp)]; exact h.k1
  · rw [World.cell?_setCell_other _ _ _ _ (by simp)]; exact h.k2
  · rw [World.frozen?_setCell]; exact h.q0
  · rw [World.frozen?_setCell]; exact h.q1
  · rw [World.frozen?_setCell]; exact h.q2
theorem num_set1 {w : World} {b : Nat} {x0 x1 x2 : Value} (h : NumB w b x0 x1 x2) (y : Value) : NumB (w.setCell ⟨b, 1, none⟩ y) b x0 y x2 := by
  refine ⟨?_, World.cell?_setCell_same _ _ _ h.k1, ?_, ?_, ?_, ?_⟩
  · rw [World.cell?_setCell_other _ _ _ _ (by simp)]; exact h.k0
  · rw [World.cell?_setCell_other _ _ _ _ (by simp)]; exact h.k2
  · rw [World.frozen?_setCell]; exact h.q0
  · rw [World.frozen?_setCell]; exact h.q1
  · rw [World.frozen?_setCell]; exact h.q2
theorem num_set2 {w : World} {b : Nat} {x0 x1 x2 : Value} (h : NumB w b x0 x1 x2) (y : Value) : NumB (w.setCell ⟨b, 2, none⟩ y) b x0 x1 y := by
  refine ⟨?_, ?_, World.cell?_setCell_same _ _ _ h.k2, ?_, ?_, ?_⟩
  · rw [World.cell?_setCell_other _ _ _ _ (by simp)]; exact h.k0
  · rw [World.cell?_setCell_other _ _ _ _ (by simp)]; exact h.k1
  · rw [World.frozen?_setCell]; exact h.q0
  · rw [World.frozen?_setCell]; exact h.q1
  · rw [World.frozen?_setCell]; exact h.q2
def rmW (w : World) : World := (w.alloc (.cells #[.slice none 0 0, .slice none 0 0, .int .i64 0] 45)).alloc (.cells #[.slice none 0 0, .slice none 0 0, .int .i64 0] 45)
theorem rm_start (w : World) : NumB (rmW w) w.heap.size (.slice none 0 0) (.slice none 0 0) (.int .i64 0) ∧ NumB (rmW w) (w.heap.size + 1) (.slice none 0 0) (.slice none 0 0) (.int .i64 0) ∧ Below w.heap.size w (rmW w) ∧ (rmW w).heap.size = w.heap.size + 2 := by
  refine ⟨?_, ?_, ((Below.refl _ _).alloc (Nat.le_refl _) _).alloc (by simp) _, by simp [rmW]⟩
  · exact (num_late w _ _ _ 45).keep (below_apart (malloc1 _ _)) (by simp)
  · have := num_late (w.alloc (.cells #[.slice none 0 0, .slice none 0 0, .int .i64 0] 45)) (.slice none 0 0) (.slice none 0 0) (.int .i64 0) 45
    simpa [rmW] using this
/-- what stands while a machine is read: the reader, the result's cell, the machine so far -/
structure RmAt (w0 w : World) (rb : Nat) (t : ByteArray) (a c : Int) (sv ev : Value) (ls : List RState) (le : List REdge) : Prop where
  rd : RdAt w rb t a c
  ra : 0 ≤ a ∧ a ≤ 8000
  res : NumB w w0.heap.size (.slice none 0 0) (.slice none 0 0) (.int .i64 0)
  box : NumB w (w0.heap.size + 1) sv ev (.int .i64 0)
  st : RStateOwn w (w0.heap.size + 2) sv ls
  ed : REdgeOwn w (w0.heap.size + 2) ev le
  dis : ∀ b ∈ vblocks sv, b ∉ vblocks ev
  sz : w0.heap.size + 2 ≤ w.heap.size
  ap : Apart w0 w [rb]
theorem RmAt.rdOn {w0 w w' : World} {rb : Nat} {t : ByteArray} {a c a' c' : Int} {sv ev : Value} {ls : List RState} {le : List REdge} (h : RmAt w0 w rb t a c sv ev ls le) (hrb : rb < w0.heap.size) (hr : RdAt w' rb t a' c') (hra : 0 ≤ a' ∧ a' ≤ 8000) (ha : Apart w w' [rb]) : RmAt w0 w' rb t a' c' sv ev ls le :=
  ⟨hr, hra, h.res.keep ha (by simp; omega), h.box.keep ha (by simp; omega), h.st.keep ha (fun b hb hm => by have := h.st.fresh.lo b hb; simp at hm; omega), h.ed.keep ha (fun b hb hm => by have := h.ed.fresh.lo b hb; simp at hm; omega), h.dis, Nat.le_trans h.sz ha.size, h.ap.andThen' ha⟩
theorem RmAt.drew {w0 w : World} {rb : Nat} {t : ByteArray} {a c : Int} {sv ev : Value} {ls : List RState} {le : List REdge} (h : RmAt w0 w rb t a c sv ev ls le) (hrb : rb < w0.heap.size) : RmAt w0 w.drew rb t a c sv ev ls le :=
  h.rdOn hrb (h.rd.keep (Apart.refl _).drew (by simp)) h.ra (Apart.weak (Apart.refl _).drew)
theorem stepM_at {P : Program} {ops : Array Oper} {o : Oper} {a : Act} {w : World} {K : Act → World → Prop} {Q : Exit → Act → World → Prop} {E : Prop}
    (hg : o.guard = none) (s x : Operand) (t : TypeId) (hop : o.op = Op.call { callee := Callee.builtin Builtin.append, args := #[s, x], argTypes := #[t, t] })
    (base : Nat) (e : TypeId) (i : TypeInfo) (z : Value) (size bytes : Nat) (h1 : P.underlying t = some (.slice e)) (h2 : P.info? e = some i) (h3 : i.zero = some z) (h4 : i.size = size) (h5 : i.bytes = bytes) (h6 : z.cells.size = size) (h7 : 0 < size)
    (v : Value) (n : Nat) (xs : List Value) (hs : a.eval s = v) (hown : w.ownsRow base e size v n xs)
    (ad : Addr) (m c : Nat) (news : List Value) (hx : a.eval x = .slice (some ad) m c) (hn : news.length = m * size) (hc : ∀ j u, news[j]? = some u → w.cell? (ad.add j) = some u) (h1c : ∀ u ∈ news, u.oneCell' = true)
    (b1 : n + m ≤ maxLen) (b2 : (n + m) * bytes ≤ 140737488355328) (hbase : base ≤ w.heap.size)
    (hK : ∀ v' w', w'.ownsRow base e size v' (n + m) (xs ++ news) → w.grownBy w' v.ownBlock → (v'.ownBlock = v.ownBlock ∨ v'.ownBlock = some w.heap.size) → K (a.put o.dst v') w') :
    if Region.wanted o (yielded ops a.tmps) = true then Oper.wp P o a w K Q else E := by
  have hw : Region.wanted o (yielded ops a.tmps) = true := by simp [Region.wanted, hg]
  rw [if_pos hw]
  obtain ⟨v', w', hrun, r1, r2, _, r3⟩ := run_append_own_at (P := P) w base t o.type e i z size bytes h1 h2 h3 h4 h5 h6 h7 v n xs hown ad m c news hn hc h1c b1 b2 hbase
  unfold Oper.wp
  simp [execOp, hop, resolve, invoke, builtin, hs, hx, hrun, Result.andThen]
  exact hK v' w' r1 r2 r3
theorem rm_push1 {w0 w3 w4 : World} {rb : Nat} {t : ByteArray} {a c : Int} {sv ev v4 : Value} {ls : List RState} {le : List REdge} (h : RmAt w0 w3 rb t a c sv ev ls le) (hrb : rb < w0.heap.size) (x : RState) (o : Obj)
    (hown : w4.ownsRow (w0.heap.size + 2) 93 2 v4 (ls.length + 1) (ls.flatMap RState.cells ++ x.cells)) (hg : (w3.alloc o).grownBy w4 sv.ownBlock) (hat : v4.ownBlock = sv.ownBlock ∨ v4.ownBlock = some (w3.alloc o).heap.size) :
    RmAt w0 (w4.setCell ⟨w0.heap.size + 1, 0, none⟩ v4) rb t a c v4 ev (ls ++ [x]) le := by
  obtain ⟨p, cp, rfl⟩ := owns_shape h.st
  obtain ⟨p4, c4, rfl⟩ := owns_shape hown
  obtain ⟨p5, c5, rfl⟩ := owns_shape h.ed
  have hA : Apart w3 w4 (vblocks (.slice p ls.length cp)) := by
    have := (below_apart (malloc1 w3 o)).trans (grownBy_apart hg)
    rwa [List.nil_append] at this
  have lo := h.st.fresh.lo
  have lo5 := h.ed.fresh.lo
  have lo4 := (owns_fresh hown).lo
  have hS := setCell_apart w4 (w0.heap.size + 1) 0 (.slice p4 (ls.length + 1) c4)
  have hA2 := hA.trans hS
  have hin : ∀ b, (b ∈ vblocks (.slice p ls.length cp) ++ [w0.heap.size + 1]) → w0.heap.size + 1 ≤ b := fun b hb => by
    rw [List.mem_append] at hb
    rcases hb with hb | hb
    · have := lo b hb; omega
    · simp at hb; omega
  refine ⟨h.rd.keep hA2 (fun hb => by have := hin _ hb; omega), h.ra, h.res.keep hA2 (fun hb => by have := hin _ hb; omega), num_set0 (h.box.keep hA (fun hb => by have := lo _ hb; omega)) _, ?_, ?_, ?_, ?_, ?_⟩
  · exact RStateOwn.snoc (owns_keep hown hS (fun b hb hm => by have := lo4 b hb; simp at hm; omega))
  · exact h.ed.keep hA2 (fun b hb hm => by
      rw [List.mem_append] at hm
      rcases hm with hm | hm
      · exact h.dis b hm hb
      · have := lo5 b hb; simp at hm; omega)
  · intro b hb hm
    have hb' := (own_blocks rfl).2 hb
    rcases hat with e | e
    · rw [e] at hb'
      exact h.dis b ((own_blocks rfl).1 hb') hm
    · rw [e] at hb'
      have := h.ed.fresh.hi b hm
      simp at hb'
      omega
  · have := h.sz; have := hA2.size; omega
  · have := h.ap.trans hA2
    exact ⟨this.os, this.tape, this.output, this.size, fun b hb hn => this.block b hb (fun hm => by
      rw [List.mem_append] at hm
      rcases hm with hm | hm
      · exact hn hm
      · have := hin _ hm; omega)⟩
theorem rm_push2 {w0 w3 w4 : World} {rb : Nat} {t : ByteArray} {a c : Int} {sv ev v4 : Value} {ls : List RState} {le : List REdge} (h : RmAt w0 w3 rb t a c sv ev ls le) (hrb : rb < w0.heap.size) (x : REdge) (o : Obj)
    (hown : w4.ownsRow (w0.heap.size + 2) 95 4 v4 (le.length + 1) (le.flatMap REdge.cells ++ x.cells)) (hg : (w3.alloc o).grownBy w4 ev.ownBlock) (hat : v4.ownBlock = ev.ownBlock ∨ v4.ownBlock = some (w3.alloc o).heap.size) :
    RmAt w0 (w4.setCell ⟨w0.heap.size + 1, 1, none⟩ v4) rb t a c sv v4 ls (le ++ [x]) := by
  obtain ⟨p, cp, rfl⟩ := owns_shape h.ed
  obtain ⟨p4, c4, rfl⟩ := owns_shape hown
  obtain ⟨p5, c5, rfl⟩ := owns_shape h.st
  have hA : Apart w3 w4 (vblocks (.slice p le.length cp)) := by
    have := (below_apart (malloc1 w3 o)).trans (grownBy_apart hg)
    rwa [List.nil_append] at this
  have lo := h.ed.fresh.lo
  have lo5 := h.st.fresh.lo
  have lo4 := (owns_fresh hown).lo
  have hS := setCell_apart w4 (w0.heap.size + 1) 1 (.slice p4 (le.length + 1) c4)
  have hA2 := hA.trans hS
  have hin : ∀ b, (b ∈ vblocks (.slice p le.length cp) ++ [w0.heap.size + 1]) → w0.heap.size + 1 ≤ b := fun b hb => by
    rw [List.mem_append] at hb
    rcases hb with hb | hb
    · have := lo b hb; omega
    · simp at hb; omega
  refine ⟨h.rd.keep hA2 (fun hb => by have := hin _ hb; omega), h.ra, h.res.keep hA2 (fun hb => by have := hin _ hb; omega), num_set1 (h.box.keep hA (fun hb => by have := lo _ hb; omega)) _, ?_, ?_, ?_, ?_, ?_⟩
  · exact h.st.keep hA2 (fun b hb hm => by
      rw [List.mem_append] at hm
      rcases hm with hm | hm
      · exact h.dis b hb hm
      · have := lo5 b hb; simp at hm; omega)
  · exact REdgeOwn.snoc (owns_keep hown hS (fun b hb hm => by have := lo4 b hb; simp at hm; omega))
  · intro b hm hb
    have hb' := (own_blocks rfl).2 hb
    rcases hat with e | e
    · rw [e] at hb'
      exact h.dis b hm ((own_blocks rfl).1 hb')
    · rw [e] at hb'
      have := h.st.fresh.hi b hm
      simp at hb'
      omega
  · have := h.sz; have := hA2.size; omega
  · have := h.ap.trans hA2
    exact ⟨this.os, this.tape, this.output, this.size, fun b hb hn => this.block b hb (fun hm => by
      rw [List.mem_append] at hm
      rcases hm with hm | hm
      · exact hn hm
      · have := hin _ hm; omega)⟩
end Go.Proofs.Ytalipbmpcgillaa
namespace Go.Proofs.Ytalipbmpcgillaa
open Go.RowKit
attribute [local go_sem ↓] Go.wp_at_zero Go.wp_at_succ

theorem owns_down {w : World} {base base' e size n : Nat} {v : Value} {xs : List Value} (h : w.ownsRow base e size v n xs) (hb : base' ≤ base) : w.ownsRow base' e size v n xs := by
  obtain ⟨h1, h2⟩ := h
  refine ⟨h1, ?_⟩
  rcases h2 with h2 | ⟨g, cap, cur, a, b, c⟩
  · exact .inl h2
  · exact .inr ⟨g, cap, cur, a, Nat.le_trans hb b, c⟩
theorem rm_end {w0 w7 : World} {rb : Nat} {t : ByteArray} {a c : Int} {sv ev : Value} {ls : List RState} {le : List REdge} (h : RmAt w0 w7 rb t a c sv ev ls le) (hrb : rb < w0.heap.size) (x y0 y1 y2 : Value) :
    RStateOwn ((((w7.setCell ⟨w0.heap.size + 1, 2, none⟩ x).setCell ⟨w0.heap.size, 0, none⟩ y0).setCell ⟨w0.heap.size, 1, none⟩ y1).setCell ⟨w0.heap.size, 2, none⟩ y2) w0.heap.size sv ls ∧
    REdgeOwn ((((w7.setCell ⟨w0.heap.size + 1, 2, none⟩ x).setCell ⟨w0.heap.size, 0, none⟩ y0).setCell ⟨w0.heap.size, 1, none⟩ y1).setCell ⟨w0.heap.size, 2, none⟩ y2) w0.heap.size ev le ∧
    RdAt ((((w7.setCell ⟨w0.heap.size + 1, 2, none⟩ x).setCell ⟨w0.heap.size, 0, none⟩ y0).setCell ⟨w0.heap.size, 1, none⟩ y1).setCell ⟨w0.heap.size, 2, none⟩ y2) rb t a c ∧
    Apart w0 ((((w7.setCell ⟨w0.heap.size + 1, 2, none⟩ x).setCell ⟨w0.heap.size, 0, none⟩ y0).setCell ⟨w0.heap.size, 1, none⟩ y1).setCell ⟨w0.heap.size, 2, none⟩ y2) [rb] := by
  have hA := (setCell_apart w7 (w0.heap.size + 1) 2 x).trans (((setCell_apart (w7.setCell ⟨w0.heap.size + 1, 2, none⟩ x) w0.heap.size 0 y0).setCell 1 y1).setCell 2 y2)
  have hin : ∀ b ∈ [w0.heap.size + 1] ++ [w0.heap.size], w0.heap.size ≤ b ∧ b < w0.heap.size + 2 := fun b hb => by simp at hb; omega
  refine ⟨owns_down (h.st.keep hA (fun b hb hm => by have := h.st.fresh.lo b hb; have := hin b hm; omega)) (by omega), owns_down (h.ed.keep hA (fun b hb hm => by have := h.ed.fresh.lo b hb; have := hin b hm; omega)) (by omega), h.rd.keep hA (fun hm => by have := hin _ hm; omega), ?_⟩
  have := h.ap.trans hA
  exact ⟨this.os, this.tape, this.output, this.size, fun b hb hn => this.block b hb (fun hm => by
    rw [List.mem_append] at hm
    rcases hm with hm | hm
    · exact hn hm
    · have := hin _ hm; omega)⟩
theorem box_grown {w0 w3 w4 : World} {rb : Nat} {t : ByteArray} {a c : Int} {sv ev : Value} {ls : List RState} {le : List REdge} {o : Obj} (h : RmAt w0 w3 rb t a c sv ev ls le) (hg : (w3.alloc o).grownBy w4 sv.ownBlock) : NumB w4 (w0.heap.size + 1) sv ev (.int .i64 0) := by
  obtain ⟨p, cp, rfl⟩ := owns_shape h.st
  have hA := (below_apart (malloc1 w3 o)).trans (grownBy_apart hg)
  rw [List.nil_append] at hA
  exact h.box.keep hA (fun hb => by have := h.st.fresh.lo _ hb; omega)
theorem box_grown2 {w0 w3 w4 : World} {rb : Nat} {t : ByteArray} {a c : Int} {sv ev : Value} {ls : List RState} {le : List REdge} {o : Obj} (h : RmAt w0 w3 rb t a c sv ev ls le) (hg : (w3.alloc o).grownBy w4 ev.ownBlock) : NumB w4 (w0.heap.size + 1) sv ev (.int .i64 0) := by
  obtain ⟨p, cp, rfl⟩ := owns_shape h.ed
  have hA := (below_apart (malloc1 w3 o)).trans (grownBy_apart hg)
  rw [List.nil_append] at hA
  exact h.box.keep hA (fun hb => by have := h.ed.fresh.lo _ hb; omega)
set_option maxRecDepth 100000 in
set_option maxHeartbeats 4000000 in
theorem i_readMachine (t : ByteArray) (rb : Nat) (w : World) (hs : t.size ≤ 8000) (h : RdAt w rb t 0 0) :
    Calls Try.prog 84 #[.pointer (some ⟨rb, 0, none⟩)] w fun e w' => ∃ sv ev m a c, e = .returned (.agg #[sv, ev, .int .i64 m.start]) ∧ RStateOwn w' w.heap.size sv m.states ∧ REdgeOwn w' w.heap.size ev m.edges ∧ (∀ b ∈ vblocks sv, b ∉ vblocks ev) ∧ Rd3 t m a c ∧ RdAt w' rb t a c ∧ Apart w w' [rb] := by
  have hrb : rb < w.heap.size := World.block_lt_of_cell? w _ h.c0
  have HRB := hide hrb
  have HC : Hid (∀ a c most W, 0 ≤ a ∧ a ≤ 8000 → RdAt W rb t a c → Calls Try.prog 93 #[.pointer (some ⟨rb, 0, none⟩), .int .i64 most] W fun e w' => e = .returned (.int .i64 (cntI t a c most).1) ∧ RdAt w' rb t (cntI t a c most).2.1 (cntI t a c most).2.2 ∧ Apart W w' [rb]) := hide (fun a c most W ha h => rd_count t a c most rb W hs ha.2 h)
  have HN : Hid (∀ a c W, 0 ≤ a ∧ a ≤ 8000 → RdAt W rb t a c → Calls Try.prog 140 #[.pointer (some ⟨rb, 0, none⟩)] W fun e w' => e = .returned (.int .i64 (numI t a c).1) ∧ RdAt w' rb t (numI t a c).2.1 (numI t a c).2.2 ∧ Apart W w' [rb]) := hide (fun a c W ha h => rd_num t a c rb W hs ha.2 h)
  have HWD : Hid (∀ a c W, 0 ≤ a ∧ a ≤ 8000 → RdAt W rb t a c → Calls Try.prog 95 #[.pointer (some ⟨rb, 0, none⟩)] W fun e w' => e = .returned (.string (wordI t a c).1) ∧ RdAt w' rb t (wordI t a c).2.1 (wordI t a c).2.2 ∧ Apart W w' [rb]) := hide (fun a c W ha h => rd_word t a c rb W hs ha.2 h)
  have H0 : Hid (RdAt (rmW w) rb t 0 0) := hide (h.keep (below_apart (rm_start w).2.2.1) (by simp))
  obtain ⟨i0, hi, hz0, hz1, hz2⟩ := info_parts Try.infoRState
  have HI := hide (And.intro hi (And.intro hz0 (And.intro hz1 hz2)))
  obtain ⟨i1, hi1, hy0, hy1, hy2⟩ := info_parts Try.infoREdge
  have HJ := hide (And.intro hi1 (And.intro hy0 (And.intro hy1 hy2)))
  have hg1 := cntI_range (t := t) (a := 0) (c := 0) (most := 40) (by omega)
  obtain ⟨N, hN⟩ : ∃ N : Nat, (cntI t 0 0 40).1 = (N : Int) := ⟨(cntI t 0 0 40).1.toNat, by omega⟩
  have hN40 : N ≤ 40 := by omega
  have HS1 : Hid (Rd1 t N (cntI t 0 0 40).2.1 0 [] (cntI t 0 0 40).2.1 (cntI t 0 0 40).2.2) := hide (by have := rd1_start (t := t); rw [hN, Int.toNat_natCast] at this; exact this)
  have HA0 : Hid (0 ≤ (cntI t 0 0 40).2.1 ∧ (cntI t 0 0 40).2.1 ≤ 8000) := hide (cntI_at ⟨by omega, by omega⟩)
  have HCN := hide (HC.out 0 0 40)
  rw [hN] at HCN
  clear h hs hrb hi hz0 hz1 hz2 hi1 hy0 hy1 hy2 hg1 hN
  go_enter Try.func84, Try.ntmps84
  go_wp2_with (go_at_call 93; refine (HCN.out (rmW w) ⟨by omega, by omega⟩ H0.out).mono ?_; rintro e w1 ⟨rfl, hr1, ha1⟩; have HR1 := hide hr1; have HA1 := hide ha1; clear hr1 ha1)
  go_loopw [6] (fun i wr => ∃ (k : Nat) (ls : List RState) (a c : Int) (sv : Value), i = .int .i64 k ∧ k ≤ N ∧ ls.length = k ∧ Rd1 t N (cntI t 0 0 40).2.1 k ls a c ∧ RmAt w wr rb t a c sv (.slice none 0 0) ls []) (fun i _ => N - (intOf i).toNat)
  case atStart =>
    obtain ⟨s1, s2, s3, s4⟩ := rm_start w
    have hn : w.heap.size ∉ [rb] ∧ w.heap.size + 1 ∉ [rb] := by have := HRB.out; simp; omega
    refine ⟨0, [], _, _, .slice none 0 0, rfl, Nat.zero_le _, rfl, HS1.out, ⟨HR1.out, HA0.out, s1.keep HA1.out hn.1, s2.keep HA1.out hn.2, RStateOwn.nil _ _, REdgeOwn.nil _ _, by simp [vblocks, cellBlocks], by have := HA1.out.size; omega, ?_⟩⟩
    have := (below_apart s3).trans HA1.out
    rwa [List.nil_append] at this
  case round =>
    obtain ⟨k, ls, a, c, sv, rfl, hk, hlk, hrd, hrm⟩ := hrel
    have HRD := hide hrd
    have HRM := hide hrm
    have HLK := hide hlk
    clear hrd hlk
    by_cases hlt : k < N
    · obtain ⟨r1, hr1⟩ : ∃ r, numI t a c = r := ⟨_, rfl⟩
      obtain ⟨r2, hr2⟩ : ∃ r, wordI t r1.2.1 r1.2.2 = r := ⟨_, rfl⟩
      have HST : Hid (stI t a c = (⟨r1.1, r2.1⟩, r2.2)) := hide (by unfold stI; rw [hr1, hr2])
      have B1 : Hid (0 ≤ r1.2.1 ∧ r1.2.1 ≤ 8000) := hide (by rw [← hr1]; exact numI_at HRM.out.ra)
      have B2 : Hid (0 ≤ r2.2.1 ∧ r2.2.1 ≤ 8000) := hide (by rw [← hr2]; exact wordI_at B1.out)
      have HN1 := hide (HN.out a c)
      have HW1 := hide (HWD.out r1.2.1 r1.2.2)
      rw [hr1] at HN1
      rw [hr2] at HW1
      obtain ⟨k0, k1, k2, q0, q1, q2⟩ := hrm.box
      have HOB : Hid (∀ b ∈ vblocks sv, w.heap.size + 2 ≤ b) := hide hrm.st.fresh.lo
      clear hr1 hr2 hrm
      go_wp2_with fail
      go_region_law (first
        | (go_simp; go_at_call 140; refine (HN1.out _ HRM.out.ra (HRM.out.drew HRB.out).rd).mono ?_; rintro e w2 ⟨rfl, hr2, ha2⟩; have HM2 := hide ((HRM.out.drew HRB.out).rdOn HRB.out hr2 B1.out ha2); obtain ⟨e0, e1, e2, -, -, -⟩ := HM2.out.box; clear hr2 ha2)
        | (go_simp; go_at_call 95; refine (HW1.out _ B1.out HM2.out.rd).mono ?_; rintro e w3 ⟨rfl, hr3, ha3⟩; have HM3 := hide (HM2.out.rdOn HRB.out hr3 B2.out ha3); obtain ⟨f0, f1, f2, g0, g1, g2⟩ := HM3.out.box; have f0a : ∀ o : Obj, (w3.alloc o).cell? ⟨w.heap.size + 1, 0, none⟩ = some sv := (fun o => (HM3.out.box.keep (below_apart (malloc1 w3 o)) (by simp)).k0); clear hr3 ha3)
        | (refine stepM_at rfl (.tmp 9) (.tmp 15) 42 rfl (w.heap.size + 2) 93 i0 (.agg #[.int .i64 0, .string ByteArray.empty]) 2 24 Try.underlying42 HI.out.1 HI.out.2.1 HI.out.2.2.1 HI.out.2.2.2 rfl (by decide) sv ls.length (ls.flatMap RState.cells) (by simp [Act.eval]) (HM3.out.st.below (malloc1 w3 (.cells #[.int .i64 r1.1, .string r2.1] 93))) ⟨w3.heap.size, 0, none⟩ 1 1 (RState.cells ⟨r1.1, r2.1⟩) (by simp [Act.eval]) rfl (fun j u hj => new_row1 w3 _ _ j u hj) (RState.cells_one _) (by have := HLK.out; unfold maxLen; omega) (by have := HLK.out; omega) (by have := HM3.out.sz; simp; omega) ?_; intro v4 w4 hown4 hgr4 hat4; have HM4 := hide (rm_push1 HM3.out HRB.out ⟨r1.1, r2.1⟩ _ hown4 hgr4 hat4); have HB4 := hide (box_grown HM3.out hgr4); obtain ⟨l0, l1, l2, p0, p1, p2⟩ := HB4.out; obtain ⟨p4, c4, rfl⟩ := owns_shape hown4; clear hown4 hgr4 hat4))
      all_goals
        go_wp2_with fail
        go_roundw
        case rel =>
          have hst := rd1_step HRD.out hlt
          rw [HST.out] at hst
          exact ⟨k + 1, ls ++ [⟨r1.1, r2.1⟩], _, _, _, by go_num, hlt, by rw [List.length_append, HLK.out]; rfl, hst, HM4.out⟩
        case measure => simp [intOf]; omega
    · obtain rfl : k = N := by omega
      have HOB : Hid (∀ b ∈ vblocks sv, w.heap.size + 2 ≤ b) := hide hrm.st.fresh.lo
      obtain ⟨k0, k1, k2, q0, q1, q2⟩ := hrm.box
      clear hrm
      have hg2 := cntI_range (t := t) (a := a) (c := c) (most := 80) (by omega)
      obtain ⟨N2, hN2⟩ : ∃ N : Nat, (cntI t a c 80).1 = (N : Int) := ⟨(cntI t a c 80).1.toNat, by omega⟩
      have hN80 : N2 ≤ 80 := by omega
      have HS2 : Hid (Rd2 t ls N2 (cntI t a c 80).2.1 0 [] (cntI t a c 80).2.1 (cntI t a c 80).2.2) := hide (by have := rd2_start HRD.out; rw [hN2, Int.toNat_natCast] at this; exact this)
      have HA2 : Hid (0 ≤ (cntI t a c 80).2.1 ∧ (cntI t a c 80).2.1 ≤ 8000) := hide (cntI_at HRM.out.ra)
      have HCN2 := hide (HC.out a c 80)
      rw [hN2] at HCN2
      clear hN2 hg2 hlt hk
      go_wp2_with (go_at_call 93; refine (HCN2.out _ HRM.out.ra HRM.out.rd).mono ?_; rintro e w5 ⟨rfl, hr5, ha5⟩; have HM5 := hide (HRM.out.rdOn HRB.out hr5 HA2.out ha5); clear hr5 ha5)
      clear k0 k1 k2 q0 q1 q2
      obtain ⟨cp0, hcp⟩ : ∃ x : Int × Int, x = (cntI t a c 80).2 := ⟨_, rfl⟩
      rw [← hcp] at HM5 HS2
      clear hcp HA2 HCN2 HRD
      go_loopw [21] (fun i wq => ∃ (k : Nat) (le : List REdge) (a c : Int) (ev : Value), i = .int .i64 k ∧ k ≤ N2 ∧ le.length = k ∧ Rd2 t ls N2 cp0.1 k le a c ∧ RmAt w wq rb t a c sv ev ls le) (fun i _ => N2 - (intOf i).toNat)
      case atStart => exact ⟨0, [], _, _, .slice none 0 0, rfl, Nat.zero_le _, rfl, HS2.out, HM5.out⟩
      case round =>
        obtain ⟨k2, le, a2, c2, ev, rfl, hk2, hlk2, hrd2, hrm2⟩ := hrel
        have HRD2 := hide hrd2
        have HRM2 := hide hrm2
        have HLK2 := hide hlk2
        clear hrd2 hlk2
        by_cases hlt2 : k2 < N2
        · obtain ⟨r1, hr1⟩ : ∃ r, numI t a2 c2 = r := ⟨_, rfl⟩
          obtain ⟨r2, hr2⟩ : ∃ r, wordI t r1.2.1 r1.2.2 = r := ⟨_, rfl⟩
          obtain ⟨r3, hr3⟩ : ∃ r, numI t r2.2.1 r2.2.2 = r := ⟨_, rfl⟩
          obtain ⟨r4, hr4⟩ : ∃ r, numI t r3.2.1 r3.2.2 = r := ⟨_, rfl⟩
          have HST : Hid (edI t a2 c2 = (⟨r1.1, r2.1, r3.1, r4.1⟩, r4.2)) := hide (by unfold edI; rw [hr1, hr2, hr3, hr4])
          have B1 : Hid (0 ≤ r1.2.1 ∧ r1.2.1 ≤ 8000) := hide (by rw [← hr1]; exact numI_at HRM2.out.ra)
          have B2 : Hid (0 ≤ r2.2.1 ∧ r2.2.1 ≤ 8000) := hide (by rw [← hr2]; exact wordI_at B1.out)
          have B3 : Hid (0 ≤ r3.2.1 ∧ r3.2.1 ≤ 8000) := hide (by rw [← hr3]; exact numI_at B2.out)
          have B4 : Hid (0 ≤ r4.2.1 ∧ r4.2.1 ≤ 8000) := hide (by rw [← hr4]; exact numI_at B3.out)
          have HN1 := hide (HN.out a2 c2)
          have HW1 := hide (HWD.out r1.2.1 r1.2.2)
          have HN3 := hide (HN.out r2.2.1 r2.2.2)
          have HN4 := hide (HN.out r3.2.1 r3.2.2)
          rw [hr1] at HN1
          rw [hr2] at HW1
          rw [hr3] at HN3
          rw [hr4] at HN4
          obtain ⟨k0, k1, k2', q0, q1, q2⟩ := hrm2.box
          obtain ⟨pe, ce, rfl⟩ := owns_shape HRM2.out.ed
          clear hr1 hr2 hr3 hr4 hrm2
          go_wp2_with fail
          go_region_law (first
            | ((fail_if_success (have := HM2)); go_simp; go_at_call 140; refine (HN1.out _ HRM2.out.ra (HRM2.out.drew HRB.out).rd).mono ?_; rintro e w2 ⟨rfl, hr2, ha2⟩; have HM2 := hide ((HRM2.out.drew HRB.out).rdOn HRB.out hr2 B1.out ha2); obtain ⟨e0, e1, e2, -, -, -⟩ := HM2.out.box; clear hr2 ha2)
            | (go_simp; go_at_call 95; refine (HW1.out _ B1.out HM2.out.rd).mono ?_; rintro e w3 ⟨rfl, hr3, ha3⟩; have HM3 := hide (HM2.out.rdOn HRB.out hr3 B2.out ha3); obtain ⟨f0, f1, f2, -, -, -⟩ := HM3.out.box; clear hr3 ha3)
            | ((fail_if_success (have := HM4)); go_simp; go_at_call 140; refine (HN3.out _ B2.out HM3.out.rd).mono ?_; rintro e w4 ⟨rfl, hr4, ha4⟩; have HM4 := hide (HM3.out.rdOn HRB.out hr4 B3.out ha4); obtain ⟨g0, g1, g2, -, -, -⟩ := HM4.out.box; clear hr4 ha4)
            | (go_simp; go_at_call 140; refine (HN4.out _ B3.out HM4.out.rd).mono ?_; rintro e w5 ⟨rfl, hr5, ha5⟩; have HM5' := hide (HM4.out.rdOn HRB.out hr5 B4.out ha5); obtain ⟨j0, j1, j2, -, -, -⟩ := HM5'.out.box; have f0a : ∀ o : Obj, (w5.alloc o).cell? ⟨w.heap.size + 1, 1, none⟩ = some (.slice pe le.length ce) := (fun o => (HM5'.out.box.keep (below_apart (malloc1 w5 o)) (by simp)).k1); clear hr5 ha5)
            | (refine stepM_at rfl (.tmp 24) (.tmp 34) 43 rfl (w.heap.size + 2) 95 i1 (.agg #[.int .i64 0, .string ByteArray.empty, .int .i64 0, .int .i64 0]) 4 40 Try.underlying43 HJ.out.1 HJ.out.2.1 HJ.out.2.2.1 HJ.out.2.2.2 rfl (by decide) (.slice pe le.length ce) le.length (le.flatMap REdge.cells) (by simp [Act.eval]) (HM5'.out.ed.below (malloc1 w5 (.cells #[.int .i64 r1.1, .string r2.1, .int .i64 r3.1, .int .i64 r4.1] 95))) ⟨w5.heap.size, 0, none⟩ 1 1 (REdge.cells ⟨r1.1, r2.1, r3.1, r4.1⟩) (by simp [Act.eval]) rfl (fun j u hj => new_row1 w5 _ _ j u hj) (REdge.cells_one _) (by have := HLK2.out; unfold maxLen; omega) (by have := HLK2.out; omega) (by have := HM5'.out.sz; simp; omega) ?_; intro v6 w6 hown6 hgr6 hat6; have HM6 := hide (rm_push2 HM5'.out HRB.out ⟨r1.1, r2.1, r3.1, r4.1⟩ _ hown6 hgr6 hat6); have HB6 := hide (box_grown2 HM5'.out hgr6); obtain ⟨l0, l1, l2, p0, p1, p2⟩ := HB6.out; obtain ⟨p6, c6, rfl⟩ := owns_shape hown6; clear hown6 hgr6 hat6))
          all_goals
            go_wp2_with fail
            go_roundw
            case rel =>
              have hst := rd2_step HRD2.out hlt2
              rw [HST.out] at hst
              exact ⟨k2 + 1, le ++ [⟨r1.1, r2.1, r3.1, r4.1⟩], _, _, _, by go_num, hlt2, by rw [List.length_append, HLK2.out]; rfl, hst, HM6.out⟩
            case measure => simp [intOf]; omega
        · obtain rfl : k2 = N2 := by omega
          obtain ⟨r1, hr1⟩ : ∃ r, numI t a2 c2 = r := ⟨_, rfl⟩
          have HD3 : Hid (Rd3 t ⟨ls, le, r1.1⟩ r1.2.1 r1.2.2) := hide (by have := rd3_end HRD2.out; rw [hr1] at this; exact this)
          have B1 : Hid (0 ≤ r1.2.1 ∧ r1.2.1 ≤ 8000) := hide (by rw [← hr1]; exact numI_at HRM2.out.ra)
          have HN1 := hide (HN.out a2 c2)
          rw [hr1] at HN1
          obtain ⟨pe, ce, rfl⟩ := owns_shape HRM2.out.ed
          obtain ⟨ps, cs, rfl⟩ := owns_shape HRM2.out.st
          have hne : ¬ w.heap.size = w.heap.size + 1 := by omega
          clear hr1 hrm2 hlt2 hk2
          go_wp2_with (go_at_call 140; refine (HN1.out _ HRM2.out.ra HRM2.out.rd).mono ?_; rintro e w7 ⟨rfl, hr7, ha7⟩; have HM7 := hide (HRM2.out.rdOn HRB.out hr7 B1.out ha7); obtain ⟨l0, l1, l2, p0, p1, p2⟩ := HM7.out.box; obtain ⟨s0, s1, s2, t0, t1, t2⟩ := HM7.out.res; clear hr7 ha7)
          obtain ⟨z1, z2, z3, z4⟩ := rm_end HM7.out HRB.out (.int .i64 r1.1) (.slice ps ls.length cs) (.slice pe le.length ce) (.int .i64 r1.1)
          refine bodyPost_ret (v := .agg #[.slice ps ls.length cs, .slice pe le.length ce, .int .i64 r1.1]) (by simp [results, Try.results84, go_sem, s0, s1, s2]) rfl ⟨_, _, ⟨ls, le, r1.1⟩, _, _, rfl, z1, z2, HM7.out.dis, HD3.out, z3, z4⟩
end Go.Proofs.Ytalipbmpcgillaa
