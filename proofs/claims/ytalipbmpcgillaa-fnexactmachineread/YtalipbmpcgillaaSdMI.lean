/- The specification's reading of a machine: what stands while it is read. -/
import Derived.Test.YtalipbmpcgillaaRdMJ
import Derived.Test.YtalipbmpcgillaaSdJ
namespace Go.Proofs.Ytalipbmpcgillaa
open Go.RowKit

theorem Apart.sub {w w' : World} {l l' : List Nat} (h : Apart w w' l) (hs : ∀ b ∈ l, b ∈ l') : Apart w w' l' := ⟨h.os, h.tape, h.output, h.size, fun b hb hn => h.block b hb (fun hm => hn (hs b hm))⟩
structure BoxL (w : World) (b : Nat) (vs : List Value) : Prop where
  cell : ∀ i v, vs[i]? = some v → w.cell? ⟨b, i, none⟩ = some v
  fz : ∀ o, w.frozen? ⟨b, o, none⟩ = false
  lt : b < w.heap.size
theorem BoxL.keep {w w' : World} {b : Nat} {vs : List Value} {l : List Nat} (h : BoxL w b vs) (ha : Apart w w' l) (hl : b ∉ l) : BoxL w' b vs :=
  ⟨fun i v hv => ha.cell' (h.cell i v hv) hl, fun o => ha.frozen' h.lt (h.fz o) hl, Nat.lt_of_lt_of_le h.lt ha.size⟩
theorem BoxL.set {w : World} {b : Nat} {vs : List Value} (h : BoxL w b vs) (k : Nat) (hk : k < vs.length) (y : Value) : BoxL (w.setCell ⟨b, k, none⟩ y) b (vs.set k y) := by
  refine ⟨fun i v hv => ?_, fun o => (World.frozen?_setCell ..).trans (h.fz o), by rw [World.size_setCell]; exact h.lt⟩
  by_cases hi : k = i
  · subst hi
    rw [List.getElem?_set_self hk] at hv
    injection hv with hv
    subst hv
    exact World.cell?_setCell_same _ _ _ (h.cell k vs[k] (by simp [hk]))
  · rw [List.getElem?_set_ne hi] at hv
    rw [World.cell?_setCell_other _ _ _ _ (by intro e; injection e with _ e2; exact hi e2)]
    exact h.cell i v hv
theorem BoxL.new (w : World) (vs : List Value) (T : TypeId) : BoxL (w.alloc (.cells vs.toArray T)) w.heap.size vs := by
  refine ⟨fun i v hv => ?_, fun o => by simp, by simp⟩
  obtain ⟨h1, h2⟩ := List.getElem?_eq_some_iff.1 hv
  simp [h1, h2]
/-- what stands while a machine is read: the reader, the result's cell, the machine so far -/
structure SmAt (w0 w : World) (rb : Nat) (t : ByteArray) (a c : Int) (sv ev : Value) (ls : List RState) (le : List REdge) : Prop where
  rd : SdAt w rb t a c
  ra : 0 ≤ a ∧ a ≤ 8000
  res : NumB w w0.heap.size (.slice none 0 0) (.slice none 0 0) (.int .i64 0)
  box : NumB w (w0.heap.size + 1) sv ev (.int .i64 0)
  st : RStateOwn w (w0.heap.size + 2) sv ls
  ed : REdgeOwn w (w0.heap.size + 2) ev le
  dis : ∀ b ∈ vblocks sv, b ∉ vblocks ev
  sz : w0.heap.size + 2 ≤ w.heap.size
  ap : Apart w0 w [rb]
theorem SmAt.rdOn {w0 w w' : World} {rb : Nat} {t : ByteArray} {a c a' c' : Int} {sv ev : Value} {ls : List RState} {le : List REdge} (h : SmAt w0 w rb t a c sv ev ls le) (hrb : rb < w0.heap.size) (hr : SdAt w' rb t a' c') (hra : 0 ≤ a' ∧ a' ≤ 8000) (ha : Apart w w' [rb]) : SmAt w0 w' rb t a' c' sv ev ls le :=
  ⟨hr, hra, h.res.keep ha (by simp; omega), h.box.keep ha (by simp; omega), h.st.keep ha (fun b hb hm => by have := h.st.fresh.lo b hb; simp at hm; omega), h.ed.keep ha (fun b hb hm => by have := h.ed.fresh.lo b hb; simp at hm; omega), h.dis, Nat.le_trans h.sz ha.size, h.ap.andThen' ha⟩
theorem SmAt.drew {w0 w : World} {rb : Nat} {t : ByteArray} {a c : Int} {sv ev : Value} {ls : List RState} {le : List REdge} (h : SmAt w0 w rb t a c sv ev ls le) (hrb : rb < w0.heap.size) : SmAt w0 w.drew rb t a c sv ev ls le :=
  h.rdOn hrb (h.rd.keep (Apart.refl _).drew (by simp)) h.ra (Apart.weak (Apart.refl _).drew)
theorem sm_push1 {w0 w3 w4 : World} {rb : Nat} {t : ByteArray} {a c : Int} {sv ev v4 : Value} {ls : List RState} {le : List REdge} (h : SmAt w0 w3 rb t a c sv ev ls le) (hrb : rb < w0.heap.size) (x : RState) (o : Obj)
    (hown : w4.ownsRow (w0.heap.size + 2) 93 2 v4 (ls.length + 1) (ls.flatMap RState.cells ++ x.cells)) (hg : (w3.alloc o).grownBy w4 sv.ownBlock) (hat : v4.ownBlock = sv.ownBlock ∨ v4.ownBlock = some (w3.alloc o).heap.size) :
    SmAt w0 (w4.setCell ⟨w0.heap.size + 1, 0, none⟩ v4) rb t a c v4 ev (ls ++ [x]) le := by
  obtain ⟨p, cp, rfl⟩ := owns_shape h.st
  obtain ⟨p4, c4, rfl⟩ := owns_shape hown
  obtain ⟨p5, c5, rfl⟩ := owns_shape h.ed
  have hA : Apart w3 w4 (vblocks (.slice p ls.length cp)) := by
    have := (below_apart (malloc1 w3 o)).trans (grownBy_apart hg)
    rwa [List.nil_append] at this
  have lo := h.st.fresh.lo
  have lo5 := h.ed.fresh.lo
  have lo4 := (owns_fresh hown).lo
  have hS := setCell_apart w4 (w0.heap.size + 1) 0 (.slice p4 (ls.length + 1) c4)
  have hA2 := hA.trans hS
  have hin : ∀ b, (b ∈ vblocks (.slice p ls.length cp) ++ [w0.heap.size + 1]) → w0.heap.size + 1 ≤ b := fun b hb => by
    rw [List.mem_append] at hb
    rcases hb with hb | hb
    · have := lo b hb; omega
    · simp at hb; omega
  refine ⟨h.rd.keep hA2 (fun hb => by have := hin _ hb; omega), h.ra, h.res.keep hA2 (fun hb => by have := hin _ hb; omega), num_set0 (h.box.keep hA (fun hb => by have := lo _ hb; omega)) _, ?_, ?_, ?_, ?_, ?_⟩
  · exact RStateOwn.snoc (owns_keep hown hS (fun b hb hm => by have := lo4 b hb; simp at hm; omega))
  · exact h.ed.keep hA2 (fun b hb hm => by
      rw [List.mem_append] at hm
      rcases hm with hm | hm
      · exact h.dis b hm hb
      · have := lo5 b hb; simp at hm; omega)
  · intro b hb hm
    have hb' := (own_blocks rfl).2 hb
    rcases hat with e | e
    · rw [e] at hb'
      exact h.dis b ((own_blocks rfl).1 hb') hm
    · rw [e] at hb'
      have := h.ed.fresh.hi b hm
      simp at hb'
      omega
  · have := h.sz; have := hA2.size; omega
  · have := h.ap.trans hA2
    exact ⟨this.os, this.tape, this.output, this.size, fun b hb hn => this.block b hb (fun hm => by
      rw [List.mem_append] at hm
      rcases hm with hm | hm
      · exact hn hm
      · have := hin _ hm; omega)⟩
theorem sm_push2 {w0 w3 w4 : World} {rb : Nat} {t : ByteArray} {a c : Int} {sv ev v4 : Value} {ls : List RState} {le : List REdge} (h : SmAt w0 w3 rb t a c sv ev ls le) (hrb : rb < w0.heap.size) (x : REdge) (o : Obj)
    (hown : w4.ownsRow (w0.heap.size + 2) 95 4 v4 (le.length + 1) (le.flatMap REdge.cells ++ x.cells)) (hg : (w3.alloc o).grownBy w4 ev.ownBlock) (hat : v4.ownBlock = ev.ownBlock ∨ v4.ownBlock = some (w3.alloc o).heap.size) :
    SmAt w0 (w4.setCell ⟨w0.heap.size + 1, 1, none⟩ v4) rb t a c sv v4 ls (le ++ [x]) := by
  obtain ⟨p, cp, rfl⟩ := owns_shape h.ed
  obtain ⟨p4, c4, rfl⟩ := owns_shape hown
  obtain ⟨p5, c5, rfl⟩ := owns_shape h.st
  have hA : Apart w3 w4 (vblocks (.slice p le.length cp)) := by
    have := (below_apart (malloc1 w3 o)).trans (grownBy_apart hg)
    rwa [List.nil_append] at this
  have lo := h.ed.fresh.lo
  have lo5 := h.st.fresh.lo
  have lo4 := (owns_fresh hown).lo
  have hS := setCell_apart w4 (w0.heap.size + 1) 1 (.slice p4 (le.length + 1) c4)
  have hA2 := hA.trans hS
  have hin : ∀ b, (b ∈ vblocks (.slice p le.length cp) ++ [w0.heap.size + 1]) → w0.heap.size + 1 ≤ b := fun b hb => by
    rw [List.mem_append] at hb
    rcases hb with hb | hb
    · have := lo b hb; omega
    · simp at hb; omega
  refine ⟨h.rd.keep hA2 (fun hb => by have := hin _ hb; omega), h.ra, h.res.keep hA2 (fun hb => by have := hin _ hb; omega), num_set1 (h.box.keep hA (fun hb => by have := lo _ hb; omega)) _, ?_, ?_, ?_, ?_, ?_⟩
  · exact h.st.keep hA2 (fun b hb hm => by
      rw [List.mem_append] at hm
      rcases hm with hm | hm
      · exact h.dis b hb hm
      · have := lo5 b hb; simp at hm; omega)
  · exact REdgeOwn.snoc (owns_keep hown hS (fun b hb hm => by have := lo4 b hb; simp at hm; omega))
  · intro b hm hb
    have hb' := (own_blocks rfl).2 hb
    rcases hat with e | e
    · rw [e] at hb'
      exact h.dis b hm ((own_blocks rfl).1 hb')
    · rw [e] at hb'
      have := h.st.fresh.hi b hm
      simp at hb'
      omega
  · have := h.sz; have := hA2.size; omega
  · have := h.ap.trans hA2
    exact ⟨this.os, this.tape, this.output, this.size, fun b hb hn => this.block b hb (fun hm => by
      rw [List.mem_append] at hm
      rcases hm with hm | hm
      · exact hn hm
      · have := hin _ hm; omega)⟩
theorem sm_end {w0 w7 : World} {rb : Nat} {t : ByteArray} {a c : Int} {sv ev : Value} {ls : List RState} {le : List REdge} (h : SmAt w0 w7 rb t a c sv ev ls le) (hrb : rb < w0.heap.size) (x y0 y1 y2 : Value) :
    RStateOwn ((((w7.setCell ⟨w0.heap.size + 1, 2, none⟩ x).setCell ⟨w0.heap.size, 0, none⟩ y0).setCell ⟨w0.heap.size, 1, none⟩ y1).setCell ⟨w0.heap.size, 2, none⟩ y2) w0.heap.size sv ls ∧
    REdgeOwn ((((w7.setCell ⟨w0.heap.size + 1, 2, none⟩ x).setCell ⟨w0.heap.size, 0, none⟩ y0).setCell ⟨w0.heap.size, 1, none⟩ y1).setCell ⟨w0.heap.size, 2, none⟩ y2) w0.heap.size ev le ∧
    SdAt ((((w7.setCell ⟨w0.heap.size + 1, 2, none⟩ x).setCell ⟨w0.heap.size, 0, none⟩ y0).setCell ⟨w0.heap.size, 1, none⟩ y1).setCell ⟨w0.heap.size, 2, none⟩ y2) rb t a c ∧
    Apart w0 ((((w7.setCell ⟨w0.heap.size + 1, 2, none⟩ x).setCell ⟨w0.heap.size, 0, none⟩ y0).setCell ⟨w0.heap.size, 1, none⟩ y1).setCell ⟨w0.heap.size, 2, none⟩ y2) [rb] := by
  have hA := (setCell_apart w7 (w0.heap.size + 1) 2 x).trans (((setCell_apart (w7.setCell ⟨w0.heap.size + 1, 2, none⟩ x) w0.heap.size 0 y0).setCell 1 y1).setCell 2 y2)
  have hin : ∀ b ∈ [w0.heap.size + 1] ++ [w0.heap.size], w0.heap.size ≤ b ∧ b < w0.heap.size + 2 := fun b hb => by simp at hb; omega
  refine ⟨owns_down (h.st.keep hA (fun b hb hm => by have := h.st.fresh.lo b hb; have := hin b hm; omega)) (by omega), owns_down (h.ed.keep hA (fun b hb hm => by have := h.ed.fresh.lo b hb; have := hin b hm; omega)) (by omega), h.rd.keep hA (fun hm => by have := hin _ hm; omega), ?_⟩
  have := h.ap.trans hA
  exact ⟨this.os, this.tape, this.output, this.size, fun b hb hn => this.block b hb (fun hm => by
    rw [List.mem_append] at hm
    rcases hm with hm | hm
    · exact hn hm
    · have := hin _ hm; omega)⟩
theorem sbox_grown {w0 w3 w4 : World} {rb : Nat} {t : ByteArray} {a c : Int} {sv ev : Value} {ls : List RState} {le : List REdge} {o : Obj} (h : SmAt w0 w3 rb t a c sv ev ls le) (hg : (w3.alloc o).grownBy w4 sv.ownBlock) : NumB w4 (w0.heap.size + 1) sv ev (.int .i64 0) := by
  obtain ⟨p, cp, rfl⟩ := owns_shape h.st
  have hA := (below_apart (malloc1 w3 o)).trans (grownBy_apart hg)
  rw [List.nil_append] at hA
  exact h.box.keep hA (fun hb => by have := h.st.fresh.lo _ hb; omega)
theorem sbox_grown2 {w0 w3 w4 : World} {rb : Nat} {t : ByteArray} {a c : Int} {sv ev : Value} {ls : List RState} {le : List REdge} {o : Obj} (h : SmAt w0 w3 rb t a c sv ev ls le) (hg : (w3.alloc o).grownBy w4 ev.ownBlock) : NumB w4 (w0.heap.size + 1) sv ev (.int .i64 0) := by
  obtain ⟨p, cp, rfl⟩ := owns_shape h.ed
  have hA := (below_apart (malloc1 w3 o)).trans (grownBy_apart hg)
  rw [List.nil_append] at hA
  exact h.box.keep hA (fun hb => by have := h.ed.fresh.lo _ hb; omega)
theorem SmAt.far {w0 w w' : World} {rb : Nat} {t : ByteArray} {a c : Int} {sv ev : Value} {ls : List RState} {le : List REdge} {l : List Nat} (h : SmAt w0 w rb t a c sv ev ls le) (ha : Apart w w' l) (hl : ∀ b ∈ l, w.heap.size ≤ b) : SmAt w0 w' rb t a c sv ev ls le :=
  have no : ∀ b, b < w.heap.size → b ∉ l := fun b hb hm => absurd (hl b hm) (by omega)
  ⟨h.rd.keep ha (no _ h.rd.lt), h.ra, h.res.keep ha (no _ h.res.lt), h.box.keep ha (no _ h.box.lt), h.st.keep ha (fun b hb => no b (h.st.fresh.hi b hb)), h.ed.keep ha (fun b hb => no b (h.ed.fresh.hi b hb)), h.dis, Nat.le_trans h.sz ha.size, by
    have := h.ap.trans ha
    exact ⟨this.os, this.tape, this.output, this.size, fun b hb hn => this.block b hb (fun hm => by
      rw [List.mem_append] at hm
      rcases hm with hm | hm
      · exact hn hm
      · exact no b (Nat.lt_of_lt_of_le hb h.ap.size) hm)⟩⟩
theorem SmAt.far2 {w0 w w' : World} {rb : Nat} {t : ByteArray} {a c a' c' : Int} {sv ev : Value} {ls : List RState} {le : List REdge} {l : List Nat} (h : SmAt w0 w rb t a c sv ev ls le) (hrb : rb < w0.heap.size) (ha : Apart w w' ([rb] ++ l)) (hl : ∀ b ∈ l, w.heap.size ≤ b) (hr : SdAt w' rb t a' c') (hra : 0 ≤ a' ∧ a' ≤ 8000) : SmAt w0 w' rb t a' c' sv ev ls le :=
  have no : ∀ b, b < w.heap.size → b ≠ rb → b ∉ [rb] ++ l := fun b hb hne hm => by
    rw [List.mem_append] at hm
    rcases hm with hm | hm
    · simp at hm; exact hne hm
    · exact absurd (hl b hm) (by omega)
  ⟨hr, hra, h.res.keep ha (no _ h.res.lt (by omega)), h.box.keep ha (no _ h.box.lt (by omega)), h.st.keep ha (fun b hb => no b (h.st.fresh.hi b hb) (by have := h.st.fresh.lo b hb; omega)), h.ed.keep ha (fun b hb => no b (h.ed.fresh.hi b hb) (by have := h.ed.fresh.lo b hb; omega)), h.dis, Nat.le_trans h.sz ha.size, by
    have := h.ap.trans ha
    exact ⟨this.os, this.tape, this.output, this.size, fun b hb hn => this.block b hb (fun hm => by
      rw [List.mem_append] at hm
      rcases hm with hm | hm
      · exact hn hm
      · exact no b (Nat.lt_of_lt_of_le hb h.ap.size) (by simpa using hn) hm)⟩⟩
theorem rd1_any {t : ByteArray} {n : Nat} {a1 a c : Int} {k k' : Nat} {l : List RState} (h : Rd1 t n a1 k l a c) (hc : c ≠ 0) : Rd1 t n a1 k' l a c := by
  rcases h with h | h
  · exact absurd h.1 hc
  · exact .inr h
theorem rd2_any {t : ByteArray} {ls : List RState} {n : Nat} {a3 a c : Int} {k k' : Nat} {l : List REdge} (h : Rd2 t ls n a3 k l a c) (hc : c ≠ 0) : Rd2 t ls n a3 k' l a c := by
  rcases h with h | h
  · exact absurd h.1 hc
  · exact .inr h
end Go.Proofs.Ytalipbmpcgillaa
