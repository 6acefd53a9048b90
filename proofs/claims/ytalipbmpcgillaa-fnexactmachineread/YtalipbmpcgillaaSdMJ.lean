/- The specification's reading of a machine: what stands while it is read. -/
import Derived.Test.YtalipbmpcgillaaRdMJ
import Derived.Test.YtalipbmpcgillaaSdJ
namespace Go.Proofs.Ytalipbmpcgillaa
open Go.RowKit

theorem Apart.sub {w w' : World} {l l' : List Nat} (h : Apart w w' l) (hs : ∀ b ∈ l, b ∈ l') : Apart w w' l' := ⟨h.os, h.tape, h.output, h.size, fun b hb hn => h.block b hb (fun hm => hn (hs b hm))⟩
structure BoxL (w : World) (b : Nat) (vs : List Value) : Prop where
  cell : ∀ i v, vs[i]? = some v → w.cell? ⟨b, i, none⟩ = some v
  fz : ∀ o, w.frozen? ⟨b, o, none⟩ = false
  lt : b < w.heap.size
theorem BoxL.keep {w w' : World} {b : Nat} {vs : List Value} {l : List Nat} (h : BoxL w b vs) (ha : Apart w w' l) (hl : b ∉ l) : BoxL w' b vs :=
  ⟨fun i v hv => ha.cell' (h.cell i v hv) hl, fun o => ha.frozen' h.lt (h.fz o) hl, Nat.lt_of_lt_of_le h.lt ha.size⟩
theorem BoxL.set {w : World} {b : Nat} {vs : List Value} (h : BoxL w b vs) (k : Nat) (hk : k < vs.length) (y : Value) : BoxL (w.setCell ⟨b, k, none⟩ y) b (vs.set k y) := by
  refine ⟨fun i v hv => ?_, fun o => (World.frozen?_setCell ..).trans (h.fz o), by rw [World.size_setCell]; exact h.lt⟩
  by_cases hi : k = i
  · subst hi
    rw [List.getElem?_set_self hk] at hv
    injection hv with hv
    subst hv
    exact World.cell?_setCell_same _ _ _ (h.cell k vs[k] (by simp [hk]))
  · rw [List.getElem?_set_ne hi] at hv
    rw [World.cell?_setCell_other _ _ _ _ (by intro e; injection e with _ e2; exact hi e2)]
    exact h.cell i v hv
theorem BoxL.new (w : World) (vs : List Value) (T : TypeId) : BoxL (w.alloc (.cells vs.toArray T)) w.heap.size vs := by
  refine ⟨fun i v hv => ?_, fun o => by simp, by simp⟩
  obtain ⟨h1, h2⟩ := List.getElem?_eq_some_iff.1 hv
  simp [h1, h2]
/-- what stands while a machine is read: the reader, the result's cell, the machine so far -/
structure SmAt (w0 w : World) (rb : Nat) (t : ByteArray) (a c : Int) (sv ev : Value) (ls : List RState) (le : List REdge) : Prop where
  rd : SdAt w rb t a c
  ra : 0 ≤ a ∧ a ≤ 8000
  res : NumB w w0.heap.size (.slice none 0 0) (.slice none 0 0) (.int .i64 0)
  box : NumB w (w0.heap.size + 1) sv ev (.int .i64 0)
  st : RStateOwn w (w0.heap.size + 2) sv ls
  ed : REdgeOwn w (w0.heap.size + 2) ev le
  dis : ∀ b ∈ vblocks sv, b ∉ vblocks ev
  sz : w0.heap.size + 2 ≤ w.heap.size
  ap : Apart w0 w [rb]
theorem SmAt.rdOn {w0 w w' : World} {rb : Nat} {t : ByteArray} {a c a' c' : Int} {sv ev : Value} {ls : List RState} {le : List REdge} (h : SmAt w0 w rb t a c sv ev ls le) (hrb : rb < w0.heap.size) (hr : SdAt w' rb t a' c') (hra : 0 ≤ a' ∧ a' ≤ 8000) (ha : Apart w w' [rb]) : SmAt w0 w' rb t a' c' sv ev ls le :=
  ⟨hr, hra, h.res.keep ha (by simp; omega), h.box.keep ha (by simp; omega), h.st.keep ha (fun b hb hm => by have := h.st.fresh.lo b hb; simp at hm; omega), h.ed.keep ha (fun b hb hm => by have := h.ed.fresh.lo b hb; simp at hm; omega), h.dis, Nat.le_trans h.sz ha.size, h.ap.andThen' ha⟩
theorem SmAt.drew {w0 w : World} {rb : Nat} {t : ByteArray} {a c : Int} {sv ev : Value} {ls : List RState} {le : List REdge} (h : SmAt w0 w rb t a c sv ev ls le) (hrb : rb < w0.heap.size) : SmAt w0 w.drew rb t a c sv ev ls le :=
  h.rdOn hrb (h.rd.keep (Apart.refl _).drew (by simp)) h.ra (Apart.weak (Apart.refl _).drew)
theorem sm_push1 {w0 w3 w4 : World} {rb : Nat} {t : ByteArray} {a c : Int} {sv ev v4 : Value} {ls : List RState} {le : List REdge} (h : SmAt w0 w3 rb t a c sv ev ls le) (hrb : rb < w0.heap.size) (x : RState) (o : Obj)
    (hown : w4.ownsRow (w0.heap.size + 2) 93 2 v4 (ls.length + 1) (ls.flatMap RState.cells ++ x.cells)) (hg : (w3.alloc o).grownBy w4 sv.ownBlock) (hat : v4.ownBlock = sv.ownBlock ∨ v4.ownBlock = some (w3.alloc o).heap.size) :
    SmAt w0 (w4.setCell ⟨w0.heap.size + 1, 0, none⟩ v4) rb t a c v4 ev (ls ++ [x]) le := by
  obtain ⟨p, cp, rfl⟩ := owns_shape h.st
  obtain ⟨p4, c4, rfl⟩ := owns_shape hown
  obtain ⟨p5, c5, rfl⟩ := owns_shape h.ed
  have hA : Apart w3 w4 (vblocks (.slice p ls.length cp)) := by
    have := (below_apart (malloc1 w3 o)).trans (grownBy_apart hg)
    rwa [List.nil_append] at this
  have lo := h.st.fresh.lo
  have lo5 := h.ed.fresh.lo
  have lo4 := (owns_fresh hown).lo
  have hS := setCell_apart w4 (w0.heap.size + 1) 0 (.slice p4 (ls.length + 1) c4)
  have hA2 := hA.trans hS
  have hin : ∀ b, (b ∈ vblocks (.slice p ls.length cp) ++ [w0.heap.size + 1]) → w0.heap.size + 1 ≤ b := fun b hb => by
    rw [List.mem_append] at hb
    rcases hb with hb | hb
    · have := lo b hb; omega
    · simp at hb; omega
  refine ⟨h.rd.keep hA2 (fun hb => by have := hin _ hb; omega), h.ra, h.res.keep hA2 (fun hb => by have := hin _ hb; omega), num_set0 (h.box.keep hA (fun hb => by have := lo _ hb; omega)) _, ?_, ?_, ?_, ?_, ?_⟩
  · exact RStateOwn.snoc (owns_keep hown hS (fun b hb hm => by have := lo4 b hb; simp at hm; omega))
  · exact h.ed.keep hA2 (fun b hb hm => by
      rw [List.mem_append] at hm
      rcases hm with hm | hm
      · exact h.dis b hm hb
      · have := lo5 b hb; simp at hm; omega)
  · intro b hb hm
    have hb' := (own_blocks rfl).2 hb
    rcases hat with e | e
    · rw [e] at hb'
      exact h.dis b ((own_blocks rfl).1 hb') hm
    · rw [e] at hb'
      have := h.ed.fresh.hi b hm
      simp at hb'
      omega
  · have := h.sz; have := hA2.size; omega
  · have := h.ap.trans hA2
    exact ⟨this.os, this.tape, this.output, this.size, fun b hb hn => this.block b hb (fun hm => by
      rw [List.mem_append] at hm
      rcases hm with hm | hm
      · exact hn hm
      · have := hin _ hm; omega)⟩
theorem sm_push2 {w0 w3 w4 : World} {rb : Nat} {t : ByteArray} {a c : Int} {sv ev v4 : Value} {ls : List RState} {le : List REdge} (h : SmAt w0 w3 rb t a c sv ev ls le) (hrb : rb < w0.heap.size) (x : REdge) (o : Obj)
    (hown : w4.ownsRow (w0.heap.size + 2) 95 4 v4 (le.length + 1) (le.flatMap REdge.cells ++ x.cells)) (hg : (w3.alloc o).grownBy w4 ev.ownBlock) (hat : v4.ownBlock = ev.ownBlock ∨ v4.ownBlock = some (w3.alloc o).heap.size) :
    SmAt w0 (w4.setCell ⟨w0.heap.size + 1, 1, none⟩ v4) rb t a c sv v4 ls (le ++ [x]) := by
  obtain ⟨p, cp, rfl⟩ := owns_shape h.ed
  obtain ⟨p4, c4, rfl⟩ := owns_shape hown
  obtain ⟨p5, c5, rfl⟩ := owns_shape h.st
  have hA : Apart w3 w4 (vblocks (.slice p le.length cp)) := by
    have := (below_apart (malloc1 w3 o)).trans (grownBy_apart hg)
    rwa [List.nil_append] at this
  have lo := h.ed.fresh.lo
  have lo5 := h.st.fresh.lo
  have lo4 := (owns_fresh hown).lo
  have hS := setCell_apart w4 (w0.heap.size + 1) 1 (.slice p4 (le.length + 1) c4)
  have hA2 := hA.trans hS
  have hin : ∀ b, (b ∈ vblocks (.slice p le.length cp) ++ [w0.heap.size + 1]) → w0.heap.size + 1 ≤ b := fun b hb => by
    rw [List.mem_append] at hb
    rcases hb with hb | hb
    · have := lo b hb; omega
    · simp at hb; omega
  refine ⟨h.rd.keep hA2 (fun hb => by have := hin _ hb; omega), h.ra, h.res.keep hA2 (fun hb => by have := hin _ hb; omega), num_set1 (h.box.keep hA (fun hb => by have := lo _ hb; omega)) _, ?_, ?_, ?_, ?_, ?_⟩
  · exact h.st.keep hA2 (fun b hb hm => by
      rw [List.mem_append] at hm
      rcases hm with hm | hm
      · exact h.dis b hb hm
      · have := lo5 b hb; simp at hm; omega)
  · exact REdgeOwn.snoc (owns_keep hown hS (fun b hb hm => by have := lo4 b hb; simp at hm; omega))
  · intro b hm hb
    have hb' := (own_blocks rfl).2 hb
    rcases hat with e | e
    · rw [e] at hb'
      exact h.dis b hm ((own_blocks rfl).1 hb')
    · rw [e] at hb'
      have := h.st.fresh.hi b hm
      simp at hb'
      omega
  · have := h.sz; have := hA2.size; omega
  · have := h.ap.trans hA2
    exact ⟨this.os, this.tape, this.output, this.size, fun b hb hn => this.block b hb (fun hm => by
      rw [List.mem_append] at hm
      rcases hm with hm | hm
      · exact hn hm
      · have := hin _ hm; omega)⟩
theorem sm_end {w0 w7 : World} {rb : Nat} {t : ByteArray} {a c : Int} {sv ev : Value} {ls : List RState} {le : List REdge} (h : SmAt w0 w7 rb t a c sv ev ls le) (hrb : rb < w0.heap.size) (x y0 y1 y2 : Value) :
    RStateOwn ((((w7.setCell ⟨w0.heap.size + 1, 2, none⟩ x).setCell ⟨w0.heap.size, 0, none⟩ y0).setCell ⟨w0.heap.size, 1, none⟩ y1).setCell ⟨w0.heap.size, 2, none⟩ y2) w0.heap.size sv ls ∧
    REdgeOwn ((((w7.setCell ⟨w0.heap.size + 1, 2, none⟩ x).setCell ⟨w0.heap.size, 0, none⟩ y0).setCell ⟨w0.heap.size, 1, none⟩ y1).setCell ⟨w0.heap.size, 2, none⟩ y2) w0.heap.size ev le ∧
    SdAt ((((w7.setCell ⟨w0.heap.size + 1, 2, none⟩ x).setCell ⟨w0.heap.size, 0, none⟩ y0).setCell ⟨w0.heap.size, 1, none⟩ y1).setCell ⟨w0.heap.size, 2, none⟩ y2) rb t a c ∧
    Apart w0 ((((w7.setCell ⟨w0.heap.size + 1, 2, none⟩ x).setCell ⟨w0.heap.size, 0, none⟩ y0).setCell ⟨w0.heap.size, 1, none⟩ y1).setCell ⟨w0.heap.size, 2, none⟩ y2) [rb] := by
  have hA := (setCell_apart w7 (w0.heap.size + 1) 2 x).trans (((setCell_apart (w7.setCell ⟨w0.heap.size + 1, 2, none⟩ x) w0.heap.size 0 y0).setCell 1 y1).setCell 2 y2)
  have hin : ∀ b ∈ [w0.heap.size + 1] ++ [w0.heap.size], w0.heap.size ≤ b ∧ b < w0.heap.size + 2 := fun b hb => by simp at hb; omega
  refine ⟨owns_down (h.st.keep hA (fun b hb hm => by have := h.st.fresh.lo b hb; have := hin b hm; omega)) (by omega), owns_down (h.ed.keep hA (fun b hb hm => by have := h.ed.fresh.lo b hb; have := hin b hm; omega)) (by omega), h.rd.keep hA (fun hm => by have := hin _ hm; omega), ?_⟩
  have := h.ap.trans hA
  exact ⟨this.os, this.tape, this.output, this.size, fun b hb hn => this.block b hb (fun hm => by
    rw [List.mem_append] at hm
    rcases hm with hm | hm
    · exact hn hm
    · have := hin _ hm; omega)⟩
theorem sbox_grown {w0 w3 w4 : World} {rb : Nat} {t : ByteArray} {a c : Int} {sv ev : Value} {ls : List RState} {le : List REdge} {o : Obj} (h : SmAt w0 w3 rb t a c sv ev ls le) (hg : (w3.alloc o).grownBy w4 sv.ownBlock) : NumB w4 (w0.heap.size + 1) sv ev (.int .i64 0) := by
  obtain ⟨p, cp, rfl⟩ := owns_shape h.st
  have hA := (below_apart (malloc1 w3 o)).trans (grownBy_apart hg)
  rw [List.nil_append] at hA
  exact h.box.keep hA (fun hb => by have := h.st.fresh.lo _ hb; omega)
theorem sbox_grown2 {w0 w3 w4 : World} {rb : Nat} {t : ByteArray} {a c : Int} {sv ev : Value} {ls : List RState} {le : List REdge} {o : Obj} (h : SmAt w0 w3 rb t a c sv ev ls le) (hg : (w3.alloc o).grownBy w4 ev.ownBlock) : NumB w4 (w0.heap.size + 1) sv ev (.int .i64 0) := by
  obtain ⟨p, cp, rfl⟩ := owns_shape h.ed
  have hA := (below_apart (malloc1 w3 o)).trans (grownBy_apart hg)
  rw [List.nil_append] at hA
  exact h.box.keep hA (fun hb => by have := h.ed.fresh.lo _ hb; omega)
theorem SmAt.far {w0 w w' : World} {rb : Nat} {t : ByteArray} {a c : Int} {sv ev : Value} {ls : List RState} {le : List REdge} {l : List Nat} (h : SmAt w0 w rb t a c sv ev ls le) (ha : Apart w w' l) (hl : ∀ b ∈ l, w.heap.size ≤ b) : SmAt w0 w' rb t a c sv ev ls le :=
  have no : ∀ b, b < w.heap.size → b ∉ l := fun b hb hm => absurd (hl b hm) (by omega)
  ⟨h.rd.keep ha (no _ h.rd.lt), h.ra, h.res.keep ha (no _ h.res.lt), h.box.keep ha (no _ h.box.lt), h.st.keep ha (fun b hb => no b (h.st.fresh.hi b hb)), h.ed.keep ha (fun b hb => no b (h.ed.fresh.hi b hb)), h.dis, Nat.le_trans h.sz ha.size, by
    have := h.ap.trans ha
    exact ⟨this.os, this.tape, this.output, this.size, fun b hb hn => this.block b hb (fun hm => by
      rw [List.mem_append] at hm
      rcases hm with hm | hm
      · exact hn hm
      · exact no b (Nat.lt_of_lt_of_le hb h.ap.size) hm)⟩⟩
theorem SmAt.far2 {w0 w w' : World} {rb : Nat} {t : ByteArray} {a c a' c' : Int} {sv ev : Value} {ls : List RState} {le : List REdge} {l : List Nat} (h : SmAt w0 w rb t a c sv ev ls le) (hrb : rb < w0.heap.size) (ha : Apart w w' ([rb] ++ l)) (hl : ∀ b ∈ l, w.heap.size ≤ b) (hr : SdAt w' rb t a' c') (hra : 0 ≤ a' ∧ a' ≤ 8000) : SmAt w0 w' rb t a' c' sv ev ls le :=
  have no : ∀ b, b < w.heap.size → b ≠ rb → b ∉ [rb] ++ l := fun b hb hne hm => by
    rw [List.mem_append] at hm
    rcases hm with hm | hm
    · simp at hm; exact hne hm
    · exact absurd (hl b hm) (by omega)
  ⟨hr, hra, h.res.keep ha (no _ h.res.lt (by omega)), h.box.keep ha (no _ h.box.lt (by omega)), h.st.keep ha (fun b hb => no b (h.st.fresh.hi b hb) (by have := h.st.fresh.lo b hb; omega)), h.ed.keep ha (fun b hb => no b (h.ed.fresh.hi b hb) (by have := h.ed.fresh.lo b hb; omega)), h.dis, Nat.le_trans h.sz ha.size, by
    have := h.ap.trans ha
    exact ⟨this.os, this.tape, this.output, this.size, fun b hb hn => this.block b hb (fun hm => by
      rw [List.mem_append] at hm
      rcases hm with hm | hm
      · exact hn hm
      · exact no b (Nat.lt_of_lt_of_le hb h.ap.size) (by simpa using hn) hm)⟩⟩
theorem rd1_any {t : ByteArray} {n : Nat} {a1 a c : Int} {k k' : Nat} {l : List RState} (h : Rd1 t n a1 k l a c) (hc : c ≠ 0) : Rd1 t n a1 k' l a c := by
  rcases h with h | h
  · exact absurd h.1 hc
  · exact .inr h
theorem rd2_any {t : ByteArray} {ls : List RState} {n : Nat} {a3 a c : Int} {k k' : Nat} {l : List REdge} (h : Rd2 t ls n a3 k l a c) (hc : c ≠ 0) : Rd2 t ls n a3 k' l a c := by
  rcases h with h | h
  · exact absurd h.1 hc
  · exact .inr h
end Go.Proofs.Ytalipbmpcgillaa
namespace Go.Proofs.Ytalipbmpcgillaa
open Go.RowKit
attribute [local go_sem ↓] Go.wp_at_zero Go.wp_at_succ

theorem new_row1' (w : World) (cs : List Value) (t : TypeId) (b : Nat) (hb : b = w.heap.size) (j : Nat) (u : Value) (h : cs[j]? = some u) : (w.alloc (.cells cs.toArray t)).cell? (Addr.add ⟨b, 0, none⟩ j) = some u := by subst hb; exact new_row1 w cs t j u h
set_option maxRecDepth 100000 in
set_option maxHeartbeats 4000000 in
theorem s_machine (t : ByteArray) (rb : Nat) (w : World) (hs : t.size ≤ 8000) (h : SdAt w rb t 0 0) :
    Calls Try.prog 83 #[.pointer (some ⟨rb, 0, none⟩)] w fun e w' => ∃ sv ev m a c, e = .returned (.agg #[sv, ev, .int .i64 m.start]) ∧ RStateOwn w' w.heap.size sv m.states ∧ REdgeOwn w' w.heap.size ev m.edges ∧ (∀ b ∈ vblocks sv, b ∉ vblocks ev) ∧ Rd3 t m a c ∧ SdAt w' rb t a c ∧ Apart w w' [rb] := by
  have hrb : rb < w.heap.size := h.lt
  have HRB := hide hrb
  have HC : Hid (∀ a c most W, SdAt W rb t a c → Calls Try.prog 88 #[.pointer (some ⟨rb, 0, none⟩), .int .i64 most] W fun e w' => e = .returned (.int .i64 (cntI t a c most).1) ∧ SdAt w' rb t (cntI t a c most).2.1 (cntI t a c most).2.2 ∧ Apart W w' [rb]) := hide (fun a c most W h => sd_many t a c most rb W hs h)
  have HN : Hid (∀ a c W, SdAt W rb t a c → Calls Try.prog 91 #[.pointer (some ⟨rb, 0, none⟩)] W fun e w' => e = .returned (.int .i64 (numI t a c).1) ∧ SdAt w' rb t (numI t a c).2.1 (numI t a c).2.2 ∧ Apart W w' [rb]) := hide (fun a c W h => sd_num t a c rb W hs h)
  have HWD : Hid (∀ a c W, SdAt W rb t a c → Calls Try.prog 90 #[.pointer (some ⟨rb, 0, none⟩)] W fun e w' => e = .returned (.string (wordI t a c).1) ∧ SdAt w' rb t (wordI t a c).2.1 (wordI t a c).2.2 ∧ Apart W w' [rb]) := hide (fun a c W h => sd_text t a c rb W hs h)
  have H0 : Hid (SdAt (rmW w) rb t 0 0) := hide (h.keep (below_apart (rm_start w).2.2.1) (by simp))
  obtain ⟨i0, hi, hz0, hz1, hz2⟩ := info_parts Try.infoRState
  have HI := hide (And.intro hi (And.intro hz0 (And.intro hz1 hz2)))
  obtain ⟨i1, hi1, hy0, hy1, hy2⟩ := info_parts Try.infoREdge
  have HJ := hide (And.intro hi1 (And.intro hy0 (And.intro hy1 hy2)))
  have hg1 := cntI_range (t := t) (a := 0) (c := 0) (most := 40) (by omega)
  obtain ⟨N, hN⟩ : ∃ N : Nat, (cntI t 0 0 40).1 = (N : Int) := ⟨(cntI t 0 0 40).1.toNat, by omega⟩
  have hN40 : N ≤ 40 := by omega
  have HS1 : Hid (Rd1 t N (cntI t 0 0 40).2.1 0 [] (cntI t 0 0 40).2.1 (cntI t 0 0 40).2.2) := hide (by have := rd1_start (t := t); rw [hN, Int.toNat_natCast] at this; exact this)
  have HA0 : Hid (0 ≤ (cntI t 0 0 40).2.1 ∧ (cntI t 0 0 40).2.1 ≤ 8000) := hide (cntI_at ⟨by omega, by omega⟩)
  have HCN := hide (HC.out 0 0 40)
  rw [hN] at HCN
  clear h hs hrb hi hz0 hz1 hz2 hi1 hy0 hy1 hy2 hg1 hN
  go_enter Try.func83, Try.ntmps83
  go_wp2_with (go_at_call 88; refine (HCN.out (rmW w) H0.out).mono ?_; rintro e w1 ⟨rfl, hr1, ha1⟩; have HR1 := hide hr1; have HA1 := hide ha1; clear hr1 ha1)
  go_loopw [4] (fun i wr => ∃ (n j : Nat) (ls : List RState) (a c : Int) (sv : Value), n + j = N ∧ i = .int .i64 n ∧ ls.length = j ∧ Rd1 t N (cntI t 0 0 40).2.1 j ls a c ∧ SmAt w wr rb t a c sv (.slice none 0 0) ls []) (fun i _ => (intOf i).toNat)
  case atStart =>
    obtain ⟨s1, s2, s3, s4⟩ := rm_start w
    have hn : w.heap.size ∉ [rb] ∧ w.heap.size + 1 ∉ [rb] := by have := HRB.out; simp; omega
    refine ⟨N, 0, [], _, _, .slice none 0 0, rfl, rfl, rfl, HS1.out, ⟨HR1.out, HA0.out, s1.keep HA1.out hn.1, s2.keep HA1.out hn.2, RStateOwn.nil _ _, REdgeOwn.nil _ _, by simp [vblocks, cellBlocks], by have := HA1.out.size; omega, ?_⟩⟩
    have := (below_apart s3).trans HA1.out
    rwa [List.nil_append] at this
  case round =>
    obtain ⟨n, j, ls, a, c, sv, hnj, rfl, hlk, hrd, hrm⟩ := hrel
    have HNJ := hide hnj
    have hn40 : n ≤ 40 := by omega
    have HRD := hide hrd
    have HRM := hide hrm
    have HLK := hide hlk
    obtain ⟨ps, cs, rfl⟩ := owns_shape hrm.st
    obtain ⟨-, c0, c2, f1, f2⟩ := hrm.rd
    obtain ⟨k0, k1, k2, q0, q1, q2⟩ := hrm.box
    clear hrd hlk hnj hrm
    by_cases hgo : 0 < n ∧ c = 0
    · obtain ⟨hlt, rfl⟩ := hgo
      have e0 : decide ((0 : Int) ≠ 0) = false := rfl
      rw [e0] at c2
      obtain ⟨r1, hr1⟩ : ∃ r, numI t a 0 = r := ⟨_, rfl⟩
      obtain ⟨r2, hr2⟩ : ∃ r, wordI t r1.2.1 r1.2.2 = r := ⟨_, rfl⟩
      have HST : Hid (stI t a 0 = (⟨r1.1, r2.1⟩, r2.2)) := hide (by unfold stI; rw [hr1, hr2])
      have B1 : Hid (0 ≤ r1.2.1 ∧ r1.2.1 ≤ 8000) := hide (by rw [← hr1]; exact numI_at HRM.out.ra)
      have B2 : Hid (0 ≤ r2.2.1 ∧ r2.2.1 ≤ 8000) := hide (by rw [← hr2]; exact wordI_at B1.out)
      have HN1 := hide (HN.out a 0)
      have HW1 := hide (HWD.out r1.2.1 r1.2.2)
      rw [hr1] at HN1
      rw [hr2] at HW1
      clear hr1 hr2 e0
      go_wp2_with (first
        | (go_at_call 91; refine (HN1.out _ HRM.out.rd).mono ?_; rintro e w2 ⟨rfl, hr2, ha2⟩; have HM2 := hide (HRM.out.rdOn HRB.out hr2 B1.out ha2); have HP2 := hide (below_apart (malloc1 w2 (.cells #[.int .i64 r1.1, .string ⟨#[]⟩] 93))); have HR2 := hide (hr2.keep HP2.out (by simp)); have HB2 := hide (BoxL.new w2 [.int .i64 r1.1, .string ⟨#[]⟩] 93); have HZ2 : Hid (w2.heap.size ∉ [rb] ∧ rb ∉ [w2.heap.size]) := hide (by have := hr2.lt; simp; omega); clear hr2 ha2)
        | (go_at_call 90; refine (HW1.out _ HR2.out).mono ?_; rintro e w3 ⟨rfl, hr3, ha3⟩; have HB3 := hide (HB2.out.keep ha3 HZ2.out.1); have b0 := HB3.out.cell 0 _ rfl; have b1 := HB3.out.cell 1 _ rfl; have bz := HB3.out.fz; have HA3 : Hid (Apart w2 (w3.setCell ⟨w2.heap.size, 1, none⟩ (.string r2.1)) ([rb] ++ [w2.heap.size])) := hide ((HP2.out.trans ha3).trans (setCell_apart w3 w2.heap.size 1 (.string r2.1))); have HM3 := hide (HM2.out.far2 HRB.out HA3.out (by simp) (hr3.keep (setCell_apart w3 w2.heap.size 1 (.string r2.1)) HZ2.out.2) B2.out); obtain ⟨g0, g1, g2, p0, p1, p2⟩ := HM3.out.box; clear hr3 ha3)
        | (at_builtin; refine wpList_append_own_at _ rfl (.tmp 29) (.tmp 31) 42 rfl (w.heap.size + 2) 93 i0 (.agg #[.int .i64 0, .string ByteArray.empty]) 2 24 Try.underlying42 HI.out.1 HI.out.2.1 HI.out.2.2.1 HI.out.2.2.2 rfl (by decide) (.slice ps ls.length cs) ls.length (ls.flatMap RState.cells) rfl (HM3.out.st.below (malloc1 _ _)) ⟨w3.heap.size, 0, none⟩ 1 1 (RState.cells ⟨r1.1, r2.1⟩) rfl rfl (fun k v hk => new_row1' (w3.setCell ⟨w2.heap.size, 1, none⟩ (.string r2.1)) _ _ _ (World.size_setCell _ _ _).symm k v hk) (RState.cells_one _) (by have := HLK.out; have := HNJ.out; unfold maxLen; omega) (by have := HLK.out; have := HNJ.out; omega) (by have := HM3.out.sz; simp at *; omega) ?_; intro v4 w4 hown4 hgr4 _ hat4; have HM4 := hide (sm_push1 HM3.out HRB.out ⟨r1.1, r2.1⟩ _ hown4 hgr4 hat4); have HB4 := hide (sbox_grown HM3.out hgr4); obtain ⟨l0, l1, l2, t0, t1, t2⟩ := HB4.out; obtain ⟨p4, c4, rfl⟩ := owns_shape hown4; clear hown4 hgr4 hat4))
      go_roundw
      case rel =>
        have hst := rd1_step HRD.out (show j < N by have := HNJ.out; omega)
        rw [HST.out] at hst
        exact ⟨n - 1, j + 1, ls ++ [⟨r1.1, r2.1⟩], _, _, _, by have := HNJ.out; omega, by go_num, by rw [List.length_append, HLK.out]; rfl, hst, HM4.out⟩
      case measure => simp [intOf]; omega
    · have hcase : n = 0 ∨ (0 < n ∧ c ≠ 0) := by omega
      have HRN : Hid (Rd1 t N (cntI t 0 0 40).2.1 N ls a c) := hide (by
        rcases hcase with h | h
        · have := HNJ.out
          have e : j = N := by omega
          rw [← e]; rw [← e] at HRD; exact HRD.out
        · exact rd1_any HRD.out h.2)
      clear hgo
      rcases hcase with rfl | ⟨hlt, hc⟩
      case' inr => rw [show decide (c ≠ 0) = true from decide_eq_true hc] at c2; clear hc
      all_goals
        have hg2 := cntI_range (t := t) (a := a) (c := c) (most := 80) (by omega)
        obtain ⟨N2, hN2⟩ : ∃ N : Nat, (cntI t a c 80).1 = (N : Int) := ⟨(cntI t a c 80).1.toNat, by omega⟩
        have hN80 : N2 ≤ 80 := by omega
        have HS2 : Hid (Rd2 t ls N2 (cntI t a c 80).2.1 0 [] (cntI t a c 80).2.1 (cntI t a c 80).2.2) := hide (by have := rd2_start HRN.out; rw [hN2, Int.toNat_natCast] at this; exact this)
        have HA2 : Hid (0 ≤ (cntI t a c 80).2.1 ∧ (cntI t a c 80).2.1 ≤ 8000) := hide (cntI_at HRM.out.ra)
        have HCN2 := hide (HC.out a c 80)
        rw [hN2] at HCN2
        clear hN2 hg2
        go_wp2_with (go_at_call 88; refine (HCN2.out _ HRM.out.rd).mono ?_; rintro e w5 ⟨rfl, hr5, ha5⟩; have HM5 := hide (HRM.out.rdOn HRB.out hr5 HA2.out ha5); clear hr5 ha5)
        clear k0 k1 k2 q0 q1 q2 c0 c2 f1 f2
        obtain ⟨cp0, hcp⟩ : ∃ x : Int × Int, x = (cntI t a c 80).2 := ⟨_, rfl⟩
        rw [← hcp] at HM5 HS2
        clear hcp HA2 HCN2 HRD HRN
        go_loopw [6] (fun i wq => ∃ (n j : Nat) (le : List REdge) (a c : Int) (ev : Value), n + j = N2 ∧ i = .int .i64 n ∧ le.length = j ∧ Rd2 t ls N2 cp0.1 j le a c ∧ SmAt w wq rb t a c (.slice ps ls.length cs) ev ls le) (fun i _ => (intOf i).toNat)
        case atStart => exact ⟨N2, 0, [], _, _, .slice none 0 0, rfl, rfl, rfl, HS2.out, HM5.out⟩
        case round =>
          obtain ⟨n2, j2, le, a2, c2, ev, hnj2, rfl, hlk2, hrd2, hrm2⟩ := hrel
          have HNJ2 := hide hnj2
          have hn80 : n2 ≤ 80 := by omega
          have HRD2 := hide hrd2
          have HRM2 := hide hrm2
          have HLK2 := hide hlk2
          obtain ⟨pe, ce, rfl⟩ := owns_shape hrm2.ed
          obtain ⟨-, c0, c2', f1, f2⟩ := hrm2.rd
          obtain ⟨k0, k1, k2, q0, q1, q2⟩ := hrm2.box
          clear hrd2 hlk2 hnj2 hrm2
          by_cases hgo2 : 0 < n2 ∧ c2 = 0
          · obtain ⟨hlt2, rfl⟩ := hgo2
            have e0 : decide ((0 : Int) ≠ 0) = false := rfl
            rw [e0] at c2'
            obtain ⟨r1, hr1⟩ : ∃ r, numI t a2 0 = r := ⟨_, rfl⟩
            obtain ⟨r2, hr2⟩ : ∃ r, wordI t r1.2.1 r1.2.2 = r := ⟨_, rfl⟩
            obtain ⟨r3, hr3⟩ : ∃ r, numI t r2.2.1 r2.2.2 = r := ⟨_, rfl⟩
            obtain ⟨r4, hr4⟩ : ∃ r, numI t r3.2.1 r3.2.2 = r := ⟨_, rfl⟩
            have HST : Hid (edI t a2 0 = (⟨r1.1, r2.1, r3.1, r4.1⟩, r4.2)) := hide (by unfold edI; rw [hr1, hr2, hr3, hr4])
            have B1 : Hid (0 ≤ r1.2.1 ∧ r1.2.1 ≤ 8000) := hide (by rw [← hr1]; exact numI_at HRM2.out.ra)
            have B2 : Hid (0 ≤ r2.2.1 ∧ r2.2.1 ≤ 8000) := hide (by rw [← hr2]; exact wordI_at B1.out)
            have B3 : Hid (0 ≤ r3.2.1 ∧ r3.2.1 ≤ 8000) := hide (by rw [← hr3]; exact numI_at B2.out)
            have B4 : Hid (0 ≤ r4.2.1 ∧ r4.2.1 ≤ 8000) := hide (by rw [← hr4]; exact numI_at B3.out)
            have HN1 := hide (HN.out a2 0)
            have HW1 := hide (HWD.out r1.2.1 r1.2.2)
            have HN3 := hide (HN.out r2.2.1 r2.2.2)
            have HN4 := hide (HN.out r3.2.1 r3.2.2)
            rw [hr1] at HN1
            rw [hr2] at HW1
            rw [hr3] at HN3
            rw [hr4] at HN4
            clear hr1 hr2 hr3 hr4 e0
            go_wp2_with (first
              | ((fail_if_success (have := HM2)); go_at_call 91; refine (HN1.out _ HRM2.out.rd).mono ?_; rintro e w2 ⟨rfl, hr2, ha2⟩; have HM2 := hide (HRM2.out.rdOn HRB.out hr2 B1.out ha2); have HP2 := hide (below_apart (malloc1 w2 (.cells #[.int .i64 r1.1, .string ⟨#[]⟩, .int .i64 0, .int .i64 0] 95))); have HR2 := hide (hr2.keep HP2.out (by simp)); have HB2 := hide (BoxL.new w2 [.int .i64 r1.1, .string ⟨#[]⟩, .int .i64 0, .int .i64 0] 95); have HZ2 : Hid (w2.heap.size ∉ [rb] ∧ rb ∉ [w2.heap.size]) := hide (by have := hr2.lt; simp; omega); clear hr2 ha2)
              | (go_at_call 90; refine (HW1.out _ HR2.out).mono ?_; rintro e w3 ⟨rfl, hr3, ha3⟩; have HB3 := hide (HB2.out.keep ha3 HZ2.out.1); have b0 := HB3.out.cell 0 _ rfl; have b1 := HB3.out.cell 1 _ rfl; have b2 := HB3.out.cell 2 _ rfl; have b3 := HB3.out.cell 3 _ rfl; have bz := HB3.out.fz; have HS3 := hide (setCell_apart w3 w2.heap.size 1 (.string r2.1)); have HR3 := hide (hr3.keep HS3.out HZ2.out.2); have HA3 := hide ((HP2.out.trans ha3).trans HS3.out); have HB3a := hide (HB3.out.set 1 (by simp) (.string r2.1)); clear hr3 ha3)
              | ((fail_if_success (have := HR4)); go_at_call 91; refine (HN3.out _ HR3.out).mono ?_; rintro e w4 ⟨rfl, hr4, ha4⟩; have HB4 := hide (HB3a.out.keep ha4 HZ2.out.1); have d0 := HB4.out.cell 0 _ rfl; have d1 := HB4.out.cell 1 _ rfl; have d2 := HB4.out.cell 2 _ rfl; have d3 := HB4.out.cell 3 _ rfl; have dz := HB4.out.fz; have HS4 := hide (setCell_apart w4 w2.heap.size 2 (.int .i64 r3.1)); have HR4 := hide (hr4.keep HS4.out HZ2.out.2); have HA4 := hide ((HA3.out.trans ha4).trans HS4.out); have HB4a := hide (HB4.out.set 2 (by simp) (.int .i64 r3.1)); clear hr4 ha4)
              | (go_at_call 91; refine (HN4.out _ HR4.out).mono ?_; rintro e w5 ⟨rfl, hr5, ha5⟩; have HB5 := hide (HB4a.out.keep ha5 HZ2.out.1); have m0 := HB5.out.cell 0 _ rfl; have m1 := HB5.out.cell 1 _ rfl; have m2 := HB5.out.cell 2 _ rfl; have m3 := HB5.out.cell 3 _ rfl; have mz := HB5.out.fz; have HS5 := hide (setCell_apart w5 w2.heap.size 3 (.int .i64 r4.1)); have HA5 : Hid (Apart w2 (w5.setCell ⟨w2.heap.size, 3, none⟩ (.int .i64 r4.1)) ([rb] ++ [w2.heap.size])) := hide (((HA4.out.trans ha5).trans HS5.out).sub (by simp)); have HM5' := hide (HM2.out.far2 HRB.out HA5.out (by simp) (hr5.keep HS5.out HZ2.out.2) B4.out); obtain ⟨g0, g1, g2, p0, p1, p2⟩ := HM5'.out.box; clear hr5 ha5)
              | (at_builtin; refine wpList_append_own_at _ rfl (.tmp 60) (.tmp 62) 43 rfl (w.heap.size + 2) 95 i1 (.agg #[.int .i64 0, .string ByteArray.empty, .int .i64 0, .int .i64 0]) 4 40 Try.underlying43 HJ.out.1 HJ.out.2.1 HJ.out.2.2.1 HJ.out.2.2.2 rfl (by decide) (.slice pe le.length ce) le.length (le.flatMap REdge.cells) rfl (HM5'.out.ed.below (malloc1 _ _)) ⟨w5.heap.size, 0, none⟩ 1 1 (REdge.cells ⟨r1.1, r2.1, r3.1, r4.1⟩) rfl rfl (fun k v hk => new_row1' (w5.setCell ⟨w2.heap.size, 3, none⟩ (.int .i64 r4.1)) _ _ _ (World.size_setCell _ _ _).symm k v hk) (REdge.cells_one _) (by have := HLK2.out; have := HNJ2.out; unfold maxLen; omega) (by have := HLK2.out; have := HNJ2.out; omega) (by have := HM5'.out.sz; simp at *; omega) ?_; intro v6 w6 hown6 hgr6 _ hat6; have HM6 := hide (sm_push2 HM5'.out HRB.out ⟨r1.1, r2.1, r3.1, r4.1⟩ _ hown6 hgr6 hat6); have HB6 := hide (sbox_grown2 HM5'.out hgr6); obtain ⟨l0, l1, l2, t0, t1, t2⟩ := HB6.out; obtain ⟨p6, c6, rfl⟩ := owns_shape hown6; clear hown6 hgr6 hat6))
            go_roundw
            case rel =>
              have hst := rd2_step HRD2.out (show j2 < N2 by have := HNJ2.out; omega)
              rw [HST.out] at hst
              exact ⟨n2 - 1, j2 + 1, le ++ [⟨r1.1, r2.1, r3.1, r4.1⟩], _, _, _, by have := HNJ2.out; omega, by go_num, by rw [List.length_append, HLK2.out]; rfl, hst, HM6.out⟩
            case measure => simp [intOf]; omega
          · have hcase2 : n2 = 0 ∨ (0 < n2 ∧ c2 ≠ 0) := by omega
            have HRN2 : Hid (Rd2 t ls N2 cp0.1 N2 le a2 c2) := hide (by
              rcases hcase2 with h | h
              · have := HNJ2.out
                have e : j2 = N2 := by omega
                rw [← e]; rw [← e] at HRD2; exact HRD2.out
              · exact rd2_any HRD2.out h.2)
            obtain ⟨r1, hr1⟩ : ∃ r, numI t a2 c2 = r := ⟨_, rfl⟩
            have HD3 : Hid (Rd3 t ⟨ls, le, r1.1⟩ r1.2.1 r1.2.2) := hide (by have := rd3_end HRN2.out; rw [hr1] at this; exact this)
            have B1 : Hid (0 ≤ r1.2.1 ∧ r1.2.1 ≤ 8000) := hide (by rw [← hr1]; exact numI_at HRM2.out.ra)
            have HN1 := hide (HN.out a2 c2)
            rw [hr1] at HN1
            have hne : ¬ w.heap.size = w.heap.size + 1 := by omega
            clear hr1 hgo2
            rcases hcase2 with rfl | ⟨hlt2, hc2⟩
            case' inr => rw [show decide (c2 ≠ 0) = true from decide_eq_true hc2] at c2'; clear hc2
            all_goals
              go_wp2_with (go_at_call 91; refine (HN1.out _ HRM2.out.rd).mono ?_; rintro e w7 ⟨rfl, hr7, ha7⟩; have HM7 := hide (HRM2.out.rdOn HRB.out hr7 B1.out ha7); obtain ⟨l0, l1, l2, p0, p1, p2⟩ := HM7.out.box; obtain ⟨s0, s1, s2, t0, t1, t2⟩ := HM7.out.res; clear hr7 ha7)
              obtain ⟨z1, z2, z3, z4⟩ := sm_end HM7.out HRB.out (.int .i64 r1.1) (.slice ps ls.length cs) (.slice pe le.length ce) (.int .i64 r1.1)
              refine bodyPost_ret (v := .agg #[.slice ps ls.length cs, .slice pe le.length ce, .int .i64 r1.1]) (by simp [results, Try.results83, go_sem, s0, s1, s2]) rfl ⟨_, _, ⟨ls, le, r1.1⟩, _, _, rfl, z1, z2, HM7.out.dis, HD3.out, z3, z4⟩
end Go.Proofs.Ytalipbmpcgillaa
