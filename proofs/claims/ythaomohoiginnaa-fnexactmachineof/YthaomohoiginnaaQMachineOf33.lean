/- The specification's maker of machines: an edge in its place, whatever there is. -/
import Derived.Test.YthaomohoiginnaaQMachineOf32
namespace Go.Proofs.Ythaomohoiginnaa
open Go.RowKit
attribute [local go_sem ↓] Go.wp_at_zero Go.wp_at_succ

theorem new_row1q (w : World) (cs : List Value) (t : TypeId) (b : Nat) (hb : b = w.heap.size) (j : Nat) (u : Value) (h : cs[j]? = some u) : (w.alloc (.cells cs.toArray t)).cell? (Addr.add ⟨b, 0, none⟩ j) = some u := by subst hb; exact new_row1 w cs t j u h
set_option maxRecDepth 100000 in
set_option maxHeartbeats 2000000 in
theorem mk_edge_none (e : REdge) (w : World) (xb base : Nat) (h : EdAt w xb base (.slice none 0 0) []) :
    Calls Try.prog 168 #[.pointer (some ⟨xb, 0, none⟩), e.val] w fun r w' => ∃ ev', r = .returned (.tuple #[]) ∧ REdgeOwn w' w.heap.size ev' (insE e []) ∧ w'.cell? ⟨xb, 2, none⟩ = some ev' ∧ Ed2 w w' xb := by
  have H := hide h
  obtain ⟨i1, hi1, hy0, hy1, hy2⟩ := info_parts Try.infoREdge
  have HJ := hide (And.intro hi1 (And.intro hy0 (And.intro hy1 hy2)))
  have c2 := h.c2
  have hxw : xb < w.heap.size := Nat.lt_of_lt_of_le h.lo h.sz
  have HXW := hide hxw
  obtain ⟨src, lab, srt, dst⟩ := e
  clear h hi1 hy0 hy1 hy2
  unfold REdge.val
  go_enter Try.func168, Try.ntmps168
  go_wp2_with fail
  go_loopw [4] (fun i wr => i = .int .i64 0 ∧ wr.cell? ⟨w.heap.size, 0, none⟩ = some (.int .i64 src) ∧ wr.cell? ⟨w.heap.size, 1, none⟩ = some (.string lab) ∧ wr.cell? ⟨w.heap.size, 2, none⟩ = some (.int .i64 srt) ∧ wr.cell? ⟨w.heap.size, 3, none⟩ = some (.int .i64 dst) ∧ w.heap.size < wr.heap.size ∧ Below w.heap.size w wr) (fun _ _ => 0)
  case atStart => exact ⟨rfl, by simp, by simp, by simp, by simp, by simp, malloc1 w _⟩
  case round =>
    obtain ⟨rfl, e0, e1, e2, e3, hsz, hbel⟩ := hrel
    have HBEL := hide hbel
    have HE := hide (H.out.below hbel)
    have g2 := HE.out.c2
    clear hbel
    go_wp2_with fail
    refine wp_region_grown (by kernel_rfl) (by kernel_rfl) (fun V hV => ?_)
    have hne := grown_some V
    have k2 := grown_cell (w := V) (by rw [hV]; exact g2)
    have HWE := hide hV
    clear hV
    repeat (go_big_quiet_step (fail))
    refine wpQuiet_nil ?_
    intro w3 hw3
    rw [HWE.out] at hw3
    have HB3 := hide hw3
    clear hw3 hne k2 HWE
    have HE3 := hide (HE.out.below HB3.out)
    have HZ3 : Hid (wr.heap.size ≤ w3.heap.size) := hide HB3.out.size
    have HF3 := hide (Far.ofBelow HB3.out)
    have hg3 : ∀ o : Obj, (w3.alloc o).cell? ⟨xb, 2, none⟩ = some (.slice none 0 0) := fun o => (HE3.out.below (malloc1 w3 o)).c2
    have n0 := fun o : Obj => (HF3.out.alloc o).cell e0
    have n1 := fun o : Obj => (HF3.out.alloc o).cell e1
    have n2 := fun o : Obj => (HF3.out.alloc o).cell e2
    have n3 := fun o : Obj => (HF3.out.alloc o).cell e3
    have HOE : Hid ((w3.alloc (.cells #[] 100)).ownsRow w3.heap.size 100 4 (.slice (some ⟨w3.heap.size, 0, none⟩) 0 0) 0 []) := hide (owns_empty _ _ _ _ _ (Nat.le_refl _) (mheap_new _ _ _ rfl))
    go_wp2_with (first
      | ((fail_if_success (have := HA4)); at_builtin; refine wpList_append_own_none rfl (.tmp 28) (.tmp 35) 43 rfl w3.heap.size 100 i1 4 Try.underlying43 HJ.out.1 (.slice (some ⟨w3.heap.size, 0, none⟩) 0 0) 0 [] rfl HOE.out rfl ?_; have HA4 : Hid True := hide trivial)
      | ((fail_if_success (have := HO5)); at_builtin; refine wpList_append_own _ rfl (.tmp 37) (.tmp 39) 43 rfl w3.heap.size 100 i1 (.agg #[.int .i64 0, .string ByteArray.empty, .int .i64 0, .int .i64 0]) 4 40 Try.underlying43 HJ.out.1 HJ.out.2.1 HJ.out.2.2.1 HJ.out.2.2.2 rfl (by decide) (.slice (some ⟨w3.heap.size, 0, none⟩) 0 0) 0 [] rfl (owns_below HOE.out (malloc1 _ _)) ⟨w3.heap.size + 1, 0, none⟩ 1 1 (REdge.cells ⟨src, lab, srt, dst⟩) rfl rfl (fun j u hj => new_row1q (w3.alloc (.cells #[] 100)) _ _ (w3.heap.size + 1) (by simp) j u hj) (REdge.cells_one _) (by unfold maxLen; omega) (by omega) (by simp; omega) ?_; intro v5 w5 hown5 hgr5 _; obtain ⟨p5, c5, rfl⟩ := owns_shape hown5; have HO5 := hide hown5; have HF5 : Hid (Far wr w5) := hide (((HF3.out.alloc _).alloc _).grow (grownBy_apart hgr5) (by have := HZ3.out; simp [vblocks, cellBlocks]; exact this)); have s4 := HF5.out.cell g2; have yz := (HF5.out.ed HE.out).fz; clear hown5 hgr5)
      | (at_builtin; refine wpList_append_own_none rfl (.tmp 42) (.tmp 49) 43 rfl w3.heap.size 100 i1 4 Try.underlying43 HJ.out.1 (.slice p5 (0 + 1) c5) (0 + 1) ([] ++ REdge.cells ⟨src, lab, srt, dst⟩) rfl HO5.out rfl ?_))
    go_end0
    have hS := setCell_apart w5 xb 2 (.slice p5 1 c5)
    have hxw' := HXW.out
    have hws := HBEL.out.size
    have hz3 := HZ3.out
    refine ⟨.slice p5 1 c5, rfl, ?_, World.cell?_setCell_same _ _ _ s4, ed2_set _ HXW.out HBEL.out HF5.out⟩
    have ho := HO5.out
    have hi : insE ⟨src, lab, srt, dst⟩ [] = [⟨src, lab, srt, dst⟩] := rfl
    rw [hi]
    have ho2 : w5.ownsRow w3.heap.size 100 4 (.slice p5 1 c5) 1 (REdge.cells ⟨src, lab, srt, dst⟩) := by simpa using ho
    have h1 : REdgeOwn w5 w3.heap.size (.slice p5 1 c5) [⟨src, lab, srt, dst⟩] := by
      unfold REdgeOwn
      simpa using ho2
    exact owns_down (base := w3.heap.size) (h1.keep hS (fun b hb hm => by have := h1.fresh.lo b hb; simp at hm; omega)) (by omega)
/-- an edge is put in its place -/
theorem mk_edge (e : REdge) (w : World) (xb base : Nat) (ev : Value) (eds : List REdge) (hl : eds.length ≤ 1000) (h : EdAt w xb base ev eds) :
    Calls Try.prog 168 #[.pointer (some ⟨xb, 0, none⟩), e.val] w fun r w' => ∃ ev', r = .returned (.tuple #[]) ∧ REdgeOwn w' w.heap.size ev' (insE e eds) ∧ w'.cell? ⟨xb, 2, none⟩ = some ev' ∧ Ed2 w w' xb := by
  have ho := h.ed
  rcases ho.2 with ⟨rfl, h0⟩ | ⟨g, cap, cur, rfl, _, _, hc, _⟩
  · have : eds = [] := List.length_eq_zero_iff.1 h0
    subst this
    exact mk_edge_none e w xb base h
  · exact mk_edge_some e w xb base g cap eds hl hc h
end Go.Proofs.Ythaomohoiginnaa
/- The specification's maker of machines, in memory: what it holds. -/
namespace Go.Proofs.Ythaomohoiginnaa
open Go.RowKit
attribute [local go_sem ↓] Go.wp_at_zero Go.wp_at_succ

def strsV (ns : List ByteArray) : List Value := ns.map Value.string
def numsV (fis : List Int) : List Value := fis.map (Value.int .i64)
/-- no two of these rows are one -/
structure Four (sv ev nv fv : Value) : Prop where
  se : ∀ b ∈ vblocks sv, b ∉ vblocks ev
  sn : ∀ b ∈ vblocks sv, b ∉ vblocks nv
  sf : ∀ b ∈ vblocks sv, b ∉ vblocks fv
  en : ∀ b ∈ vblocks ev, b ∉ vblocks nv
  ef : ∀ b ∈ vblocks ev, b ∉ vblocks fv
  nf : ∀ b ∈ vblocks nv, b ∉ vblocks fv
structure MkAt (w : World) (xb B base : Nat) (v sv ev : Value) (z : Int) (nv fv : Value) (all : List Nd) (sts : List RState) (eds : List REdge) (ns : List ByteArray) (fis : List Int) : Prop where
  box : BoxL w xb [v, sv, ev, .int .i64 z, nv, fv]
  sl : SlAt w B v all
  st : RStateOwn w base sv sts
  ed : REdgeOwn w base ev eds
  nm : w.ownsRow base 9 1 nv ns.length (strsV ns)
  fi : w.ownsRow base 2 1 fv fis.length (numsV fis)
  four : Four sv ev nv fv
  low : B ≤ xb ∧ xb < base
  sz : base ≤ w.heap.size
theorem MkAt.far {w w' : World} {xb B base : Nat} {v sv ev : Value} {z : Int} {nv fv : Value} {all : List Nd} {sts : List RState} {eds : List REdge} {ns : List ByteArray} {fis : List Int} (h : MkAt w xb B base v sv ev z nv fv all sts eds ns fis) (ha : Far w w') : MkAt w' xb B base v sv ev z nv fv all sts eds ns fis := by
  have hl := h.low
  have hs := h.sz
  refine ⟨h.box.keep ha.ap (by simp), h.sl.carry ⟨ha.ap.os, ha.ap.tape, ha.ap.output, ha.ap.size, fun k hk => ha.ap.block k (by omega) (by simp)⟩, h.st.keep ha.ap (fun _ _ => by simp), h.ed.keep ha.ap (fun _ _ => by simp), owns_keep h.nm ha.ap (fun _ _ => by simp), owns_keep h.fi ha.ap (fun _ _ => by simp), h.four, hl, Nat.le_trans hs ha.ap.size⟩
theorem MkAt.edAt {w : World} {xb B base : Nat} {v sv ev : Value} {z : Int} {nv fv : Value} {all : List Nd} {sts : List RState} {eds : List REdge} {ns : List ByteArray} {fis : List Int} (h : MkAt w xb B base v sv ev z nv fv all sts eds ns fis) : EdAt w xb base ev eds :=
  ⟨h.box.cell 2 _ rfl, h.box.fz 2, h.ed, h.low.2, h.sz⟩
/-- what first reads of it -/
theorem MkAt.firAt {w : World} {xb B base : Nat} {v sv ev : Value} {z : Int} {nv fv : Value} {all : List Nd} {sts : List RState} {eds : List REdge} {ns : List ByteArray} {fis : List Int} (h : MkAt w xb B base v sv ev z nv fv all sts eds ns fis) : FirAt w xb w.heap.size all ns fis := by
  have hl := h.low
  have hs := h.sz
  refine ⟨⟨v, h.box.cell 0 _ rfl, ?_⟩, ?_, ?_, h.box.lt⟩
  · obtain ⟨ao, cap, e, h1, h2, h3⟩ := h.sl
    refine ⟨ao, cap, e, h1, h2, fun hne => ?_⟩
    obtain ⟨b, o, e1, e2, e3⟩ := h3 hne
    exact ⟨b, o, e1, by omega, e3⟩
  · obtain ⟨p, c, e⟩ := owns_shape h.nm
    have hc := h.box.cell 4 _ rfl
    rw [e] at hc
    refine ⟨p, c, hc, fun j hj => ?_⟩
    have ho := h.nm
    rcases ho.2 with ⟨hv, h0⟩ | ⟨g, cap, cur, hv, hg, hblk, _⟩
    · omega
    · refine ⟨g, 0, ?_, (Array.getElem?_eq_some_iff.1 hblk).1, ?_⟩
      · rw [e] at hv; injection hv
      · rw [Nat.zero_add]
        have hx : (strsV ns)[j]? = some (.string ns[j]) := by simp [strsV, hj]
        exact owns_cell ho hv j _ hx
  · obtain ⟨p, c, e⟩ := owns_shape h.fi
    have hc := h.box.cell 5 _ rfl
    rw [e] at hc
    refine ⟨p, c, hc, fun j hj => ?_⟩
    have ho := h.fi
    rcases ho.2 with ⟨hv, h0⟩ | ⟨g, cap, cur, hv, hg, hblk, _⟩
    · omega
    · refine ⟨g, 0, ?_, (Array.getElem?_eq_some_iff.1 hblk).1, ?_⟩
      · rw [e] at hv; injection hv
      · rw [Nat.zero_add]
        have hx : (numsV fis)[j]? = some (.int .i64 fis[j]) := by simp [numsV, hj]
        exact owns_cell ho hv j _ hx
end Go.Proofs.Ythaomohoiginnaa
