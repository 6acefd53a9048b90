import Derived.Test.YtlbcnmcfljaijaaQF23
import Derived.WalkSmall
import Derived.Laws.OwnMore
namespace Go.Proofs.Ytlbcnmcfljaijaa
open Go.RowKit
attribute [local go_sem ↓] Go.wp_at_zero Go.wp_at_succ

theorem new_row1q (w : World) (cs : List Value) (t : TypeId) (b : Nat) (hb : b = w.heap.size) (j : Nat) (u : Value) (h : cs[j]? = some u) : (w.alloc (.cells cs.toArray t)).cell? (Addr.add ⟨b, 0, none⟩ j) = some u := by subst hb; exact new_row1 w cs t j u h
set_option maxRecDepth 100000 in
set_option maxHeartbeats 2000000 in
theorem mk_edge_none (e : REdge) (w : World) (xb base : Nat) (h : EdAt w xb base (.slice none 0 0) []) :
    Calls Try.prog 68 #[.pointer (some ⟨xb, 0, none⟩), e.val] w fun r w' => ∃ ev', r = .returned (.tuple #[]) ∧ REdgeOwn w' w.heap.size ev' (insE e []) ∧ w'.cell? ⟨xb, 2, none⟩ = some ev' ∧ Ed2 w w' xb := by
  have H := hide h
  obtain ⟨i1, hi1, hy0, hy1, hy2⟩ := info_parts Try.infoREdge
  have HJ := hide (And.intro hi1 (And.intro hy0 (And.intro hy1 hy2)))
  have c2 := h.c2
  have hxw : xb < w.heap.size := Nat.lt_of_lt_of_le h.lo h.sz
  have HXW := hide hxw
  obtain ⟨src, lab, srt, dst⟩ := e
  clear h hi1 hy0 hy1 hy2
  unfold REdge.val
  go_enter Try.func68, Try.ntmps68
  go_wp2_with fail
  go_loopw [4] (fun i wr => i = .int .i64 0 ∧ wr.cell? ⟨w.heap.size, 0, none⟩ = some (.int .i64 src) ∧ wr.cell? ⟨w.heap.size, 1, none⟩ = some (.string lab) ∧ wr.cell? ⟨w.heap.size, 2, none⟩ = some (.int .i64 srt) ∧ wr.cell? ⟨w.heap.size, 3, none⟩ = some (.int .i64 dst) ∧ w.heap.size < wr.heap.size ∧ Below w.heap.size w wr) (fun _ _ => 0)
  case atStart => exact ⟨rfl, by simp, by simp, by simp, by simp, by simp, malloc1 w _⟩
  case round =>
    obtain ⟨rfl, e0, e1, e2, e3, hsz, hbel⟩ := hrel
    have HBEL := hide hbel
    have HE := hide (H.out.below hbel)
    have g2 := HE.out.c2
    clear hbel
    go_wp2_with fail
    refine wp_region_grown (by kernel_rfl) (by kernel_rfl) (fun V hV => ?_)
    have hne := grown_some V
    have k2 := grown_cell (w := V) (by rw [hV]; exact g2)
    have HWE := hide hV
    clear hV
    repeat (go_big_quiet_step (fail))
    refine wpQuiet_nil ?_
    intro w3 hw3
    rw [HWE.out] at hw3
    have HB3 := hide hw3
    clear hw3 hne k2 HWE
    have HE3 := hide (HE.out.below HB3.out)
    have HZ3 : Hid (wr.heap.size ≤ w3.heap.size) := hide HB3.out.size
    have HF3 := hide (Far.ofBelow HB3.out)
    have hg3 : ∀ o : Obj, (w3.alloc o).cell? ⟨xb, 2, none⟩ = some (.slice none 0 0) := fun o => (HE3.out.below (malloc1 w3 o)).c2
    have n0 := fun o : Obj => (HF3.out.alloc o).cell e0
    have n1 := fun o : Obj => (HF3.out.alloc o).cell e1
    have n2 := fun o : Obj => (HF3.out.alloc o).cell e2
    have n3 := fun o : Obj => (HF3.out.alloc o).cell e3
    have HOE : Hid ((w3.alloc (.cells #[] 52)).ownsRow w3.heap.size 52 4 (.slice (some ⟨w3.heap.size, 0, none⟩) 0 0) 0 []) := hide (owns_empty _ _ _ _ _ (Nat.le_refl _) (mheap_new _ _ _ rfl))
    go_wp2_with (first
      | ((fail_if_success (have := HA4)); at_builtin; refine wpList_append_own_none rfl (.tmp 28) (.tmp 35) 24 rfl w3.heap.size 52 i1 4 Try.underlying24 HJ.out.1 (.slice (some ⟨w3.heap.size, 0, none⟩) 0 0) 0 [] rfl HOE.out rfl ?_; have HA4 : Hid True := hide trivial)
      | ((fail_if_success (have := HO5)); at_builtin; refine wpList_append_own _ rfl (.tmp 37) (.tmp 39) 24 rfl w3.heap.size 52 i1 (.agg #[.int .i64 0, .string ByteArray.empty, .int .i64 0, .int .i64 0]) 4 40 Try.underlying24 HJ.out.1 HJ.out.2.1 HJ.out.2.2.1 HJ.out.2.2.2 rfl (by decide) (.slice (some ⟨w3.heap.size, 0, none⟩) 0 0) 0 [] rfl (owns_below HOE.out (malloc1 _ _)) ⟨w3.heap.size + 1, 0, none⟩ 1 1 (REdge.cells ⟨src, lab, srt, dst⟩) rfl rfl (fun j u hj => new_row1q (w3.alloc (.cells #[] 52)) _ _ (w3.heap.size + 1) (by simp) j u hj) (REdge.cells_one _) (by unfold maxLen; omega) (by omega) (by simp; omega) ?_; intro v5 w5 hown5 hgr5 _; obtain ⟨p5, c5, rfl⟩ := owns_shape hown5; have HO5 := hide hown5; have HF5 : Hid (Far wr w5) := hide (((HF3.out.alloc _).alloc _).grow (grownBy_apart hgr5) (by have := HZ3.out; simp [vblocks, cellBlocks]; exact this)); have s4 := HF5.out.cell g2; have yz := (HF5.out.ed HE.out).fz; clear hown5 hgr5)
      | (at_builtin; refine wpList_append_own_none rfl (.tmp 42) (.tmp 49) 24 rfl w3.heap.size 52 i1 4 Try.underlying24 HJ.out.1 (.slice p5 (0 + 1) c5) (0 + 1) ([] ++ REdge.cells ⟨src, lab, srt, dst⟩) rfl HO5.out rfl ?_))
    go_end0
    have hS := setCell_apart w5 xb 2 (.slice p5 1 c5)
    have hxw' := HXW.out
    have hws := HBEL.out.size
    have hz3 := HZ3.out
    refine ⟨.slice p5 1 c5, rfl, ?_, World.cell?_setCell_same _ _ _ s4, ed2_set _ HXW.out HBEL.out HF5.out⟩
    have ho := HO5.out
    have hi : insE ⟨src, lab, srt, dst⟩ [] = [⟨src, lab, srt, dst⟩] := rfl
    rw [hi]
    have ho2 : w5.ownsRow w3.heap.size 52 4 (.slice p5 1 c5) 1 (REdge.cells ⟨src, lab, srt, dst⟩) := by simpa using ho
    have h1 : REdgeOwn w5 w3.heap.size (.slice p5 1 c5) [⟨src, lab, srt, dst⟩] := by
      unfold REdgeOwn
      simpa using ho2
    exact owns_down (base := w3.heap.size) (h1.keep hS (fun b hb hm => by have := h1.fresh.lo b hb; simp at hm; omega)) (by omega)
theorem mk_edge (e : REdge) (w : World) (xb base : Nat) (ev : Value) (eds : List REdge) (hl : eds.length ≤ 1000) (h : EdAt w xb base ev eds) :
    Calls Try.prog 68 #[.pointer (some ⟨xb, 0, none⟩), e.val] w fun r w' => ∃ ev', r = .returned (.tuple #[]) ∧ REdgeOwn w' w.heap.size ev' (insE e eds) ∧ w'.cell? ⟨xb, 2, none⟩ = some ev' ∧ Ed2 w w' xb := by
  have ho := h.ed
  rcases ho.2 with ⟨rfl, h0⟩ | ⟨g, cap, cur, rfl, _, _, hc, _⟩
  · have : eds = [] := List.length_eq_zero_iff.1 h0
    subst this
    exact mk_edge_none e w xb base h
  · exact mk_edge_some e w xb base g cap eds hl hc h
end Go.Proofs.Ytlbcnmcfljaijaa
namespace Go.Proofs.Ytlbcnmcfljaijaa
open Go.RowKit
attribute [local go_sem ↓] Go.wp_at_zero Go.wp_at_succ

def strsV (ns : List ByteArray) : List Value := ns.map Value.string
def numsV (fis : List Int) : List Value := fis.map (Value.int .i64)
structure Four (sv ev nv fv : Value) : Prop where
  se : ∀ b ∈ vblocks sv, b ∉ vblocks ev
  sn : ∀ b ∈ vblocks sv, b ∉ vblocks nv
  sf : ∀ b ∈ vblocks sv, b ∉ vblocks fv
  en : ∀ b ∈ vblocks ev, b ∉ vblocks nv
  ef : ∀ b ∈ vblocks ev, b ∉ vblocks fv
  nf : ∀ b ∈ vblocks nv, b ∉ vblocks fv
structure MkAt (w : World) (xb B base : Nat) (v sv ev : Value) (z : Int) (nv fv : Value) (all : List Nd) (sts : List RState) (eds : List REdge) (ns : List ByteArray) (fis : List Int) : Prop where
  box : BoxL w xb [v, sv, ev, .int .i64 z, nv, fv]
  sl : SlAt w B v all
  st : RStateOwn w base sv sts
  ed : REdgeOwn w base ev eds
  nm : w.ownsRow base 9 1 nv ns.length (strsV ns)
  fi : w.ownsRow base 2 1 fv fis.length (numsV fis)
  four : Four sv ev nv fv
  low : B ≤ xb ∧ xb < base
  sz : base ≤ w.heap.size
theorem MkAt.far {w w' : World} {xb B base : Nat} {v sv ev : Value} {z : Int} {nv fv : Value} {all : List Nd} {sts : List RState} {eds : List REdge} {ns : List ByteArray} {fis : List Int} (h : MkAt w xb B base v sv ev z nv fv all sts eds ns fis) (ha : Far w w') : MkAt w' xb B base v sv ev z nv fv all sts eds ns fis := by
  have hl := h.low
  have hs := h.sz
  refine ⟨h.box.keep ha.ap (by simp), h.sl.carry ⟨ha.ap.os, ha.ap.tape, ha.ap.output, ha.ap.size, fun k hk => ha.ap.block k (by omega) (by simp)⟩, h.st.keep ha.ap (fun _ _ => by simp), h.ed.keep ha.ap (fun _ _ => by simp), owns_keep h.nm ha.ap (fun _ _ => by simp), owns_keep h.fi ha.ap (fun _ _ => by simp), h.four, hl, Nat.le_trans hs ha.ap.size⟩
theorem MkAt.edAt {w : World} {xb B base : Nat} {v sv ev : Value} {z : Int} {nv fv : Value} {all : List Nd} {sts : List RState} {eds : List REdge} {ns : List ByteArray} {fis : List Int} (h : MkAt w xb B base v sv ev z nv fv all sts eds ns fis) : EdAt w xb base ev eds :=
  ⟨h.box.cell 2 _ rfl, h.box.fz 2, h.ed, h.low.2, h.sz⟩
theorem MkAt.firAt {w : World} {xb B base : Nat} {v sv ev : Value} {z : Int} {nv fv : Value} {all : List Nd} {sts : List RState} {eds : List REdge} {ns : List ByteArray} {fis : List Int} (h : MkAt w xb B base v sv ev z nv fv all sts eds ns fis) : FirAt w xb w.heap.size all ns fis := by
  have hl := h.low
  have hs := h.sz
  refine ⟨⟨v, h.box.cell 0 _ rfl, ?_⟩, ?_, ?_, h.box.lt⟩
  · obtain ⟨ao, cap, e, h1, h2, h3⟩ := h.sl
    refine ⟨ao, cap, e, h1, h2, fun hne => ?_⟩
    obtain ⟨b, o, e1, e2, e3⟩ := h3 hne
    exact ⟨b, o, e1, by omega, e3⟩
  · obtain ⟨p, c, e⟩ := owns_shape h.nm
    have hc := h.box.cell 4 _ rfl
    rw [e] at hc
    refine ⟨p, c, hc, fun j hj => ?_⟩
    have ho := h.nm
    rcases ho.2 with ⟨hv, h0⟩ | ⟨g, cap, cur, hv, hg, hblk, _⟩
    · omega
    · refine ⟨g, 0, ?_, (Array.getElem?_eq_some_iff.1 hblk).1, ?_⟩
      · rw [e] at hv; injection hv
      · rw [Nat.zero_add]
        have hx : (strsV ns)[j]? = some (.string ns[j]) := by simp [strsV, hj]
        exact owns_cell ho hv j _ hx
  · obtain ⟨p, c, e⟩ := owns_shape h.fi
    have hc := h.box.cell 5 _ rfl
    rw [e] at hc
    refine ⟨p, c, hc, fun j hj => ?_⟩
    have ho := h.fi
    rcases ho.2 with ⟨hv, h0⟩ | ⟨g, cap, cur, hv, hg, hblk, _⟩
    · omega
    · refine ⟨g, 0, ?_, (Array.getElem?_eq_some_iff.1 hblk).1, ?_⟩
      · rw [e] at hv; injection hv
      · rw [Nat.zero_add]
        have hx : (numsV fis)[j]? = some (.int .i64 fis[j]) := by simp [numsV, hj]
        exact owns_cell ho hv j _ hx
end Go.Proofs.Ytlbcnmcfljaijaa
namespace Go.Proofs.Ytlbcnmcfljaijaa
open Go.RowKit
attribute [local go_sem ↓] Go.wp_at_zero Go.wp_at_succ

structure Mkept (w w' : World) (base xb : Nat) : Prop where
  os : w'.os = w.os
  tape : w'.tape = w.tape
  output : w'.output = w.output
  size : w.heap.size ≤ w'.heap.size
  block : ∀ b, b < base → b ≠ xb → w'.heap[b]? = w.heap[b]?
theorem Mkept.refl (w : World) (base xb : Nat) : Mkept w w base xb := ⟨rfl, rfl, rfl, Nat.le_refl _, fun _ _ _ => rfl⟩
theorem Mkept.trans {a b c : World} {base xb : Nat} (h : Mkept a b base xb) (h' : Mkept b c base xb) : Mkept a c base xb :=
  ⟨h'.os.trans h.os, h'.tape.trans h.tape, h'.output.trans h.output, Nat.le_trans h.size h'.size, fun k hk hn => (h'.block k hk hn).trans (h.block k hk hn)⟩
theorem Apart.mkept {w w' : World} {l : List Nat} {base xb : Nat} (h : Apart w w' l) (hb : base ≤ w.heap.size) (hl : ∀ b ∈ l, b = xb ∨ base ≤ b) : Mkept w w' base xb :=
  ⟨h.os, h.tape, h.output, h.size, fun b hlt hn => h.block b (Nat.lt_of_lt_of_le hlt hb) (fun hm => by rcases hl b hm with q | q; exact hn q; omega)⟩
theorem Mkept.sl {w w' : World} {base xb B : Nat} {v : Value} {ns : List Nd} (h : Mkept w w' base xb) (hB : B ≤ xb) (hx : xb < base) (hs : SlAt w B v ns) : SlAt w' B v ns :=
  hs.carry ⟨h.os, h.tape, h.output, h.size, fun k hk => h.block k (by omega) (by omega)⟩
theorem dis_on {v v' u : Value} {p p' : Option Addr} {n n' c c' sz : Nat} (ev : v = .slice p n c) (ev' : v' = .slice p' n' c') (h : ∀ b ∈ vblocks v, b ∉ vblocks u) (hat : v'.ownBlock = v.ownBlock ∨ v'.ownBlock = some sz) (hu : ∀ b ∈ vblocks u, b < sz) : ∀ b ∈ vblocks v', b ∉ vblocks u := by
  intro b hb hm
  have hb' := (own_blocks ev').2 hb
  rcases hat with e | e
  · rw [e] at hb'
    exact h b ((own_blocks ev).1 hb') hm
  · rw [e] at hb'
    have := hu b hm
    simp at hb'
    omega
theorem mk_push1 {w3 w4 : World} {xb B base : Nat} {v sv ev v4 : Value} {z : Int} {nv fv : Value} {all : List Nd} {sts : List RState} {eds : List REdge} {ns : List ByteArray} {fis : List Int} (h : MkAt w3 xb B base v sv ev z nv fv all sts eds ns fis) (x : RState) (o : Obj)
    (hown : w4.ownsRow base 48 2 v4 (sts.length + 1) (sts.flatMap RState.cells ++ x.cells)) (hg : (w3.alloc o).grownBy w4 sv.ownBlock) (hat : v4.ownBlock = sv.ownBlock ∨ v4.ownBlock = some (w3.alloc o).heap.size) :
    MkAt (w4.setCell ⟨xb, 1, none⟩ v4) xb B base v v4 ev z nv fv all (sts ++ [x]) eds ns fis ∧ Mkept w3 (w4.setCell ⟨xb, 1, none⟩ v4) base xb := by
  obtain ⟨p, cp, rfl⟩ := owns_shape h.st
  obtain ⟨p4, c4, rfl⟩ := owns_shape hown
  have hA : Apart w3 w4 (vblocks (.slice p sts.length cp)) := by
    have := (below_apart (malloc1 w3 o)).trans (grownBy_apart hg)
    rwa [List.nil_append] at this
  have lo := h.st.fresh.lo
  have lo4 := (owns_fresh hown).lo
  have hl := h.low
  have hS := setCell_apart w4 xb 1 (.slice p4 (sts.length + 1) c4)
  have hA2 := hA.trans hS
  have hin : ∀ b, (b ∈ vblocks (.slice p sts.length cp) ++ [xb]) → b = xb ∨ base ≤ b := fun b hb => by
    rw [List.mem_append] at hb
    rcases hb with hb | hb
    · exact .inr (lo b hb)
    · simp at hb; exact .inl hb
  have hK := hA2.mkept h.sz hin
  have off : ∀ {u : Value}, (∀ b ∈ vblocks u, base ≤ b) → (∀ b ∈ vblocks (.slice p sts.length cp), b ∉ vblocks u) → ∀ b ∈ vblocks u, b ∉ vblocks (.slice p sts.length cp) ++ [xb] := fun hu hd b hb hm => by
    rw [List.mem_append] at hm
    rcases hm with hm | hm
    · exact hd b hm hb
    · have := hu b hb; simp at hm; omega
  have up : ∀ {u : Value}, (∀ b ∈ vblocks u, b < w3.heap.size) → ∀ b ∈ vblocks u, b < (w3.alloc o).heap.size := fun hu b hb => by have := hu b hb; simp; omega
  refine ⟨⟨?_, hK.sl hl.1 hl.2 h.sl, ?_, ?_, ?_, ?_, ?_, hl, ?_⟩, hK⟩
  · exact (h.box.keep hA (fun hb => by have := lo _ hb; omega)).set 1 (by simp) _
  · exact RStateOwn.snoc (owns_keep hown hS (fun b hb hm => by have := lo4 b hb; simp at hm; omega))
  · exact h.ed.keep hA2 (off h.ed.fresh.lo h.four.se)
  · exact owns_keep h.nm hA2 (off (owns_fresh h.nm).lo h.four.sn)
  · exact owns_keep h.fi hA2 (off (owns_fresh h.fi).lo h.four.sf)
  · exact ⟨dis_on rfl rfl h.four.se hat (up h.ed.fresh.hi), dis_on rfl rfl h.four.sn hat (up (owns_fresh h.nm).hi), dis_on rfl rfl h.four.sf hat (up (owns_fresh h.fi).hi), h.four.en, h.four.ef, h.four.nf⟩
  · exact Nat.le_trans h.sz hA2.size
structure Mk4 (w w' : World) (xb : Nat) (R R' : List Nat) : Prop where
  size : w.heap.size ≤ w'.heap.size
  block : ∀ b, b < w.heap.size → b ≠ xb → b ∉ R → w'.heap[b]? = w.heap[b]?
  rows : ∀ b ∈ R', b ∈ R ∨ w.heap.size ≤ b
def rows4 (sv ev nv fv : Value) : List Nat := vblocks sv ++ (vblocks ev ++ (vblocks nv ++ vblocks fv))
theorem mem4 {sv ev nv fv : Value} {b : Nat} : b ∈ rows4 sv ev nv fv ↔ b ∈ vblocks sv ∨ b ∈ vblocks ev ∨ b ∈ vblocks nv ∨ b ∈ vblocks fv := by simp [rows4]
theorem Mk4.trans {a b c : World} {xb : Nat} {R R' R'' : List Nat} (h : Mk4 a b xb R R') (h' : Mk4 b c xb R' R'') : Mk4 a c xb R R'' :=
  ⟨Nat.le_trans h.size h'.size, fun k hk hx hR => (h'.block k (Nat.lt_of_lt_of_le hk h.size) hx (fun hm => by rcases h.rows k hm with q | q; exact hR q; omega)).trans (h.block k hk hx hR), fun k hk => by
    rcases h'.rows k hk with q | q
    · exact h.rows k q
    · have := h.size; exact .inr (by omega)⟩
theorem Mk4.far {w w' : World} {xb : Nat} {R : List Nat} (h : Far w w') : Mk4 w w' xb R R := ⟨h.ap.size, fun b hb _ _ => h.ap.block b hb (by simp), fun _ hb => .inl hb⟩
theorem Mk4.apart {w w' : World} {xb : Nat} {R R' L : List Nat} (h : Apart w w' L) (hL : ∀ b ∈ L, b = xb ∨ b ∈ R) (hR : ∀ b ∈ R', b ∈ R ∨ w.heap.size ≤ b) : Mk4 w w' xb R R' :=
  ⟨h.size, fun b hb hx hn => h.block b hb (fun hm => by rcases hL b hm with q | q; exact hx q; exact hn q), hR⟩
theorem Mk4.push {w3 w4 : World} {xb k : Nat} {v v4 : Value} {p p4 : Option Addr} {n n4 c c4 : Nat} (hv : v = .slice p n c) (hv4 : v4 = .slice p4 n4 c4) (o : Obj) (hg : (w3.alloc o).grownBy w4 v.ownBlock) (hat : v4.ownBlock = v.ownBlock ∨ v4.ownBlock = some (w3.alloc o).heap.size) {R R' : List Nat} (hR : ∀ b ∈ vblocks v, b ∈ R) (hR' : ∀ b ∈ R', b ∈ R ∨ b ∈ vblocks v4) : Mk4 w3 (w4.setCell ⟨xb, k, none⟩ v4) xb R R' := by
  have hA : Apart w3 w4 (vblocks v) := by
    rw [hv] at hg
    have := (below_apart (malloc1 w3 o)).trans (grownBy_apart hg)
    rw [List.nil_append] at this
    rw [hv]
    exact this
  refine Mk4.apart (hA.trans (setCell_apart w4 xb k v4)) (fun b hb => ?_) (fun b hb => ?_)
  · rw [List.mem_append] at hb
    rcases hb with hb | hb
    · exact .inr (hR b hb)
    · simp at hb; exact .inl hb
  · rcases hR' b hb with q | q
    · exact .inl q
    · have q' := (own_blocks hv4).2 q
      rcases hat with e | e
      · rw [e] at q'
        exact .inl (hR b ((own_blocks hv).1 q'))
      · rw [e] at q'
        simp at q'
        exact .inr (by omega)
def Made (w w' : World) (xb B base : Nat) (v : Value) (z : Int) (R : List Nat) (all : List Nd) (ns : List ByteArray) (fis : List Int) (e : Ending) (o : List Nd × List RState × List REdge) : Prop :=
  ∃ sv' ev' nv' fv', e = .returned (.int .i64 ((all.length - o.1.length : Nat) : Int)) ∧ MkAt w' xb B base v sv' ev' z nv' fv' all o.2.1 o.2.2 ns fis ∧ Mkept w w' base xb ∧ Mk4 w w' xb R (rows4 sv' ev' nv' fv')
def MakeCalls (f : Nat) : Prop := ∀ (st all r : List Nd) (pos : Nat) (w : World) (xb B base : Nat) (v sv ev : Value) (z : Int) (nv fv : Value) (sts : List RState) (eds : List REdge) (ns : List ByteArray) (fis : List Int), ahead (talkS true) f st (all.drop pos) = some r → all.length ≤ 40 → pos < all.length → fis.length = ns.length → ns.length + f ≤ 100 → cntS all pos = sts.length → eds.length + (all.length - pos) ≤ 900 → MkAt w xb B base v sv ev z nv fv all sts eds ns fis →
  Calls Try.prog 55 #[.pointer (some ⟨xb, 0, none⟩), .int .i64 (pos : Int)] w fun e w' => Made w w' xb B base v z (rows4 sv ev nv fv) all ns fis e (Go.Proofs.Ytlbcnmcfljaijaa.sv f ns fis (all.drop pos) (sts, eds))
set_option maxRecDepth 100000 in
set_option maxHeartbeats 1000000 in
theorem make_var (all : List Nd) (pos : Nat) (w : World) (xb B base : Nat) (v sv ev : Value) (z : Int) (nv fv : Value) (sts : List RState) (eds : List REdge) (ns : List ByteArray) (fis : List Int) (hall : all.length ≤ 40) (hpos : pos < all.length) (hop : all[pos].op = 1) (h : MkAt w xb B base v sv ev z nv fv all sts eds ns fis) :
    Calls Try.prog 55 #[.pointer (some ⟨xb, 0, none⟩), .int .i64 (pos : Int)] w fun e w' => Made w w' xb B base v z (rows4 sv ev nv fv) all ns fis e (all.drop (pos + 1), sts, eds) := by
  have H := hide h
  have c0 := h.box.cell 0 _ rfl
  have hxw := h.box.lt
  obtain ⟨ao, cap, rfl, hc1, hc2, hr⟩ := h.sl
  obtain ⟨b, o, rfl, hb, hrow⟩ := hr (by rintro rfl; simp at hpos)
  have hnode := hrow.get pos hpos
  obtain ⟨x1, hx1⟩ : ∃ x, x = all[pos] := ⟨_, rfl⟩
  rw [← hx1] at hnode hop
  obtain ⟨op, name, peer, many, sort⟩ := x1
  dsimp only at hop
  subst hop
  obtain ⟨d0, d1, d2, d3, d4⟩ := hnode
  dsimp only at d0 d1 d2 d3 d4
  have HL : Hid (((all.length - (all.drop (pos + 1)).length : Nat) : Int) = (pos : Int) + 1) := hide (by rw [List.length_drop]; omega)
  clear h hx1 hrow hr
  go_enter Try.func55, Try.ntmps55
  go_wp2_with fail
  go_ret
  exact ⟨sv, ev, nv, fv, ret_int HL.out, H.out.far ((Far.ofBelow (Below.refl _ _)).alloc _), (Far.ofBelow (malloc1 w _)).ap.mkept H.out.sz (by simp), Mk4.far (Far.ofBelow (malloc1 w _))⟩
set_option maxRecDepth 100000 in
set_option maxHeartbeats 1000000 in
theorem make_end (all : List Nd) (pos : Nat) (w : World) (xb B base : Nat) (v sv ev : Value) (z : Int) (nv fv : Value) (sts : List RState) (eds : List REdge) (ns : List ByteArray) (fis : List Int) (hall : all.length ≤ 40) (hpos : pos < all.length) (hop : all[pos].op = 0) (hsl : sts.length ≤ 1000) (h : MkAt w xb B base v sv ev z nv fv all sts eds ns fis) :
    Calls Try.prog 55 #[.pointer (some ⟨xb, 0, none⟩), .int .i64 (pos : Int)] w fun e w' => Made w w' xb B base v z (rows4 sv ev nv fv) all ns fis e (all.drop (pos + 1), sts ++ [⟨0, ByteArray.empty⟩], eds) := by
  have H := hide h
  have c0 := h.box.cell 0 _ rfl
  have c1 := h.box.cell 1 _ rfl
  have cz := h.box.fz
  have hxw := h.box.lt
  obtain ⟨i0, hi, hz0, hz1, hz2⟩ := info_parts Try.infoRState
  have HI := hide (And.intro hi (And.intro hz0 (And.intro hz1 hz2)))
  obtain ⟨ps, cs, rfl⟩ := owns_shape h.st
  obtain ⟨ao, cap, rfl, hc1, hc2, hr⟩ := h.sl
  obtain ⟨b, o, rfl, hb, hrow⟩ := hr (by rintro rfl; simp at hpos)
  have hnode := hrow.get pos hpos
  obtain ⟨x1, hx1⟩ : ∃ x, x = all[pos] := ⟨_, rfl⟩
  rw [← hx1] at hnode hop
  obtain ⟨op, name, peer, many, sort⟩ := x1
  dsimp only at hop
  subst hop
  obtain ⟨d0, d1, d2, d3, d4⟩ := hnode
  dsimp only at d0 d1 d2 d3 d4
  have HL : Hid (((all.length - (all.drop (pos + 1)).length : Nat) : Int) = (pos : Int) + 1) := hide (by rw [List.length_drop]; omega)
  have HW1 : Hid (∀ ob : Obj, MkAt (w.alloc ob) xb B base (.slice (some ⟨b, o, none⟩) all.length cap) (.slice ps sts.length cs) ev z nv fv all sts eds ns fis) := hide (fun ob => H.out.far ((Far.ofBelow (Below.refl _ _)).alloc ob))
  clear h hx1 hrow hr hi hz0 hz1 hz2
  go_enter Try.func55, Try.ntmps55
  go_wp2_with (at_builtin; refine wpList_append_own_at _ rfl (.tmp 28) (.tmp 30) 23 rfl base 48 i0 (.agg #[.int .i64 0, .string ByteArray.empty]) 2 24 Try.underlying23 HI.out.1 HI.out.2.1 HI.out.2.2.1 HI.out.2.2.2 rfl (by decide) (.slice ps sts.length cs) sts.length (sts.flatMap RState.cells) rfl ((HW1.out _).st.below (malloc1 _ _)) ⟨w.heap.size + 1, 0, none⟩ 1 1 (RState.cells ⟨0, ByteArray.empty⟩) rfl rfl (fun j u hj => new_row1q (w.alloc (.cells #[.int .i64 0, .string name, .string peer, .int .i64 many, .int .i64 sort] 87)) _ _ (w.heap.size + 1) (by simp) j u hj) (RState.cells_one _) (by unfold maxLen; omega) (by omega) (by have := H.out.sz; simp; omega) ?_; intro v4 w4 hown4 hgr4 _ hat4; have HM4 := hide (mk_push1 (HW1.out _) ⟨0, ByteArray.empty⟩ _ hown4 hgr4 hat4); obtain ⟨p4, c4, hv4⟩ := owns_shape hown4; have HX4 := hide (Mk4.push (xb := xb) (k := 1) rfl hv4 _ hgr4 hat4 (R := rows4 (.slice ps sts.length cs) ev nv fv) (R' := rows4 v4 ev nv fv) (fun b hb => mem4.2 (.inl hb)) (fun b hb => (mem4.1 hb).elim .inr (fun q => .inl (mem4.2 (.inr q))))); have HB4 := hide ((HW1.out (.cells #[.int .i64 0, .string name, .string peer, .int .i64 many, .int .i64 sort] 87)).box.keep ((below_apart (malloc1 _ _)).trans (grownBy_apart hgr4)) (fun hm => by rw [List.nil_append] at hm; have := H.out.st.fresh.lo _ hm; have := H.out.low; omega)); have l1 := HB4.out.cell 1 _ rfl; have lz := HB4.out.fz; subst hv4; clear hown4 hgr4 hat4)
  go_ret
  exact ⟨_, ev, nv, fv, ret_int HL.out, HM4.out.1, ((Far.ofBelow (malloc1 w _)).ap.mkept H.out.sz (by simp)).trans HM4.out.2, (Mk4.far (Far.ofBelow (malloc1 w _))).trans HX4.out⟩
end Go.Proofs.Ytlbcnmcfljaijaa
namespace Go.Proofs.Ytlbcnmcfljaijaa
open Go.RowKit

theorem mk_pushN {w3 w4 : World} {xb B base : Nat} {v sv ev v4 : Value} {z : Int} {nv fv : Value} {all : List Nd} {sts : List RState} {eds : List REdge} {ns : List ByteArray} {fis : List Int} (h : MkAt w3 xb B base v sv ev z nv fv all sts eds ns fis) (x : ByteArray) (o : Obj)
    (hown : w4.ownsRow base 9 1 v4 (ns.length + 1) (strsV ns ++ [.string x])) (hg : (w3.alloc o).grownBy w4 nv.ownBlock) (hat : v4.ownBlock = nv.ownBlock ∨ v4.ownBlock = some (w3.alloc o).heap.size) :
    MkAt (w4.setCell ⟨xb, 4, none⟩ v4) xb B base v sv ev z v4 fv all sts eds (ns ++ [x]) fis ∧ Mkept w3 (w4.setCell ⟨xb, 4, none⟩ v4) base xb := by
  obtain ⟨p, cp, hp⟩ := owns_shape h.nm
  obtain ⟨p4, c4, rfl⟩ := owns_shape hown
  subst hp
  have hA : Apart w3 w4 (vblocks (.slice p ns.length cp)) := by
    have := (below_apart (malloc1 w3 o)).trans (grownBy_apart hg)
    rwa [List.nil_append] at this
  have lo := (owns_fresh h.nm).lo
  have lo4 := (owns_fresh hown).lo
  have hl := h.low
  have hS := setCell_apart w4 xb 4 (.slice p4 (ns.length + 1) c4)
  have hA2 := hA.trans hS
  have hin : ∀ b, (b ∈ vblocks (.slice p ns.length cp) ++ [xb]) → b = xb ∨ base ≤ b := fun b hb => by
    rw [List.mem_append] at hb
    rcases hb with hb | hb
    · exact .inr (lo b hb)
    · simp at hb; exact .inl hb
  have hK := hA2.mkept h.sz hin
  have off : ∀ {u : Value}, (∀ b ∈ vblocks u, base ≤ b) → (∀ b ∈ vblocks u, b ∉ vblocks (.slice p ns.length cp)) → ∀ b ∈ vblocks u, b ∉ vblocks (.slice p ns.length cp) ++ [xb] := fun hu hd b hb hm => by
    rw [List.mem_append] at hm
    rcases hm with hm | hm
    · exact hd b hb hm
    · have := hu b hb; simp at hm; omega
  have up : ∀ {u : Value}, (∀ b ∈ vblocks u, b < w3.heap.size) → ∀ b ∈ vblocks u, b < (w3.alloc o).heap.size := fun hu b hb => by have := hu b hb; simp; omega
  have flip : ∀ {a u : Value}, (∀ b ∈ vblocks a, b ∉ vblocks u) → ∀ b ∈ vblocks u, b ∉ vblocks a := fun hh b hb hm => hh b hm hb
  have hnew : (w4.setCell ⟨xb, 4, none⟩ (.slice p4 (ns.length + 1) c4)).ownsRow base 9 1 (.slice p4 (ns.length + 1) c4) (ns ++ [x]).length (strsV (ns ++ [x])) := by
    rw [List.length_append, List.length_singleton]
    have e : strsV (ns ++ [x]) = strsV ns ++ [.string x] := by simp [strsV]
    rw [e]
    exact owns_keep hown hS (fun b hb hm => by have := lo4 b hb; simp at hm; omega)
  refine ⟨⟨(h.box.keep hA (fun hb => by have := lo _ hb; omega)).set 4 (by simp) _, hK.sl hl.1 hl.2 h.sl, h.st.keep hA2 (off h.st.fresh.lo h.four.sn), h.ed.keep hA2 (off h.ed.fresh.lo h.four.en), hnew, owns_keep h.fi hA2 (off (owns_fresh h.fi).lo (flip h.four.nf)), ⟨h.four.se, flip (dis_on rfl rfl (flip h.four.sn) hat (up h.st.fresh.hi)), h.four.sf, flip (dis_on rfl rfl (flip h.four.en) hat (up h.ed.fresh.hi)), h.four.ef, dis_on rfl rfl h.four.nf hat (up (owns_fresh h.fi).hi)⟩, hl, Nat.le_trans h.sz hA2.size⟩, hK⟩
theorem mk_pushF {w3 w4 : World} {xb B base : Nat} {v sv ev v4 : Value} {z : Int} {nv fv : Value} {all : List Nd} {sts : List RState} {eds : List REdge} {ns : List ByteArray} {fis : List Int} (h : MkAt w3 xb B base v sv ev z nv fv all sts eds ns fis) (x : Int) (o : Obj)
    (hown : w4.ownsRow base 2 1 v4 (fis.length + 1) (numsV fis ++ [.int .i64 x])) (hg : (w3.alloc o).grownBy w4 fv.ownBlock) (hat : v4.ownBlock = fv.ownBlock ∨ v4.ownBlock = some (w3.alloc o).heap.size) :
    MkAt (w4.setCell ⟨xb, 5, none⟩ v4) xb B base v sv ev z nv v4 all sts eds ns (fis ++ [x]) ∧ Mkept w3 (w4.setCell ⟨xb, 5, none⟩ v4) base xb := by
  obtain ⟨p, cp, hp⟩ := owns_shape h.fi
  obtain ⟨p4, c4, rfl⟩ := owns_shape hown
  subst hp
  have hA : Apart w3 w4 (vblocks (.slice p fis.length cp)) := by
    have := (below_apart (malloc1 w3 o)).trans (grownBy_apart hg)
    rwa [List.nil_append] at this
  have lo := (owns_fresh h.fi).lo
  have lo4 := (owns_fresh hown).lo
  have hl := h.low
  have hS := setCell_apart w4 xb 5 (.slice p4 (fis.length + 1) c4)
  have hA2 := hA.trans hS
  have hin : ∀ b, (b ∈ vblocks (.slice p fis.length cp) ++ [xb]) → b = xb ∨ base ≤ b := fun b hb => by
    rw [List.mem_append] at hb
    rcases hb with hb | hb
    · exact .inr (lo b hb)
    · simp at hb; exact .inl hb
  have hK := hA2.mkept h.sz hin
  have off : ∀ {u : Value}, (∀ b ∈ vblocks u, base ≤ b) → (∀ b ∈ vblocks u, b ∉ vblocks (.slice p fis.length cp)) → ∀ b ∈ vblocks u, b ∉ vblocks (.slice p fis.length cp) ++ [xb] := fun hu hd b hb hm => by
    rw [List.mem_append] at hm
    rcases hm with hm | hm
    · exact hd b hb hm
    · have := hu b hb; simp at hm; omega
  have up : ∀ {u : Value}, (∀ b ∈ vblocks u, b < w3.heap.size) → ∀ b ∈ vblocks u, b < (w3.alloc o).heap.size := fun hu b hb => by have := hu b hb; simp; omega
  have flip : ∀ {a u : Value}, (∀ b ∈ vblocks a, b ∉ vblocks u) → ∀ b ∈ vblocks u, b ∉ vblocks a := fun hh b hb hm => hh b hm hb
  have hnew : (w4.setCell ⟨xb, 5, none⟩ (.slice p4 (fis.length + 1) c4)).ownsRow base 2 1 (.slice p4 (fis.length + 1) c4) (fis ++ [x]).length (numsV (fis ++ [x])) := by
    rw [List.length_append, List.length_singleton]
    have e : numsV (fis ++ [x]) = numsV fis ++ [.int .i64 x] := by simp [numsV]
    rw [e]
    exact owns_keep hown hS (fun b hb hm => by have := lo4 b hb; simp at hm; omega)
  refine ⟨⟨(h.box.keep hA (fun hb => by have := lo _ hb; omega)).set 5 (by simp) _, hK.sl hl.1 hl.2 h.sl, h.st.keep hA2 (off h.st.fresh.lo h.four.sf), h.ed.keep hA2 (off h.ed.fresh.lo h.four.ef), owns_keep h.nm hA2 (off (owns_fresh h.nm).lo h.four.nf), hnew, ⟨h.four.se, h.four.sn, flip (dis_on rfl rfl (flip h.four.sf) hat (up h.st.fresh.hi)), h.four.en, flip (dis_on rfl rfl (flip h.four.ef) hat (up h.ed.fresh.hi)), flip (dis_on rfl rfl (flip h.four.nf) hat (up (owns_fresh h.nm).hi))⟩, hl, Nat.le_trans h.sz hA2.size⟩, hK⟩
end Go.Proofs.Ytlbcnmcfljaijaa
namespace Go.Proofs.Ytlbcnmcfljaijaa
open Go.RowKit

theorem strsV_snoc (ns : List ByteArray) (x : ByteArray) : strsV (ns ++ [x]) = strsV ns ++ [.string x] := by simp [strsV]
theorem numsV_snoc (fis : List Int) (x : Int) : numsV (fis ++ [x]) = numsV fis ++ [.int .i64 x] := by simp [numsV]
theorem numsV_len (fis : List Int) : (numsV fis).length = fis.length := by simp [numsV]
theorem strsV_len (ns : List ByteArray) : (strsV ns).length = ns.length := by simp [strsV]
theorem mk_setF {w : World} {xb B base : Nat} {v sv ev : Value} {z : Int} {nv : Value} {g cap : Nat} {all : List Nd} {sts : List RState} {eds : List REdge} {ns : List ByteArray} {fis : List Int} {y : Int} (h : MkAt w xb B base v sv ev z nv (.slice (some ⟨g, 0, none⟩) (fis.length + 1) cap) all sts eds ns (fis ++ [y])) (x : Int) :
    MkAt (w.setCell ⟨g, fis.length, none⟩ (.int .i64 x)) xb B base v sv ev z nv (.slice (some ⟨g, 0, none⟩) (fis.length + 1) cap) all sts eds ns (fis ++ [x]) ∧ Mkept w (w.setCell ⟨g, fis.length, none⟩ (.int .i64 x)) base xb := by
  have hfi := h.fi
  rw [List.length_append, List.length_singleton] at hfi
  have hl := h.low
  have lo := (owns_fresh hfi).lo g (by simp [vblocks, cellBlocks])
  have hA := setCell_apart w g fis.length (.int .i64 x)
  have hgb : g ∈ vblocks (.slice (some ⟨g, 0, none⟩) (fis.length + 1) cap) := by simp [vblocks, cellBlocks]
  have hK := hA.mkept h.sz (xb := xb) (fun b hb => by simp at hb; subst hb; exact .inr lo)
  have off : ∀ {u : Value}, (∀ b ∈ vblocks u, b ∉ vblocks (.slice (some ⟨g, 0, none⟩) (fis.length + 1) cap)) → ∀ b ∈ vblocks u, b ∉ [g] := fun hd b hb hm => by
    simp at hm
    subst hm
    exact hd b hb hgb
  refine ⟨⟨h.box.keep hA (by simp; omega), hK.sl hl.1 hl.2 h.sl, h.st.keep hA (off h.four.sf), h.ed.keep hA (off h.four.ef), owns_keep h.nm hA (off h.four.nf), ?_, h.four, hl, Nat.le_trans h.sz hA.size⟩, hK⟩
  have := (World.ownsRow.stored hfi fis.length (.int .i64 x)).1
  rw [List.length_append, List.length_singleton, numsV_snoc]
  rw [numsV_snoc, List.set_append_right _ _ (by rw [numsV_len]; exact Nat.le_refl _), numsV_len, Nat.sub_self] at this
  exact this
theorem mk_popN {w : World} {xb B base : Nat} {v sv ev : Value} {z : Int} {fv : Value} {g cap : Nat} {all : List Nd} {sts : List RState} {eds : List REdge} {ns : List ByteArray} {fis : List Int} {y : ByteArray} (h : MkAt w xb B base v sv ev z (.slice (some ⟨g, 0, none⟩) (ns.length + 1) cap) fv all sts eds (ns ++ [y]) fis) :
    MkAt (w.setCell ⟨xb, 4, none⟩ (.slice (some ⟨g, 0, none⟩) ns.length cap)) xb B base v sv ev z (.slice (some ⟨g, 0, none⟩) ns.length cap) fv all sts eds ns fis ∧ Mkept w (w.setCell ⟨xb, 4, none⟩ (.slice (some ⟨g, 0, none⟩) ns.length cap)) base xb := by
  have hnm := h.nm
  rw [List.length_append, List.length_singleton, strsV_snoc] at hnm
  have hl := h.low
  have hA := setCell_apart w xb 4 (.slice (some ⟨g, 0, none⟩) ns.length cap)
  have hK := hA.mkept h.sz (xb := xb) (fun b hb => by simp at hb; exact .inl hb)
  have off : ∀ {u : Value}, Fresh base w u → ∀ b ∈ vblocks u, b ∉ [xb] := fun hd b hb hm => by
    simp at hm
    have := hd.lo b hb
    omega
  have hp := ownsRow_pop (by rw [strsV_len, Nat.mul_one]) hnm
  exact ⟨⟨h.box.set 4 (by simp) _, hK.sl hl.1 hl.2 h.sl, h.st.keep hA (off h.st.fresh), h.ed.keep hA (off h.ed.fresh), owns_keep hp hA (off (owns_fresh hp)), owns_keep h.fi hA (off (owns_fresh h.fi)), ⟨h.four.se, h.four.sn, h.four.sf, h.four.en, h.four.ef, h.four.nf⟩, hl, Nat.le_trans h.sz hA.size⟩, hK⟩
theorem mk_popF {w : World} {xb B base : Nat} {v sv ev : Value} {z : Int} {nv : Value} {g cap : Nat} {all : List Nd} {sts : List RState} {eds : List REdge} {ns : List ByteArray} {fis : List Int} {y : Int} (h : MkAt w xb B base v sv ev z nv (.slice (some ⟨g, 0, none⟩) (fis.length + 1) cap) all sts eds ns (fis ++ [y])) :
    MkAt (w.setCell ⟨xb, 5, none⟩ (.slice (some ⟨g, 0, none⟩) fis.length cap)) xb B base v sv ev z nv (.slice (some ⟨g, 0, none⟩) fis.length cap) all sts eds ns fis ∧ Mkept w (w.setCell ⟨xb, 5, none⟩ (.slice (some ⟨g, 0, none⟩) fis.length cap)) base xb := by
  have hfi := h.fi
  rw [List.length_append, List.length_singleton, numsV_snoc] at hfi
  have hl := h.low
  have hA := setCell_apart w xb 5 (.slice (some ⟨g, 0, none⟩) fis.length cap)
  have hK := hA.mkept h.sz (xb := xb) (fun b hb => by simp at hb; exact .inl hb)
  have off : ∀ {u : Value}, Fresh base w u → ∀ b ∈ vblocks u, b ∉ [xb] := fun hd b hb hm => by
    simp at hm
    have := hd.lo b hb
    omega
  have hp := ownsRow_pop (by rw [numsV_len, Nat.mul_one]) hfi
  exact ⟨⟨h.box.set 5 (by simp) _, hK.sl hl.1 hl.2 h.sl, h.st.keep hA (off h.st.fresh), h.ed.keep hA (off h.ed.fresh), owns_keep h.nm hA (off (owns_fresh h.nm)), owns_keep hp hA (off (owns_fresh hp)), ⟨h.four.se, h.four.sn, h.four.sf, h.four.en, h.four.ef, h.four.nf⟩, hl, Nat.le_trans h.sz hA.size⟩, hK⟩
theorem MkAt.someN {w : World} {xb B base : Nat} {v sv ev : Value} {z : Int} {nv fv : Value} {all : List Nd} {sts : List RState} {eds : List REdge} {ns : List ByteArray} {fis : List Int} (h : MkAt w xb B base v sv ev z nv fv all sts eds ns fis) (hn : 0 < ns.length) : ∃ g cap, nv = .slice (some ⟨g, 0, none⟩) ns.length cap ∧ ns.length ≤ cap ∧ cap ≤ maxLen := by
  rcases h.nm.2 with ⟨_, h0⟩ | ⟨g, cap, cur, hv, _, _, hc, hm, _⟩
  · omega
  · exact ⟨g, cap, hv, hc, hm⟩
theorem MkAt.someF {w : World} {xb B base : Nat} {v sv ev : Value} {z : Int} {nv fv : Value} {all : List Nd} {sts : List RState} {eds : List REdge} {ns : List ByteArray} {fis : List Int} (h : MkAt w xb B base v sv ev z nv fv all sts eds ns fis) (hn : 0 < fis.length) : ∃ g cap, fv = .slice (some ⟨g, 0, none⟩) fis.length cap ∧ fis.length ≤ cap ∧ cap ≤ maxLen ∧ g < w.heap.size ∧ base ≤ g := by
  rcases h.fi.2 with ⟨_, h0⟩ | ⟨g, cap, cur, hv, hg, hblk, hc, hm, _⟩
  · omega
  · exact ⟨g, cap, hv, hc, hm, (Array.getElem?_eq_some_iff.1 hblk).1, hg⟩
theorem MkAt.someN1 {w : World} {xb B base : Nat} {v sv ev : Value} {z : Int} {nv fv : Value} {all : List Nd} {sts : List RState} {eds : List REdge} {ns : List ByteArray} {fis : List Int} {y : ByteArray} (h : MkAt w xb B base v sv ev z nv fv all sts eds (ns ++ [y]) fis) : ∃ g cap, nv = .slice (some ⟨g, 0, none⟩) (ns.length + 1) cap ∧ ns.length + 1 ≤ cap ∧ cap ≤ maxLen := by
  have := h.someN (by simp)
  rwa [List.length_append, List.length_singleton] at this
theorem MkAt.someF1 {w : World} {xb B base : Nat} {v sv ev : Value} {z : Int} {nv fv : Value} {all : List Nd} {sts : List RState} {eds : List REdge} {ns : List ByteArray} {fis : List Int} {y : Int} (h : MkAt w xb B base v sv ev z nv fv all sts eds ns (fis ++ [y])) : ∃ g cap, fv = .slice (some ⟨g, 0, none⟩) (fis.length + 1) cap ∧ fis.length + 1 ≤ cap ∧ cap ≤ maxLen ∧ w.cell? ⟨g, fis.length, none⟩ = some (.int .i64 y) ∧ ∀ j, w.frozen? ⟨g, j, none⟩ = false := by
  have H := h.fi
  obtain ⟨g, cap, rfl, h1, h2, h3, h4⟩ := h.someF (by simp)
  rw [List.length_append, List.length_singleton] at *
  refine ⟨g, cap, rfl, h1, h2, owns_cell H rfl _ _ ?_, fun j => (owns_fresh H).free g (by simp [vblocks, cellBlocks]) j⟩
  rw [numsV_snoc, List.getElem?_append_right (by rw [numsV_len]; exact Nat.le_refl _), numsV_len, Nat.sub_self]
  rfl
theorem mk4_N {w3 w4 : World} {xb : Nat} {sv ev fv v4 : Value} {p : Option Addr} {n c e size m : Nat} {base : Nat} {xs : List Value} (hown : w4.ownsRow base e size v4 m xs) (o : Obj) (hg : (w3.alloc o).grownBy w4 (Value.slice p n c).ownBlock) (hat : v4.ownBlock = (Value.slice p n c).ownBlock ∨ v4.ownBlock = some (w3.alloc o).heap.size) : Mk4 w3 (w4.setCell ⟨xb, 4, none⟩ v4) xb (rows4 sv ev (.slice p n c) fv) (rows4 sv ev v4 fv) := by
  obtain ⟨p4, c4, hv4⟩ := owns_shape hown
  refine Mk4.push rfl hv4 o hg hat (fun b hb => mem4.2 (.inr (.inr (.inl hb)))) (fun b hb => ?_)
  rcases mem4.1 hb with q | q | q | q
  · exact .inl (mem4.2 (.inl q))
  · exact .inl (mem4.2 (.inr (.inl q)))
  · exact .inr q
  · exact .inl (mem4.2 (.inr (.inr (.inr q))))
theorem mk4_F {w3 w4 : World} {xb : Nat} {sv ev nv v4 : Value} {p : Option Addr} {n c e size m : Nat} {base : Nat} {xs : List Value} (hown : w4.ownsRow base e size v4 m xs) (o : Obj) (hg : (w3.alloc o).grownBy w4 (Value.slice p n c).ownBlock) (hat : v4.ownBlock = (Value.slice p n c).ownBlock ∨ v4.ownBlock = some (w3.alloc o).heap.size) : Mk4 w3 (w4.setCell ⟨xb, 5, none⟩ v4) xb (rows4 sv ev nv (.slice p n c)) (rows4 sv ev nv v4) := by
  obtain ⟨p4, c4, hv4⟩ := owns_shape hown
  refine Mk4.push rfl hv4 o hg hat (fun b hb => mem4.2 (.inr (.inr (.inr hb)))) (fun b hb => ?_)
  rcases mem4.1 hb with q | q | q | q
  · exact .inl (mem4.2 (.inl q))
  · exact .inl (mem4.2 (.inr (.inl q)))
  · exact .inl (mem4.2 (.inr (.inr (.inl q))))
  · exact .inr q
theorem mk4_S {w3 w4 : World} {xb : Nat} {ev nv fv v4 : Value} {p : Option Addr} {n c e size m : Nat} {base : Nat} {xs : List Value} (hown : w4.ownsRow base e size v4 m xs) (o : Obj) (hg : (w3.alloc o).grownBy w4 (Value.slice p n c).ownBlock) (hat : v4.ownBlock = (Value.slice p n c).ownBlock ∨ v4.ownBlock = some (w3.alloc o).heap.size) : Mk4 w3 (w4.setCell ⟨xb, 1, none⟩ v4) xb (rows4 (.slice p n c) ev nv fv) (rows4 v4 ev nv fv) := by
  obtain ⟨p4, c4, hv4⟩ := owns_shape hown
  refine Mk4.push rfl hv4 o hg hat (fun b hb => mem4.2 (.inl hb)) (fun b hb => ?_)
  rcases mem4.1 hb with q | q | q | q
  · exact .inr q
  · exact .inl (mem4.2 (.inr (.inl q)))
  · exact .inl (mem4.2 (.inr (.inr (.inl q))))
  · exact .inl (mem4.2 (.inr (.inr (.inr q))))
end Go.Proofs.Ytlbcnmcfljaijaa
