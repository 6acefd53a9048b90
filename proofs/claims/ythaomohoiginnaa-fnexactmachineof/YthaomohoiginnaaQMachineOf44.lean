/- The edges sorted: slices.SortFunc by compareEdges. -/
import Derived.Test.YthaomohoiginnaaQMachineOf43
import Derived.Test.YthaomohoiginnaaQMachineOf30
import Derived.Test.YthaomohoiginnaaQMachineOf26
import Derived.Test.YthaomohoiginnaaQMachineOf20
import Derived.Test.YthaomohoiginnaaQMachineOf42
import Derived.Test.YthaomohoiginnaaQMachineOf15
namespace Go.Proofs.Ythaomohoiginnaa
open Go.RowKit Go.Shelf Go.Sort Go.Lib Go.Proofs

set_option maxHeartbeats 1000000 in
theorem compare_edges_g (a b : REdge) (w : World) :
    Calls Try.prog 79 #[a.val, b.val] w fun e w' => e = .returned (.int .i64 (cmpE a b)) ∧ ∃ q os', w' = grow (w.drewN q) os' := by
  have HE : Hid (cmpE a b = orI (cmpI a.src b.src) (cmpS a.label b.label)) := hide rfl
  unfold REdge.val
  go_enter Try.func79, Try.ntmps79
  go_wp2_with fail
  go_region_held3 (fun w' => w'.cell? ⟨w.heap.size, 0, none⟩ = some (.int .i64 a.src) ∧ w'.cell? ⟨w.heap.size, 1, none⟩ = some (.string a.label) ∧ w'.cell? ⟨w.heap.size + 1, 0, none⟩ = some (.int .i64 b.src) ∧ w'.cell? ⟨w.heap.size + 1, 1, none⟩ = some (.string b.label)) (go_keep)
    (first | (go_at_call 123; refine (compare_int _ _ _).mono ?_; rintro e w' ⟨rfl, rfl⟩) | (go_at_call 124; refine (compare_str _ _ _).mono ?_; rintro e w' ⟨rfl, rfl⟩) | (go_at_call 122; refine (cmp_or (cmpI a.src b.src) (cmpS a.label b.label) _ _ (by exact c3_2 _ _ _ _ _ _ _ rfl) (by exact c3_2 _ _ _ _ _ _ _ rfl)).mono ?_; rintro e w' ⟨rfl, rfl⟩))
  all_goals
    go_wp2_with fail
    go_ret
    exact ⟨ret_int HE.out, 1, _, by simp only [alloc_eq_grow, drew_grow, grow_grow]; rfl⟩
theorem cmp_lays [Inhabited REdge] (blk off size : Nat) (w : World) : CmpLays Try.prog 79 #[] REdge.cells 4 cmpE blk off size w :=
  fun _ _ _ _ x y => compare_edges_g x y _
theorem lt_cmp (x y : REdge) : ltOf cmpE x y = mlessE x y := by
  unfold ltOf cmpE orI cmpI cmpS mlessE
  by_cases h1 : x.src < y.src
  · simp [h1]
  · by_cases h2 : y.src < x.src
    · have : ¬ x.src = y.src := by omega
      simp [h1, h2, this]
    · have : x.src = y.src := by omega
      cases hb : Op.bytesLess x.label.toList y.label.toList
      · by_cases he : (x.label.toList == y.label.toList) = true
        · simp [this, he]
        · simp [this, he]
      · simp [this]
theorem swo_cmp : SWO (ltOf cmpE) where
  irrefl x := by rw [lt_cmp]; exact el_irrefl x
  trans x y z h1 h2 := by rw [lt_cmp] at *; exact el_trans h1 h2
  ntrans x y z h1 h2 := by rw [lt_cmp] at *; exact el_ge h2 h1
theorem Try.isAggEd : ∀ w, (isAgg 100).run Try.prog w = .ok true w := Try.isAgg100
theorem Try.sizeEd : ∀ w, (Go.sizeOf 100).run Try.prog w = .ok 4 w := Try.sizeOf100
theorem flat_flatK [Inhabited REdge] (d : Array REdge) : (flatK REdge.cells 4 d).toList = d.toList.flatMap REdge.cells := by
  apply List.ext_getElem?
  intro j
  by_cases hj : j < d.size * 4
  · have h1 := get_flatK REdge.cells 4 d j hj
    have hd : j / 4 < d.size := by omega
    have h2 := flat_get REdge.cells 4 REdge.cells_len d.toList (j / 4) (by simpa using hd) (j % 4) (by omega)
    rw [show j / 4 * 4 + j % 4 = j by omega] at h2
    rw [h2]
    have hs : j < (flatK REdge.cells 4 d).size := by simpa using hj
    rw [Array.getElem?_toList, Array.getElem?_eq_getElem hs]
    rw [getElem!_pos (flatK REdge.cells 4 d) j hs] at h1
    rw [h1, getElem!_pos d (j / 4) hd]
    have h4 : j % 4 < (REdge.cells d[j / 4]).length := by rw [REdge.cells_len]; omega
    rw [getElem!_pos (REdge.cells d[j / 4]) (j % 4) h4]
    simp
  · rw [List.getElem?_eq_none (by simp; omega), List.getElem?_eq_none (by rw [flat_len REdge.cells 4 REdge.cells_len]; simp; omega)]
theorem take_put (cur F : Array Value) (h : F.size ≤ cur.size) : (putCells id 0 F cur).toList.take F.size = F.toList := by
  apply List.ext_getElem?
  intro j
  by_cases hj : j < F.size
  · rw [List.getElem?_take_of_lt hj, Array.getElem?_toList, Array.getElem?_toList]
    simp [putCells, hj, show j < cur.size by omega]
  · rw [List.getElem?_take_eq_none (by omega), List.getElem?_eq_none (by simp; omega)]
theorem heap_put {w : World} {g n : Nat} {os : Array Obj} {cur : Array Value} {e : TypeId} {fr : Nat × Nat} (F : Array Value) (hb : w.heap[g]? = some (.cells cur e fr)) :
    (grow (putRow id (Sort.ahead w n) g 0 F) os).heap[g]? = some (.cells (putCells id 0 F cur) e fr) := by
  have hg : g < w.heap.size := (Array.getElem?_eq_some_iff.1 hb).1
  rw [heap_grow_old _ _ (by simpa using hg)]
  simp [putRow, mapBlock, Sort.ahead, Array.getElem?_modify, hb, onCells]
theorem apart_put {w : World} {g n : Nat} {os : Array Obj} (F : Array Value) : Apart w (grow (putRow id (Sort.ahead w n) g 0 F) os) [g] := by
  refine ⟨rfl, rfl, rfl, by simp, fun k hk hne => ?_⟩
  rw [heap_grow_old _ _ (by simpa using hk)]
  have : g ≠ k := fun e => hne (by simp [e])
  simp [putRow, mapBlock, Sort.ahead, Array.getElem?_modify, this]
theorem sort_edges (es : List REdge) (base : Nat) (v : Value) (w : World) (hown : REdgeOwn w base v es) (hl : es.length ≤ 1000) :
    Calls Try.prog 84 #[v, .func (.func 79) #[] #[]] w fun e w' => e = .returned (.tuple #[]) ∧ ∃ es', es'.Perm es ∧ Up es' ∧ REdgeOwn w' base v es' ∧ Apart w w' (vblocks v) := by
  haveI : Inhabited REdge := ⟨⟨0, ByteArray.empty, 0, 0⟩⟩
  obtain ⟨hlen, hh⟩ := hown
  rcases hh with ⟨rfl, h0⟩ | ⟨g, cap, cur, rfl, hg, hblk, hc, hcm, hcs, hcur⟩
  · have : es = [] := List.length_eq_zero_iff.1 h0
    subst this
    exact (Try.sortEd_none none 0 _ w).mono fun e w' ⟨he, hw⟩ => ⟨he, [], List.Perm.refl _, List.Pairwise.nil, by rw [hw]; exact REdgeOwn.nil _ _, by rw [hw]; exact Apart.refl _⟩
  · have hlt : g < w.heap.size := (Array.getElem?_eq_some_iff.1 hblk).1
    have hfl := flat_flatK es.toArray
    have hown0 : REdgeOwn w base (.slice (some ⟨g, 0, none⟩) es.length cap) es := ⟨hlen, .inr ⟨g, cap, cur, rfl, hg, hblk, hc, hcm, hcs, hcur⟩⟩
    have hH : HoldsK REdge.cells 4 w g 0 es.toArray := by
      intro j hj
      refine ⟨?_, by simp [World.frozen?, hblk]⟩
      have hj' : j < (flatK REdge.cells 4 es.toArray).size := hj
      have h1 : (es.flatMap REdge.cells)[j]? = some ((flatK REdge.cells 4 es.toArray)[j]) := by
        have e : es.flatMap REdge.cells = (flatK REdge.cells 4 es.toArray).toList := by simpa using hfl.symm
        rw [e, Array.getElem?_toList]
        exact Array.getElem?_eq_getElem hj'
      rw [Nat.zero_add, getElem!_pos (flatK REdge.cells 4 es.toArray) j hj']
      exact owns_cell hown0 rfl j _ h1
    have eg : ∀ args w, (callFunc 79 args).run Try.prog w = .ok (.enter 79 args) w := enters_of Try.func79 (by kernel_rfl) rfl
    have hcon := AnyQ.slices_SortFunc Try.sortEd 4 Try.isAggEd Try.sizeEd REdge.cells REdge.cells_len REdge.cells_one cmpE swo_cmp 79 #[] g 0 cap es.toArray w eg (cmp_lays g 0 es.toArray.size w) hH hlt (by simp; omega)
    have hcon' : Calls Try.prog 84 #[.slice (some ⟨g, 0, none⟩) es.length cap, .func (.func 79) #[] #[]] w _ := hcon
    refine hcon'.mono ?_
    rintro e w' ⟨he, d', n, os, hp, hs, rfl⟩
    have hsz : d'.size = es.length := by have := hp.1; simpa using this
    refine ⟨he, d'.toList, ?_, ?_, ?_, ?_⟩
    · have h2 := hp.2.2
      have e1 : (d'.extract 0 es.toArray.size).toList = d'.toList := by rw [show es.toArray.size = d'.size by simp [hsz]]; simp
      have e2 : (es.toArray.extract 0 es.toArray.size).toList = es := by simp
      rw [e1, e2] at h2
      exact h2
    · unfold Up
      rw [List.pairwise_iff_getElem]
      intro i j hi hj hij
      have hj' : j < d'.size := by simpa using hj
      have hi' : i < d'.size := by simpa using hi
      have := hs i j (Nat.zero_le _) hij (by simpa [hsz] using hj')
      rw [lt_cmp, getElem!_pos d' _ hj', getElem!_pos d' _ hi'] at this
      simpa using this
    · have hF : (flatK REdge.cells 4 d').size = es.length * 4 := by rw [size_flatK, hsz]
      have hcz : (flatK REdge.cells 4 d').size ≤ cur.size := by rw [hF, hcs]; exact Nat.mul_le_mul_right 4 hc
      have hlen' : d'.toList.length = es.length := by simpa using hsz
      unfold REdgeOwn
      rw [hlen']
      refine ⟨by rw [flat_len REdge.cells 4 REdge.cells_len, hlen'], .inr ⟨g, cap, putCells id 0 (flatK REdge.cells 4 d') cur, rfl, hg, heap_put _ hblk, hc, hcm, by simp [putCells, hcs], ?_⟩⟩
      rw [← hF, take_put _ _ hcz]
      exact flat_flatK d'
    · have h3 : Apart w (sortWorldK REdge.cells 4 w g 0 n d' os) [g] := apart_put (w := w) (g := g) (n := n) (os := os) (flatK REdge.cells 4 d')
      simpa [vblocks, cellBlocks] using h3
end Go.Proofs.Ythaomohoiginnaa
/- MachineOf of the program. -/
namespace Go.Proofs.Ythaomohoiginnaa
open Go.RowKit
attribute [local go_sem ↓] Go.wp_at_zero Go.wp_at_succ

def moT (ns : List Nd) : Mach := if 400 < ns.length then noMach else if rightB true ns then machP ns else noMach
def moC (ns : List Nd) : Int := if 400 < ns.length then 2 else if rightB true ns then 0 else 1
theorem part_ahead {ns : List Nd} (h : rightB true ns = true) : ahead (talkS true) 10 [] ns = some [] ∧ ns.length ≤ 40 := by
  rw [rightB] at h
  simp only [Bool.and_eq_true, decide_eq_true_eq, beq_iff_eq] at h
  refine ⟨?_, h.1⟩
  cases hr : ahead (talkS true) 10 [] ns with
  | none => rw [hr] at h; simp at h
  | some r => rw [hr] at h; simp at h; rw [h.2.1]
theorem ans_err {w w' : World} (C : Int) (hb : Below w.heap.size w w') : MrAns w w' (.returned (.agg #[.slice none 0 0, .slice none 0 0, .int .i64 0, .int .i64 C])) noMach C :=
  ⟨⟨_, _, rfl, RStateOwn.nil _ _, REdgeOwn.nil _ _, by simp [vblocks, cellBlocks]⟩, hb⟩
theorem Kept.below {w w' : World} {base B : Nat} {l : List Nat} (h : Kept w w' base l) (hB : B ≤ base) (hl : ∀ b ∈ l, B ≤ b) : Below B w w' :=
  ⟨h.os, h.tape, h.output, h.size, fun k hk => h.block k (by omega) (fun hm => absurd (hl k hm) (by omega))⟩
theorem Kept.box {w w' : World} {base b : Nat} {l : List Nat} {vs : List Value} (h : Kept w w' base l) (hb : b < base) (hn : b ∉ l) (hx : BoxL w b vs) : BoxL w' b vs :=
  ⟨fun i v hv => (World.cell?_of_block (a := ⟨b, i, none⟩) (h.block b hb hn)).trans (hx.cell i v hv), fun o => (World.frozen?_of_block (a := ⟨b, o, none⟩) (h.block b hb hn)).trans (hx.fz o), Nat.lt_of_lt_of_le hx.lt h.size⟩
theorem we_new (w : World) : WeAt ((w.alloc (.map #[] 0)).alloc (.cells #[.slice none 0 0, .slice none 0 0, .int .i64 0, .map (some w.heap.size)] 114)) (w.heap.size + 1) w.heap.size (w.heap.size + 2) (.slice none 0 0) (.slice none 0 0) 0 ⟨[], [], fun _ => 0⟩ := by
  refine ⟨?_, RStateOwn.nil _ _, REdgeOwn.nil _ _, ?_, by simp [vblocks, cellBlocks], ⟨by omega, by omega, by omega⟩, by simp⟩
  · have := BoxL.new (w.alloc (.map #[] 0)) [.slice none 0 0, .slice none 0 0, .int .i64 0, .map (some w.heap.size)] 114
    simpa using this
  · exact (fs_new w).keep (below_apart (malloc1 _ _)) (by simp)
theorem kept_low {w1 w3 : World} {o1 o2 : Obj} (h : Kept ((w1.alloc o1).alloc o2) w3 (w1.heap.size + 2) [w1.heap.size + 1, w1.heap.size]) : Kept w1 w3 w1.heap.size [] :=
  have hb : Below w1.heap.size w1 ((w1.alloc o1).alloc o2) := (malloc1 _ _).trans ((malloc1 _ _).mono (by simp))
  ⟨h.os, h.tape, h.output, by have := h.size; simp at this; omega, fun b hlt _ => (h.block b (by omega) (by simp; omega)).trans (hb.block b hlt)⟩
/-- the machine made, handed back -/
theorem mo_end {w w1 w3 w4 : World} {ps pe : Option Addr} {cs ce nf : Nat} {Z : Wv} {es : List REdge} {i : Int} (hb1 : Below w.heap.size w w1) (hz1 : w.heap.size < w1.heap.size) (h3 : WeAt w3 (w1.heap.size + 1) w1.heap.size (w1.heap.size + 2) (.slice ps Z.sts.length cs) (.slice pe Z.eds.length ce) nf Z) (hk3 : Kept w1 w3 w1.heap.size [])
    (ha4 : Apart (w3.setCell ⟨w1.heap.size + 1, 2, none⟩ (.int .i64 i)) w4 (vblocks (.slice pe Z.eds.length ce))) (ho4 : REdgeOwn w4 (w1.heap.size + 2) (.slice pe Z.eds.length ce) es) (y0 y1 y2 y3 : Value) :
    MrAns w ((((w4.setCell ⟨w.heap.size, 0, none⟩ y0).setCell ⟨w.heap.size, 1, none⟩ y1).setCell ⟨w.heap.size, 2, none⟩ y2).setCell ⟨w.heap.size, 3, none⟩ y3) (.returned (.agg #[.slice ps Z.sts.length cs, .slice pe Z.eds.length ce, .int .i64 i, .int .i64 0])) ⟨Z.sts, es, i⟩ 0 := by
  have hS := setCell_apart w3 (w1.heap.size + 1) 2 (.int .i64 i)
  have hA := hS.trans ha4
  have lo := h3.ed.fresh.lo
  have h4 := ap4 w4 w.heap.size y0 y1 y2 y3
  have hB4 : Below w.heap.size w w4 := by
    refine (hb1.trans (hk3.below hb1.size (by simp))).trans (hA.below (Nat.le_trans hb1.size hk3.size) (fun b hb => ?_))
    rw [List.mem_append] at hb
    rcases hb with hb | hb
    · simp at hb; omega
    · have := lo b hb; omega
  refine ⟨⟨_, _, rfl, ?_, ?_, h3.dis⟩, set4 hB4 y0 y1 y2 y3⟩
  · have hs := h3.st
    refine owns_down (base := w1.heap.size + 2) ((hs.keep hA (fun b hb hm => ?_)).keep h4 (fun b hb hm => by have := hs.fresh.lo b hb; simp at hm; omega)) (by omega)
    rw [List.mem_append] at hm
    rcases hm with hm | hm
    · have := hs.fresh.lo b hb; simp at hm; omega
    · exact h3.dis b hb hm
  · exact owns_down (ho4.keep h4 (fun b hb hm => by have := ho4.fresh.lo b hb; simp at hm; omega)) (by omega)
set_option maxRecDepth 100000 in
set_option maxHeartbeats 2000000 in
theorem i_machineOf (ns : List Nd) (v : Value) (w : World) (fit : ∀ n ∈ ns, n.fit) (hv : SlAt w w.heap.size v ns) :
    Calls Try.prog 30 #[v] w fun e w' => MrAns w w' e (moT ns) (moC ns) := by
  have HV := hide hv
  have HFT := hide fit
  have hlm := hv.lenm
  obtain ⟨ao, cap, rfl, hc, hm, hr⟩ := hv
  have HO : Hid (BoxL (w.alloc outM) w.heap.size [.slice none 0 0, .slice none 0 0, .int .i64 0, .int .i64 0]) := hide (BoxL.new w [.slice none 0 0, .slice none 0 0, .int .i64 0, .int .i64 0] 50)
  clear hr fit
  by_cases h4 : 400 < ns.length
  · have HT : Hid (moT ns = noMach ∧ moC ns = 2) := hide ⟨if_pos h4, if_pos h4⟩
    go_enter Try.func30, Try.ntmps30
    go_wp2_with fail
    refine bodyPost_ret (v := .agg #[.slice none 0 0, .slice none 0 0, .int .i64 0, .int .i64 2]) (by simp [results, Try.results30, go_sem]) rfl ?_
    rw [HT.out.1, HT.out.2]
    exact ans_err 2 ((Below.refl _ _).alloc (Nat.le_refl _) _)
  · obtain ⟨q, hq⟩ : ∃ q, rightB true ns = q := ⟨_, rfl⟩
    have HQ := hide hq
    have HPR : Hid (∀ W, Below w.heap.size w W → Calls Try.prog 16 #[.slice ao ns.length cap] W fun e w' => e = .returned (.bool q) ∧ Below W.heap.size W w') := hide (fun W hb => by have := part_right ns (.slice ao ns.length cap) W HFT.out ((HV.out.carry hb).up hb.size); rw [hq] at this; exact this)
    have HT : Hid (moT ns = (if q then machP ns else noMach) ∧ moC ns = (if q then 0 else 1)) := hide (by unfold moT moC; rw [if_neg h4, if_neg h4, hq]; exact ⟨rfl, rfl⟩)
    clear hq
    cases q
    · go_enter Try.func30, Try.ntmps30
      go_wp2_with (go_at_call 16; refine (HPR.out _ (malloc1 w _)).mono ?_; rintro e w1 ⟨rfl, hb1⟩; have HB1 : Hid (Below w.heap.size w w1) := hide ((malloc1 w _).trans (hb1.mono (by simp))); have HO1 := hide (HO.out.keep (below_apart hb1) (by simp)); have b0 := HO1.out.cell 0 _ rfl; have b1 := HO1.out.cell 1 _ rfl; have b2 := HO1.out.cell 2 _ rfl; have b3 := HO1.out.cell 3 _ rfl; have bz := HO1.out.fz; clear hb1)
      refine bodyPost_ret (v := .agg #[.slice none 0 0, .slice none 0 0, .int .i64 0, .int .i64 1]) (by simp [results, Try.results30, go_sem, b0, b1, b2, b3]) rfl ?_
      rw [HT.out.1, HT.out.2]
      exact ans_err 1 (set4 HB1.out _ _ _ _)
    · obtain ⟨hah, h40⟩ := part_ahead HQ.out
      have HAH := hide hah
      have HONE := hide (fun es hp hu => mach_one (es := es) hah hp hu)
      have HADD : Hid (∀ W1 : World, Below w.heap.size w W1 → Calls Try.prog 83 #[.pointer (some ⟨W1.heap.size + 1, 0, none⟩), .slice ao ns.length cap] ((W1.alloc (.map #[] 0)).alloc (.cells #[.slice none 0 0, .slice none 0 0, .int .i64 0, .map (some W1.heap.size)] 114)) fun e w' => Added ((W1.alloc (.map #[] 0)).alloc (.cells #[.slice none 0 0, .slice none 0 0, .int .i64 0, .map (some W1.heap.size)] 114)) w' w.heap.size (W1.heap.size + 1) W1.heap.size (W1.heap.size + 2) 0 e ns [] (wvO ns).1 (wvO ns).2.2) := hide (fun W1 hb => add_calls 10 [] ns [] _ _ w.heap.size (W1.heap.size + 1) W1.heap.size (W1.heap.size + 2) 0 _ _ _ hah (fun n hn => HFT.out n hn) ((HV.out.carry hb).carry (((malloc1 _ _).trans ((malloc1 _ _).mono (by simp))).mono hb.size)) (by have := hb.size; omega) (by have := hb.size; omega) hb.size (we_new W1) ⟨by simp; omega, by simp; omega, by omega⟩)
      obtain ⟨i, hi⟩ : ∃ i, (wvO ns).1 = i := ⟨_, rfl⟩
      obtain ⟨Z, hZ⟩ : ∃ Z, (wvO ns).2.2 = Z := ⟨_, rfl⟩
      have HZL : Hid (Z.eds.length ≤ 1000) := hide (by have := (len_ok 10 [] ns [] ⟨[], [], fun _ => 0⟩ hah).2.eds; rw [← hZ]; unfold wvO; simp at this; omega)
      rw [hi, hZ] at HADD HONE
      have hmk : ∀ W : World, (Instr.makeMap 112 none).run Try.prog W = .ok (.map (some W.heap.size)) (W.alloc (.map #[] 0)) := fun W => rfl
      clear hah hi hZ
      go_enter Try.func30, Try.ntmps30
      go_wp2_with (first
        | (go_at_call 16; refine (HPR.out _ (malloc1 w _)).mono ?_; rintro e w1 ⟨rfl, hb1⟩; have HB1 : Hid (Below w.heap.size w w1) := hide ((malloc1 w _).trans (hb1.mono (by simp))); have HO1 := hide (HO.out.keep (below_apart hb1) (by simp)); have HZ1 : Hid (w.heap.size < w1.heap.size) := hide (by have := hb1.size; simp at this; omega); clear hb1)
        | (go_at_call 83; refine (HADD.out w1 HB1.out).mono ?_; rintro e w3 ⟨v3, sv, ev, nf3, rfl, -, hw3, -, hk3⟩; have HW3 := hide hw3; have HK3 : Hid (Kept w1 w3 (w1.heap.size) []) := hide (kept_low hk3); obtain ⟨ps, cs, rfl⟩ := owns_shape hw3.st; obtain ⟨pe, ce, rfl⟩ := owns_shape hw3.ed; have x0 := hw3.box.cell 0 _ rfl; have x1 := hw3.box.cell 1 _ rfl; have x2 := hw3.box.cell 2 _ rfl; have xz := hw3.box.fz; clear hw3 hk3)
        | (go_at_call 84; refine (sort_edges Z.eds (w1.heap.size + 2) (.slice pe Z.eds.length ce) (w3.setCell ⟨w1.heap.size + 1, 2, none⟩ (.int .i64 i)) (HW3.out.ed.keep (setCell_apart w3 (w1.heap.size + 1) 2 (.int .i64 i)) (fun b hb hm => by have := HW3.out.ed.fresh.lo b hb; simp at hm; omega)) HZL.out).mono ?_; rintro e w4 ⟨rfl, es, hp, hu, ho4, ha4⟩; have HP := hide hp; have HU := hide hu; have HO4 := hide ho4; have HA4 := hide ha4; have HXB := hide (((HW3.out.box.set 2 (by simp) (.int .i64 i))).keep ha4 (fun hm => by have := HW3.out.ed.fresh.lo _ hm; omega)); have y0 := HXB.out.cell 0 _ rfl; have y1 := HXB.out.cell 1 _ rfl; have y2 := HXB.out.cell 2 _ rfl; have HRB := hide (((HK3.out.box HZ1.out (by simp) HO1.out).keep (setCell_apart w3 (w1.heap.size + 1) 2 (.int .i64 i)) (by have := HZ1.out; simp; omega)).keep ha4 (fun hm => by have := HW3.out.ed.fresh.lo _ hm; have := HZ1.out; omega)); have b0 := HRB.out.cell 0 _ rfl; have b1 := HRB.out.cell 1 _ rfl; have b2 := HRB.out.cell 2 _ rfl; have b3 := HRB.out.cell 3 _ rfl; have bz := HRB.out.fz; clear hp hu ho4 ha4))
      refine bodyPost_ret (v := .agg #[.slice ps Z.sts.length cs, .slice pe Z.eds.length ce, .int .i64 i, .int .i64 0]) (by simp [results, Try.results30, go_sem, b0, b1, b2, b3]) rfl ?_
      rw [HT.out.1, HT.out.2, if_pos trivial, if_pos trivial, (HONE.out es HP.out HU.out).2]
      exact mo_end HB1.out HZ1.out HW3.out HK3.out HA4.out HO4.out _ _ _ _
end Go.Proofs.Ythaomohoiginnaa
