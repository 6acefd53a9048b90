import Derived.Test.YtlbcnmcfljaijaaQF18
import Derived.Test.YtlbcnmcfljaijaaQF04
import Derived.Laws.AppendOwnNone
namespace Go.Proofs.Ytlbcnmcfljaijaa
open Go.RowKit
attribute [local go_sem ↓] Go.wp_at_zero Go.wp_at_succ

theorem flat_take {α β : Type} (f : α → List β) (n : Nat) (hf : ∀ x, (f x).length = n) : ∀ (l : List α) (k : Nat), (l.take k).flatMap f = (l.flatMap f).take (k * n)
  | [], k => by simp
  | x :: l, 0 => by simp
  | x :: l, k + 1 => by
    have h1 : (f x).take ((k + 1) * n) = f x := List.take_of_length_le (by rw [hf, Nat.succ_mul]; omega)
    have h2 : (k + 1) * n - (f x).length = k * n := by rw [hf, Nat.succ_mul]; omega
    rw [List.take_succ_cons, List.flatMap_cons, flat_take f n hf l k, List.flatMap_cons, List.take_append, h1, h2]
theorem flat_drop {α β : Type} (f : α → List β) (n : Nat) (hf : ∀ x, (f x).length = n) : ∀ (l : List α) (k : Nat), (l.drop k).flatMap f = (l.flatMap f).drop (k * n)
  | [], k => by simp
  | x :: l, 0 => by simp
  | x :: l, k + 1 => by
    have h1 : (f x).drop ((k + 1) * n) = [] := List.drop_of_length_le (by rw [hf, Nat.succ_mul]; omega)
    have h2 : (k + 1) * n - (f x).length = k * n := by rw [hf, Nat.succ_mul]; omega
    rw [List.drop_succ_cons, flat_drop f n hf l k, List.flatMap_cons, List.drop_append, h1, h2, List.nil_append]
def cutE (e : REdge) (l : List REdge) : Nat := (l.takeWhile fun x => mlessE x e).length
theorem insE_cut (e : REdge) (l : List REdge) : insE e l = l.take (cutE e l) ++ e :: l.drop (cutE e l) := by
  have h1 : l.takeWhile (fun x => mlessE x e) = l.take (cutE e l) := by
    have := List.takeWhile_append_dropWhile (p := fun x => mlessE x e) (l := l)
    conv => rhs; arg 2; rw [← this]
    unfold cutE
    rw [List.take_left']
    rfl
  have h2 : l.dropWhile (fun x => mlessE x e) = l.drop (cutE e l) := by
    have := List.takeWhile_append_dropWhile (p := fun x => mlessE x e) (l := l)
    conv => rhs; arg 2; rw [← this]
    unfold cutE
    rw [List.drop_left']
    rfl
  rw [insE, h1, h2]
theorem cutE_le (e : REdge) (l : List REdge) : cutE e l ≤ l.length := by
  unfold cutE
  exact (List.takeWhile_sublist _).length_le
theorem cut_less {e : REdge} : ∀ {l : List REdge} {j : Nat} (h : j < l.length), j < cutE e l → mlessE l[j] e = true
  | x :: l, j, h, hj => by
    unfold cutE at hj
    rw [List.takeWhile_cons] at hj
    by_cases hx : mlessE x e = true
    · rw [if_pos hx] at hj
      cases j with
      | zero => exact hx
      | succ j => exact cut_less (l := l) (by simpa using h) (by simpa [cutE] using hj)
    · rw [if_neg hx] at hj; simp at hj
theorem cut_stop {e : REdge} : ∀ {l : List REdge} (h : cutE e l < l.length), mlessE l[cutE e l] e = false
  | x :: l, h => by
    by_cases hx : mlessE x e = true
    · have hc : cutE e (x :: l) = cutE e l + 1 := by unfold cutE; rw [List.takeWhile_cons, if_pos hx]; simp
      have h' : cutE e l < l.length := by rw [hc] at h; simpa using h
      have := cut_stop (e := e) (l := l) h'
      simp only [hc, List.getElem_cons_succ]
      exact this
    · have hc : cutE e (x :: l) = 0 := by unfold cutE; rw [List.takeWhile_cons, if_neg hx]; rfl
      simp only [hc, List.getElem_cons_zero]
      simpa using hx
structure EdAt (w : World) (xb base : Nat) (ev : Value) (eds : List REdge) : Prop where
  c2 : w.cell? ⟨xb, 2, none⟩ = some ev
  fz : w.frozen? ⟨xb, 2, none⟩ = false
  ed : REdgeOwn w base ev eds
  lo : xb < base
  sz : base ≤ w.heap.size
theorem EdAt.below {w w' : World} {xb base : Nat} {ev : Value} {eds : List REdge} (h : EdAt w xb base ev eds) (hb : Below w.heap.size w w') : EdAt w' xb base ev eds :=
  have hx : xb < w.heap.size := Nat.lt_of_lt_of_le h.lo h.sz
  ⟨(hb.cell (p := ⟨xb, 2, none⟩) hx).trans h.c2, (hb.frozen (p := ⟨xb, 2, none⟩) hx).trans h.fz, h.ed.below hb, h.lo, Nat.le_trans h.sz hb.size⟩
theorem own_edge {w : World} {base g cap : Nat} {eds : List REdge} (h : REdgeOwn w base (.slice (some ⟨g, 0, none⟩) eds.length cap) eds) (k : Nat) (hk : k < eds.length) : w.cell? ⟨g, k * 4, none⟩ = some (.int .i64 eds[k].src) ∧ w.cell? ⟨g, k * 4 + 1, none⟩ = some (.string eds[k].label) ∧ w.cell? ⟨g, k * 4 + 2, none⟩ = some (.int .i64 eds[k].sort) ∧ w.cell? ⟨g, k * 4 + 3, none⟩ = some (.int .i64 eds[k].dst) := by
  have e := fun i (hi : i < 4) (x : Value) (hx : (eds[k].cells)[i]? = some x) => owns_cell h rfl (k * 4 + i) x ((flat_get REdge.cells 4 REdge.cells_len eds k hk i hi).trans hx)
  exact ⟨e 0 (by omega) _ rfl, e 1 (by omega) _ rfl, e 2 (by omega) _ rfl, e 3 (by omega) _ rfl⟩
structure Far (w w' : World) : Prop where
  ap : Apart w w' []
theorem Far.ofBelow {w w' : World} (h : Below w.heap.size w w') : Far w w' := ⟨below_apart h⟩
theorem Far.alloc {w w' : World} (h : Far w w') (o : Obj) : Far w (w'.alloc o) := ⟨h.ap.then (malloc1 _ _)⟩
theorem Far.grow {w w' w'' : World} {l : List Nat} (h : Far w w') (ha : Apart w' w'' l) (hl : ∀ b ∈ l, w.heap.size ≤ b) : Far w w'' :=
  ⟨⟨ha.os.trans h.ap.os, ha.tape.trans h.ap.tape, ha.output.trans h.ap.output, Nat.le_trans h.ap.size ha.size, fun k hk _ => (ha.block k (Nat.lt_of_lt_of_le hk h.ap.size) (fun hm => absurd (hl k hm) (by omega))).trans (h.ap.block k hk (by simp))⟩⟩
theorem Far.cell {w w' : World} (h : Far w w') {b o : Nat} {x : Value} (hc : w.cell? ⟨b, o, none⟩ = some x) : w'.cell? ⟨b, o, none⟩ = some x := h.ap.cell' hc (by simp)
theorem Far.ed {w w' : World} {xb base : Nat} {ev : Value} {eds : List REdge} (h : Far w w') (he : EdAt w xb base ev eds) : EdAt w' xb base ev eds :=
  have hx : xb < w.heap.size := Nat.lt_of_lt_of_le he.lo he.sz
  ⟨h.ap.cell' he.c2 (by simp), h.ap.frozen' hx he.fz (by simp), he.ed.keep h.ap (fun _ _ => by simp), he.lo, Nat.le_trans he.sz h.ap.size⟩
theorem cells_all (l : List REdge) : ∀ u ∈ l.flatMap REdge.cells, u.oneCell' = true := fun u hu => by
  obtain ⟨x, _, hx⟩ := List.mem_flatMap.1 hu
  exact REdge.cells_one x u hx
theorem add_at (g o j : Nat) : Addr.add ⟨g, o, none⟩ j = ⟨g, o + j, none⟩ := by
  by_cases h : j = 0
  · subst h; simp [Addr.add]
  · simp [Addr.add, h]
theorem take_src {w : World} {base g ce k j : Nat} {eds : List REdge} {u : Value} (h : REdgeOwn w base (.slice (some ⟨g, 0, none⟩) eds.length ce) eds) (hj : ((eds.take k).flatMap REdge.cells)[j]? = some u) : w.cell? (Addr.add ⟨g, 0, none⟩ j) = some u := by
  rw [flat_take REdge.cells 4 REdge.cells_len] at hj
  have hlt : j < k * 4 := by
    have := (List.getElem?_eq_some_iff.1 hj).1
    rw [List.length_take] at this
    omega
  rw [List.getElem?_take_of_lt hlt] at hj
  rw [add_at, Nat.zero_add]
  exact owns_cell h rfl j u hj
theorem drop_src {w : World} {base g ce k j : Nat} {eds : List REdge} {u : Value} (h : REdgeOwn w base (.slice (some ⟨g, 0, none⟩) eds.length ce) eds) (hj : ((eds.drop k).flatMap REdge.cells)[j]? = some u) : w.cell? (Addr.add ⟨g, k * 4, none⟩ j) = some u := by
  rw [flat_drop REdge.cells 4 REdge.cells_len, List.getElem?_drop] at hj
  rw [add_at]
  exact owns_cell h rfl (k * 4 + j) u hj
theorem drop_all {k : Nat} {eds : List REdge} (h : eds.length ≤ k) : (eds.drop k).flatMap REdge.cells = [] := by rw [List.drop_eq_nil_of_le h]; rfl
structure Ed2 (w w' : World) (xb : Nat) : Prop where
  ap : Apart w w' [xb]
  oth : ∀ o x, o ≠ 2 → w.cell? ⟨xb, o, none⟩ = some x → w'.cell? ⟨xb, o, none⟩ = some x
  fz : ∀ o, w.frozen? ⟨xb, o, none⟩ = false → w'.frozen? ⟨xb, o, none⟩ = false
theorem ed2_set {w wr w6 : World} {xb : Nat} (y : Value) (hxw : xb < w.heap.size) (hbel : Below w.heap.size w wr) (hf : Far wr w6) : Ed2 w (w6.setCell ⟨xb, 2, none⟩ y) xb := by
  have hxr : xb < wr.heap.size := Nat.lt_of_lt_of_le hxw hbel.size
  refine ⟨?_, fun o x ho hc => ?_, fun o ho => ?_⟩
  · have h1 := (below_apart hbel).trans (hf.ap.trans (setCell_apart w6 xb 2 y))
    simpa using h1
  · rw [World.cell?_setCell_other _ _ _ _ (by intro e; injection e with _ e2; exact ho e2.symm)]
    exact hf.cell ((hbel.cell (p := ⟨xb, o, none⟩) hxw).trans hc)
  · rw [World.frozen?_setCell]
    exact hf.ap.frozen' hxr ((hbel.frozen (p := ⟨xb, o, none⟩) hxw).trans ho) (by simp)
theorem edge_end {w wr w3 w6 : World} {xb k : Nat} {p6 : Option Addr} {c6 : Nat} {e : REdge} {eds : List REdge} {y : Value} (hK : cutE e eds = k) (hk : k ≤ eds.length) (hxw : xb < w.heap.size) (hbel : Below w.heap.size w wr) (hz3 : wr.heap.size ≤ w3.heap.size) (hf : Far wr w6) (hy : w6.cell? ⟨xb, 2, none⟩ = some y) (ho : w6.ownsRow w3.heap.size 52 4 (.slice p6 (k + 1 + (eds.length - k)) c6) (k + 1 + (eds.length - k)) (((eds.take k).flatMap REdge.cells ++ e.cells) ++ (eds.drop k).flatMap REdge.cells)) :
    ∃ ev', Ending.returned (.tuple #[]) = .returned (.tuple #[]) ∧ REdgeOwn (w6.setCell ⟨xb, 2, none⟩ (.slice p6 (k + 1 + (eds.length - k)) c6)) w.heap.size ev' (insE e eds) ∧ (w6.setCell ⟨xb, 2, none⟩ (.slice p6 (k + 1 + (eds.length - k)) c6)).cell? ⟨xb, 2, none⟩ = some ev' ∧ Ed2 w (w6.setCell ⟨xb, 2, none⟩ (.slice p6 (k + 1 + (eds.length - k)) c6)) xb := by
  have hS := setCell_apart w6 xb 2 (.slice p6 (k + 1 + (eds.length - k)) c6)
  have hws := hbel.size
  refine ⟨_, rfl, ?_, World.cell?_setCell_same _ _ _ hy, ?_⟩
  · have hi : insE e eds = (eds.take k ++ [e]) ++ eds.drop k := by rw [insE_cut, hK]; simp
    have hln : (insE e eds).length = k + 1 + (eds.length - k) := by rw [hi]; simp; omega
    unfold REdgeOwn
    rw [hln, hi, List.flatMap_append, List.flatMap_append]
    refine owns_down (base := w3.heap.size) (owns_keep ?_ hS (fun b hb hm => by have := (owns_fresh ho).lo b hb; simp at hm; omega)) (by omega)
    simpa using ho
  · exact ed2_set _ hxw hbel hf
theorem edge_end0 {w wr w3 w6 : World} {xb k : Nat} {p6 : Option Addr} {c6 : Nat} {e : REdge} {eds : List REdge} {y : Value} (hK : cutE e eds = k) (hk : k ≤ eds.length) (hke : eds.length ≤ k) (hxw : xb < w.heap.size) (hbel : Below w.heap.size w wr) (hz3 : wr.heap.size ≤ w3.heap.size) (hf : Far wr w6) (hy : w6.cell? ⟨xb, 2, none⟩ = some y) (ho : w6.ownsRow w3.heap.size 52 4 (.slice p6 (k + 1 + 0) c6) (k + 1 + 0) (((eds.take k).flatMap REdge.cells ++ e.cells) ++ [])) :
    ∃ ev', Ending.returned (.tuple #[]) = .returned (.tuple #[]) ∧ REdgeOwn (w6.setCell ⟨xb, 2, none⟩ (.slice p6 (k + 1) c6)) w.heap.size ev' (insE e eds) ∧ (w6.setCell ⟨xb, 2, none⟩ (.slice p6 (k + 1) c6)).cell? ⟨xb, 2, none⟩ = some ev' ∧ Ed2 w (w6.setCell ⟨xb, 2, none⟩ (.slice p6 (k + 1) c6)) xb := by
  have hz : eds.length - k = 0 := by omega
  have := edge_end (c6 := c6) (p6 := p6) hK hk hxw hbel hz3 hf hy (by rw [hz, drop_all hke]; exact ho)
  rw [hz] at this
  exact this
set_option maxRecDepth 100000 in
set_option maxHeartbeats 4000000 in
theorem mk_edge_some (e : REdge) (w : World) (xb base g ce : Nat) (eds : List REdge) (hl : eds.length ≤ 1000) (hce : eds.length ≤ ce) (h : EdAt w xb base (.slice (some ⟨g, 0, none⟩) eds.length ce) eds) :
    Calls Try.prog 68 #[.pointer (some ⟨xb, 0, none⟩), e.val] w fun r w' => ∃ ev', r = .returned (.tuple #[]) ∧ REdgeOwn w' w.heap.size ev' (insE e eds) ∧ w'.cell? ⟨xb, 2, none⟩ = some ev' ∧ Ed2 w w' xb := by
  have H := hide h
  obtain ⟨i1, hi1, hy0, hy1, hy2⟩ := info_parts Try.infoREdge
  have HJ := hide (And.intro hi1 (And.intro hy0 (And.intro hy1 hy2)))
  have c2 := h.c2
  have hxw : xb < w.heap.size := Nat.lt_of_lt_of_le h.lo h.sz
  have HXW := hide hxw
  obtain ⟨src, lab, srt, dst⟩ := e
  obtain ⟨K, hK⟩ : ∃ K, cutE ⟨src, lab, srt, dst⟩ eds = K := ⟨_, rfl⟩
  have HK := hide hK
  have hKle : K ≤ eds.length := by rw [← hK]; exact cutE_le _ _
  have HLESS : Hid (∀ j (h : j < eds.length), j < K → mlessE eds[j] ⟨src, lab, srt, dst⟩ = true) := hide (fun j h hj => cut_less h (by rw [hK]; exact hj))
  have HSTOP : Hid (∀ (h : K < eds.length), mlessE eds[K] ⟨src, lab, srt, dst⟩ = false) := hide (fun h => by
    have := cut_stop (e := ⟨src, lab, srt, dst⟩) (l := eds) (by rw [hK]; exact h)
    simpa only [hK] using this)
  clear h hi1 hy0 hy1 hy2 hK
  unfold REdge.val
  go_enter Try.func68, Try.ntmps68
  go_wp2_with fail
  go_loopw [4] (fun i wr => ∃ k : Nat, k ≤ K ∧ i = .int .i64 k ∧ wr.cell? ⟨w.heap.size, 0, none⟩ = some (.int .i64 src) ∧ wr.cell? ⟨w.heap.size, 1, none⟩ = some (.string lab) ∧ wr.cell? ⟨w.heap.size, 2, none⟩ = some (.int .i64 srt) ∧ wr.cell? ⟨w.heap.size, 3, none⟩ = some (.int .i64 dst) ∧ w.heap.size < wr.heap.size ∧ Below w.heap.size w wr) (fun i _ => K - (intOf i).toNat)
  case atStart => exact ⟨0, Nat.zero_le _, rfl, by simp, by simp, by simp, by simp, by simp, malloc1 w _⟩
  case round =>
    obtain ⟨k, hk, rfl, e0, e1, e2, e3, hsz, hbel⟩ := hrel
    have HBEL := hide hbel
    have HE := hide (H.out.below hbel)
    have g2 := HE.out.c2
    clear hbel
    by_cases hlt : k < K
    · have hlen : k < eds.length := by omega
      obtain ⟨m0, m1, m2, m3⟩ := own_edge HE.out.ed k hlen
      obtain ⟨x, hx⟩ : ∃ x, eds[k] = x := ⟨_, rfl⟩
      have HQ : Hid (mlessE x ⟨src, lab, srt, dst⟩ = true) := hide (by rw [← hx]; exact HLESS.out k hlen hlt)
      rw [hx] at m0 m1 m2 m3
      clear hx
      go_wp2_with fail
      refine wp_region_grown (by kernel_rfl) (by kernel_rfl) (fun V hV => ?_)
      have hne := grown_some V
      have k2 := grown_cell (w := V) (by rw [hV]; exact g2)
      have k0 := grown_cell (w := V) (by rw [hV]; exact m0)
      have k1 := grown_cell (w := V) (by rw [hV]; exact m1)
      have k2' := grown_cell (w := V) (by rw [hV]; exact m2)
      have k3 := grown_cell (w := V) (by rw [hV]; exact m3)
      have l0 := grown_cell (w := V) (by rw [hV]; exact e0)
      have l1 := grown_cell (w := V) (by rw [hV]; exact e1)
      have l2 := grown_cell (w := V) (by rw [hV]; exact e2)
      have l3 := grown_cell (w := V) (by rw [hV]; exact e3)
      have HWE := hide hV
      clear hV
      repeat (go_big_quiet_step (first
        | (go_at_call 25; exact grown_more (ms_less_at (a := x) (b := ⟨src, lab, srt, dst⟩) HQ.out _))))
      refine wpQuiet_nil ?_
      intro w3 hw3
      rw [HWE.out] at hw3
      have HB3 := hide hw3
      clear hw3 hne k2 k0 k1 k2' k3 l0 l1 l2 l3 HWE
      go_wp2_with fail
      go_roundw
      case rel => exact ⟨k + 1, hlt, by go_num, (HB3.out.cell (p := ⟨w.heap.size, 0, none⟩) hsz).trans e0, (HB3.out.cell (p := ⟨w.heap.size, 1, none⟩) hsz).trans e1, (HB3.out.cell (p := ⟨w.heap.size, 2, none⟩) hsz).trans e2, (HB3.out.cell (p := ⟨w.heap.size, 3, none⟩) hsz).trans e3, Nat.lt_of_lt_of_le hsz HB3.out.size, HBEL.out.trans (HB3.out.mono HBEL.out.size)⟩
      case measure => simp [intOf]; omega
    · obtain rfl : k = K := by omega
      by_cases hlen : k < eds.length
      · have hcek : ce ≠ k := by omega
        obtain ⟨m0, m1, m2, m3⟩ := own_edge HE.out.ed k hlen
        obtain ⟨x, hx⟩ : ∃ x, eds[k] = x := ⟨_, rfl⟩
        have HQ : Hid (mlessE x ⟨src, lab, srt, dst⟩ = false) := hide (by rw [← hx]; exact HSTOP.out hlen)
        rw [hx] at m0 m1 m2 m3
        clear hx
        go_wp2_with fail
        refine wp_region_grown (by kernel_rfl) (by kernel_rfl) (fun V hV => ?_)
        have hne := grown_some V
        have k2 := grown_cell (w := V) (by rw [hV]; exact g2)
        have k0 := grown_cell (w := V) (by rw [hV]; exact m0)
        have k1 := grown_cell (w := V) (by rw [hV]; exact m1)
        have k2' := grown_cell (w := V) (by rw [hV]; exact m2)
        have k3 := grown_cell (w := V) (by rw [hV]; exact m3)
        have l0 := grown_cell (w := V) (by rw [hV]; exact e0)
        have l1 := grown_cell (w := V) (by rw [hV]; exact e1)
        have l2 := grown_cell (w := V) (by rw [hV]; exact e2)
        have l3 := grown_cell (w := V) (by rw [hV]; exact e3)
        have HWE := hide hV
        clear hV
        repeat (go_big_quiet_step (first
          | (go_at_call 25; exact grown_more (ms_less_at (a := x) (b := ⟨src, lab, srt, dst⟩) HQ.out _))))
        refine wpQuiet_nil ?_
        intro w3 hw3
        rw [HWE.out] at hw3
        have HB3 := hide hw3
        clear hw3 hne k2 k0 k1 k2' k3 l0 l1 l2 l3 HWE m0 m1 m2 m3
        have HE3 := hide (HE.out.below HB3.out)
        have g3 := HE3.out.c2
        have HZ3 : Hid (wr.heap.size ≤ w3.heap.size) := hide HB3.out.size
        have HF3 := hide (Far.ofBelow HB3.out)
        have hg3 : ∀ o : Obj, (w3.alloc o).cell? ⟨xb, 2, none⟩ = some (.slice (some ⟨g, 0, none⟩) eds.length ce) := fun o => (HE3.out.below (malloc1 w3 o)).c2
        go_wp2_with (first
          | ((fail_if_success (have := HO4)); at_builtin; refine wpList_append_own _ rfl (.tmp 28) (.tmp 35) 24 rfl w3.heap.size 52 i1 (.agg #[.int .i64 0, .string ByteArray.empty, .int .i64 0, .int .i64 0]) 4 40 Try.underlying24 HJ.out.1 HJ.out.2.1 HJ.out.2.2.1 HJ.out.2.2.2 rfl (by decide) (.slice (some ⟨w3.heap.size, 0, none⟩) 0 0) 0 [] rfl (owns_empty _ _ _ _ _ (Nat.le_refl _) (mheap_new _ _ _ rfl)) ⟨g, 0, none⟩ k ce ((eds.take k).flatMap REdge.cells) rfl (by rw [flat_len REdge.cells 4 REdge.cells_len, List.length_take]; congr 1; omega) (fun j u hj => take_src ((HE3.out.below (malloc1 w3 _)).ed) hj) (cells_all _) (by unfold maxLen; omega) (by omega) (by simp) ?_; intro v4 w4 hown4 hgr4 _; rw [Nat.zero_add, List.nil_append] at hown4; obtain ⟨p4, c4, rfl⟩ := owns_shape hown4; have HO4 := hide hown4; have HF4 : Hid (Far wr w4) := hide ((HF3.out.alloc _).grow (grownBy_apart hgr4) (by have := HZ3.out; simp [vblocks, cellBlocks]; exact this)); have n0 := HF4.out.cell e0; have n1 := HF4.out.cell e1; have n2 := HF4.out.cell e2; have n3 := HF4.out.cell e3; have n4 := HF4.out.cell g2; have HZ4 : Hid (w3.heap.size ≤ w4.heap.size) := hide (by have := hgr4.size; simp at this; omega); clear hown4 hgr4)
          | ((fail_if_success (have := HO5)); at_builtin; refine wpList_append_own _ rfl (.tmp 37) (.tmp 39) 24 rfl w3.heap.size 52 i1 (.agg #[.int .i64 0, .string ByteArray.empty, .int .i64 0, .int .i64 0]) 4 40 Try.underlying24 HJ.out.1 HJ.out.2.1 HJ.out.2.2.1 HJ.out.2.2.2 rfl (by decide) (.slice p4 k c4) k ((eds.take k).flatMap REdge.cells) rfl (owns_below HO4.out (malloc1 w4 _)) ⟨w4.heap.size, 0, none⟩ 1 1 (REdge.cells ⟨src, lab, srt, dst⟩) rfl rfl (fun j u hj => new_row1 w4 _ _ j u hj) (REdge.cells_one _) (by unfold maxLen; omega) (by omega) (by have := HZ4.out; simp; omega) ?_; intro v5 w5 hown5 hgr5 _; obtain ⟨p5, c5, rfl⟩ := owns_shape hown5; have HO5 := hide hown5; have HF5 : Hid (Far wr w5) := hide ((HF4.out.alloc _).grow (grownBy_apart hgr5) (fun b hb => Nat.le_trans HZ3.out ((owns_fresh HO4.out).lo b hb))); have s4 := HF5.out.cell g2; have HE5 := hide (HF5.out.ed HE.out); have HZ5 : Hid (w3.heap.size ≤ w5.heap.size) := hide (by have := hgr5.size; have := HZ4.out; simp at *; omega); clear hown5 hgr5)
          | (at_builtin; refine wpList_append_own _ rfl (.tmp 42) (.tmp 49) 24 rfl w3.heap.size 52 i1 (.agg #[.int .i64 0, .string ByteArray.empty, .int .i64 0, .int .i64 0]) 4 40 Try.underlying24 HJ.out.1 HJ.out.2.1 HJ.out.2.2.1 HJ.out.2.2.2 rfl (by decide) (.slice p5 (k + 1) c5) (k + 1) ((eds.take k).flatMap REdge.cells ++ REdge.cells ⟨src, lab, srt, dst⟩) rfl HO5.out ⟨g, k * 4, none⟩ (eds.length - k) (ce - k) ((eds.drop k).flatMap REdge.cells) rfl (by rw [flat_len REdge.cells 4 REdge.cells_len, List.length_drop]) (fun j u hj => drop_src HE5.out.ed hj) (cells_all _) (by unfold maxLen; omega) (by omega) HZ5.out ?_; intro v6 w6 hown6 hgr6 _; obtain ⟨p6, c6, rfl⟩ := owns_shape hown6; have HO6 := hide hown6; have HF6 : Hid (Far wr w6) := hide (HF5.out.grow (grownBy_apart hgr6) (fun b hb => Nat.le_trans HZ3.out ((owns_fresh HO5.out).lo b hb))); have y2 := HF6.out.cell g2; have yz := (HF6.out.ed HE.out).fz; clear hown6 hgr6))
        go_end0
        exact edge_end HK.out hKle HXW.out HBEL.out HZ3.out HF6.out y2 HO6.out
      · have hke : eds.length ≤ k := by omega
        by_cases hcek : ce = k
        · have hcek' := hcek.symm
          clear hcek
          subst hcek'
          go_wp2_with fail
          refine wp_region_grown (by kernel_rfl) (by kernel_rfl) (fun V hV => ?_)
          have hne := grown_some V
          have k2 := grown_cell (w := V) (by rw [hV]; exact g2)
          have HWE := hide hV
          clear hV
          repeat (go_big_quiet_step (fail))
          refine wpQuiet_nil ?_
          intro w3 hw3
          rw [HWE.out] at hw3
          have HB3 := hide hw3
          clear hw3 hne k2 HWE
          have HE3 := hide (HE.out.below HB3.out)
          have g3 := HE3.out.c2
          have HZ3 : Hid (wr.heap.size ≤ w3.heap.size) := hide HB3.out.size
          have HF3 := hide (Far.ofBelow HB3.out)
          have hg3 : ∀ o : Obj, (w3.alloc o).cell? ⟨xb, 2, none⟩ = some (.slice (some ⟨g, 0, none⟩) eds.length k) := fun o => (HE3.out.below (malloc1 w3 o)).c2
          go_wp2_with (first
            | ((fail_if_success (have := HO4)); at_builtin; refine wpList_append_own _ rfl (.tmp 28) (.tmp 35) 24 rfl w3.heap.size 52 i1 (.agg #[.int .i64 0, .string ByteArray.empty, .int .i64 0, .int .i64 0]) 4 40 Try.underlying24 HJ.out.1 HJ.out.2.1 HJ.out.2.2.1 HJ.out.2.2.2 rfl (by decide) (.slice (some ⟨w3.heap.size, 0, none⟩) 0 0) 0 [] rfl (owns_empty _ _ _ _ _ (Nat.le_refl _) (mheap_new _ _ _ rfl)) ⟨g, 0, none⟩ k k ((eds.take k).flatMap REdge.cells) rfl (by rw [flat_len REdge.cells 4 REdge.cells_len, List.length_take]; congr 1; omega) (fun j u hj => take_src ((HE3.out.below (malloc1 w3 _)).ed) hj) (cells_all _) (by unfold maxLen; omega) (by omega) (by simp) ?_; intro v4 w4 hown4 hgr4 _; rw [Nat.zero_add, List.nil_append] at hown4; obtain ⟨p4, c4, rfl⟩ := owns_shape hown4; have HO4 := hide hown4; have HF4 : Hid (Far wr w4) := hide ((HF3.out.alloc _).grow (grownBy_apart hgr4) (by have := HZ3.out; simp [vblocks, cellBlocks]; exact this)); have n0 := HF4.out.cell e0; have n1 := HF4.out.cell e1; have n2 := HF4.out.cell e2; have n3 := HF4.out.cell e3; have n4 := HF4.out.cell g2; have HZ4 : Hid (w3.heap.size ≤ w4.heap.size) := hide (by have := hgr4.size; simp at this; omega); clear hown4 hgr4)
            | ((fail_if_success (have := HO5)); at_builtin; refine wpList_append_own _ rfl (.tmp 37) (.tmp 39) 24 rfl w3.heap.size 52 i1 (.agg #[.int .i64 0, .string ByteArray.empty, .int .i64 0, .int .i64 0]) 4 40 Try.underlying24 HJ.out.1 HJ.out.2.1 HJ.out.2.2.1 HJ.out.2.2.2 rfl (by decide) (.slice p4 k c4) k ((eds.take k).flatMap REdge.cells) rfl (owns_below HO4.out (malloc1 w4 _)) ⟨w4.heap.size, 0, none⟩ 1 1 (REdge.cells ⟨src, lab, srt, dst⟩) rfl rfl (fun j u hj => new_row1 w4 _ _ j u hj) (REdge.cells_one _) (by unfold maxLen; omega) (by omega) (by have := HZ4.out; simp; omega) ?_; intro v5 w5 hown5 hgr5 _; obtain ⟨p5, c5, rfl⟩ := owns_shape hown5; have HO5 := hide hown5; have HF5 : Hid (Far wr w5) := hide ((HF4.out.alloc _).grow (grownBy_apart hgr5) (fun b hb => Nat.le_trans HZ3.out ((owns_fresh HO4.out).lo b hb))); have s4 := HF5.out.cell g2; have HE5 := hide (HF5.out.ed HE.out); have HZ5 : Hid (w3.heap.size ≤ w5.heap.size) := hide (by have := hgr5.size; have := HZ4.out; simp at *; omega); clear hown5 hgr5)
            | (at_builtin; refine wpList_append_own _ rfl (.tmp 42) (.tmp 49) 24 rfl w3.heap.size 52 i1 (.agg #[.int .i64 0, .string ByteArray.empty, .int .i64 0, .int .i64 0]) 4 40 Try.underlying24 HJ.out.1 HJ.out.2.1 HJ.out.2.2.1 HJ.out.2.2.2 rfl (by decide) (.slice p5 (k + 1) c5) (k + 1) ((eds.take k).flatMap REdge.cells ++ REdge.cells ⟨src, lab, srt, dst⟩) rfl HO5.out _ 0 _ [] rfl rfl (fun j u hj => by simp at hj) (by simp) (by unfold maxLen; omega) (by omega) HZ5.out ?_; intro v6 w6 hown6 hgr6 _; obtain ⟨p6, c6, rfl⟩ := owns_shape hown6; have HO6 := hide hown6; have HF6 : Hid (Far wr w6) := hide (HF5.out.grow (grownBy_apart hgr6) (fun b hb => Nat.le_trans HZ3.out ((owns_fresh HO5.out).lo b hb))); have y2 := HF6.out.cell g2; have yz := (HF6.out.ed HE.out).fz; clear hown6 hgr6))
          go_end0
          obtain ⟨ev', q1, q2⟩ := edge_end0 HK.out hKle hke HXW.out HBEL.out HZ3.out HF6.out y2 HO6.out
          exact ⟨q1, ev', q2⟩
        · go_wp2_with fail
          refine wp_region_grown (by kernel_rfl) (by kernel_rfl) (fun V hV => ?_)
          have hne := grown_some V
          have k2 := grown_cell (w := V) (by rw [hV]; exact g2)
          have HWE := hide hV
          clear hV
          repeat (go_big_quiet_step (fail))
          refine wpQuiet_nil ?_
          intro w3 hw3
          rw [HWE.out] at hw3
          have HB3 := hide hw3
          clear hw3 hne k2 HWE
          have HE3 := hide (HE.out.below HB3.out)
          have g3 := HE3.out.c2
          have HZ3 : Hid (wr.heap.size ≤ w3.heap.size) := hide HB3.out.size
          have HF3 := hide (Far.ofBelow HB3.out)
          have hg3 : ∀ o : Obj, (w3.alloc o).cell? ⟨xb, 2, none⟩ = some (.slice (some ⟨g, 0, none⟩) eds.length ce) := fun o => (HE3.out.below (malloc1 w3 o)).c2
          go_wp2_with (first
            | ((fail_if_success (have := HO4)); at_builtin; refine wpList_append_own _ rfl (.tmp 28) (.tmp 35) 24 rfl w3.heap.size 52 i1 (.agg #[.int .i64 0, .string ByteArray.empty, .int .i64 0, .int .i64 0]) 4 40 Try.underlying24 HJ.out.1 HJ.out.2.1 HJ.out.2.2.1 HJ.out.2.2.2 rfl (by decide) (.slice (some ⟨w3.heap.size, 0, none⟩) 0 0) 0 [] rfl (owns_empty _ _ _ _ _ (Nat.le_refl _) (mheap_new _ _ _ rfl)) ⟨g, 0, none⟩ k ce ((eds.take k).flatMap REdge.cells) rfl (by rw [flat_len REdge.cells 4 REdge.cells_len, List.length_take]; congr 1; omega) (fun j u hj => take_src ((HE3.out.below (malloc1 w3 _)).ed) hj) (cells_all _) (by unfold maxLen; omega) (by omega) (by simp) ?_; intro v4 w4 hown4 hgr4 _; rw [Nat.zero_add, List.nil_append] at hown4; obtain ⟨p4, c4, rfl⟩ := owns_shape hown4; have HO4 := hide hown4; have HF4 : Hid (Far wr w4) := hide ((HF3.out.alloc _).grow (grownBy_apart hgr4) (by have := HZ3.out; simp [vblocks, cellBlocks]; exact this)); have n0 := HF4.out.cell e0; have n1 := HF4.out.cell e1; have n2 := HF4.out.cell e2; have n3 := HF4.out.cell e3; have n4 := HF4.out.cell g2; have HZ4 : Hid (w3.heap.size ≤ w4.heap.size) := hide (by have := hgr4.size; simp at this; omega); clear hown4 hgr4)
            | ((fail_if_success (have := HO5)); at_builtin; refine wpList_append_own _ rfl (.tmp 37) (.tmp 39) 24 rfl w3.heap.size 52 i1 (.agg #[.int .i64 0, .string ByteArray.empty, .int .i64 0, .int .i64 0]) 4 40 Try.underlying24 HJ.out.1 HJ.out.2.1 HJ.out.2.2.1 HJ.out.2.2.2 rfl (by decide) (.slice p4 k c4) k ((eds.take k).flatMap REdge.cells) rfl (owns_below HO4.out (malloc1 w4 _)) ⟨w4.heap.size, 0, none⟩ 1 1 (REdge.cells ⟨src, lab, srt, dst⟩) rfl rfl (fun j u hj => new_row1 w4 _ _ j u hj) (REdge.cells_one _) (by unfold maxLen; omega) (by omega) (by have := HZ4.out; simp; omega) ?_; intro v5 w5 hown5 hgr5 _; obtain ⟨p5, c5, rfl⟩ := owns_shape hown5; have HO5 := hide hown5; have HF5 : Hid (Far wr w5) := hide ((HF4.out.alloc _).grow (grownBy_apart hgr5) (fun b hb => Nat.le_trans HZ3.out ((owns_fresh HO4.out).lo b hb))); have s4 := HF5.out.cell g2; have HE5 := hide (HF5.out.ed HE.out); have HZ5 : Hid (w3.heap.size ≤ w5.heap.size) := hide (by have := hgr5.size; have := HZ4.out; simp at *; omega); clear hown5 hgr5)
            | (at_builtin; refine wpList_append_own _ rfl (.tmp 42) (.tmp 49) 24 rfl w3.heap.size 52 i1 (.agg #[.int .i64 0, .string ByteArray.empty, .int .i64 0, .int .i64 0]) 4 40 Try.underlying24 HJ.out.1 HJ.out.2.1 HJ.out.2.2.1 HJ.out.2.2.2 rfl (by decide) (.slice p5 (k + 1) c5) (k + 1) ((eds.take k).flatMap REdge.cells ++ REdge.cells ⟨src, lab, srt, dst⟩) rfl HO5.out _ 0 _ [] rfl rfl (fun j u hj => by simp at hj) (by simp) (by unfold maxLen; omega) (by omega) HZ5.out ?_; intro v6 w6 hown6 hgr6 _; obtain ⟨p6, c6, rfl⟩ := owns_shape hown6; have HO6 := hide hown6; have HF6 : Hid (Far wr w6) := hide (HF5.out.grow (grownBy_apart hgr6) (fun b hb => Nat.le_trans HZ3.out ((owns_fresh HO5.out).lo b hb))); have y2 := HF6.out.cell g2; have yz := (HF6.out.ed HE.out).fz; clear hown6 hgr6))
          go_end0
          obtain ⟨ev', q1, q2⟩ := edge_end0 HK.out hKle hke HXW.out HBEL.out HZ3.out HF6.out y2 HO6.out
          exact ⟨q1, ev', q2⟩
end Go.Proofs.Ytlbcnmcfljaijaa
