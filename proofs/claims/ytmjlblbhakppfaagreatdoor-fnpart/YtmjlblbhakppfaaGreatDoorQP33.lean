import Derived.Test.YtmjlblbhakppfaaGreatDoorQP32
import Derived.Test.YtmjlblbhakppfaaGreatDoorQP19
import Derived.Test.YtmjlblbhakppfaaGreatDoorQP30
import Derived.BigQuiet
import Derived.Test.YtmjlblbhakppfaaGreatDoorQP00
import Derived.Test.YtmjlblbhakppfaaGreatDoorQP04
import Derived.Test.YtmjlblbhakppfaaGreatDoorQP02
namespace Go.Proofs.YtmjlblbhakppfaaGreatDoor
open Go.RowKit
set_option linter.unusedSimpArgs false
set_option linter.unusedVariables false

theorem text_ne {part : Bool} {ns : List Nd} (h : rightB part ns = true) : (textF 10 ns).1.toList ≠ [] := by
  intro e
  have h1 := spec_reads h
  rw [e] at h1
  have h2 : oneS part 11 ⟨[], [], false⟩ = ⟨[], [⟨1, ba [], noT, 0, 0⟩], false⟩ := by
    rw [oneS]
    cases part <;> simp [wdS, skW, isS, pushS]
  rw [h2] at h1
  have h3 : [(⟨1, ba [], noT, 0, 0⟩ : Nd)] = ns := congrArg Ss.l h1
  rw [← h3] at h
  simp only [rightB, Bool.and_eq_true] at h
  have h4 := h.2.1
  rw [ahead] at h4
  simp [backB] at h4
theorem read_is {part : Bool} {t : ByteArray} {a : Nat} {l : List Nd} {b : Bool} (h : oneS part 11 (stS t 0 [] false) = stS t a l b) (ns : List Nd) (hn : IsText part t ns) : l = ns ∧ b = false ∧ t.toList ≠ [] ∧ textV part l = t := by
  have h1 := spec_reads hn.1
  have e : (⟨(textF 10 ns).1.toList, [], false⟩ : Ss) = stS t 0 [] false := by rw [hn.2]; rfl
  rw [e, h] at h1
  have hl : l = ns := congrArg Ss.l h1
  have hb : b = false := congrArg Ss.bad h1
  refine ⟨hl, hb, ?_, ?_⟩
  · rw [← hn.2]
    exact text_ne hn.1
  · rw [hl, textV, hn.1]
    exact hn.2
theorem whole_is {part : Bool} {t : ByteArray} {l : List Nd} (h : textV part l = t) (hne : t.toList ≠ []) : IsText part t l := by
  unfold textV at h
  split at h
  · rename_i hr
    exact ⟨hr, h⟩
  · exfalso
    rw [← h] at hne
    exact hne (by rw [Go.ByteArray.toList_eq]; rfl)
def RdS (part : Bool) (t : ByteArray) (w w' : World) (e : Ending) : Prop := ∃ p n c l q, e = .returned (.tuple #[.slice p n c, .bool q]) ∧ Below w.heap.size w w' ∧ ((q = true ∧ NdOwn w' w.heap.size (.slice p n c) l ∧ IsText part t l) ∨ (q = false ∧ ∀ ns, ¬ IsText part t ns))
def rdS (t : ByteArray) (part : Bool) : Obj := .cells #[.string t, .int .i64 0, .slice none 0 0, .bool part, .bool false] 103
theorem sr_new (w : World) (t : ByteArray) (part : Bool) : SrAt (w.alloc (rdS t part)) w.heap.size (w.heap.size + 1) t part 0 (.slice none 0 0) [] false :=
  ⟨BoxL.new w [.string t, .int .i64 0, .slice none 0 0, .bool part, .bool false] 103, World.ownsRow_nil _ _ _ _, Nat.zero_le _, by omega, by simp⟩
theorem sk_low {w W w' : World} (h0 : Below w.heap.size w W) (h : Skept W w' (w.heap.size + 1) w.heap.size) : Below w.heap.size w w' :=
  ⟨h.os.trans h0.os, h.tape.trans h0.tape, h.output.trans h0.output, Nat.le_trans h0.size h.size, fun b hb => (h.block b (by omega) (by omega)).trans (h0.block b hb)⟩
set_option maxRecDepth 100000 in
set_option maxHeartbeats 8000000 in
theorem s_read (part : Bool) (t : ByteArray) (w : World) (ht : t.size ≤ 8000) : Calls Tryz.prog 50 #[.string t, .bool part] w fun e w' => RdS part t w w' e := by
  have HO := hide (sr_one part t ht 11 w.heap.size (w.heap.size + 1) 0 1 (.slice none 0 0) [] false (w.alloc (rdS t part)) rfl (by simp) (sr_new w t part))
  have HSM := hide (one_small part ht)
  obtain ⟨S, hS⟩ : ∃ x, oneS part 11 (stS t 0 [] false) = x := ⟨_, rfl⟩
  rw [hS] at HO HSM
  have HSS := hide hS
  clear hS
  go_enter Tryz.func50, Tryz.ntmps50
  go_wp2_with (first
    | (go_at_call 83; refine HO.out.mono ?_; rintro e w2 ⟨rfl, a9, lv9, l9, b9, rfl, hs9, hk9⟩; obtain ⟨p9, c9, rfl⟩ := owns_shape hs9.row; have HS9 := hide hs9; have HB9 := hide (sk_low (malloc1 _ _) hk9); have d2 := hs9.box.cell 2 _ rfl; have d4 := hs9.box.cell 4 _ rfl; clear hs9 hk9))
  have HRI : Hid (∀ ns, IsText part t ns → l9 = ns ∧ b9 = false ∧ t.toList ≠ [] ∧ textV part l9 = t) := hide (read_is HSS.out)
  cases b9
  · cases hte : (t.toList == [])
    · have HW : Hid (∀ W, Below w2.heap.size w2 W → Calls Tryz.prog 46 #[.slice p9 l9.length c9, .bool part] W fun e w' => e = .returned (.string (textV part l9)) ∧ Below W.heap.size W w') := hide (fun W hb => s_whole part l9 _ W (HSM.out.f rfl) (own_slat (HS9.out.row.below hb) (by have : l9.length ≤ 42 := HSM.out.n; omega)))
      have HWI : Hid (textV part l9 = t → IsText part t l9) := hide (fun h => whole_is h (by intro e; rw [e] at hte; simp at hte))
      obtain ⟨TV, hTV⟩ : ∃ x, textV part l9 = x := ⟨_, rfl⟩
      rw [hTV] at HW HWI HRI
      clear hTV
      refine wp_region_grown (by kernel_rfl) (by kernel_rfl) (fun W hW => ?_)
      subst hW
      have hne := grown_some W
      have f2 := grown_cell d2
      have f4 := grown_cell d4
      repeat (go_big_quiet_step ((go_at_call 46; exact grown_more (HW.out _ (Grown.bel _)))))
      refine wpQuiet_nil ?_
      intro w3 hw3
      have HB3 := hide hw3
      clear hw3 hne f2 f4
      have HS3 := hide (HS9.out.keep (below_apart HB3.out))
      go_wp2_with fail
      go_ret2
      refine ⟨p9, l9.length, c9, l9, _, rfl, HB9.out.trans (HB3.out.mono HB9.out.size), ?_⟩
      cases hq : (TV.toList == t.toList)
      · exact .inr ⟨rfl, fun ns hn => by have := (HRI.out ns hn).2.2.2; rw [this] at hq; simp at hq⟩
      · exact .inl ⟨rfl, owns_down HS3.out.row (by omega), HWI.out (tl_inj (eq_of_beq hq))⟩
    · go_quiet (fail)
      go_wp2_with fail
      go_ret2
      refine ⟨p9, l9.length, c9, l9, _, rfl, ⟨HB9.out.os, HB9.out.tape, HB9.out.output, HB9.out.size, HB9.out.block⟩, .inr ⟨rfl, fun ns hn => ?_⟩⟩
      have := (HRI.out ns hn).2.2.1
      rw [eq_of_beq hte] at this
      exact this rfl
  · go_quiet (fail)
    go_wp2_with fail
    go_ret2
    refine ⟨p9, l9.length, c9, l9, _, rfl, ⟨HB9.out.os, HB9.out.tape, HB9.out.output, HB9.out.size, HB9.out.block⟩, .inr ⟨rfl, fun ns hn => ?_⟩⟩
    have := (HRI.out ns hn).2.1
    cases this
end Go.Proofs.YtmjlblbhakppfaaGreatDoor
namespace Go.Proofs.YtmjlblbhakppfaaGreatDoor
open Go.RowKit
set_option linter.unusedSimpArgs false
set_option linter.unusedVariables false

theorem is_one {part : Bool} {s : ByteArray} {l ns : List Nd} (h : IsText part s l) (hn : IsText part s ns) : l = ns := by
  have h1 := spec_reads h.1
  have h2 := spec_reads hn.1
  rw [h.2] at h1
  rw [hn.2, h1] at h2
  exact congrArg Ss.l h2
set_option maxRecDepth 100000 in
theorem s_planRead (s : ByteArray) (w : World) (hm : s.size ≤ maxLen) : Calls Tryz.prog 14 #[.string s] w fun e w' => PrAns false s w w' e := by
  unfold maxLen at hm
  by_cases hs : 8000 < s.size
  · go_enter Tryz.func14, Tryz.ntmps14
    go_wp2_with fail
    refine bodyPost_ret (v := .agg #[.slice none 0 0, .int .i64 2]) (by simp [results, Tryz.results14, go_sem]) rfl ?_
    exact ⟨_, [], 2, rfl, World.ownsRow_nil _ _ _ _, malloc1 _ _, ⟨fun _ => ⟨rfl, rfl⟩, fun h => by omega, fun h => by omega⟩⟩
  · have HR := hide (s_read false s (w.alloc outR) (by omega))
    have HO : Hid (BoxL (w.alloc outR) w.heap.size [.slice none 0 0, .int .i64 0]) := hide (BoxL.new w [.slice none 0 0, .int .i64 0] 28)
    go_enter Tryz.func14, Tryz.ntmps14
    go_wp2_with (first
      | (go_at_call 50; refine HR.out.mono ?_; rintro e w2 ⟨a2, n2, c2, L, q2, rfl, hb2, h2⟩; have HB2 := hide hb2; have HO2 := hide (HO.out.keep (below_apart hb2) (by simp)); have b0 := HO2.out.cell 0 _ rfl; have b1 := HO2.out.cell 1 _ rfl; have bz := HO2.out.fz; clear hb2; rcases h2 with ⟨rfl, h2⟩ | ⟨rfl, h2⟩))
    · refine bodyPost_ret (v := .agg #[.slice a2 n2 c2, .int .i64 0]) (by simp [results, Tryz.results14, go_sem, b0, b1]) rfl ?_
      have hb := HB2.out.size
      have ha := apR w2 w.heap.size (.slice a2 n2 c2) (.int .i64 0)
      refine ⟨_, L, 0, rfl, ?_, setR ((malloc1 _ _).trans (HB2.out.mono (by simp))) _ _, ⟨fun h => by omega, fun _ ns hn => ⟨is_one h2.2 hn, rfl⟩, fun _ hno => absurd h2.2 (hno L)⟩⟩
      refine owns_keep (owns_down h2.1 (by simp)) ha (fun b hb hm => ?_)
      have := (owns_fresh h2.1).lo b hb
      simp at this hm
      omega
    · refine bodyPost_ret (v := .agg #[.slice none 0 0, .int .i64 3]) (by simp [results, Tryz.results14, go_sem, b0, b1]) rfl ?_
      exact ⟨_, [], 3, rfl, World.ownsRow_nil _ _ _ _, setR ((malloc1 _ _).trans (HB2.out.mono (by simp))) _ _, ⟨fun h => by omega, fun _ ns hn => absurd hn (h2 ns), fun _ _ => ⟨rfl, rfl⟩⟩⟩
set_option maxRecDepth 100000 in
theorem s_partRead (s : ByteArray) (w : World) (hm : s.size ≤ maxLen) : Calls Tryz.prog 32 #[.string s] w fun e w' => PrAns true s w w' e := by
  unfold maxLen at hm
  by_cases hs : 8000 < s.size
  · go_enter Tryz.func32, Tryz.ntmps32
    go_wp2_with fail
    refine bodyPost_ret (v := .agg #[.slice none 0 0, .int .i64 2]) (by simp [results, Tryz.results32, go_sem]) rfl ?_
    exact ⟨_, [], 2, rfl, World.ownsRow_nil _ _ _ _, malloc1 _ _, ⟨fun _ => ⟨rfl, rfl⟩, fun h => by omega, fun h => by omega⟩⟩
  · have HR := hide (s_read true s (w.alloc outRP) (by omega))
    have HO : Hid (BoxL (w.alloc outRP) w.heap.size [.slice none 0 0, .int .i64 0]) := hide (BoxL.new w [.slice none 0 0, .int .i64 0] 41)
    go_enter Tryz.func32, Tryz.ntmps32
    go_wp2_with (first
      | (go_at_call 50; refine HR.out.mono ?_; rintro e w2 ⟨a2, n2, c2, L, q2, rfl, hb2, h2⟩; have HB2 := hide hb2; have HO2 := hide (HO.out.keep (below_apart hb2) (by simp)); have b0 := HO2.out.cell 0 _ rfl; have b1 := HO2.out.cell 1 _ rfl; have bz := HO2.out.fz; clear hb2; rcases h2 with ⟨rfl, h2⟩ | ⟨rfl, h2⟩))
    · refine bodyPost_ret (v := .agg #[.slice a2 n2 c2, .int .i64 0]) (by simp [results, Tryz.results32, go_sem, b0, b1]) rfl ?_
      have hb := HB2.out.size
      have ha := apR w2 w.heap.size (.slice a2 n2 c2) (.int .i64 0)
      refine ⟨_, L, 0, rfl, ?_, setR ((malloc1 _ _).trans (HB2.out.mono (by simp))) _ _, ⟨fun h => by omega, fun _ ns hn => ⟨is_one h2.2 hn, rfl⟩, fun _ hno => absurd h2.2 (hno L)⟩⟩
      refine owns_keep (owns_down h2.1 (by simp)) ha (fun b hb hm => ?_)
      have := (owns_fresh h2.1).lo b hb
      simp at this hm
      omega
    · refine bodyPost_ret (v := .agg #[.slice none 0 0, .int .i64 3]) (by simp [results, Tryz.results32, go_sem, b0, b1]) rfl ?_
      exact ⟨_, [], 3, rfl, World.ownsRow_nil _ _ _ _, setR ((malloc1 _ _).trans (HB2.out.mono (by simp))) _ _, ⟨fun h => by omega, fun _ ns hn => absurd hn (h2 ns), fun _ _ => ⟨rfl, rfl⟩⟩⟩
end Go.Proofs.YtmjlblbhakppfaaGreatDoor
namespace Go.Proofs.YtmjlblbhakppfaaGreatDoor
open Go.RowKit
set_option linter.unusedSimpArgs false
set_option linter.unusedVariables false
attribute [local go_sem ↓] Go.wp_at_zero Go.wp_at_succ

def okNs (l : List Nd) : Bool := l.all fun n => noB n.name && noB n.peer
theorem ok_all {l : List Nd} (h : okNs l = true) : ∀ n ∈ l, DrNd n := fun n hn => by
  have := List.all_eq_true.1 h n hn
  rw [Bool.and_eq_true] at this
  exact dr_nd this.1 this.2
set_option maxRecDepth 20000 in
theorem dr_pick {x : ByteArray} (h : x ∈ drSs) : x.size ≤ 8000 ∧ ∃ ns, IsText false x ns ∧ ns.length ≤ 14 ∧ ∀ n ∈ ns, DrNd n := by
  simp only [drSs, List.mem_cons, List.not_mem_nil, or_false] at h
  rcases h with rfl | rfl | rfl | rfl | rfl | rfl | rfl | rfl | rfl
  · exact ⟨by decide, drN0, dr_is0, by decide, ok_all (by decide)⟩
  · exact ⟨by decide, drN1, dr_is1, by decide, ok_all (by decide)⟩
  · exact ⟨by decide, drN2, dr_is2, by decide, ok_all (by decide)⟩
  · exact ⟨by decide, drN3, dr_is3, by decide, ok_all (by decide)⟩
  · exact ⟨by decide, drN4, dr_is4, by decide, ok_all (by decide)⟩
  · exact ⟨by decide, drN5, dr_is5, by decide, ok_all (by decide)⟩
  · exact ⟨by decide, drN6, dr_is6, by decide, ok_all (by decide)⟩
  · exact ⟨by decide, drN7, dr_is7, by decide, ok_all (by decide)⟩
  · exact ⟨by decide, drN8, dr_is8, by decide, ok_all (by decide)⟩
theorem flat_set (u : Value) (n : Nd) (i : Nat) (hi : i < 5) : ∀ (l : List Nd) (k : Nat) (hk : k < l.length), n.cells = (l[k]).cells.set i u → (l.set k n).flatMap Nd.cells = (l.flatMap Nd.cells).set (k * 5 + i) u
  | a :: l, 0, _, h => by
    simp only [List.getElem_cons_zero] at h
    simp only [List.set_cons_zero, List.flatMap_cons, Nat.zero_mul, Nat.zero_add]
    rw [List.set_append_left _ _ (by rw [Nd.cells_len]; exact hi), h]
  | a :: l, k + 1, hk, h => by
    simp only [List.getElem_cons_succ] at h
    simp only [List.set_cons_succ, List.flatMap_cons]
    rw [List.set_append_right _ _ (by rw [Nd.cells_len]; omega), flat_set u n i hi l k (by simpa using hk) h, Nd.cells_len]
    congr 2
    omega
theorem mem_set {l : List Nd} (h : ∀ n ∈ l, DrNd n) (k : Nat) {n : Nd} (hn : DrNd n) : ∀ m ∈ l.set k n, DrNd m := fun m hm => by
  rcases List.mem_or_eq_of_mem_set hm with hm | rfl
  · exact h m hm
  · exact hn
theorem MdAt.lo {w wr : World} {sb : Nat} {ao : Option Addr} {len cap g n c : Nat} {l : List Nd} (h : MdAt w wr sb ao len cap (.slice (some ⟨g, 0, none⟩) n c) l) : w.heap.size ≤ g := (owns_fresh h.own).lo g (by simp [vblocks, cellBlocks])
theorem MdAt.caps {w wr : World} {sb : Nat} {ao : Option Addr} {len cap g c : Nat} {l : List Nd} (h : MdAt w wr sb ao len cap (.slice (some ⟨g, 0, none⟩) l.length c) l) : l.length ≤ c := by
  rcases h.own.2 with ⟨h', _⟩ | ⟨g', cap', cur, h', h1, h2, h3, _⟩
  · simp at h'
  · injection h' with e1 _ e3
    omega
theorem MdAt.put {w wr : World} {sb : Nat} {ao : Option Addr} {len cap g c : Nat} {l : List Nd} (h : MdAt w wr sb ao len cap (.slice (some ⟨g, 0, none⟩) l.length c) l) (hsb : sb < w.heap.size) (k i j : Nat) (hk : k < l.length) (hi : i < 5) (hj : j = k * 5 + i) (n : Nd) (u : Value) (hn : n.cells = (l[k]).cells.set i u) (hd : DrNd n) : MdAt w (wr.setCell ⟨g, j, none⟩ u) sb ao len cap (.slice (some ⟨g, 0, none⟩) l.length c) (l.set k n) := by
  subst hj
  have hlo := h.lo
  refine ⟨?_, mem_set h.ok k hd, h.src.apart (setCell_apart wr g (k * 5 + i) u) (fun b hb => by simp at hb; omega), h.ap.new (setCell_apart wr g (k * 5 + i) u) (fun b hb => by simp at hb; omega)⟩
  unfold NdOwn
  rw [List.length_set, flat_set u n i hi l k hk hn]
  exact (World.ownsRow.stored h.own _ u).1
theorem MdAt.cut {w wr : World} {sb : Nat} {ao : Option Addr} {len cap g c : Nat} {l : List Nd} (h : MdAt w wr sb ao len cap (.slice (some ⟨g, 0, none⟩) l.length c) l) (k : Nat) (hk : k ≤ l.length) : MdAt w wr sb ao len cap (.slice (some ⟨g, 0, none⟩) k c) (l.take k) := by
  refine ⟨?_, fun n hn => h.ok n (List.mem_of_mem_take hn), h.src, h.ap⟩
  have hl : (l.take k).length = k := by rw [List.length_take]; omega
  have hz : ∀ l : List Nd, (l.flatMap Nd.cells).length = l.length * 5 := fun l => by
    induction l with
    | nil => rfl
    | cons a l ih => rw [List.flatMap_cons, List.length_append, ih, Nd.cells_len, List.length_cons]; omega
  have ht : (l.flatMap Nd.cells).take (k * 5) = (l.take k).flatMap Nd.cells := by
    conv => lhs; rw [← List.take_append_drop k l, List.flatMap_append]
    rw [List.take_append_of_le_length (by rw [hz, hl]; exact Nat.le_refl _), List.take_of_length_le (by rw [hz, hl]; exact Nat.le_refl _)]
  unfold NdOwn
  rw [hl]
  refine ⟨by rw [hz, hl], ?_⟩
  rcases h.own.2 with ⟨h', _⟩ | ⟨g', cap', cur, h', h1, h2, h3, h4, h5, h6⟩
  · simp at h'
  · injection h' with e1 _ e3
    injection e1 with e1
    injection e1 with e1
    subst e1 e3
    refine .inr ⟨g, c, cur, rfl, h1, h2, Nat.le_trans hk h3, h4, h5, ?_⟩
    rw [← ht, ← h6, List.take_take, Nat.min_eq_left (Nat.mul_le_mul_right 5 hk)]
theorem MdAt.up {w w4 w5 : World} {sb : Nat} {ao : Option Addr} {len cap : Nat} {v : Value} {l : List Nd} (h : MdAt w4 w5 sb ao len cap v l) (hA : Apart w w4 [sb]) : MdAt w w5 sb ao len cap v l :=
  ⟨owns_down h.own hA.size, h.ok, h.src, (hA.trans h.ap).sub (by simp)⟩
theorem MdAt.cells {w wr : World} {sb : Nat} {ao : Option Addr} {len cap g c : Nat} {l : List Nd} (h : MdAt w wr sb ao len cap (.slice (some ⟨g, 0, none⟩) l.length c) l) (k : Nat) (hk : k < l.length) : (wr.cell? ⟨g, k * 5, none⟩ = some (.int .i64 l[k].op) ∧ wr.cell? ⟨g, k * 5 + 1, none⟩ = some (.string l[k].name) ∧ wr.cell? ⟨g, k * 5 + 3, none⟩ = some (.int .i64 l[k].many) ∧ wr.cell? ⟨g, k * 5 + 4, none⟩ = some (.int .i64 l[k].sort)) ∧ ∀ j, wr.frozen? ⟨g, j, none⟩ = false := by
  have hc : ∀ i (hi : i < 5) (u : Value), l[k].cells[i]? = some u → wr.cell? ⟨g, k * 5 + i, none⟩ = some u := fun i hi u hu => owns_cell h.own rfl _ _ ((flat_get Nd.cells 5 Nd.cells_len l k hk i hi).trans hu)
  exact ⟨⟨hc 0 (by omega) _ rfl, hc 1 (by omega) _ rfl, hc 3 (by omega) _ rfl, hc 4 (by omega) _ rfl⟩, fun j => (owns_fresh h.own).free g (by simp [vblocks, cellBlocks]) j⟩
theorem md_read {w w2 w3 : World} {sb : Nat} {ao : Option Addr} {len cap : Nat} {v : Value} {ns : List Nd} {C : Int} {x : ByteArray} (hA : Apart w w2 [sb]) (hs : Src w2 sb ao len cap) (hx : x ∈ drSs) (how : NdOwn w3 w2.heap.size v ns) (hb : Below w2.heap.size w2 w3) (hr : RdAns false x ns C) : MdAt w w3 sb ao len cap v ns ∧ ns.length ≤ 14 := by
  obtain ⟨h8, ns', h1, h2, h3⟩ := dr_pick hx
  obtain ⟨rfl, -⟩ := hr.good h8 ns' h1
  exact ⟨⟨owns_down how hA.size, h3, hs.apart (below_apart hb) (by simp), hA.then hb⟩, h2⟩
def PdAns (w w' : World) (e : Ending) (sb : Nat) (ao : Option Addr) (len cap : Nat) : Prop := ∃ v l, e = .returned v ∧ l.length ≤ 14 ∧ MdAt w w' sb ao len cap v l
def pnT : List ByteArray := [⟨#[]⟩, ⟨#[97]⟩, ⟨#[120]⟩, ⟨#[101, 110, 100]⟩, ⟨#[108]⟩]
def pnO : Obj := .cells #[.string ⟨#[]⟩, .string ⟨#[97]⟩, .string ⟨#[120]⟩, .string ⟨#[101, 110, 100]⟩, .string ⟨#[108]⟩] 9
theorem pn_at (W : World) : TextsAt (W.alloc pnO) (.slice (some ⟨W.heap.size, 0, none⟩) 5 5) pnT :=
  texts_own (ls := pnT) (World.ownsRow_lit (e := 9) (size := 1) (base := W.heap.size) W (pnT.map Value.string).toArray 5 (Nat.le_refl _) (by simp [maxLen]) rfl) (by simp [pnT])
theorem pn_no {x : ByteArray} (h : x ∈ pnT) : noB x = true := by
  simp only [pnT, List.mem_cons, List.not_mem_nil, or_false] at h
  rcases h with rfl | rfl | rfl | rfl | rfl <;> decide
theorem field_plan (p : Option Addr) (n c : Nat) (C : Int) (W : World) : Sem.run Tryz.prog (Instr.field 28 (.agg #[.slice p n c, .int .i64 C]) 0) W = .ok (.slice p n c) W := by kernel_rfl
set_option maxRecDepth 100000 in
set_option maxHeartbeats 4000000 in
theorem plan_any (sb : Nat) (ao : Option Addr) (len cap : Nat) (w : World) (hl : len ≤ 1048576) (h : Src w sb ao len cap) :
    Calls Tryz.prog 37 #[.pointer (some ⟨sb, 0, none⟩)] w fun e w' => PdAns w w' e sb ao len cap := by
  have hsb := h.lt
  have HH := hide h
  have HO : Hid (∀ (m : Int) w1, 1 < m → m ≤ 100 → Src w1 sb ao len cap → Calls Tryz.prog 55 #[.pointer (some ⟨sb, 0, none⟩), .int .i64 m] w1 fun e w' => ∃ b : Bool, e = .returned (.bool b) ∧ Src w' sb ao len cap ∧ w1.grownBy w' (some sb)) := hide (fun m w1 h1 h2 hs => n_one sb ao len cap m w1 h1 (by omega) hl hs)
  have HN : Hid (∀ (m : Int) w1, 1 ≤ m → m ≤ 100 → Src w1 sb ao len cap → Calls Tryz.prog 39 #[.pointer (some ⟨sb, 0, none⟩), .int .i64 m] w1 fun e w' => ∃ r : Int, e = .returned (.int .i64 r) ∧ 0 ≤ r ∧ r < m ∧ Src w' sb ao len cap ∧ w1.grownBy w' (some sb)) := hide (fun m w1 h1 h2 hs => n_pos sb ao len cap m w1 h1 (by omega) hl hs)
  have HT := hide (s_l02Texts w)
  clear h
  go_enter Tryz.func37, Tryz.ntmps37
  go_upto_if 11 with (first
    | (go_at_call 64; refine HT.out.mono ?_; rintro e w1 ⟨v1, rfl, how, hb⟩; obtain ⟨p1, c1, rfl⟩ := owns_shape how; have HW1 := hide how; have HB1 := hide hb; have HS1 := hide (HH.out.apart (below_apart hb) (by simp)); clear how hb HH HT)
    | (go_at_call 41; refine (pick_any sb ao len cap drSs _ w1 hl (by simp [drSs]) (by simp [drSs]) (texts_own (ls := drSs) HW1.out (by simp [drSs])) (fun hm => by have := (owns_fresh HW1.out).lo _ hm; omega) HS1.out).mono ?_; rintro e w2 ⟨x, hx, rfl, hs, hg⟩; have HX := hide hx; have HS2 := hide hs; have HA2 := hide (((below_apart HB1.out).trans (Apart.grown hg)).sub (l' := [sb]) (by simp)); clear hx hs hg HW1 HB1 HS1)
    | (go_at_call 14; refine (s_planRead x w2 (Nat.le_trans (dr_pick HX.out).1 (by unfold maxLen; omega))).mono ?_; rintro e w3 ⟨v3, ns, C, rfl, how3, hb3, hr3⟩; have HM3 := hide (md_read HA2.out HS2.out HX.out how3 hb3 hr3); obtain ⟨p3, c3, rfl⟩ := owns_shape how3; have hfl := field_plan p3 ns.length c3 C; clear how3 hb3 hr3 HX HS2 HA2)
    | (go_at_call 55; refine (HO.out 3 _ (by omega) (by omega) HM3.out.1.src).mono ?_; rintro e w4 ⟨b4, rfl, hs, hg⟩; have HM4 := hide (HM3.out.1.drawn hsb hs hg); clear hs hg))
  go_cut [3] (fun lv wx => ∃ l : List Nd, l.length ≤ 14 ∧ MdAt w wx sb ao len cap lv l)
  case first =>
    cases b4
    · go_wp2_with fail
      go_meet
      exact ⟨ns, HM3.out.2, HM4.out⟩
    · go_wp2_with (go_at_call 65; refine (made_any sb ao len cap w4 hl HM4.out.src).mono ?_; rintro e w5 ⟨v5, l5, rfl, hl5, hm5⟩; have HM5 := hide (hm5.up HM4.out.ap); obtain ⟨p5, c5, rfl⟩ := owns_shape hm5.own; clear hm5)
      go_meet
      exact ⟨l5, by omega, HM5.out⟩
  case rest =>
    obtain ⟨l, hl14, hm0⟩ := hcut
    clear HM3 HM4
    have HM := hide hm0
    by_cases hne : l.length = 0
    · obtain rfl : l = [] := List.length_eq_zero_iff.1 hne
      obtain ⟨p, c, rfl⟩ := owns_shape hm0.own
      clear hm0
      go_wp2_with (first
        | (go_at_call 55; refine (HO.out 12 _ (by omega) (by omega) HM.out.src).mono ?_; rintro e w6 ⟨b6, rfl, hs, hg⟩; have HM6 := hide (HM.out.drawn hsb hs hg); clear hs hg; cases b6))
      all_goals
        go_ret
        exact ⟨_, _, rfl, by simp, HM6.out⟩
    · obtain ⟨g, c, rfl, -⟩ := hm0.own.at_ (by omega)
      have hlc := hm0.caps
      clear hm0
      go_wp2_with (first
        | (go_at_call 55; refine (HO.out 12 _ (by omega) (by omega) HM.out.src).mono ?_; rintro e w6 ⟨b6, rfl, hs, hg⟩; have HM6 := hide (HM.out.drawn hsb hs hg); clear hs hg; cases b6)
        | (go_at_call 39; (fail_if_success (have := HM7)); refine (HN.out (l.length : Int) _ (by omega) (by omega) HM6.out.src).mono ?_; rintro e w7 ⟨r7, rfl, h70, h71, hs, hg⟩; have HM7 := hide (HM6.out.drawn hsb hs hg); obtain ⟨k, rfl⟩ : ∃ k : Nat, r7 = (k : Int) := ⟨r7.toNat, by omega⟩; have hk : k < l.length := (by omega); have hkc : k ≤ c := (by omega); clear hs hg h70)
        | (go_at_call 39; have MK7 := HM7; (fail_if_success (have := HM8)); refine (HN.out 5 _ (by omega) (by omega) HM7.out.src).mono ?_; rintro e w8 ⟨r8, rfl, h80, h81, hs, hg⟩; have HM8 := hide (HM7.out.drawn hsb hs hg); clear hs hg; obtain rfl | rfl | rfl | rfl | rfl : r8 = 0 ∨ r8 = 1 ∨ r8 = 2 ∨ r8 = 3 ∨ r8 = 4 := (by omega))
        | (go_at_call 39; have MK8 := HM8; refine Calls.mono (HN.out _ _ (by omega) (by omega) HM8.out.src) ?_; rintro e w9 ⟨r9, rfl, h90, h91, hs, hg⟩; have HM9 := hide (HM8.out.drawn hsb hs hg); obtain ⟨⟨d0, d1, d3, d4⟩, df⟩ := HM9.out.cells k hk; clear hs hg)
        | (go_at_call 41; have MK8 := HM8; refine (pick_any sb ao len cap pnT (.slice (some ⟨w8.heap.size, 0, none⟩) 5 5) (w8.alloc pnO) hl (by simp [pnT]) (by simp [pnT]) (pn_at w8) (by have := HM8.out.ap.size; simp [vblocks, cellBlocks]; omega) (HM8.out.below (malloc1 _ _)).src).mono ?_; rintro e w9 ⟨xp, hxp, rfl, hs, hg⟩; have HM9 := hide ((HM8.out.below (malloc1 _ pnO)).drawn hsb hs hg); have HXP := hide (pn_no hxp); obtain ⟨⟨d0, d1, d3, d4⟩, df⟩ := HM9.out.cells k hk; clear hs hg hxp))
      · go_ret
        exact ⟨_, _, rfl, hl14, HM6.out⟩
      · go_ret
        have hd := HM9.out.ok _ (List.getElem_mem hk)
        exact ⟨_, l.set k { l[k] with op := r9 }, rfl, by rw [List.length_set]; exact hl14, HM9.out.put hsb k 0 _ hk (by omega) (by omega) _ _ rfl ⟨hd.n1, hd.n2, hd.n3, hd.n4⟩⟩
      · go_ret
        have hd := HM9.out.ok _ (List.getElem_mem hk)
        exact ⟨_, l.set k { l[k] with many := r9 }, rfl, by rw [List.length_set]; exact hl14, HM9.out.put hsb k 3 _ hk (by omega) (by omega) _ _ rfl ⟨hd.n1, hd.n2, hd.n3, hd.n4⟩⟩
      · go_ret
        have hd := HM9.out.ok _ (List.getElem_mem hk)
        exact ⟨_, l.set k { l[k] with name := xp }, rfl, by rw [List.length_set]; exact hl14, HM9.out.put hsb k 1 _ hk (by omega) (by omega) _ _ rfl ⟨(noB_ne HXP.out).1, hd.n2, (noB_ne HXP.out).2, hd.n4⟩⟩
      · go_ret
        have hd := HM9.out.ok _ (List.getElem_mem hk)
        exact ⟨_, l.set k { l[k] with sort := r9 - 1 }, rfl, by rw [List.length_set]; exact hl14, HM9.out.put hsb k 4 _ hk (by omega) (by omega) _ _ rfl ⟨hd.n1, hd.n2, hd.n3, hd.n4⟩⟩
      · go_ret
        exact ⟨_, _, rfl, by rw [List.length_take]; omega, HM8.out.cut k (by omega)⟩
end Go.Proofs.YtmjlblbhakppfaaGreatDoor
namespace Go.Proofs.YtmjlblbhakppfaaGreatDoor
open Go.RowKit
attribute [local go_sem ↓] Go.wp_at_zero Go.wp_at_succ

structure RoundD (w wr : World) (mid : List Nd) (nv : Value) (k : Nat) (ns : List ByteArray) : Prop where
  same : closedL ns (mid.drop k) = closedL [] mid
  own : wr.ownsRow w.heap.size 9 1 nv ns.length (ns.map Value.string)
  len : ns.length ≤ k
  bel : Below w.heap.size w wr
set_option maxRecDepth 100000 in
set_option maxHeartbeats 2000000 in
theorem s_closed (all mid post : List Nd) (pos : Nat) (v : Value) (w : World) (S : Nat → Prop) (hS : ∀ g, S g → g < w.heap.size) (hl : all.length ≤ 1000) (hpl : pos ≤ 1000) (h : all.drop pos = mid ++ post) (hv : RdW w S v all) :
    Calls Tryz.prog 93 #[v, .int .i64 pos, .int .i64 ((pos + mid.length : Nat) : Int)] w fun e w' => e = .returned (.bool (closedL [] mid)) ∧ Below w.heap.size w w' := by
  obtain ⟨i0, hi, hz0, hz1, hz2⟩ := info_parts Tryz.infoStrR
  have HI := hide (And.intro hi (And.intro hz0 (And.intro hz1 hz2)))
  obtain ⟨ao, cap, rfl, hc, hm, -, hrow⟩ := hv
  have HR := hide hrow
  have HH := hide h
  have HS := hide hS
  have hlm : mid.length ≤ 1000 := by have := congrArg List.length h; rw [List.length_drop, List.length_append] at this; omega
  obtain ⟨M, hM⟩ : ∃ M, mid.length = M := ⟨_, rfl⟩
  obtain ⟨L, hL⟩ : ∃ L, all.length = L := ⟨_, rfl⟩
  rw [hM] at hlm ⊢
  obtain ⟨T, hT⟩ : ∃ T, pos + M = T := ⟨_, rfl⟩
  rw [hT]
  rw [hL] at hl hc ⊢
  have HM := hide hM
  have HL := hide hL
  clear hrow h hS hM hL hi hz0 hz1 hz2
  go_enter Tryz.func93, Tryz.ntmps93
  go_wp2_with fail
  go_loopw [7, 8] (fun nv i wr => ∃ (k : Nat) (ns : List ByteArray), k ≤ M ∧ i = .int .i64 ((pos + k : Nat) : Int) ∧ RoundD w wr mid nv k ns) (fun _ i _ => pos + M - (intOf i).toNat)
  case atStart => exact ⟨0, [], Nat.zero_le _, rfl, ⟨rfl, owns_empty _ _ _ _ _ (Nat.le_refl _) (mheap_new _ _ _ rfl), Nat.le_refl _, malloc1 _ _⟩⟩
  case round =>
    obtain ⟨k, ns, hk, rfl, hR⟩ := hrel
    have HRR := hide hR
    have hzw := hR.bel.size
    have hnl := hR.len
    obtain ⟨np, nc, hnv⟩ := owns_shape hR.own
    obtain ⟨Q, hQ⟩ : ∃ Q, ns.length = Q := ⟨_, rfl⟩
    rw [hQ] at hnv hnl
    have HQ := hide hQ
    subst hnv
    by_cases hlt : k < M
    · have hkm : k < mid.length := by rw [HM.out]; exact hlt
      obtain ⟨hpk, hget⟩ := mid_get HH.out hkm
      obtain ⟨g, o, rfl, hg, hrow⟩ := HR.out (fun e => by rw [e] at hpk; simp at hpk)
      have hgw := HS.out g hg
      have hnode := (hrow.get (pos + k) hpk).carry hgw hR.bel
      rw [hget] at hnode
      have HST : Hid (∀ x, mid[k] = x → closedL [] mid = if x.op == 2 then closedL (ns ++ [x.name]) (mid.drop (k + 1)) else if x.op == 1 && !hasB ns x.name then false else closedL ns (mid.drop (k + 1))) := hide (fun x hx => by
        rw [← hR.same, List.drop_eq_getElem_cons hkm, hx, closedL])
      obtain ⟨x, hx⟩ : ∃ x, mid[k] = x := ⟨_, rfl⟩
      rw [hx] at hnode
      have HS1 := hide (HST.out x hx)
      have HOWN : Hid (wr.ownsRow w.heap.size 9 1 (.slice np Q nc) Q (ns.map Value.string)) := hide (by have := hR.own; rw [HQ.out] at this; exact this)
      obtain ⟨op, name, peer, many, sort⟩ := x
      obtain ⟨c0, c1, c2, c3, c4⟩ := hnode
      dsimp only at c0 c1 c2 c3 c4
      rw [HL.out] at hpk
      have hbw : g < wr.heap.size := Nat.lt_of_lt_of_le hgw hzw
      clear hrow hget hx hR hQ HST
      by_cases h2 : op = 2
      · subst h2
        go_wp2_with (at_builtin; refine wpList_append_own _ rfl (.tmp 22) (.tmp 28) 30 rfl w.heap.size 9 i0 (.string ByteArray.empty) 1 16 Tryz.underlying30 HI.out.1 HI.out.2.1 HI.out.2.2.1 HI.out.2.2.2 rfl (by decide) (.slice np Q nc) Q (ns.map Value.string) rfl (owns_below HOWN.out (malloc1 wr _)) ⟨wr.heap.size, 0, none⟩ 1 1 [.string name] rfl rfl (fun j u hj => new_rowq _ _ _ _ (by simp) j u hj) (by intro u hu; simp at hu; subst hu; rfl) (by unfold maxLen; omega) (by omega) (by simp; omega) ?_; intro v4 w4 hown4 hgr4 _; have HO4 := hide hown4; have HA4 : Hid (Apart wr w4 (vblocks (.slice np Q nc))) := hide (by have := (below_apart (malloc1 wr _)).trans (grownBy_apart hgr4); rwa [List.nil_append] at this); have d0 : w4.cell? ⟨g, o + (pos + k) * 5, none⟩ = some (.int .i64 2) := HA4.out.cell' c0 (fun hm => absurd ((owns_fresh HOWN.out).lo _ hm) (by omega)); obtain ⟨p4, c4', rfl⟩ := owns_shape hown4; clear hown4 hgr4)
        go_roundw
        case rel =>
          refine ⟨k + 1, ns ++ [name], hlt, by go_num, ⟨?_, ?_, by rw [List.length_append, HQ.out]; simp; omega, HRR.out.bel.trans (HA4.out.below hzw (owns_fresh HOWN.out).lo)⟩⟩
          · rw [HS1.out]; rfl
          · rw [List.length_append, List.length_singleton, HQ.out, List.map_append]
            exact HO4.out
        case measure => simp [intOf]; omega
      · have e2 : (op == 2) = false := by simpa using h2
        by_cases h1 : op = 1
        · subst h1
          obtain ⟨q, hq⟩ : ∃ q, hasB ns name = q := ⟨_, rfl⟩
          have HQQ := hide hq
          have HCO : Hid (∀ W, Below wr.heap.size wr W → Calls Tryz.prog 53 #[.slice np Q nc, .string name] W fun e w' => e = .returned (.bool q) ∧ w' = W) := hide (fun W hW => by
            have := s_among ns name (.slice np Q nc) W (texts_own (base := w.heap.size) (e := 9) (by rw [HQ.out]; exact owns_below HOWN.out hW) (by rw [HQ.out]; omega))
            rw [hq] at this
            exact this)
          clear hq
          cases q
          · go_wp2_with (go_at_call 53; refine (HCO.out _ (Below.refl _ _)).mono ?_; rintro e w' ⟨rfl, hw'⟩; subst w')
            go_ret
            refine ⟨ret_bool ?_, HRR.out.bel⟩
            rw [HS1.out]
            simp [HQQ.out]
          · go_wp2_with (go_at_call 53; refine (HCO.out _ (Below.refl _ _)).mono ?_; rintro e w' ⟨rfl, hw'⟩; subst w')
            go_roundw
            case rel =>
              refine ⟨k + 1, ns, hlt, by go_num, ⟨?_, by rw [HQ.out]; exact HOWN.out, by rw [HQ.out]; omega, HRR.out.bel⟩⟩
              rw [HS1.out]
              simp [HQQ.out]
            case measure => simp [intOf]; omega
        · have e1 : (op == 1) = false := by simpa using h1
          go_wp2_with fail
          go_roundw
          case rel =>
            refine ⟨k + 1, ns, hlt, by go_num, ⟨?_, by rw [HQ.out]; exact HOWN.out, by rw [HQ.out]; omega, HRR.out.bel⟩⟩
            rw [HS1.out]
            simp [e1, e2]
          case measure => simp [intOf]; omega
    · have HT : Hid (closedL [] mid = true) := hide (by rw [← HRR.out.same, List.drop_of_length_le (by rw [HM.out]; omega), closedL])
      go_wp2_with fail
      go_ret
      exact ⟨ret_bool HT.out, HRR.out.bel⟩
end Go.Proofs.YtmjlblbhakppfaaGreatDoor
namespace Go.Proofs.YtmjlblbhakppfaaGreatDoor
open Go.RowKit

theorem rd_ex (part : Bool) (s : ByteArray) : ∃ T C, T.length ≤ 40 ∧ ∀ T' C', RdAns part s T' C' → T = T' ∧ C = C' := by
  by_cases hs : 8000 < s.size
  · exact ⟨[], 2, by simp, fun T' C' h => ⟨(h.big hs).1.symm, (h.big hs).2.symm⟩⟩
  · by_cases he : ∃ ns, IsText part s ns
    · obtain ⟨ns, hn⟩ := he
      exact ⟨ns, 0, (right_ahead hn.1).2, fun T' C' h => ⟨(h.good (by omega) ns hn).1.symm, (h.good (by omega) ns hn).2.symm⟩⟩
    · exact ⟨[], 3, by simp, fun T' C' h => ⟨(h.bad (by omega) (fun ns hn => he ⟨ns, hn⟩)).1.symm, (h.bad (by omega) (fun ns hn => he ⟨ns, hn⟩)).2.symm⟩⟩
end Go.Proofs.YtmjlblbhakppfaaGreatDoor
