import Derived.Test.YtlbcnmcfljaijaaQF05
import Derived.Test.YtlbcnmcfljaijaaQF06
import Derived.Test.YtlbcnmcfljaijaaQF36
import Derived.Test.YtlbcnmcfljaijaaQF40
import Derived.Test.YtlbcnmcfljaijaaQF03
namespace Go.Proofs.Ytlbcnmcfljaijaa
open Go.RowKit
set_option linter.unusedSimpArgs false
set_option linter.unusedVariables false
attribute [local go_sem ↓] Go.wp_at_zero Go.wp_at_succ

def okNs (l : List Nd) : Bool := l.all fun n => noB n.name && noB n.peer
theorem ok_all {l : List Nd} (h : okNs l = true) : ∀ n ∈ l, DrNd n := fun n hn => by
  have := List.all_eq_true.1 h n hn
  rw [Bool.and_eq_true] at this
  exact dr_nd this.1 this.2
set_option maxRecDepth 20000 in
theorem dr_pick {x : ByteArray} (h : x ∈ drSs) : x.size ≤ 8000 ∧ ∃ ns, IsText false x ns ∧ ns.length ≤ 14 ∧ ∀ n ∈ ns, DrNd n := by
  simp only [drSs, List.mem_cons, List.not_mem_nil, or_false] at h
  rcases h with rfl | rfl | rfl | rfl | rfl | rfl | rfl | rfl | rfl
  · exact ⟨by decide, drN0, dr_is0, by decide, ok_all (by decide)⟩
  · exact ⟨by decide, drN1, dr_is1, by decide, ok_all (by decide)⟩
  · exact ⟨by decide, drN2, dr_is2, by decide, ok_all (by decide)⟩
  · exact ⟨by decide, drN3, dr_is3, by decide, ok_all (by decide)⟩
  · exact ⟨by decide, drN4, dr_is4, by decide, ok_all (by decide)⟩
  · exact ⟨by decide, drN5, dr_is5, by decide, ok_all (by decide)⟩
  · exact ⟨by decide, drN6, dr_is6, by decide, ok_all (by decide)⟩
  · exact ⟨by decide, drN7, dr_is7, by decide, ok_all (by decide)⟩
  · exact ⟨by decide, drN8, dr_is8, by decide, ok_all (by decide)⟩
theorem flat_set (u : Value) (n : Nd) (i : Nat) (hi : i < 5) : ∀ (l : List Nd) (k : Nat) (hk : k < l.length), n.cells = (l[k]).cells.set i u → (l.set k n).flatMap Nd.cells = (l.flatMap Nd.cells).set (k * 5 + i) u
  | a :: l, 0, _, h => by
    simp only [List.getElem_cons_zero] at h
    simp only [List.set_cons_zero, List.flatMap_cons, Nat.zero_mul, Nat.zero_add]
    rw [List.set_append_left _ _ (by rw [Nd.cells_len]; exact hi), h]
  | a :: l, k + 1, hk, h => by
    simp only [List.getElem_cons_succ] at h
    simp only [List.set_cons_succ, List.flatMap_cons]
    rw [List.set_append_right _ _ (by rw [Nd.cells_len]; omega), flat_set u n i hi l k (by simpa using hk) h, Nd.cells_len]
    congr 2
    omega
theorem mem_set {l : List Nd} (h : ∀ n ∈ l, DrNd n) (k : Nat) {n : Nd} (hn : DrNd n) : ∀ m ∈ l.set k n, DrNd m := fun m hm => by
  rcases List.mem_or_eq_of_mem_set hm with hm | rfl
  · exact h m hm
  · exact hn
theorem MdAt.lo {w wr : World} {sb : Nat} {ao : Option Addr} {len cap g n c : Nat} {l : List Nd} (h : MdAt w wr sb ao len cap (.slice (some ⟨g, 0, none⟩) n c) l) : w.heap.size ≤ g := (owns_fresh h.own).lo g (by simp [vblocks, cellBlocks])
theorem MdAt.caps {w wr : World} {sb : Nat} {ao : Option Addr} {len cap g c : Nat} {l : List Nd} (h : MdAt w wr sb ao len cap (.slice (some ⟨g, 0, none⟩) l.length c) l) : l.length ≤ c := by
  rcases h.own.2 with ⟨h', _⟩ | ⟨g', cap', cur, h', h1, h2, h3, _⟩
  · simp at h'
  · injection h' with e1 _ e3
    omega
theorem MdAt.put {w wr : World} {sb : Nat} {ao : Option Addr} {len cap g c : Nat} {l : List Nd} (h : MdAt w wr sb ao len cap (.slice (some ⟨g, 0, none⟩) l.length c) l) (hsb : sb < w.heap.size) (k i j : Nat) (hk : k < l.length) (hi : i < 5) (hj : j = k * 5 + i) (n : Nd) (u : Value) (hn : n.cells = (l[k]).cells.set i u) (hd : DrNd n) : MdAt w (wr.setCell ⟨g, j, none⟩ u) sb ao len cap (.slice (some ⟨g, 0, none⟩) l.length c) (l.set k n) := by
  subst hj
  have hlo := h.lo
  refine ⟨?_, mem_set h.ok k hd, h.src.apart (setCell_apart wr g (k * 5 + i) u) (fun b hb => by simp at hb; omega), h.ap.new (setCell_apart wr g (k * 5 + i) u) (fun b hb => by simp at hb; omega)⟩
  unfold NdOwn
  rw [List.length_set, flat_set u n i hi l k hk hn]
  exact (World.ownsRow.stored h.own _ u).1
theorem MdAt.cut {w wr : World} {sb : Nat} {ao : Option Addr} {len cap g c : Nat} {l : List Nd} (h : MdAt w wr sb ao len cap (.slice (some ⟨g, 0, none⟩) l.length c) l) (k : Nat) (hk : k ≤ l.length) : MdAt w wr sb ao len cap (.slice (some ⟨g, 0, none⟩) k c) (l.take k) := by
  refine ⟨?_, fun n hn => h.ok n (List.mem_of_mem_take hn), h.src, h.ap⟩
  have hl : (l.take k).length = k := by rw [List.length_take]; omega
  have hz : ∀ l : List Nd, (l.flatMap Nd.cells).length = l.length * 5 := fun l => by
    induction l with
    | nil => rfl
    | cons a l ih => rw [List.flatMap_cons, List.length_append, ih, Nd.cells_len, List.length_cons]; omega
  have ht : (l.flatMap Nd.cells).take (k * 5) = (l.take k).flatMap Nd.cells := by
    conv => lhs; rw [← List.take_append_drop k l, List.flatMap_append]
    rw [List.take_append_of_le_length (by rw [hz, hl]; exact Nat.le_refl _), List.take_of_length_le (by rw [hz, hl]; exact Nat.le_refl _)]
  unfold NdOwn
  rw [hl]
  refine ⟨by rw [hz, hl], ?_⟩
  rcases h.own.2 with ⟨h', _⟩ | ⟨g', cap', cur, h', h1, h2, h3, h4, h5, h6⟩
  · simp at h'
  · injection h' with e1 _ e3
    injection e1 with e1
    injection e1 with e1
    subst e1 e3
    refine .inr ⟨g, c, cur, rfl, h1, h2, Nat.le_trans hk h3, h4, h5, ?_⟩
    rw [← ht, ← h6, List.take_take, Nat.min_eq_left (Nat.mul_le_mul_right 5 hk)]
theorem MdAt.up {w w4 w5 : World} {sb : Nat} {ao : Option Addr} {len cap : Nat} {v : Value} {l : List Nd} (h : MdAt w4 w5 sb ao len cap v l) (hA : Apart w w4 [sb]) : MdAt w w5 sb ao len cap v l :=
  ⟨owns_down h.own hA.size, h.ok, h.src, (hA.trans h.ap).sub (by simp)⟩
theorem MdAt.cells {w wr : World} {sb : Nat} {ao : Option Addr} {len cap g c : Nat} {l : List Nd} (h : MdAt w wr sb ao len cap (.slice (some ⟨g, 0, none⟩) l.length c) l) (k : Nat) (hk : k < l.length) : (wr.cell? ⟨g, k * 5, none⟩ = some (.int .i64 l[k].op) ∧ wr.cell? ⟨g, k * 5 + 1, none⟩ = some (.string l[k].name) ∧ wr.cell? ⟨g, k * 5 + 3, none⟩ = some (.int .i64 l[k].many) ∧ wr.cell? ⟨g, k * 5 + 4, none⟩ = some (.int .i64 l[k].sort)) ∧ ∀ j, wr.frozen? ⟨g, j, none⟩ = false := by
  have hc : ∀ i (hi : i < 5) (u : Value), l[k].cells[i]? = some u → wr.cell? ⟨g, k * 5 + i, none⟩ = some u := fun i hi u hu => owns_cell h.own rfl _ _ ((flat_get Nd.cells 5 Nd.cells_len l k hk i hi).trans hu)
  exact ⟨⟨hc 0 (by omega) _ rfl, hc 1 (by omega) _ rfl, hc 3 (by omega) _ rfl, hc 4 (by omega) _ rfl⟩, fun j => (owns_fresh h.own).free g (by simp [vblocks, cellBlocks]) j⟩
theorem md_read {w w2 w3 : World} {sb : Nat} {ao : Option Addr} {len cap : Nat} {v : Value} {ns : List Nd} {C : Int} {x : ByteArray} (hA : Apart w w2 [sb]) (hs : Src w2 sb ao len cap) (hx : x ∈ drSs) (how : NdOwn w3 w2.heap.size v ns) (hb : Below w2.heap.size w2 w3) (hr : RdAns false x ns C) : MdAt w w3 sb ao len cap v ns ∧ ns.length ≤ 14 := by
  obtain ⟨h8, ns', h1, h2, h3⟩ := dr_pick hx
  obtain ⟨rfl, -⟩ := hr.good h8 ns' h1
  exact ⟨⟨owns_down how hA.size, h3, hs.apart (below_apart hb) (by simp), hA.then hb⟩, h2⟩
def PdAns (w w' : World) (e : Ending) (sb : Nat) (ao : Option Addr) (len cap : Nat) : Prop := ∃ v l, e = .returned v ∧ l.length ≤ 14 ∧ MdAt w w' sb ao len cap v l
def pnT : List ByteArray := [⟨#[]⟩, ⟨#[97]⟩, ⟨#[120]⟩, ⟨#[101, 110, 100]⟩, ⟨#[108]⟩]
def pnO : Obj := .cells #[.string ⟨#[]⟩, .string ⟨#[97]⟩, .string ⟨#[120]⟩, .string ⟨#[101, 110, 100]⟩, .string ⟨#[108]⟩] 9
theorem pn_at (W : World) : TextsAt (W.alloc pnO) (.slice (some ⟨W.heap.size, 0, none⟩) 5 5) pnT :=
  texts_own (ls := pnT) (World.ownsRow_lit (e := 9) (size := 1) (base := W.heap.size) W (pnT.map Value.string).toArray 5 (Nat.le_refl _) (by simp [maxLen]) rfl) (by simp [pnT])
theorem pn_no {x : ByteArray} (h : x ∈ pnT) : noB x = true := by
  simp only [pnT, List.mem_cons, List.not_mem_nil, or_false] at h
  rcases h with rfl | rfl | rfl | rfl | rfl <;> decide
theorem field_plan (p : Option Addr) (n c : Nat) (C : Int) (W : World) : Sem.run Try.prog (Instr.field 83 (.agg #[.slice p n c, .int .i64 C]) 0) W = .ok (.slice p n c) W := by kernel_rfl
set_option maxRecDepth 100000 in
set_option maxHeartbeats 4000000 in
theorem plan_any (sb : Nat) (ao : Option Addr) (len cap : Nat) (w : World) (hl : len ≤ 1048576) (h : Src w sb ao len cap) :
    Calls Try.prog 29 #[.pointer (some ⟨sb, 0, none⟩)] w fun e w' => PdAns w w' e sb ao len cap := by
  have hsb := h.lt
  have HH := hide h
  have HO : Hid (∀ (m : Int) w1, 1 < m → m ≤ 100 → Src w1 sb ao len cap → Calls Try.prog 17 #[.pointer (some ⟨sb, 0, none⟩), .int .i64 m] w1 fun e w' => ∃ b : Bool, e = .returned (.bool b) ∧ Src w' sb ao len cap ∧ w1.grownBy w' (some sb)) := hide (fun m w1 h1 h2 hs => n_one sb ao len cap m w1 h1 (by omega) hl hs)
  have HN : Hid (∀ (m : Int) w1, 1 ≤ m → m ≤ 100 → Src w1 sb ao len cap → Calls Try.prog 14 #[.pointer (some ⟨sb, 0, none⟩), .int .i64 m] w1 fun e w' => ∃ r : Int, e = .returned (.int .i64 r) ∧ 0 ≤ r ∧ r < m ∧ Src w' sb ao len cap ∧ w1.grownBy w' (some sb)) := hide (fun m w1 h1 h2 hs => n_pos sb ao len cap m w1 h1 (by omega) hl hs)
  have HT := hide (s_l02Texts w)
  clear h
  go_enter Try.func29, Try.ntmps29
  go_upto_if 11 with (first
    | (go_at_call 44; refine HT.out.mono ?_; rintro e w1 ⟨v1, rfl, how, hb⟩; obtain ⟨p1, c1, rfl⟩ := owns_shape how; have HW1 := hide how; have HB1 := hide hb; have HS1 := hide (HH.out.apart (below_apart hb) (by simp)); clear how hb HH HT)
    | (go_at_call 31; refine (pick_any sb ao len cap drSs _ w1 hl (by simp [drSs]) (by simp [drSs]) (texts_own (ls := drSs) HW1.out (by simp [drSs])) (fun hm => by have := (owns_fresh HW1.out).lo _ hm; omega) HS1.out).mono ?_; rintro e w2 ⟨x, hx, rfl, hs, hg⟩; have HX := hide hx; have HS2 := hide hs; have HA2 := hide (((below_apart HB1.out).trans (Apart.grown hg)).sub (l' := [sb]) (by simp)); clear hx hs hg HW1 HB1 HS1)
    | (go_at_call 43; refine (s_planRead x w2 (Nat.le_trans (dr_pick HX.out).1 (by unfold maxLen; omega))).mono ?_; rintro e w3 ⟨v3, ns, C, rfl, how3, hb3, hr3⟩; have HM3 := hide (md_read HA2.out HS2.out HX.out how3 hb3 hr3); obtain ⟨p3, c3, rfl⟩ := owns_shape how3; have hfl := field_plan p3 ns.length c3 C; clear how3 hb3 hr3 HX HS2 HA2)
    | (go_at_call 17; refine (HO.out 3 _ (by omega) (by omega) HM3.out.1.src).mono ?_; rintro e w4 ⟨b4, rfl, hs, hg⟩; have HM4 := hide (HM3.out.1.drawn hsb hs hg); clear hs hg))
  go_cut [3] (fun lv wx => ∃ l : List Nd, l.length ≤ 14 ∧ MdAt w wx sb ao len cap lv l)
  case first =>
    cases b4
    · go_wp2_with fail
      go_meet
      exact ⟨ns, HM3.out.2, HM4.out⟩
    · go_wp2_with (go_at_call 45; refine (made_any sb ao len cap w4 hl HM4.out.src).mono ?_; rintro e w5 ⟨v5, l5, rfl, hl5, hm5⟩; have HM5 := hide (hm5.up HM4.out.ap); obtain ⟨p5, c5, rfl⟩ := owns_shape hm5.own; clear hm5)
      go_meet
      exact ⟨l5, by omega, HM5.out⟩
  case rest =>
    obtain ⟨l, hl14, hm0⟩ := hcut
    clear HM3 HM4
    have HM := hide hm0
    by_cases hne : l.length = 0
    · obtain rfl : l = [] := List.length_eq_zero_iff.1 hne
      obtain ⟨p, c, rfl⟩ := owns_shape hm0.own
      clear hm0
      go_wp2_with (first
        | (go_at_call 17; refine (HO.out 12 _ (by omega) (by omega) HM.out.src).mono ?_; rintro e w6 ⟨b6, rfl, hs, hg⟩; have HM6 := hide (HM.out.drawn hsb hs hg); clear hs hg; cases b6))
      all_goals
        go_ret
        exact ⟨_, _, rfl, by simp, HM6.out⟩
    · obtain ⟨g, c, rfl, -⟩ := hm0.own.at_ (by omega)
      have hlc := hm0.caps
      clear hm0
      go_wp2_with (first
        | (go_at_call 17; refine (HO.out 12 _ (by omega) (by omega) HM.out.src).mono ?_; rintro e w6 ⟨b6, rfl, hs, hg⟩; have HM6 := hide (HM.out.drawn hsb hs hg); clear hs hg; cases b6)
        | (go_at_call 14; (fail_if_success (have := HM7)); refine (HN.out (l.length : Int) _ (by omega) (by omega) HM6.out.src).mono ?_; rintro e w7 ⟨r7, rfl, h70, h71, hs, hg⟩; have HM7 := hide (HM6.out.drawn hsb hs hg); obtain ⟨k, rfl⟩ : ∃ k : Nat, r7 = (k : Int) := ⟨r7.toNat, by omega⟩; have hk : k < l.length := (by omega); have hkc : k ≤ c := (by omega); clear hs hg h70)
        | (go_at_call 14; have MK7 := HM7; (fail_if_success (have := HM8)); refine (HN.out 5 _ (by omega) (by omega) HM7.out.src).mono ?_; rintro e w8 ⟨r8, rfl, h80, h81, hs, hg⟩; have HM8 := hide (HM7.out.drawn hsb hs hg); clear hs hg; obtain rfl | rfl | rfl | rfl | rfl : r8 = 0 ∨ r8 = 1 ∨ r8 = 2 ∨ r8 = 3 ∨ r8 = 4 := (by omega))
        | (go_at_call 14; have MK8 := HM8; refine Calls.mono (HN.out _ _ (by omega) (by omega) HM8.out.src) ?_; rintro e w9 ⟨r9, rfl, h90, h91, hs, hg⟩; have HM9 := hide (HM8.out.drawn hsb hs hg); obtain ⟨⟨d0, d1, d3, d4⟩, df⟩ := HM9.out.cells k hk; clear hs hg)
        | (go_at_call 31; have MK8 := HM8; refine (pick_any sb ao len cap pnT (.slice (some ⟨w8.heap.size, 0, none⟩) 5 5) (w8.alloc pnO) hl (by simp [pnT]) (by simp [pnT]) (pn_at w8) (by have := HM8.out.ap.size; simp [vblocks, cellBlocks]; omega) (HM8.out.below (malloc1 _ _)).src).mono ?_; rintro e w9 ⟨xp, hxp, rfl, hs, hg⟩; have HM9 := hide ((HM8.out.below (malloc1 _ pnO)).drawn hsb hs hg); have HXP := hide (pn_no hxp); obtain ⟨⟨d0, d1, d3, d4⟩, df⟩ := HM9.out.cells k hk; clear hs hg hxp))
      · go_ret
        exact ⟨_, _, rfl, hl14, HM6.out⟩
      · go_ret
        have hd := HM9.out.ok _ (List.getElem_mem hk)
        exact ⟨_, l.set k { l[k] with op := r9 }, rfl, by rw [List.length_set]; exact hl14, HM9.out.put hsb k 0 _ hk (by omega) (by omega) _ _ rfl ⟨hd.n1, hd.n2, hd.n3, hd.n4⟩⟩
      · go_ret
        have hd := HM9.out.ok _ (List.getElem_mem hk)
        exact ⟨_, l.set k { l[k] with many := r9 }, rfl, by rw [List.length_set]; exact hl14, HM9.out.put hsb k 3 _ hk (by omega) (by omega) _ _ rfl ⟨hd.n1, hd.n2, hd.n3, hd.n4⟩⟩
      · go_ret
        have hd := HM9.out.ok _ (List.getElem_mem hk)
        exact ⟨_, l.set k { l[k] with name := xp }, rfl, by rw [List.length_set]; exact hl14, HM9.out.put hsb k 1 _ hk (by omega) (by omega) _ _ rfl ⟨(noB_ne HXP.out).1, hd.n2, (noB_ne HXP.out).2, hd.n4⟩⟩
      · go_ret
        have hd := HM9.out.ok _ (List.getElem_mem hk)
        exact ⟨_, l.set k { l[k] with sort := r9 - 1 }, rfl, by rw [List.length_set]; exact hl14, HM9.out.put hsb k 4 _ hk (by omega) (by omega) _ _ rfl ⟨hd.n1, hd.n2, hd.n3, hd.n4⟩⟩
      · go_ret
        exact ⟨_, _, rfl, by rw [List.length_take]; omega, HM8.out.cut k (by omega)⟩
theorem DrNd.fits {n : Nd} (h : DrNd n) : n.fit := ⟨Nat.le_trans h.n1 (by omega), Nat.le_trans h.n2 (by omega)⟩
end Go.Proofs.Ytlbcnmcfljaijaa
