import Derived.Test.YtlbcnmcfljaijaaQF37
import Derived.Deep.LoopGhost
namespace Go.Proofs.Ytlbcnmcfljaijaa
open Go.RowKit
set_option linter.unusedSimpArgs false
set_option linter.unusedVariables false

def soUp (V : ByteArray) : Nat → Int
  | 0 => 0
  | i + 1 => if (sortT (i : Int)).toList == V.toList then (i : Int) else soUp V i
theorem soUp_is (x : List UInt8) : soUp (ba x) 3 = sortS x := by
  have e1 : (sortT ((2 : Nat) : Int)).toList = [116, 101, 120, 116] := by unfold sortT; simp [ba_list]
  have e2 : (sortT ((1 : Nat) : Int)).toList = [105, 110, 116] := by unfold sortT; simp [ba_list]
  simp only [soUp, ba_list, e1, e2]
  unfold sortS
  by_cases h1 : x = [105, 110, 116]
  · subst h1; decide
  · by_cases h2 : x = [116, 101, 120, 116]
    · subst h2; decide
    · have n1 : ([105, 110, 116] == x) = false := by rw [beq_eq_false_iff_ne]; exact fun e => h1 e.symm
      have n2 : ([116, 101, 120, 116] == x) = false := by rw [beq_eq_false_iff_ne]; exact fun e => h2 e.symm
      rw [n1, n2, if_neg h1, if_neg h2]
      simp
structure CsB (part : Bool) (f : Nat) (t : ByteArray) (w wr : World) (rb base K m a : Nat) (lv : Value) (l : List Nd) (bad : Bool) (fin : Nat × Ss) : Prop where
  le : m ≤ 5
  at_ : SrAt wr rb base t part a lv l bad
  ok : SsOk false (stS t a l bad)
  fine : SsFine (stS t a l bad)
  kl : K < l.length
  is_ : loopS (oneS part f) (5 - m) m (stS t a l bad) = fin
  kept : Skept w wr base rb
theorem loop_bad (go : Ss → Ss) (j m : Nat) (s : Ss) (h : s.bad = true) : loopS go j m s = (m, s) := by
  cases j with
  | zero => rfl
  | succ j => rw [loopS, if_pos h]
theorem CsB.out {part : Bool} {f : Nat} {t : ByteArray} {w wr : World} {rb base K m a : Nat} {lv : Value} {l : List Nd} {bad : Bool} {fin : Nat × Ss} (h : CsB part f t w wr rb base K m a lv l bad fin) (ho : bad = true ∨ m = 5) : fin = (m, stS t a l bad) := by
  rw [← h.is_]
  rcases ho with ho | ho
  · exact loop_bad _ _ _ _ ho
  · subst ho
    rfl
theorem case_is (go : Ss → Ss) (t : ByteArray) (a : Nat) (l : List Nd) : caseS go (stS t a l false) = go (stS t (isA [41, 46] t (wdA t (isA [40] t (wdA t a) false)) !isQ [40] t (wdA t a) false) (l ++ [⟨4, ba ((t.toList.drop a).takeWhile inW), noT, 0, soUp (ba ((t.toList.drop (isA [40] t (wdA t a) false)).takeWhile inW)) 3⟩]) !isQ [41, 46] t (wdA t (isA [40] t (wdA t a) false)) !isQ [40] t (wdA t a) false) := by
  unfold caseS
  simp only [sk_st, must_st, wdS_st, push_st, soUp_is]
theorem CsB.step {part : Bool} {f : Nat} {t : ByteArray} {w wr W W' : World} {rb base K m a a' : Nat} {lv lv' : Value} {l l' : List Nd} {bad' : Bool} {fin : Nat × Ss} (h : CsB part f t w wr rb base K m a lv l false fin) (hm : m < 5) (hc : caseS (oneS part f) (stS t a l false) = stS t a' l' bad') :
    (isQ [44] t a' bad' = true → SrAt W rb base t part (isA [44] t a' bad') lv' l' bad' → Skept wr W base rb → CsB part f t w W rb base K (m + 1) (isA [44] t a' bad') lv' l' bad' fin) ∧ (isQ [44] t a' bad' = false → fin = (m + 1, stS t a' l' bad')) ∧ K < l'.length := by
  obtain ⟨c1, c2⟩ := case_ok (fun s hs => one_ok (k := false) part f s hs) h.ok (h.fine rfl)
  have c3 := case_mono (one_mono part f) (stS t a l false)
  rw [hc] at c1 c2 c3
  have hk : K < l'.length := Nat.lt_of_lt_of_le h.kl c3
  have hf := h.is_
  obtain ⟨j, hj⟩ : ∃ j, 5 - m = j + 1 := ⟨4 - m, by omega⟩
  rw [hj, loopS, if_neg (show ¬ (stS t a l false).bad = true by simp [stS]), hc, is_st] at hf
  refine ⟨fun hq hs hk' => ?_, fun hq => ?_, hk⟩
  · rw [hq, if_pos rfl] at hf
    refine ⟨by omega, hs, ⟨?_, c1.f, c1.n⟩, c2, hk, ?_, h.kept.trans hk'⟩
    · show (t.toList.drop _).length ≤ 8000
      have h1 : (t.toList.drop a').length ≤ 8000 := c1.r
      rw [List.length_drop] at h1 ⊢
      unfold isA
      split <;> omega
    · rw [← hf, show 5 - (m + 1) = j by omega]
  · rw [hq, if_neg (by simp)] at hf
    exact hf.symm
theorem node_newq (w : World) (ob : Obj) (n : Nd) : ∀ j u, n.cells[j]? = some u → ((w.alloc ob).drew.alloc (.cells #[.int .i64 n.op, .string n.name, .string n.peer, .int .i64 n.many, .int .i64 n.sort] 87)).cell? (Addr.add ⟨w.heap.size + 1, 0, none⟩ j) = some u := fun j u hj => by
  have h := node_new (w.alloc ob).drew n j u hj
  have e : (w.alloc ob).drew.heap.size = w.heap.size + 1 := by simp
  rw [e] at h
  exact h
theorem row_frozen {w : World} {base g c : Nat} {l : List Nd} (h : NdOwn w base (.slice (some ⟨g, 0, none⟩) l.length c) l) (o : Nat) : w.frozen? ⟨g, o, none⟩ = false := by
  rcases h.2 with ⟨e, _⟩ | ⟨g', cap, cur, e, hg, hb, _⟩
  · simp at e
  · injection e with e1 e2 e3
    injection e1 with e1
    injection e1 with e1
    subst e1
    simp [World.frozen?, hb]
set_option maxRecDepth 100000 in
set_option maxHeartbeats 4000000 in
theorem sr_cases (part : Bool) (t : ByteArray) (f : Nat) (ht : t.size ≤ 8000) (hone : OneC part t f) : CasesC part t f := by
  intro rb base a deep lv l bad w n hd hl hs
  have HT := hide ht
  obtain ⟨p, c, rfl⟩ := owns_shape hs.row
  obtain ⟨i0, hi, hz0, hz1, hz2⟩ := info_parts Try.infoNd
  have HI := hide (And.intro hi (And.intro hz0 (And.intro hz1 hz2)))
  obtain ⟨fin, hfin⟩ : ∃ x, loopS (oneS part f) 5 0 (stS t a (l ++ [n]) bad) = x := ⟨_, rfl⟩
  have HRES : Hid (∀ M a8 l8 b8, fin = (M, stS t a8 l8 b8) → casesS (oneS part f) n (stS t a l bad) = stS t (isA [125] t a8 b8) (setMany l8 l.length M) (!isQ [125] t a8 b8)) := hide (fun M a8 l8 b8 h => by
    unfold casesS
    rw [push_st, hfin, h]
    dsimp only
    rw [must_st]
    rfl)
  obtain ⟨res, hres⟩ : ∃ x, casesS (oneS part f) n (stS t a l bad) = x := ⟨_, rfl⟩
  rw [hres] at HRES ⊢
  have HB0 : Hid (∀ W lv', SrAt W rb base t part a lv' (l ++ [n]) bad → Skept w W base rb → CsB part f t w W rb base l.length 0 a lv' (l ++ [n]) bad fin) := hide (fun W lv' h1 h2 => ⟨by omega, h1, ⟨by show (t.toList.drop a).length ≤ 8000; rw [List.length_drop, tl_size]; omega, fun h => (by cases h), by show (l ++ [n]).length ≤ 42; simp; omega⟩, fun _ => by show (l ++ [n]).length ≤ 41; simp; omega, by simp, hfin, h2⟩)
  have HONE : Hid (∀ (w1 : World) (a1 : Nat) (lv1 : Value) (l1 : List Nd) (b1 : Bool), l1.length ≤ 42 → SrAt w1 rb base t part a1 lv1 l1 b1 → Calls Try.prog 71 #[.pointer (some ⟨rb, 0, none⟩), .int .i64 (deep + 1 : Int)] w1 fun e w' => e = .returned (.tuple #[]) ∧ SrRes w1 w' rb base t part (oneS part f (stS t a1 l1 b1))) := hide (fun w1 a1 lv1 l1 b1 h1 h2 => hone rb base a1 (deep + 1) lv1 l1 b1 w1 (by omega) h1 h2)
  have c2 := hs.box.cell 2 _ rfl
  have bz := hs.box.fz
  have hlt := hs.box.lt
  have hd2 : deep ≤ 11 := by omega
  have HS0 : Hid (∀ ob : Obj, SrAt (w.alloc ob).drew rb base t part a (.slice p l.length c) l bad) := hide (fun ob => (hs.keep (below_apart (malloc1 w ob))).keep (Apart.refl _).drew)
  have HK0 : Hid (∀ ob : Obj, Skept w (w.alloc ob).drew base rb) := hide (fun ob => (below_apart (malloc1 w ob)).drew.skept hs.sz (by simp))
  have HSZ := hide hs.sz
  obtain ⟨L, hL⟩ : ∃ L, l.length = L := ⟨_, rfl⟩
  have HL := hide hL
  obtain ⟨op, nm, pr, mn, so⟩ := n
  clear hs hi hz0 hz1 hz2 ht hone hd hfin hres hL
  go_enter Try.func83, Try.ntmps83
  go_wp2_with fail
  go_region_law (first
    | (refine stepM_at rfl (.tmp 20) (.tmp 22) 61 rfl base 87 i0 (.agg #[.int .i64 0, .string ByteArray.empty, .string ByteArray.empty, .int .i64 0, .int .i64 0]) 5 56 Try.underlying61 HI.out.1 HI.out.2.1 HI.out.2.2.1 HI.out.2.2.2 rfl (by decide) (.slice p l.length c) l.length (l.flatMap Nd.cells) (by simp [Act.eval]) (owns_below (HS0.out _).row (malloc1 _ _)) ⟨w.heap.size + 1, 0, none⟩ 1 1 (Nd.cells ⟨op, nm, pr, mn, so⟩) (by simp [Act.eval]) rfl (node_newq w _ ⟨op, nm, pr, mn, so⟩) (Nd.cells_one _) (by unfold maxLen; omega) (by omega) (by have := HSZ.out; simp; omega) ?_; intro v7 w7 hown7 hgr7 hat7; have HP := hide ((HS0.out (.cells #[.int .i64 op, .string nm, .string pr, .int .i64 mn, .int .i64 so] 87)).push ⟨op, nm, pr, mn, so⟩ _ hown7 hgr7 hat7); have e2 := HP.out.2.2.cell 2 _ rfl; have ez := HP.out.2.2.fz; obtain ⟨p7, c7, rfl⟩ := owns_shape hown7; clear hown7 hgr7 hat7)
    | fail)
  all_goals
    obtain ⟨W5, hW5⟩ : ∃ W, W = w7.setCell ⟨rb, 2, none⟩ (.slice p7 (l.length + 1) c7) := ⟨_, rfl⟩
    rw [← hW5]
    have HC0 := hide (HB0.out W5 _ (by rw [hW5]; exact HP.out.1) (by rw [hW5]; exact (HK0.out _).trans HP.out.2.1))
    clear hW5 HP e2 ez c2 bz hlt HS0 HK0 HB0
    go_wp2_with fail
    go_loopw [7] (fun mv wr => ∃ (m a' : Nat) (lv' : Value) (l' : List Nd) (bad' : Bool), mv = .int .i64 (m : Int) ∧ CsB part f t w wr rb base l.length m a' lv' l' bad' fin) (fun mv _ => 5 - (intOf mv).toNat)
    case atStart => exact ⟨0, a, _, _, bad, rfl, HC0.out⟩
    case round =>
      clear HC0
      obtain ⟨m, a', lv', l', bad', rfl, hc⟩ := hrel
      have HC := hide hc
      have hm := hc.le
      obtain ⟨g', c', rfl, hgl', -⟩ := hc.at_.row.at_ (by have := hc.kl; omega)
      have k4 := hc.at_.box.cell 4 _ rfl
      have HTL := hide hc.at_
      have HKT := hide hc.kept
      have HLT : Hid (L < l'.length) := hide (by rw [← HL.out]; exact hc.kl)
      clear hc
      by_cases hgo : bad' = true ∨ m = 5
      · have HFIN := hide (HC.out.out hgo)
        have hex : (bad' = true ∧ m ≤ 5) ∨ (bad' = false ∧ m = 5) := by
          rcases hgo with h | h
          · exact .inl ⟨h, hm⟩
          · cases bad'
            · exact .inr ⟨rfl, h⟩
            · exact .inl ⟨rfl, hm⟩
        clear hgo
        rw [HL.out]
        rcases hex with ⟨rfl, -⟩ | ⟨rfl, rfl⟩
        · go_wp2_with (first | (go_at_call 81; go_must (refine (t_must [125] (by simp) HT.out HTL.out).mono ?_; rintro e w10 ⟨rfl, hs10, ha10⟩; have HS10 := hide hs10; have HA10 := hide ha10; have y2 := hs10.box.cell 2 _ rfl; have hl10 := HLT.out; have y3 := owns_cell hs10.row rfl (L * 5 + 3) _ (by rw [← HL.out, cells_get (by rw [HL.out]; exact hl10) 3 (by omega)]; rfl); have yf := row_frozen hs10.row (L * 5 + 3); clear hs10 ha10)))
          go_end0
          have hM := HS10.out.many l.length m (by rw [HL.out]; exact HLT.out)
          have hR := HRES.out _ _ _ _ HFIN.out
          rw [HL.out] at hM hR
          exact ⟨rfl, _, _, _, _, hR, hM.1, (HKT.out.trans (skept1 HA10.out HTL.out.sz)).trans hM.2⟩
        · go_wp2_with (first | (go_at_call 81; go_must (refine (t_must [125] (by simp) HT.out HTL.out).mono ?_; rintro e w10 ⟨rfl, hs10, ha10⟩; have HS10 := hide hs10; have HA10 := hide ha10; have y2 := hs10.box.cell 2 _ rfl; have hl10 := HLT.out; have y3 := owns_cell hs10.row rfl (L * 5 + 3) _ (by rw [← HL.out, cells_get (by rw [HL.out]; exact hl10) 3 (by omega)]; rfl); have yf := row_frozen hs10.row (L * 5 + 3); clear hs10 ha10)))
          go_end0
          have hM := HS10.out.many l.length 5 (by rw [HL.out]; exact HLT.out)
          have hR := HRES.out _ _ _ _ HFIN.out
          rw [HL.out] at hM hR
          exact ⟨rfl, _, _, _, _, hR, hM.1, (HKT.out.trans (skept1 HA10.out HTL.out.sz)).trans hM.2⟩
      · obtain ⟨rfl, hm5⟩ : bad' = false ∧ m < 5 := by
          cases bad'
          · exact ⟨rfl, by omega⟩
          · exact absurd (.inl rfl) hgo
        clear hgo hm
        have HTL0 := HTL
        have hgl0 := hgl'
        have HKT0 := HKT
        have HSA := hide (show l'.length ≤ 41 from HC.out.fine rfl)
        have HCS := hide (case_is (oneS part f) t a' l')
        have z41 : l'.length ≤ 41 := HSA.out
        obtain ⟨X, hX⟩ : ∃ x, ba ((t.toList.drop a').takeWhile inW) = x := ⟨_, rfl⟩
        obtain ⟨A1, hA1⟩ : ∃ x, wdA t a' = x := ⟨_, rfl⟩
        obtain ⟨A3, hA3⟩ : ∃ x, isA [40] t A1 false = x := ⟨_, rfl⟩
        obtain ⟨B3, hB3⟩ : ∃ x, isQ [40] t A1 false = x := ⟨_, rfl⟩
        obtain ⟨V, hV⟩ : ∃ x, ba ((t.toList.drop A3).takeWhile inW) = x := ⟨_, rfl⟩
        obtain ⟨A4, hA4⟩ : ∃ x, wdA t A3 = x := ⟨_, rfl⟩
        obtain ⟨A5, hA5⟩ : ∃ x, isA [41, 46] t A4 (!B3) = x := ⟨_, rfl⟩
        obtain ⟨B5, hB5⟩ : ∃ x, isQ [41, 46] t A4 (!B3) = x := ⟨_, rfl⟩
        rw [hX, hA1, hA3, hB3, hV, hA4, hA5, hB5] at HCS
        have HW1 := hide (t_word HT.out HTL.out)
        rw [hX, hA1] at HW1
        have HM1 : Hid (∀ w1, SrAt w1 rb base t part A1 (.slice (some ⟨g', 0, none⟩) l'.length c') l' false → Calls Try.prog 81 #[.pointer (some ⟨rb, 0, none⟩), .string ⟨#[40]⟩] w1 fun e w' => e = .returned (.tuple #[]) ∧ SrAt w' rb base t part A3 (.slice (some ⟨g', 0, none⟩) l'.length c') l' (!B3) ∧ Apart w1 w' [rb]) := hide (fun w1 h1 => by
          have := t_must [40] (by simp) HT.out h1
          rw [hA3, hB3] at this
          exact this)
        have HW2 : Hid (∀ w1, SrAt w1 rb base t part A3 (.slice (some ⟨g', 0, none⟩) l'.length c') l' (!B3) → Calls Try.prog 80 #[.pointer (some ⟨rb, 0, none⟩)] w1 fun e w' => e = .returned (.string V) ∧ SrAt w' rb base t part A4 (.slice (some ⟨g', 0, none⟩) l'.length c') l' (!B3) ∧ Apart w1 w' [rb]) := hide (fun w1 h1 => by
          have := t_word HT.out h1
          rw [hV, hA4] at this
          exact this)
        have HM2 : Hid (∀ w1, SrAt w1 rb base t part A4 (.slice (some ⟨g', 0, none⟩) l'.length c') l' (!B3) → Calls Try.prog 81 #[.pointer (some ⟨rb, 0, none⟩), .string ⟨#[41, 46]⟩] w1 fun e w' => e = .returned (.tuple #[]) ∧ SrAt w' rb base t part A5 (.slice (some ⟨g', 0, none⟩) l'.length c') l' (!B5) ∧ Apart w1 w' [rb]) := hide (fun w1 h1 => by
          have := t_must [41, 46] (by simp) HT.out h1
          rw [hA5, hB5] at this
          exact this)
        clear hX hA1 hA3 hB3 hV hA4 hA5 hB5 HTL HKT
        go_wp2_with (first
          | (go_at_call 80; (fail_if_success (have := HS1)); refine HW1.out.mono ?_; rintro e w1 ⟨rfl, hs1, ha1⟩; have HS1 := hide hs1; have HA1 := hide ha1; have l1 := hs1.box.lt; clear hs1 ha1)
          | (go_at_call 81; (fail_if_success (have := HS3)); go_must (obtain ⟨W2, hW2⟩ : ∃ W, W = w1.alloc (.cells #[.int .i64 4, .string X, .string ⟨#[]⟩, .int .i64 0, .int .i64 0] 87) := ⟨_, rfl⟩; rw [← hW2]; have HW22 := hide hW2; clear hW2; have HN2 := hide (noded w1 W2 4 0 0 X ⟨#[]⟩ HW22.out); refine (HM1.out _ (HS1.out.keep HN2.out.1)).mono ?_; rintro e w3 ⟨rfl, hs3, ha3⟩; have HS3 := hide hs3; have HA3 := hide ha3; have HN3 := hide (HN2.out.2.keep ha3 (by simp; omega)); clear hs3 ha3))
          | (go_at_call 80; have HMK := HS3; refine (HW2.out _ HS3.out).mono ?_; rintro e w4 ⟨rfl, hs4, ha4⟩; have HS4 := hide hs4; have HA4 := hide ha4; have HN4 := hide (HN3.out.keep ha4 (by simp; omega)); clear hs4 ha4))
        have HNG : Hid (∀ b ∈ vblocks (.slice (some ⟨g', 0, none⟩) l'.length c'), b ∉ [w1.heap.size]) := hide (fun b hb hm => by simp [vblocks, cellBlocks] at hb; simp at hm; have := HA1.out.size; omega)
        have HK4 : Hid (Skept wr w4 base rb ∧ w1.heap.size < w4.heap.size ∧ base ≤ w1.heap.size) := hide ⟨(((skept1 HA1.out HTL0.out.sz).trans (HN2.out.1.skept HS1.out.sz (by simp))).trans (skept1 HA3.out (HS1.out.keep HN2.out.1).sz)).trans (skept1 HA4.out HS3.out.sz), HN4.out.lt, HS1.out.sz⟩
        clear HN2 HN3 HS1 HS3 HA1 HA3 HA4 HW1 HW2 HM1 HW22
        go_loopw [10] (fun iv wq => ∃ i : Nat, i ≤ 3 ∧ iv = .int .i64 (i : Int) ∧ SrAt wq rb base t part A4 (.slice (some ⟨g', 0, none⟩) l'.length c') l' (!B3) ∧ BoxL wq w1.heap.size [.int .i64 4, .string X, .string ⟨#[]⟩, .int .i64 0, .int .i64 (soUp V i)] ∧ Skept wr wq base rb) (fun iv _ => 3 - (intOf iv).toNat)
        case atStart => exact ⟨0, by omega, rfl, HS4.out, HN4.out, HK4.out.1⟩
        case round =>
          clear HS4 HN4
          obtain ⟨i, hi3, rfl, hsq, hbq, hkq⟩ := hrel
          have HSQ := hide hsq
          have HBQ := hide hbq
          have HKQ := hide hkq
          have hqz := hbq.fz
          have hql := hbq.lt
          clear hsq hbq hkq
          by_cases hlt3 : i < 3
          · obtain ⟨SI, hSI⟩ : ∃ x, sortT (i : Int) = x := ⟨_, rfl⟩
            have HSI := hide hSI
            have HST := hide (s_sortText (i : Int) wr (by omega) (by omega))
            rw [hSI] at HST
            obtain ⟨q, hq⟩ : ∃ q, (SI.toList == V.toList) = q := ⟨_, rfl⟩
            have HUP : Hid (soUp V (i + 1) = if q then (i : Int) else soUp V i) := hide (by rw [soUp, hSI, hq])
            clear hSI
            cases q
            · go_wp2_with (first
                | (go_at_call 85; refine HST.out.mono ?_; rintro e w6 ⟨rfl, hb6⟩; have HB6 := hide hb6; clear hb6))
              go_roundw
              case rel =>
                refine ⟨i + 1, hlt3, by go_num, HSQ.out.keep (below_apart HB6.out), ?_, HKQ.out.trans ((below_apart HB6.out).skept HSQ.out.sz (by simp))⟩
                rw [HUP.out]
                exact HBQ.out.keep (below_apart HB6.out) (by simp)
              case measure => simp [intOf]; omega
            · go_wp2_with (first
                | (go_at_call 85; refine HST.out.mono ?_; rintro e w6 ⟨rfl, hb6⟩; have HB6 := hide hb6; have HX6 := hide (HBQ.out.keep (below_apart hb6) (by simp)); have x4 := HX6.out.cell 4 _ rfl; have xz := HX6.out.fz; clear hb6))
              go_roundw
              case rel =>
                have hz := HK4.out.2
                have hrb := HSQ.out.low
                have hS6 := HSQ.out.keep (below_apart HB6.out)
                have hA6 := setCell_apart w6 w1.heap.size 4 (.int .i64 (i : Int))
                refine ⟨i + 1, hlt3, by go_num, ⟨hS6.box.keep hA6 (by simp; omega), owns_keep hS6.row hA6 (fun b hb hm => HNG.out b hb hm), hS6.at_, hS6.low, Nat.le_trans hS6.sz hA6.size⟩, ?_, (HKQ.out.trans ((below_apart HB6.out).skept HSQ.out.sz (by simp))).trans (hA6.skept hS6.sz (fun b hb => by simp at hb; omega))⟩
                rw [HUP.out]
                exact HX6.out.set 4 (by simp) _
              case measure => simp [intOf]; omega
          · obtain rfl : i = 3 := by omega
            clear hlt3 hi3
            obtain ⟨so3, hso⟩ : ∃ x, soUp V 3 = x := ⟨_, rfl⟩
            rw [hso] at HBQ HCS
            clear hso hqz
            go_wp2_with (first
              | (go_at_call 81; refine (HM2.out _ HSQ.out).mono ?_; rintro e w7 ⟨rfl, hs7, ha7⟩; have HS7 := hide hs7; have HA7 := hide ha7; have HN7 := hide (HBQ.out.keep ha7 (by have h1 := HK4.out.2.2; have h2 := HSQ.out.low; simp; omega)); have x0 := HN7.out.cell 0 _ rfl; have x1 := HN7.out.cell 1 _ rfl; have x2 := HN7.out.cell 2 _ rfl; have x3 := HN7.out.cell 3 _ rfl; have x4 := HN7.out.cell 4 _ rfl; have xl := HN7.out.lt; have d2 := hs7.box.cell 2 _ rfl; have dz := hs7.box.fz; have dl := hs7.box.lt; clear hs7 ha7))
            have HK7 := hide (HKQ.out.trans (skept1 HA7.out HSQ.out.sz))
            clear HSQ HKQ HA7 HBQ HN7 HM2
            go_region_law (first
              | (refine stepM_at rfl (.tmp 58) (.tmp 60) 61 rfl base 87 i0 (.agg #[.int .i64 0, .string ByteArray.empty, .string ByteArray.empty, .int .i64 0, .int .i64 0]) 5 56 Try.underlying61 HI.out.1 HI.out.2.1 HI.out.2.2.1 HI.out.2.2.2 rfl (by decide) (.slice (some ⟨g', 0, none⟩) l'.length c') l'.length (l'.flatMap Nd.cells) (by simp [Act.eval]) (owns_below HS7.out.drew.row (malloc1 _ _)) ⟨w7.heap.size, 0, none⟩ 1 1 (Nd.cells ⟨4, X, noT, 0, so3⟩) (by simp [Act.eval]) rfl (node_new w7.drew ⟨4, X, noT, 0, so3⟩) (Nd.cells_one _) (by unfold maxLen; omega) (by omega) (by have := HS7.out.sz; simp; omega) ?_; intro v8 w8 hown8 hgr8 hat8; have HP := hide (HS7.out.drew.push ⟨4, X, noT, 0, so3⟩ _ hown8 hgr8 hat8); have e2 := HP.out.2.2.cell 2 _ rfl; have ez := HP.out.2.2.fz; obtain ⟨p8, c8, rfl⟩ := owns_shape hown8; clear hown8 hgr8 hat8)
              | fail)
            all_goals
              have HK8 := hide ((HK7.out.trans ((Apart.refl w7).drew.skept HS7.out.sz (by simp))).trans HP.out.2.1)
              clear d2 dz dl x0 x1 x2 x3 x4 xl
              go_wp2_with (first
                | (go_at_call 71; refine (HONE.out _ _ _ _ _ (by simp; omega) HP.out.1).mono ?_; rintro e w9 ⟨rfl, a9, lv9, l9, b9, he9, hs9, hk9⟩; have HE9 := hide (HCS.out.trans he9); obtain ⟨g9, c9, rfl, -, -⟩ := hs9.row.at_ (by have := (HC.out.step (W := w9) (W' := w9) (lv' := .slice none 0 0) hm5 HE9.out).2.2; omega); have HS9 := hide hs9; have HK9 := hide (HK8.out.trans hk9); clear he9 hs9 hk9)
                | (go_at_call 82; go_must (have hI := t_is [44] (by simp) HT.out HS9.out; obtain ⟨q, hq⟩ : ∃ q, isQ [44] t a9 b9 = q := ⟨_, rfl⟩; rw [hq] at hI; refine hI.mono ?_; have HQ9 := hide hq; clear hI hq; rintro e w11 ⟨rfl, hs11, ha11⟩; have HS11 := hide hs11; have HK11 := hide (HK9.out.trans (skept1 ha11 HS9.out.sz)); clear hs11 ha11; cases q)))
              all_goals first
                | (have hqt : isQ [44] t a9 b9 = true := HQ9.out
                   go_roundw
                   case rel => exact ⟨m + 1, _, _, _, _, by go_num, (HC.out.step (W := w11) (W' := w11) hm5 HE9.out).1 hqt HS11.out HK11.out⟩
                   case measure => simp [intOf]; omega)
                | (have hqf : isQ [44] t a9 b9 = false := HQ9.out
                   have HTL : Hid (SrAt w11 rb base t part a9 (.slice (some ⟨g9, 0, none⟩) l9.length c9) l9 b9) := hide (by have h := HS11.out; unfold isA at h; rw [hqf] at h; exact h)
                   have hst := HC.out.step (W := w11) (W' := w11) (lv' := .slice none 0 0) hm5 HE9.out
                   have HFIN := hide (hst.2.1 hqf)
                   have HLT : Hid (L < l9.length) := hide (by rw [← HL.out]; exact hst.2.2)
                   have HKT := hide (HC.out.kept.trans HK11.out)
                   clear hst hqf HS11
                   rw [HL.out]
                   go_wp2_with (first | (go_at_call 81; go_must (refine (t_must [125] (by simp) HT.out HTL.out).mono ?_; rintro e w10 ⟨rfl, hs10, ha10⟩; have HS10 := hide hs10; have HA10 := hide ha10; have y2 := hs10.box.cell 2 _ rfl; have hl10 := HLT.out; have y3 := owns_cell hs10.row rfl (L * 5 + 3) _ (by rw [← HL.out, cells_get (by rw [HL.out]; exact hl10) 3 (by omega)]; rfl); have yf := row_frozen hs10.row (L * 5 + 3); clear hs10 ha10)))
                   go_end0
                   have hM := HS10.out.many l.length (m + 1) (by rw [HL.out]; exact HLT.out)
                   have hR := HRES.out _ _ _ _ HFIN.out
                   rw [HL.out] at hM hR
                   rw [show ((m + 1 : Nat) : Int) = (m : Int) + 1 from by omega] at hM
                   exact ⟨rfl, _, _, _, _, hR, hM.1, (HKT.out.trans (skept1 HA10.out HTL.out.sz)).trans hM.2⟩)
end Go.Proofs.Ytlbcnmcfljaijaa
namespace Go.Proofs.Ytlbcnmcfljaijaa
open Go.RowKit
set_option linter.unusedSimpArgs false
set_option linter.unusedVariables false

theorem sr_one (part : Bool) (t : ByteArray) (ht : t.size ≤ 8000) : ∀ f, OneC part t f := by
  intro f
  induction f with
  | zero =>
    intro rb base a deep lv l bad w hd hl hs
    exact (sr_one_bad part t rb base a deep lv l bad w (by omega) (.inl (by omega)) hl hs).mono fun e w' h => ⟨h.1, a, lv, l, true, rfl, h.2.1, h.2.2⟩
  | succ f ih =>
    intro rb base a deep lv l bad w hd hl hs
    by_cases hb : bad = true ∨ 40 < l.length
    · refine (sr_one_bad part t rb base a deep lv l bad w (by omega) (.inr hb) hl hs).mono fun e w' h => ⟨h.1, a, lv, l, true, ?_, h.2.1, h.2.2⟩
      rw [oneS, if_pos (by
        simp only [Bool.or_eq_true, decide_eq_true_eq]
        exact hb)]
      rfl
    · obtain ⟨rfl, hl40⟩ : bad = false ∧ l.length ≤ 40 := by
        cases bad
        · exact ⟨rfl, by omega⟩
        · exact absurd (.inl rfl) hb
      have hcs := sr_cases part t f ht ih
      obtain ⟨X, hX⟩ : ∃ x, ba ((t.toList.drop a).takeWhile inW) = x := ⟨_, rfl⟩
      have e1 : wdS (stS t a l false) = X.toList := by rw [← hX, ba_list]; rfl
      have e2 : ba (wdS (stS t a l false)) = X := hX
      rw [oneS, if_neg (show ¬ (((stS t a l false).bad || decide (40 < (stS t a l false).l.length)) = true) from fun h => (by have h1 : (false || decide (40 < l.length)) = true := h; simp at h1; omega))]
      cases w1 : (X.toList == [101, 110, 100])
      · rw [if_neg (by rw [e1]; intro e; rw [e] at w1; simp at w1)]
        cases w2 : (X.toList == [114, 101, 99])
        · rw [if_neg (by rw [e1]; intro e; rw [e] at w2; simp at w2), e2, sk_st]
          simp only [is_st]
          cases part
          · simp only [Bool.false_eq_true, if_false]
            cases q : isQ [62] t (wdA t a) false
            · simp only [Bool.false_eq_true, if_false]
              refine (sr_one_var false t rb base a deep lv l w ht (by omega) hl40 X hX w1 w2 (fun _ => q) (fun h => by cases h) (fun h => by cases h) hs).mono ?_
              rintro e w' ⟨h1, lv', h2, h3⟩
              exact ⟨h1, _, lv', _, _, rfl, h2, h3⟩
            · simp only [if_true]
              exact sr_one_msg t f rb base a deep lv l w ht hcs hd hl40 X hX w1 w2 q hs
          · simp only [if_true]
            cases q : isQ [33, 123] t (wdA t a) false
            · simp only [Bool.false_eq_true, if_false]
              cases q2 : isQ [63, 123] t (wdA t a) false
              · simp only [Bool.false_eq_true, if_false]
                refine (sr_one_var true t rb base a deep lv l w ht (by omega) hl40 X hX w1 w2 (fun h => by cases h) (fun _ => q) (fun _ => q2) hs).mono ?_
                rintro e w' ⟨h1, lv', h2, h3⟩
                exact ⟨h1, _, lv', _, _, rfl, h2, h3⟩
              · simp only [if_true]
                exact sr_one_recv t f rb base a deep lv l w ht hcs hd hl40 X hX w1 w2 q q2 hs
            · simp only [if_true]
              exact sr_one_send t f rb base a deep lv l w ht hcs hd hl40 X hX w1 w2 q hs
        · rw [if_pos (by rw [e1]; exact eq_of_beq w2)]
          exact sr_one_rec part t f rb base a deep lv l w ht ih hd hl40 X hX w1 w2 hs
      · rw [if_pos (by rw [e1]; exact eq_of_beq w1)]
        refine (sr_one_end part t rb base a deep lv l w ht (by omega) hl40 X hX w1 hs).mono ?_
        rintro e w' ⟨h1, lv', h2, h3⟩
        exact ⟨h1, _, lv', _, _, by rw [sk_st]; rfl, h2, h3⟩
end Go.Proofs.Ytlbcnmcfljaijaa
