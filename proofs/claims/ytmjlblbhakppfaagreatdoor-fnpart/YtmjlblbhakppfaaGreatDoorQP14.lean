import Derived.Test.YtmjlblbhakppfaaGreatDoorQP13
import Derived.Test.YtmjlblbhakppfaaGreatDoorQP00
import Derived.Test.YtmjlblbhakppfaaGreatDoorQP11
import Derived.Test.YtmjlblbhakppfaaGreatDoorQP05
import Derived.Laws.Rows
import Derived.Laws.MakeOwn
namespace Go.Proofs.YtmjlblbhakppfaaGreatDoor
open Go.RowKit

def SortW (w : World) : Prop := w.cell? ⟨0, 0, none⟩ = some (.string (ba [110, 111, 110, 101])) ∧ w.cell? ⟨0, 1, none⟩ = some (.string (ba [105, 110, 116])) ∧ w.cell? ⟨0, 2, none⟩ = some (.string (ba [116, 101, 120, 116]))
theorem SortW.lt {w : World} (h : SortW w) : 0 < w.heap.size := World.block_lt_of_cell? w _ h.1
theorem SortW.carry {w w' : World} (h : SortW w) (hb : Below w.heap.size w w') : SortW w' :=
  ⟨(hb.cell (p := ⟨0, 0, none⟩) h.lt).trans h.1, (hb.cell (p := ⟨0, 1, none⟩) h.lt).trans h.2.1, (hb.cell (p := ⟨0, 2, none⟩) h.lt).trans h.2.2⟩

theorem joinx5 (a b c d g : ByteArray) (k : Nat) (W : World) (hk : k < W.heap.size) (h : W.cell? ⟨k, 0, none⟩ = some (.string a) ∧ W.cell? ⟨k, 1, none⟩ = some (.string b) ∧ W.cell? ⟨k, 2, none⟩ = some (.string c) ∧ W.cell? ⟨k, 3, none⟩ = some (.string d) ∧ W.cell? ⟨k, 4, none⟩ = some (.string g)) (hs : a.size + b.size + c.size + d.size + g.size ≤ 1000000) :
    Calls Tryz.prog 66 #[.slice (some ⟨k, 0, none⟩) 5 5] W fun e w' => e = .returned (.string (a ++ b ++ c ++ d ++ g)) ∧ Below W.heap.size W w' := by
  refine (join_any [a, b, c, d, g] k 5 W hk (fun i hi => ?_) ?_ (by simp)).mono ?_
  · match i, hi with
    | 0, _ => exact h.1
    | 1, _ => exact h.2.1
    | 2, _ => exact h.2.2.1
    | 3, _ => exact h.2.2.2.1
    | 4, _ => exact h.2.2.2.2
  · simp [totTo]; omega
  · rintro e w' ⟨rfl, hb⟩
    refine ⟨ret_str (ba_ext ?_), hb⟩
    rw [joinS_data]
    simp

theorem joinC_eq : ∀ ts : List ByteArray, (⟨(Lib.join (ts.map (·.data.toList)) [44]).toArray⟩ : ByteArray) = joinC ts := by
  intro ts
  apply ba_ext
  show (Lib.join (ts.map (·.data.toList)) [44]).toArray.toList = _
  rw [List.toList_toArray]
  induction ts with
  | nil => rfl
  | cons t ts ih =>
    cases ts with
    | nil => simp [Lib.join, List.intercalate, joinC]
    | cons u ts =>
      rw [joinC, app_data, app_data, ← ih]
      simp [Lib.join, List.intercalate, ba]

theorem join_cases (acc : List ByteArray) (g cap : Nat) (w : World) (hc : ∀ i (h : i < acc.length), w.cell? ⟨g, i, none⟩ = some (.string acc[i])) (hg : g < w.heap.size) (hl : acc.length ≤ 4) (hcap : acc.length ≤ cap) (hs : (joinC acc).size ≤ 1720) :
    Calls Tryz.prog 96 #[.slice (some ⟨g, 0, none⟩) acc.length cap, .string ⟨#[44]⟩] w fun e w' => e = .returned (.string (joinC acc)) ∧ Below w.heap.size w w' := by
  have h2 : (Lib.join (acc.map (·.data.toList)) [44]).length ≤ 1720 := by
    rw [← joinC_eq] at hs
    have h3 : ByteArray.size ⟨(Lib.join (acc.map (·.data.toList)) [44]).toArray⟩ = (Lib.join (acc.map (·.data.toList)) [44]).length := by
      show (Lib.join (acc.map (·.data.toList)) [44]).toArray.size = _
      simp
    rwa [h3] at hs
  refine (Tryz.strings_Join g 0 cap acc ⟨#[44]⟩ w (fun j x hj => ?_) hg (by omega) hcap (Nat.le_trans h2 (by omega))).mono ?_
  · obtain ⟨hjl, rfl⟩ := List.getElem?_eq_some_iff.1 hj
    rw [Nat.zero_add]
    exact hc j hjl
  · rintro e w' ⟨rfl, hb⟩
    exact ⟨ret_str (joinC_eq acc).symm, hb⟩

def ITextCalls (part : Bool) (f : Nat) : Prop := ∀ (st l r : List Nd) (v : Value) (w : World) (B : Nat), st.length + f = 10 → StW st → l.length ≤ 40 → ahead (talkS part) f st l = some r → B ≤ w.heap.size → SlAt w B v l → SortW w →
  Calls Tryz.prog 38 #[v] w fun e w' => (∃ v', e = .returned (.tuple #[.string (textF f l).1, v']) ∧ SlAt w' B v' r) ∧ Below w.heap.size w w'

theorem kids_inv {go : List Nd → Option (List Nd)} {m k : Nat} {ls : List ByteArray} {l r : List Nd} (h : k < m) (hk : kidsBy go (m - k) ls l = some r) :
    ∃ c l1 r1, l = c :: l1 ∧ caseB c = true ∧ go l1 = some r1 ∧ kidsBy go (m - (k + 1)) (ls ++ [c.name]) r1 = some r := by
  rw [show m - k = (m - (k + 1)) + 1 from by omega] at hk
  cases l with
  | nil => cases hk
  | cons c l1 =>
    rw [kidsBy] at hk
    split at hk
    · rename_i hc
      split at hk
      · cases hk
      · rename_i r1 hr1
        exact ⟨c, l1, r1, rfl, by simp at hc; exact hc.1, hr1, hk⟩
    · cases hk
theorem cases_step {tf : List Nd → ByteArray × List Nd} {m k : Nat} {c : Nd} {l1 : List Nd} (h : k < m) : (casesF tf (m - k) (c :: l1)).1 = caseT c (tf l1).1 :: (casesF tf (m - (k + 1)) (tf l1).2).1 := by
  rw [show m - k = (m - (k + 1)) + 1 from by omega, casesF]

set_option maxRecDepth 100000 in
set_option maxHeartbeats 4000000 in
theorem cases_text (part : Bool) (f : Nat) (ih : ITextCalls part f) (st l r : List Nd) (m : Nat) (v : Value) (w : World) (B : Nat) (hlen : st.length + f = 10) (hst : StW st) (h40 : l.length ≤ 40) (hm : 1 ≤ m ∧ m ≤ 4) (hk : kidsBy (ahead (talkS part) f st) m [] l = some r) (hB : B ≤ w.heap.size) (hv : SlAt w B v l) (hsw : SortW w) :
    Calls Tryz.prog 67 #[v, .int .i64 m] w fun e w' => (∃ v', e = .returned (.tuple #[.string (joinC (casesF (textF f) m l).1), v']) ∧ SlAt w' B v' r) ∧ Below w.heap.size w w' := by
  have HV := hide hv
  have HI := hide ih
  have HL := hide hlen
  have HST := hide hst
  have HB := hide hB
  have HSW := hide hsw
  have HK := hide hk
  obtain ⟨i0, hi, hz0, hz1, hz2⟩ := info_parts Tryz.infoS
  have HIN := hide (And.intro hi (And.intro hz0 (And.intro hz1 hz2)))
  obtain ⟨ao, cap, rfl, hc1, hc2, hr⟩ := hv
  obtain ⟨hm1, hm4⟩ := hm
  have HTX := hide (kids_text (fun l r => ahead_text part f st l r hst) m [] l r hk)
  clear hr ih hlen hst hB hsw hk hi hz0 hz1 hz2
  go_enter Tryz.func67, Tryz.ntmps67
  go_wp2_with fail
  go_loopw [0, 6, 10] (fun lv cs i wr => ∃ (k : Nat) (cur : List Nd) (ls acc : List ByteArray), k ≤ m ∧ i = .int .i64 k ∧ acc.length = k ∧ cur.length ≤ 40 ∧ SlAt wr B lv cur ∧ wr.ownsRow w.heap.size 9 1 cs acc.length (acc.map Value.string) ∧ Below w.heap.size w wr ∧ kidsBy (ahead (talkS part) f st) (m - k) ls cur = some r ∧ acc ++ (casesF (textF f) (m - k) cur).1 = (casesF (textF f) m l).1)
    (fun _ _ i _ => m - (intOf i).toNat)
  case atStart => exact ⟨0, l, [], [], Nat.zero_le _, rfl, rfl, h40, HV.out, World.ownsRow_nil _ _ _ _, Below.refl _ _, HK.out, rfl⟩
  case round =>
    obtain ⟨k, cur, ls, acc, hk, rfl, hacc, hcur, hsl, hown, hbel, hkid, htx⟩ := hrel
    have HACC := hide hacc
    have HSL := hide hsl
    have HOWN := hide hown
    have HBEL := hide hbel
    have HKID := hide hkid
    have HT := hide htx
    have hszr := hbel.size
    have HSWR := hide (HSW.out.carry hbel)
    clear hown hbel hkid htx hacc
    obtain ⟨ao1, cap1, rfl, hd1, hd2, hrow⟩ := hsl
    have HROW := hide hrow
    clear hrow
    by_cases hlt : k < m
    · obtain ⟨c, l1, r1, rfl, hcb, hg1, hk1⟩ := kids_inv hlt HKID.out
      have HCB := hide hcb
      have HG1 := hide hg1
      have HK1 := hide hk1
      obtain ⟨b, o, rfl, hbB, hrow⟩ := HROW.out (by simp)
      have HR := hide hrow
      have HBB := hide hbB
      have hbw : b < wr.heap.size := hrow.lt
      have hsz20 : c.name.size ≤ 20 := by simp only [caseB, Bool.and_eq_true] at hcb; exact word20 hcb.1.2
      have hso : 0 ≤ c.sort ∧ c.sort ≤ 2 := by simp only [caseB, sortB, Bool.and_eq_true, decide_eq_true_eq] at hcb; exact hcb.2
      have HTS := hide (cases_step (tf := textF f) (c := c) (l1 := l1) hlt)
      obtain ⟨e1, s1⟩ := ahead_text part f st l1 r1 HST.out hg1
      obtain ⟨t1, ht1⟩ : ∃ t1, (textF f l1).1 = t1 := ⟨_, rfl⟩
      rw [ht1] at s1
      have HT1 := hide ht1
      have HE1 := hide e1
      simp only [List.length_cons] at hcur s1 hd1
      have htz : t1.size ≤ 1720 := by omega
      clear hcb hg1 hk1 hrow e1 s1 ht1
      have HS1 : Hid (∀ ao', (cap1 ≠ 1 → ao' = some ⟨b, o + 5, none⟩) → SlAt wr B (.slice ao' l1.length (cap1 - 1)) l1) := hide (fun ao' h => SlAt.tail HBB.out HR.out (by simp; omega) hd2 ao' h)
      have hz : ((l1.length : Int) + 1 == 0) = false := beq_eq_false_iff_ne.2 (by omega)
      obtain ⟨sv, hsv⟩ : ∃ sv, sortT c.sort = sv := ⟨_, rfl⟩
      have HSV := hide hsv
      have hsvz : sv.size ≤ 4 := by rw [← hsv]; exact sort_sz _
      have HCT : Hid (caseT c t1 = c.name ++ ba [40] ++ sv ++ ba [41, 46] ++ t1) := hide (by rw [← hsv]; rfl)
      clear hsv
      obtain ⟨s, hs0⟩ : ∃ s : Nat, c.sort = s := ⟨c.sort.toNat, by omega⟩
      have hsI : (s : Int) < 3 := by omega
      have HSX0 : Hid (∀ W, SortW W → W.cell? ⟨0, s, none⟩ = some (.string sv)) := hide (fun W hW => by
        rw [← HSV.out, hs0]
        rcases (show s = 0 ∨ s = 1 ∨ s = 2 by omega) with h | h | h
        · subst h; exact hW.1
        · subst h; exact hW.2.1
        · subst h; exact hW.2.2)
      by_cases hcap : cap1 = 1
      · have HSX : Hid (SlAt wr B (.slice (some ⟨b, o, none⟩) 0 0) l1) := hide (by rw [List.length_eq_zero_iff.1 (show l1.length = 0 by omega)]; exact ⟨_, _, rfl, Nat.le_refl _, by simp, fun h => absurd rfl h⟩)
        subst hcap
        go_wp2_with (first | (go_at_call 38; refine (HI.out st l1 r1 _ _ B HL.out HST.out (by omega) HG1.out (Nat.le_trans HB.out hszr) HSX.out HSWR.out).mono ?_; rintro e w1 ⟨⟨v1, rfl, hs1⟩, hb1⟩; rw [HT1.out]; obtain ⟨d0, d1, d2, d3, d4⟩ := (HR.out.1.carry hbw hb1); have d4' : w1.cell? ⟨b, o + 4, none⟩ = some (.int .i64 (s : Int)) := (by rw [← hs0]; exact d4); have x0 := (HSX0.out _ (HSWR.out.carry hb1)); have hz1 := hb1.size; have HS1' := hide hs1; obtain ⟨ao2, cap2, rfl, hs2⟩ := hs1; have HB1 := hide hb1; have HOW1 := hide (own_below HOWN.out hb1); clear hb1 hs2 d0 d2 d3 d4))
        go_region_law (first | (go_simp; go_at_call 66; refine (joinx5 c.name (ba [40]) sv (ba [41, 46]) t1 _ _ (by simp) (by simp [ba]) (by rw [sz_ba, sz_ba]; simp only [List.length_cons, List.length_nil]; omega)).mono ?_; rintro e w2 ⟨rfl, hb2⟩; have hz2 : w1.heap.size ≤ w2.heap.size := (by have := hb2.size; simp at this; omega); have HB2 : Hid (Below w1.heap.size w1 w2) := hide (Below.trans (by first | exact (alloc1 _ _).drew | exact alloc1 _ _) (hb2.mono (by simp))); have HOW2 := hide (own_below HOW1.out HB2.out); clear hb2) | (refine step_append_own rfl (.tmp 18) (.tmp 32) 30 rfl w.heap.size 9 i0 (.string ByteArray.empty) 1 16 Tryz.underlying30 HIN.out.1 HIN.out.2.1 HIN.out.2.2.1 HIN.out.2.2.2 rfl (by decide) _ acc.length (acc.map Value.string) rfl (HOW2.out.alloc _) ⟨_, 0, none⟩ 1 1 [.string _] rfl rfl (one_new (cell_new _ _ _ _ rfl)) (one_cell _) (by have := HACC.out; unfold maxLen; omega) (by have := HACC.out; omega) (by simp; omega) ?_; intro v3 w3 hown3 hgrow3; have HOW3 := hide hown3; have HW3 : Hid (Below w.heap.size w w3) := hide (((((HBEL.out.trans (HB1.out.mono hszr)).trans (HB2.out.mono (by omega))).alloc (by omega) _)).grown hgrow3 (by simp; omega) (own_row HOW2.out)); have HSL3 : Hid (SlAt w3 B (.slice ao2 r1.length cap2) r1) := hide (((HS1'.out.carry (HB2.out.mono (by have := HB.out; omega))).carry ((alloc1 _ _).mono (by have := HB.out; omega))).carry (Below.mono (B := w.heap.size) (Below.grown (Below.refl _ _) hgrow3 (by simp; omega) (own_row HOW2.out)) HB.out)); clear hown3 hgrow3))
        go_wp2_with fail
        all_goals
         go_roundw
         case rel =>
          have hcs := HCT.out
          refine ⟨k + 1, r1, ls ++ [c.name], acc ++ [caseT c t1], by omega, by go_num, by have := HACC.out; simp; omega, ?_, HSL3.out, ?_, HW3.out, HK1.out, ?_⟩
          · have := (ahead_suffix (talkS part) f st l1 r1 HG1.out).length_le; omega
          · have := HOW3.out; rw [hcs]; simpa using this
          · rw [← HT.out, HTS.out, HT1.out, HE1.out]; simp
         case measure => simp [intOf]; omega
      · have HSX := hide (HS1.out _ (fun _ => rfl))
        go_wp2_with (first | (go_at_call 38; refine (HI.out st l1 r1 _ _ B HL.out HST.out (by omega) HG1.out (Nat.le_trans HB.out hszr) HSX.out HSWR.out).mono ?_; rintro e w1 ⟨⟨v1, rfl, hs1⟩, hb1⟩; rw [HT1.out]; obtain ⟨d0, d1, d2, d3, d4⟩ := (HR.out.1.carry hbw hb1); have d4' : w1.cell? ⟨b, o + 4, none⟩ = some (.int .i64 (s : Int)) := (by rw [← hs0]; exact d4); have x0 := (HSX0.out _ (HSWR.out.carry hb1)); have hz1 := hb1.size; have HS1' := hide hs1; obtain ⟨ao2, cap2, rfl, hs2⟩ := hs1; have HB1 := hide hb1; have HOW1 := hide (own_below HOWN.out hb1); clear hb1 hs2 d0 d2 d3 d4))
        go_region_law (first | (go_simp; go_at_call 66; refine (joinx5 c.name (ba [40]) sv (ba [41, 46]) t1 _ _ (by simp) (by simp [ba]) (by rw [sz_ba, sz_ba]; simp only [List.length_cons, List.length_nil]; omega)).mono ?_; rintro e w2 ⟨rfl, hb2⟩; have hz2 : w1.heap.size ≤ w2.heap.size := (by have := hb2.size; simp at this; omega); have HB2 : Hid (Below w1.heap.size w1 w2) := hide (Below.trans (by first | exact (alloc1 _ _).drew | exact alloc1 _ _) (hb2.mono (by simp))); have HOW2 := hide (own_below HOW1.out HB2.out); clear hb2) | (refine step_append_own rfl (.tmp 18) (.tmp 32) 30 rfl w.heap.size 9 i0 (.string ByteArray.empty) 1 16 Tryz.underlying30 HIN.out.1 HIN.out.2.1 HIN.out.2.2.1 HIN.out.2.2.2 rfl (by decide) _ acc.length (acc.map Value.string) rfl (HOW2.out.alloc _) ⟨_, 0, none⟩ 1 1 [.string _] rfl rfl (one_new (cell_new _ _ _ _ rfl)) (one_cell _) (by have := HACC.out; unfold maxLen; omega) (by have := HACC.out; omega) (by simp; omega) ?_; intro v3 w3 hown3 hgrow3; have HOW3 := hide hown3; have HW3 : Hid (Below w.heap.size w w3) := hide (((((HBEL.out.trans (HB1.out.mono hszr)).trans (HB2.out.mono (by omega))).alloc (by omega) _)).grown hgrow3 (by simp; omega) (own_row HOW2.out)); have HSL3 : Hid (SlAt w3 B (.slice ao2 r1.length cap2) r1) := hide (((HS1'.out.carry (HB2.out.mono (by have := HB.out; omega))).carry ((alloc1 _ _).mono (by have := HB.out; omega))).carry (Below.mono (B := w.heap.size) (Below.grown (Below.refl _ _) hgrow3 (by simp; omega) (own_row HOW2.out)) HB.out)); clear hown3 hgrow3))
        go_wp2_with fail
        all_goals
         go_roundw
         case rel =>
          have hcs := HCT.out
          refine ⟨k + 1, r1, ls ++ [c.name], acc ++ [caseT c t1], by omega, by go_num, by have := HACC.out; simp; omega, ?_, HSL3.out, ?_, HW3.out, HK1.out, ?_⟩
          · have := (ahead_suffix (talkS part) f st l1 r1 HG1.out).length_le; omega
          · have := HOW3.out; rw [hcs]; simpa using this
          · rw [← HT.out, HTS.out, HT1.out, HE1.out]; simp
         case measure => simp [intOf]; omega
    · have hkm : k = m := by omega
      have HTOT : Hid (acc = (casesF (textF f) m l).1) := hide (by have := HT.out; rw [hkm, Nat.sub_self] at this; simpa [casesF] using this)
      have HCR : Hid (cur = r) := hide (by have := HKID.out; rw [hkm, Nat.sub_self] at this; simpa [kidsBy] using this)
      obtain ⟨hxl, hvv⟩ := HOWN.out
      rcases hvv with ⟨rfl, h0⟩ | ⟨g, cap2, cs2, rfl, hg, hh, hn2, hcap2, hsz2, htake⟩
      · exfalso; have := HACC.out; omega
      · have HTA := hide (texts_own HOWN.out (by have := HACC.out; omega))
        have HSZ : Hid ((joinC acc).size ≤ 1720) := hide (by
          have h1 := joinC_sz acc
          have h2 := HTX.out.2.1
          rw [← HTOT.out] at h2
          omega)
        have HCE : Hid (∀ i (h : i < acc.length), wr.cell? ⟨g, i, none⟩ = some (.string acc[i])) := hide (fun i hi => by
          obtain ⟨ao9, cap9, e9, _, _, h9⟩ := HTA.out
          obtain ⟨b9, o9, rfl, h99⟩ := h9 (by intro h; simp [h] at hi)
          simp at e9
          obtain ⟨⟨rfl, rfl⟩, rfl⟩ := e9
          have := h99 i hi
          rwa [Nat.zero_add] at this)
        have HGW : Hid (g < wr.heap.size) := hide (Array.getElem?_eq_some_iff.1 hh).1
        have HN2 := hide hn2
        clear hh htake hsz2 hcap2 hxl hg hn2 hkm
        go_wp2_with (go_at_call 96; refine (join_cases acc g cap2 _ HCE.out HGW.out (by have := HACC.out; omega) HN2.out HSZ.out).mono ?_; rintro e w1 ⟨rfl, hb1⟩; have HB1 := hide hb1; clear hb1)
        go_ret2
        refine ⟨⟨.slice ao1 cur.length cap1, ?_, ?_⟩, HBEL.out.trans (HB1.out.mono hszr)⟩
        · rw [← HTOT.out]; rfl
        · rw [← HCR.out]; exact HSL.out.carry (HB1.out.mono (Nat.le_trans HB.out hszr))
end Go.Proofs.YtmjlblbhakppfaaGreatDoor
namespace Go.Proofs.YtmjlblbhakppfaaGreatDoor
open Go.RowKit

end Go.Proofs.YtmjlblbhakppfaaGreatDoor
namespace Go.Proofs.YtmjlblbhakppfaaGreatDoor
open Go.RowKit

end Go.Proofs.YtmjlblbhakppfaaGreatDoor
namespace Go.Proofs.YtmjlblbhakppfaaGreatDoor
open Go.RowKit

theorem s_planRight (ns : List Nd) (v : Value) (w : World) (fit : ∀ n ∈ ns, n.fit) (hv : SlAt w w.heap.size v ns) :
    Calls Tryz.prog 13 #[v] w fun e w' => e = .returned (.bool (rightB false ns)) ∧ Below w.heap.size w w' := by
  have HV := hide hv
  have HF := hide fit
  obtain ⟨ao, cap, rfl, hc, hm, hr⟩ := hv
  clear hr fit hc hm
  go_enter Tryz.func13, Tryz.ntmps13
  go_wp2_with (go_at_call 49; refine (s_right false ns _ _ HF.out HV.out).mono ?_; rintro e w1 ⟨rfl, hb1⟩; have HB1 := hide hb1; clear hb1)
  go_ret
  exact ⟨ret_bool rfl, HB1.out⟩
theorem s_partRight (ns : List Nd) (v : Value) (w : World) (fit : ∀ n ∈ ns, n.fit) (hv : SlAt w w.heap.size v ns) :
    Calls Tryz.prog 31 #[v] w fun e w' => e = .returned (.bool (rightB true ns)) ∧ Below w.heap.size w w' := by
  have HV := hide hv
  have HF := hide fit
  obtain ⟨ao, cap, rfl, hc, hm, hr⟩ := hv
  clear hr fit hc hm
  go_enter Tryz.func31, Tryz.ntmps31
  go_wp2_with (go_at_call 49; refine (s_right true ns _ _ HF.out HV.out).mono ?_; rintro e w1 ⟨rfl, hb1⟩; have HB1 := hide hb1; clear hb1)
  go_ret
  exact ⟨ret_bool rfl, HB1.out⟩
end Go.Proofs.YtmjlblbhakppfaaGreatDoor
namespace Go.Proofs.YtmjlblbhakppfaaGreatDoor
open Go.RowKit
attribute [local go_sem ↓] Go.wp_at_zero Go.wp_at_succ

def Pieced (w w' : World) (B : Nat) (e : Ending) (n : Nat) (p : Pn n) (r : List Nd) : Prop := ∃ u v', e = .returned (.tuple #[u, v']) ∧ PcAt w' (btw w.heap.size w'.heap.size) n p u ∧ SlAt w' B v' r ∧ Below w.heap.size w w'
def PiecedL (w w' : World) (B : Nat) (e : Ending) (x : Option ByteArray) (r : List Nd) : Prop := ∃ u v', e = .returned (.tuple #[u, v']) ∧ leafAt x u ∧ SlAt w' B v' r ∧ Below w.heap.size w w'
def PieceCalls (n : Nat) (p : Pn n) : Prop := ∀ (r : List Nd) (v : Value) (w : World) (B : Nat), B ≤ w.heap.size → SlAt w B v (rowN n p ++ r) → Calls Tryz.prog 58 #[v] w fun e w' => Pieced w w' B e n p r
set_option maxRecDepth 100000 in
set_option maxHeartbeats 1000000 in
theorem piece_end (r : List Nd) (v : Value) (w : World) (B : Nat) (hB : B ≤ w.heap.size) (hv : SlAt w B v (leafRow none ++ r)) : Calls Tryz.prog 58 #[v] w fun e w' => PiecedL w w' B e none r := by
  rw [leafRow, List.cons_append, List.nil_append] at hv
  obtain ⟨ao, cap, rfl, hc1, hc2, hr⟩ := hv
  obtain ⟨b, o, rfl, hb, hrow⟩ := hr (by simp)
  have HT : Hid (∀ ao, (cap ≠ 1 → ao = some ⟨b, o + 5, none⟩) → SlAt w B (.slice ao r.length (cap - 1)) r) := hide (fun ao ha => SlAt.tail hb hrow hc1 hc2 ao ha)
  have HBS := hide hB
  simp only [List.length_cons] at hc1
  obtain ⟨⟨c0, c1, c2, c3, c4⟩, -⟩ := hrow
  dsimp only at c0 c1 c2 c3 c4
  have hbw : b < w.heap.size := World.block_lt_of_cell? w _ c0
  clear hr
  by_cases hcap : cap = 1
  · subst hcap
    obtain rfl : r = [] := List.length_eq_zero_iff.1 (by omega)
    go_enter Tryz.func58, Tryz.ntmps58
    go_wp2_with fail
    go_region
    go_wp2_with fail
    go_ret2
    exact ⟨_, _, rfl, rfl, (HT.out _ (fun h => absurd rfl h)).carry ((alloc1 w _).drew.mono HBS.out), (alloc1 w _).drew⟩
  · go_enter Tryz.func58, Tryz.ntmps58
    go_wp2_with fail
    go_region
    go_wp2_with fail
    go_ret2
    exact ⟨_, _, rfl, rfl, (HT.out _ (fun _ => rfl)).carry ((alloc1 w _).drew.mono HBS.out), (alloc1 w _).drew⟩
set_option maxRecDepth 100000 in
set_option maxHeartbeats 1000000 in
theorem piece_var (x : ByteArray) (r : List Nd) (v : Value) (w : World) (B : Nat) (hB : B ≤ w.heap.size) (hv : SlAt w B v (leafRow (some x) ++ r)) : Calls Tryz.prog 58 #[v] w fun e w' => PiecedL w w' B e (some x) r := by
  rw [leafRow, List.cons_append, List.nil_append] at hv
  obtain ⟨ao, cap, rfl, hc1, hc2, hr⟩ := hv
  obtain ⟨b, o, rfl, hb, hrow⟩ := hr (by simp)
  have HT : Hid (∀ ao, (cap ≠ 1 → ao = some ⟨b, o + 5, none⟩) → SlAt w B (.slice ao r.length (cap - 1)) (r)) := hide (fun ao ha => SlAt.tail hb hrow hc1 hc2 ao ha)
  have HBS := hide hB
  simp only [List.length_cons] at hc1
  obtain ⟨⟨c0, c1, c2, c3, c4⟩, -⟩ := hrow
  dsimp only at c0 c1 c2 c3 c4
  have hbw : b < w.heap.size := World.block_lt_of_cell? w _ c0
  clear hr
  by_cases hcap : cap = 1
  · subst hcap
    obtain rfl : r = [] := List.length_eq_zero_iff.1 (by omega)
    go_enter Tryz.func58, Tryz.ntmps58
    go_wp2_with fail
    go_region
    go_wp2_with fail
    go_ret2
    exact ⟨_, _, rfl, rfl, (HT.out _ (fun h => absurd rfl h)).carry ((alloc1 w _).drew.mono HBS.out), (alloc1 w _).drew⟩
  · go_enter Tryz.func58, Tryz.ntmps58
    go_wp2_with fail
    go_region
    go_wp2_with fail
    go_ret2
    exact ⟨_, _, rfl, rfl, (HT.out _ (fun _ => rfl)).carry ((alloc1 w _).drew.mono HBS.out), (alloc1 w _).drew⟩
set_option maxRecDepth 100000 in
set_option maxHeartbeats 1000000 in
theorem piece_loop (n : Nat) (x : ByteArray) (p : Pn n) (hp : PieceCalls n p) (r : List Nd) (v : Value) (w : World) (B : Nat) (hB : B ≤ w.heap.size) (hv : SlAt w B v (rowN (n + 1) (.loop x p) ++ r)) : Calls Tryz.prog 58 #[v] w fun e w' => Pieced w w' B e (n + 1) (.loop x p) r := by
  rw [row_loop, List.cons_append] at hv
  obtain ⟨ao, cap, rfl, hc1, hc2, hr⟩ := hv
  obtain ⟨b, o, rfl, hb, hrow⟩ := hr (by simp)
  have HT : Hid (∀ ao, (cap ≠ 1 → ao = some ⟨b, o + 5, none⟩) → SlAt w B (.slice ao (rowN n p ++ r).length (cap - 1)) ((rowN n p ++ r))) := hide (fun ao ha => SlAt.tail hb hrow hc1 hc2 ao ha)
  have HBS := hide hB
  simp only [List.length_cons] at hc1
  obtain ⟨⟨c0, c1, c2, c3, c4⟩, -⟩ := hrow
  dsimp only at c0 c1 c2 c3 c4
  have hbw : b < w.heap.size := World.block_lt_of_cell? w _ c0
  clear hr
  have hpos := row_pos n p
  have hcap : cap ≠ 1 := by simp only [List.length_append] at hc1; omega
  have HC : Hid (Calls Tryz.prog 58 #[.slice (some ⟨b, o + 5, none⟩) (rowN n p ++ r).length (cap - 1)] (w.alloc (.cells #[.int .i64 2, .string x, .string noT, .int .i64 0, .int .i64 0] 45)).drew fun e w' => Pieced (w.alloc (.cells #[.int .i64 2, .string x, .string noT, .int .i64 0, .int .i64 0] 45)).drew w' B e n p r) := hide (hp r _ _ B (by simp; omega) ((HT.out _ (fun _ => rfl)).carry ((alloc1 w _).drew.mono HBS.out)))
  obtain ⟨N, hN⟩ : ∃ N, (rowN n p ++ r).length = N := ⟨_, rfl⟩
  rw [hN] at HC hc1
  rw [List.length_cons, hN]
  clear hN hp hpos
  go_enter Tryz.func58, Tryz.ntmps58
  go_wp2_with fail
  go_region
  go_wp2_with (go_at_call 58; refine HC.out.mono ?_; rintro e w2 ⟨u, v2, rfl, h1, h2, h3⟩; have H1 := hide h1; have H2 := hide h2; have H3 : Hid (Below w.heap.size w w2) := hide ((alloc1 w _).drew.trans (h3.mono (by simp))); have d1 := (h3.cell (p := ⟨w.heap.size, 1, none⟩) (by simp)); simp at d1; obtain ⟨ao2, cap2, rfl, -⟩ := h2; obtain ⟨t2, a2, rfl⟩ := h1.shape; clear h1 h3)
  go_ret2
  exact ⟨_, _, rfl, ⟨_, rfl, H1.out.wide (by simp)⟩, H2.out, H3.out⟩
def Branched (w w' : World) (B : Nat) (e : Ending) (n : Nat) (cs : List (Br (Pn n))) (r : List Nd) : Prop := ∃ u v', e = .returned (.tuple #[u, v']) ∧ BrS w' (btw w.heap.size w'.heap.size) u cs ∧ SlAt w' B v' r ∧ Below w.heap.size w w'
def BranchCalls (n : Nat) (cs : List (Br (Pn n))) : Prop := ∀ (r : List Nd) (v : Value) (w : World) (B : Nat), B ≤ w.heap.size → SlAt w B v (brsBy (rowN n) cs ++ r) → Calls Tryz.prog 88 #[v, .int .i64 (cs.length : Int)] w fun e w' => Branched w w' B e n cs r
set_option maxRecDepth 100000 in
set_option maxHeartbeats 1000000 in
theorem piece_msg (n : Nat) (x y : ByteArray) (cs : List (Br (Pn n))) (hlen : 1 ≤ cs.length) (hp : BranchCalls n cs) (r : List Nd) (v : Value) (w : World) (B : Nat) (hB : B ≤ w.heap.size) (hv : SlAt w B v (rowN (n + 1) (.talk ⟨3, x, y⟩ cs) ++ r)) : Calls Tryz.prog 58 #[v] w fun e w' => Pieced w w' B e (n + 1) (.talk ⟨3, x, y⟩ cs) r := by
  rw [row_talk, List.cons_append] at hv
  obtain ⟨ao, cap, rfl, hc1, hc2, hr⟩ := hv
  obtain ⟨b, o, rfl, hb, hrow⟩ := hr (by simp)
  have HT : Hid (∀ ao, (cap ≠ 1 → ao = some ⟨b, o + 5, none⟩) → SlAt w B (.slice ao (brsBy (rowN n) cs ++ r).length (cap - 1)) (brsBy (rowN n) cs ++ r)) := hide (fun ao ha => SlAt.tail hb hrow hc1 hc2 ao ha)
  have HBS := hide hB
  simp only [List.length_cons] at hc1
  obtain ⟨⟨c0, c1, c2, c3, c4⟩, -⟩ := hrow
  dsimp only at c0 c1 c2 c3 c4
  have hbw : b < w.heap.size := World.block_lt_of_cell? w _ c0
  have hpos : 0 < (brsBy (rowN n) cs).length := by
    cases cs with
    | nil => simp at hlen
    | cons => rw [brs_cons]; simp
  have hcap : cap ≠ 1 := by simp only [List.length_append] at hc1; omega
  obtain ⟨M, hM⟩ : ∃ M, cs.length = M := ⟨_, rfl⟩
  have HC : Hid (Calls Tryz.prog 88 #[.slice (some ⟨b, o + 5, none⟩) (brsBy (rowN n) cs ++ r).length (cap - 1), .int .i64 (M : Int)] (w.alloc (.cells #[.int .i64 3, .string x, .string y, .int .i64 (M : Int), .int .i64 0] 45)).drew fun e w' => Branched (w.alloc (.cells #[.int .i64 3, .string x, .string y, .int .i64 (M : Int), .int .i64 0] 45)).drew w' B e n cs r) := hide (by rw [← hM]; exact hp r _ _ B (by simp; omega) ((HT.out _ (fun _ => rfl)).carry ((alloc1 w _).drew.mono HBS.out)))
  obtain ⟨N, hN⟩ : ∃ N, (brsBy (rowN n) cs ++ r).length = N := ⟨_, rfl⟩
  rw [hN] at HC hc1
  rw [hM] at c3
  rw [List.length_cons, hN]
  clear hN hp hpos hM hlen hr
  go_enter Tryz.func58, Tryz.ntmps58
  go_wp2_with fail
  go_region
  go_wp2_with (go_at_call 88; refine HC.out.mono ?_; rintro e w2 ⟨u, v2, rfl, h1, h2, h3⟩; have H1 := hide h1; have H2 := hide h2; have H3 : Hid (Below w.heap.size w w2) := hide ((alloc1 w _).drew.trans (h3.mono (by simp))); have d1 := (h3.cell (p := ⟨w.heap.size, 1, none⟩) (by simp)); have d2 := (h3.cell (p := ⟨w.heap.size, 2, none⟩) (by simp)); simp at d1 d2; obtain ⟨ao2, cap2, rfl, -⟩ := h2; obtain ⟨ao3, cap3, rfl, -⟩ := h1; clear h3)
  go_ret2
  exact ⟨_, _, rfl, ⟨_, rfl, H1.out.wide (by simp)⟩, H2.out, H3.out⟩
end Go.Proofs.YtmjlblbhakppfaaGreatDoor
namespace Go.Proofs.YtmjlblbhakppfaaGreatDoor
open Go.RowKit
attribute [local go_sem ↓] Go.wp_at_zero Go.wp_at_succ

theorem map_get {n : Nat} {l : List (BV n)} {r L : List (Br (Pn n))} (h : L = l.map BV.b ++ r) : L.length = l.length + r.length := by rw [h, List.length_append, List.length_map]
structure RoundB (n : Nat) (w wr : World) (B : Nat) (cs : List (Br (Pn n))) (r : List Nd) (lv cv : Value) (dn : List (BV n)) (rest : List (Br (Pn n))) : Prop where
  all : cs = dn.map BV.b ++ rest
  sl : SlAt wr B lv (brsBy (rowN n) rest ++ r)
  own : BrOwn wr w.heap.size cv dn
  bel : Below w.heap.size w wr
set_option maxRecDepth 100000 in
set_option maxHeartbeats 2000000 in
theorem branches_ahead (n : Nat) (cs : List (Br (Pn n))) (h4 : cs.length ≤ 4) (hp : ∀ b ∈ cs, PieceCalls n b.p) : BranchCalls n cs := by
  intro r v w B hB hv
  obtain ⟨i0, hi, hz0, hz1, hz2⟩ := info_parts Tryz.infoBr
  have HI := hide (And.intro hi (And.intro hz0 (And.intro hz1 hz2)))
  have HP := hide hp
  have HB := hide hB
  have HS : Hid (RoundB n w w B cs r v (.slice none 0 0) [] cs) := hide ⟨rfl, hv, BrOwn.nil _ _, Below.refl _ _⟩
  obtain ⟨M, hM⟩ : ∃ M, cs.length = M := ⟨_, rfl⟩
  rw [hM] at h4 ⊢
  have HM := hide hM
  obtain ⟨ao, cap, rfl, -⟩ := hv
  clear hi hz0 hz1 hz2 hp hM
  go_enter Tryz.func88, Tryz.ntmps88
  go_wp2_with fail
  go_loopw [0, 6, 10] (fun lv cv i wr => ∃ (dn : List (BV n)) (rest : List (Br (Pn n))), i = .int .i64 (dn.length : Int) ∧ dn.length ≤ M ∧ RoundB n w wr B cs r lv cv dn rest) (fun _ _ i _ => M - (intOf i).toNat)
  case atStart => exact ⟨[], cs, rfl, Nat.zero_le _, HS.out⟩
  case round =>
    obtain ⟨dn, rest, rfl, hle, hR⟩ := hrel
    have HR := hide hR
    obtain ⟨k, hk⟩ : ∃ k, dn.length = k := ⟨_, rfl⟩
    have HK := hide hk
    rw [hk] at hle
    rw [hk]
    by_cases hlt : k < M
    · cases rest with
      | nil => exact absurd (map_get hR.all) (by rw [HM.out, hk]; simp; omega)
      | cons b rest' =>
        have hbm : b ∈ cs := by rw [hR.all]; simp
        obtain ⟨bl, bs, bp⟩ := b
        have hsl := hR.sl
        rw [brs_cons, List.cons_append, List.append_assoc] at hsl
        obtain ⟨ao2, cap2, rfl, hc1, hc2, hr2⟩ := hsl
        obtain ⟨b2, o2, rfl, hb2, hrow2⟩ := hr2 (by simp)
        have hpos := row_pos n bp
        have hcap2 : cap2 ≠ 1 := by simp only [List.length_cons, List.length_append] at hc1; omega
        have HT : Hid (SlAt wr B (.slice (some ⟨b2, o2 + 5, none⟩) (rowN n bp ++ (brsBy (rowN n) rest' ++ r)).length (cap2 - 1)) (rowN n bp ++ (brsBy (rowN n) rest' ++ r))) := hide (SlAt.tail hb2 hrow2 hc1 hc2 _ (fun _ => rfl))
        have HC := hide (HP.out _ hbm (brsBy (rowN n) rest' ++ r) _ wr B (Nat.le_trans HB.out hR.bel.size) HT.out)
        have hbw : b2 < B := hb2
        obtain ⟨⟨c0, c1, c2, c3, c4⟩, -⟩ := hrow2
        dsimp only at c0 c1 c2 c3 c4
        obtain ⟨N, hN⟩ : ∃ N, (rowN n bp ++ (brsBy (rowN n) rest' ++ r)).length = N := ⟨_, rfl⟩
        simp only [List.length_cons] at hc1 ⊢
        rw [hN] at HC hc1 ⊢
        have hszr := hR.bel.size
        have hBB := HB.out
        obtain ⟨pc, cc, hpc⟩ := owns_shape hR.own.own
        rw [hk] at hpc
        subst hpc
        have hbwr : b2 < wr.heap.size := by omega
        clear hr2 hpos hN hR hk hbm
        go_wp2_with (go_at_call 58; refine HC.out.mono ?_; rintro e w2 ⟨u, v2, rfl, h1, h2, h3⟩; have H1 := hide h1; have H2 := hide h2; have H3 := hide h3; have d1 := (h3.cell (p := ⟨b2, o2 + 1, none⟩) hbwr).trans c1; have d4 := (h3.cell (p := ⟨b2, o2 + 4, none⟩) hbwr).trans c4; have d1a : ∀ o : Obj, (w2.alloc o).cell? ⟨b2, o2 + 1, none⟩ = some (.string bl) := (fun o => by rw [← d1]; exact (malloc1 w2 o).cell (p := ⟨b2, o2 + 1, none⟩) (Nat.lt_of_lt_of_le hbwr h3.size)); have HO2 : Hid (BrOwn w2.drew w.heap.size (.slice pc k cc) dn) := hide ((HR.out.own.keep h3).keep (Below.refl _ _).drew); have HX2 : Hid (PcAt w2.drew (off w.heap.size w2.drew.heap.size (.slice pc k cc)) n bp u) := hide (PcAt.carry (w := w2) (w' := w2.drew) (S := btw wr.heap.size w2.heap.size) (fun _ _ => rfl) (fun g hg => ⟨⟨Nat.le_trans hszr hg.1, hg.2⟩, fun hm => absurd ((owns_fresh HR.out.own.own).hi g hm) (by have := hg.1; omega)⟩) n bp u h1); obtain ⟨ao3, cap3, rfl, -⟩ := h2; obtain ⟨t2, a2, rfl⟩ := h1.shape; clear h1 h3)
        go_region_law (refine stepM_at rfl (.tmp 18) (.tmp 29) 112 rfl w.heap.size 149 i0 (.agg #[.string ByteArray.empty, .int .i64 0, .nilIface]) 3 40 Tryz.underlying112 HI.out.1 HI.out.2.1 HI.out.2.2.1 HI.out.2.2.2 rfl (by decide) (.slice pc k cc) k (dn.flatMap BV.cells) (by simp [Act.eval]) (by have := HO2.out.own; rw [HK.out] at this; exact owns_below this (malloc1 _ _)) ⟨w2.heap.size, 0, none⟩ 1 1 (BV.cells ⟨⟨bl, bs, bp⟩, .iface t2 (.agg a2)⟩) (by simp [Act.eval]) rfl (fun j u hj => new_rowq _ _ _ _ (by simp) j u hj) (bv_one H1.out) (by unfold maxLen; omega) (by omega) (by have := H3.out.size; simp; omega) ?_; intro v4 w4 hown4 hgr4 hat4; have HM4 := hide (br_push HO2.out ⟨⟨bl, bs, bp⟩, .iface t2 (.agg a2)⟩ HX2.out _ (by rw [HK.out]; exact hown4) hgr4 hat4); obtain ⟨p4, c4', rfl⟩ := owns_shape hown4; clear hown4 hgr4 hat4)
        all_goals
          go_wp2_with fail
          go_roundw
          case rel =>
            have hlo := (owns_fresh HR.out.own.own).lo
            have hz2 := H3.out.size
            have hb4 : Below w.heap.size w2.drew w4 := HM4.out.2.below (by simp; omega) hlo
            refine ⟨dn ++ [⟨⟨bl, bs, bp⟩, .iface t2 (.agg a2)⟩], rest', by rw [List.length_append, List.length_singleton, HK.out]; go_num, by rw [List.length_append, List.length_singleton, HK.out]; omega, ⟨by rw [HR.out.all]; simp, by have := (H2.out.carry ((Below.refl _ _).drew)).carry (hb4.mono HB.out); rw [List.length_append] at this; exact this, HM4.out.1, (HR.out.bel.trans (H3.out.mono hszr)).drew.trans hb4⟩⟩
          case measure => simp [intOf]; omega
    · have hkM : k = M := by omega
      have hrest : rest = [] := by
        have := map_get hR.all
        rw [HM.out, HK.out] at this
        exact List.length_eq_zero_iff.1 (by omega)
      subst hrest
      have HE : Hid (dn.map BV.b = cs) := hide (by rw [hR.all, List.append_nil])
      obtain ⟨pc, cc, hpc⟩ := owns_shape hR.own.own
      obtain ⟨ao2, cap2, hlv, -⟩ := hR.sl
      subst hpc
      subst hlv
      clear hR
      go_wp2_with fail
      go_ret2
      refine ⟨_, _, rfl, ?_, ?_, HR.out.bel⟩
      · have := HR.out.own.sl
        rw [HE.out] at this
        exact this
      · have := HR.out.sl
        simpa [brsBy] using this
theorem pieced_leaf {w w' : World} {B : Nat} {e : Ending} {x : Option ByteArray} {r : List Nd} (h : PiecedL w w' B e x r) : (Pieced w w' B e 0 x r) ∧ ∀ n, Pieced w w' B e (n + 1) (.leaf x) r := by
  obtain ⟨u, v', h1, h2, h3, h4⟩ := h
  exact ⟨⟨u, v', h1, h2, h3, h4⟩, fun n => ⟨u, v', h1, h2, h3, h4⟩⟩
theorem piece_leaf (x : Option ByteArray) (r : List Nd) (v : Value) (w : World) (B : Nat) (hB : B ≤ w.heap.size) (hv : SlAt w B v (leafRow x ++ r)) : Calls Tryz.prog 58 #[v] w fun e w' => PiecedL w w' B e x r := by
  cases x with
  | none => exact piece_end r v w B hB hv
  | some x => exact piece_var x r v w B hB hv
theorem piece_ahead : ∀ (n : Nat) (p : Pn n), planN n p → PieceCalls n p := by
  intro n
  induction n with
  | zero => intro p _ r v w B hB hv; exact (piece_leaf p r v w B hB hv).mono fun e w' h => (pieced_leaf h).1
  | succ n ih =>
    intro p
    refine Pn.cases (P := fun p => planN (n + 1) p → PieceCalls (n + 1) p) (fun x _ r v w B hB hv => ?_) (fun x q hp => ?_) (fun t l hp => ?_) p
    · exact (piece_leaf x r v w B hB hv).mono fun e w' h => (pieced_leaf h).2 n
    · exact piece_loop n x q (ih q hp)
    · have hp' : t.op = 3 ∧ (t.a.toList == t.b.toList) = false ∧ 1 ≤ l.length ∧ l.length ≤ 4 ∧ ∀ b ∈ l, planN n b.p := hp
      obtain ⟨op, a, b⟩ := t
      obtain ⟨h3, -, h1, h4, hb⟩ := hp'
      dsimp only at h3
      subst h3
      exact piece_msg n a b l h1 (branches_ahead n l h4 (fun b hm => ih b.p (hb b hm)))
end Go.Proofs.YtmjlblbhakppfaaGreatDoor
