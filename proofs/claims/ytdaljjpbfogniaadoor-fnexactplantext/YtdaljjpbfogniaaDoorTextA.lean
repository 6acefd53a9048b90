/- PlanText and PartText, of the program and of the specification. -/
import Derived.Test.YtdaljjpbfogniaaDoorSTextA
import Derived.Test.YtdaljjpbfogniaaDoorIText0
import Derived.Test.YtdaljjpbfogniaaDoorIText3
import Derived.Test.YtdaljjpbfogniaaDoorIText5
import Derived.Test.YtdaljjpbfogniaaDoorIText6
import Derived.Test.YtdaljjpbfogniaaDoorLw2
namespace Go.Proofs.YtdaljjpbfogniaaDoor
open Go.RowKit

theorem itext_calls (part : Bool) (f : Nat) : ITextCalls part f := by
  induction f with
  | zero =>
    intro st l r v w B hlen hst h40 hr hB hv hsw
    obtain ⟨ao, cap, rfl, hc1, hc2, hrow⟩ := hv
    cases l with
    | nil => cases hr
    | cons n l1 =>
      obtain ⟨b, o, rfl, hbB, hrow⟩ := hrow (by simp)
      obtain ⟨op, name, peer, many, sort⟩ := n
      by_cases o0 : op = 0
      · subst o0
        by_cases h1 : cap = 1
        · exact itext0_a part 0 st name peer many sort l1 r w B b o cap hlen hst h40 hr hB hbB hc1 hc2 h1 hrow hsw
        · exact itext0_b part 0 st name peer many sort l1 r w B b o cap hlen hst h40 hr hB hbB hc1 hc2 h1 hrow hsw
      · by_cases o1 : op = 1
        · subst o1
          by_cases h1 : cap = 1
          · exact itext1_a part 0 st name peer many sort l1 r w B b o cap hlen hst h40 hr hB hbB hc1 hc2 h1 hrow hsw
          · exact itext1_b part 0 st name peer many sort l1 r w B b o cap hlen hst h40 hr hB hbB hc1 hc2 h1 hrow hsw
        · rw [ahead_t0 o0 o1] at hr; cases hr
  | succ f ih =>
    intro st l r v w B hlen hst h40 hr hB hv hsw
    have hih : ∀ g, f + 1 = g + 1 → ITextCalls part g := fun g h => by cases h; exact ih
    obtain ⟨ao, cap, rfl, hc1, hc2, hrow⟩ := hv
    cases l with
    | nil => cases hr
    | cons n l1 =>
      obtain ⟨b, o, rfl, hbB, hrow⟩ := hrow (by simp)
      obtain ⟨op, name, peer, many, sort⟩ := n
      by_cases o0 : op = 0
      · subst o0
        by_cases h1 : cap = 1
        · exact itext0_a part (f + 1) st name peer many sort l1 r w B b o cap hlen hst h40 hr hB hbB hc1 hc2 h1 hrow hsw
        · exact itext0_b part (f + 1) st name peer many sort l1 r w B b o cap hlen hst h40 hr hB hbB hc1 hc2 h1 hrow hsw
      · by_cases o1 : op = 1
        · subst o1
          by_cases h1 : cap = 1
          · exact itext1_a part (f + 1) st name peer many sort l1 r w B b o cap hlen hst h40 hr hB hbB hc1 hc2 h1 hrow hsw
          · exact itext1_b part (f + 1) st name peer many sort l1 r w B b o cap hlen hst h40 hr hB hbB hc1 hc2 h1 hrow hsw
        · by_cases o2 : op = 2
          · subst o2
            by_cases h1 : cap = 1
            · exact itext2_a part (f + 1) hih st name peer many sort l1 r w B b o cap hlen hst h40 hr hB hbB hc1 hc2 h1 hrow hsw
            · exact itext2_b part (f + 1) hih st name peer many sort l1 r w B b o cap hlen hst h40 hr hB hbB hc1 hc2 h1 hrow hsw
          · by_cases o3 : op = 3
            · subst o3
              by_cases h1 : cap = 1
              · exact itext3_a part (f + 1) hih st name peer many sort l1 r w B b o cap hlen hst h40 hr hB hbB hc1 hc2 h1 hrow hsw
              · exact itext3_b part (f + 1) hih st name peer many sort l1 r w B b o cap hlen hst h40 hr hB hbB hc1 hc2 h1 hrow hsw
            · by_cases o5 : op = 5
              · subst o5
                by_cases h1 : cap = 1
                · exact itext5_a part (f + 1) hih st name peer many sort l1 r w B b o cap hlen hst h40 hr hB hbB hc1 hc2 h1 hrow hsw
                · exact itext5_b part (f + 1) hih st name peer many sort l1 r w B b o cap hlen hst h40 hr hB hbB hc1 hc2 h1 hrow hsw
              · by_cases o6 : op = 6
                · subst o6
                  by_cases h1 : cap = 1
                  · exact itext6_a part (f + 1) hih st name peer many sort l1 r w B b o cap hlen hst h40 hr hB hbB hc1 hc2 h1 hrow hsw
                  · exact itext6_b part (f + 1) hih st name peer many sort l1 r w B b o cap hlen hst h40 hr hB hbB hc1 hc2 h1 hrow hsw
                · exfalso
                  rw [ahead_x o0 o1 o2 (by cases part <;> simp [talkS, o3, o5, o6])] at hr
                  cases hr

def textV (part : Bool) (ns : List Nd) : ByteArray := if rightB part ns then (textF 10 ns).1 else ByteArray.empty
theorem right_ahead {part : Bool} {ns : List Nd} (h : rightB part ns = true) : ahead (talkS part) 10 [] ns = some [] ∧ ns.length ≤ 40 := by
  rw [rightB] at h
  simp only [Bool.and_eq_true, decide_eq_true_eq, beq_iff_eq] at h
  refine ⟨?_, h.1⟩
  cases hr : ahead (talkS part) 10 [] ns with
  | none => rw [hr] at h; simp at h
  | some r => rw [hr] at h; simp at h; rw [h.2.1]
theorem text_small {part : Bool} {ns : List Nd} (h : rightB part ns = true) : (textF 10 ns).1.size ≤ 1720 := by
  obtain ⟨h1, h2⟩ := right_ahead h
  have := (ahead_text part 10 [] ns [] (fun _ h => by cases h) h1).2
  simp at this
  omega

theorem plan_text (ns : List Nd) (v : Value) (w : World) (fit : ∀ n ∈ ns, n.fit) (hv : SlAt w w.heap.size v ns) (hsw : SortW w) :
    Calls Tryd.prog 10 #[v] w fun e w' => e = .returned (.string (textV false ns)) ∧ Below w.heap.size w w' := by
  have HV := hide hv
  have HF := hide fit
  have HSW := hide hsw
  obtain ⟨ao, cap, rfl, hc, hm, hr⟩ := hv
  obtain ⟨rb, hrb⟩ : ∃ rb, rightB false ns = rb := ⟨_, rfl⟩
  have HRB := hide hrb
  clear hr fit hrb hsw
  cases rb
  · have HE : Hid (textV false ns = ⟨#[]⟩) := hide (by rw [textV, HRB.out]; rfl)
    go_enter Tryd.func10, Tryd.ntmps10
    go_wp2_with (go_at_call 27; refine (plan_right ns _ _ HF.out HV.out).mono ?_; rintro e w1 ⟨rfl, hb1⟩; rw [HRB.out]; have HB1 := hide hb1; clear hb1)
    go_ret
    exact ⟨ret_str HE.out, HB1.out⟩
  · have HE : Hid (textV false ns = (textF 10 ns).1) := hide (by rw [textV, HRB.out]; rfl)
    have HAH := hide (right_ahead HRB.out)
    go_enter Tryd.func10, Tryd.ntmps10
    go_wp2_with (first | (go_at_call 27; refine (plan_right ns _ _ HF.out HV.out).mono ?_; rintro e w1 ⟨rfl, hb1⟩; rw [HRB.out]; have HB1 := hide hb1; clear hb1) | (go_at_call 28; refine (itext_calls false 10 [] ns [] _ _ w.heap.size rfl (fun _ h => by cases h) HAH.out.2 HAH.out.1 HB1.out.size (HV.out.carry HB1.out) (HSW.out.carry HB1.out)).mono ?_; rintro e w2 ⟨⟨v2, rfl, hs2⟩, hb2⟩; have HB2 := hide hb2; clear hb2 hs2))
    go_ret
    exact ⟨ret_str HE.out, HB1.out.trans (HB2.out.mono HB1.out.size)⟩

theorem part_text (ns : List Nd) (v : Value) (w : World) (fit : ∀ n ∈ ns, n.fit) (hv : SlAt w w.heap.size v ns) (hsw : SortW w) :
    Calls Tryd.prog 18 #[v] w fun e w' => e = .returned (.string (textV true ns)) ∧ Below w.heap.size w w' := by
  have HV := hide hv
  have HF := hide fit
  have HSW := hide hsw
  obtain ⟨ao, cap, rfl, hc, hm, hr⟩ := hv
  obtain ⟨rb, hrb⟩ : ∃ rb, rightB true ns = rb := ⟨_, rfl⟩
  have HRB := hide hrb
  clear hr fit hrb hsw
  cases rb
  · have HE : Hid (textV true ns = ⟨#[]⟩) := hide (by rw [textV, HRB.out]; rfl)
    go_enter Tryd.func18, Tryd.ntmps18
    go_wp2_with (go_at_call 35; refine (part_right ns _ _ HF.out HV.out).mono ?_; rintro e w1 ⟨rfl, hb1⟩; rw [HRB.out]; have HB1 := hide hb1; clear hb1)
    go_ret
    exact ⟨ret_str HE.out, HB1.out⟩
  · have HE : Hid (textV true ns = (textF 10 ns).1) := hide (by rw [textV, HRB.out]; rfl)
    have HAH := hide (right_ahead HRB.out)
    go_enter Tryd.func18, Tryd.ntmps18
    go_wp2_with (first | (go_at_call 35; refine (part_right ns _ _ HF.out HV.out).mono ?_; rintro e w1 ⟨rfl, hb1⟩; rw [HRB.out]; have HB1 := hide hb1; clear hb1) | (go_at_call 28; refine (itext_calls true 10 [] ns [] _ _ w.heap.size rfl (fun _ h => by cases h) HAH.out.2 HAH.out.1 HB1.out.size (HV.out.carry HB1.out) (HSW.out.carry HB1.out)).mono ?_; rintro e w2 ⟨⟨v2, rfl, hs2⟩, hb2⟩; have HB2 := hide hb2; clear hb2 hs2))
    go_ret
    exact ⟨ret_str HE.out, HB1.out.trans (HB2.out.mono HB1.out.size)⟩

theorem s_whole (part : Bool) (ns : List Nd) (v : Value) (w : World) (fit : ∀ n ∈ ns, n.fit) (hv : SlAt w w.heap.size v ns) :
    Calls Tryd.prog 25 #[v, .bool part] w fun e w' => e = .returned (.string (textV part ns)) ∧ Below w.heap.size w w' := by
  have HV := hide hv
  have HF := hide fit
  have hlm := hv.lenm
  obtain ⟨ao, cap, rfl, hc, hm, hr⟩ := hv
  obtain ⟨rb, hrb⟩ : ∃ rb, rightB part ns = rb := ⟨_, rfl⟩
  have HRB := hide hrb
  clear fit hrb
  cases rb
  · have HE : Hid (textV part ns = ⟨#[]⟩) := hide (by rw [textV, HRB.out]; rfl)
    clear hr
    by_cases h400 : ns.length ≤ 400
    · go_enter Tryd.func25, Tryd.ntmps25
      go_wp2_with (go_at_call 36; refine (s_right part ns _ _ HF.out HV.out).mono ?_; rintro e w1 ⟨rfl, hb1⟩; rw [HRB.out]; have HB1 := hide hb1; clear hb1)
      go_ret
      exact ⟨ret_str HE.out, HB1.out⟩
    · go_enter Tryd.func25, Tryd.ntmps25
      go_wp2_with fail
      go_ret
      exact ⟨ret_str HE.out, Below.refl _ _⟩
  · have HE : Hid (textV part ns = (textF 10 ns).1) := hide (by rw [textV, HRB.out]; rfl)
    obtain ⟨hah, hl40⟩ := right_ahead HRB.out
    have hne : ns ≠ [] := fun h => by rw [h] at hah; cases hah
    obtain ⟨b, o, rfl, hbB, hrow⟩ := hr hne
    have HAR : Hid (ArrAt w (.slice (some ⟨b, o, none⟩) ns.length cap) ns) := hide ⟨b, o, cap, rfl, hc, by omega, hrow, hbB⟩
    have HAH := hide hah
    obtain ⟨t1, ht1⟩ : ∃ t1, (textF 10 ns).1 = t1 := ⟨_, rfl⟩
    have HT1 := hide ht1
    have htz : t1.size ≤ 1720 := by rw [← ht1]; exact text_small HRB.out
    clear hah hrow hne ht1 hr
    go_enter Tryd.func25, Tryd.ntmps25
    go_wp2_with (first | (go_at_call 36; refine (s_right part ns _ _ HF.out HV.out).mono ?_; rintro e w1 ⟨rfl, hb1⟩; rw [HRB.out]; have HB1 := hide hb1; clear hb1) | (go_at_call 37; refine (stext_calls part 10 [] ns [] 0 0 _ _ rfl (fun _ h => by cases h) rfl (Nat.zero_le _) hl40 (by rw [List.drop_zero]; exact HAH.out) (HAR.out.carry HB1.out)).mono ?_; rintro e w2 ⟨rfl, hb2⟩; rw [List.drop_zero, HT1.out]; have HB2 := hide hb2; clear hb2))
    go_ret
    exact ⟨ret_str (by rw [HE.out, HT1.out]), HB1.out.trans (HB2.out.mono HB1.out.size)⟩

theorem s_planText (ns : List Nd) (v : Value) (w : World) (fit : ∀ n ∈ ns, n.fit) (hv : SlAt w w.heap.size v ns) :
    Calls Tryd.prog 8 #[v] w fun e w' => e = .returned (.string (textV false ns)) ∧ Below w.heap.size w w' := by
  have HV := hide hv
  have HF := hide fit
  obtain ⟨ao, cap, rfl, hc, hm, hr⟩ := hv
  clear hr fit hc hm
  go_enter Tryd.func8, Tryd.ntmps8
  go_wp2_with (go_at_call 25; refine (s_whole false ns _ _ HF.out HV.out).mono ?_; rintro e w1 ⟨rfl, hb1⟩; have HB1 := hide hb1; clear hb1)
  go_ret
  exact ⟨rfl, HB1.out⟩
theorem s_partText (ns : List Nd) (v : Value) (w : World) (fit : ∀ n ∈ ns, n.fit) (hv : SlAt w w.heap.size v ns) :
    Calls Tryd.prog 17 #[v] w fun e w' => e = .returned (.string (textV true ns)) ∧ Below w.heap.size w w' := by
  have HV := hide hv
  have HF := hide fit
  obtain ⟨ao, cap, rfl, hc, hm, hr⟩ := hv
  clear hr fit hc hm
  go_enter Tryd.func17, Tryd.ntmps17
  go_wp2_with (go_at_call 25; refine (s_whole true ns _ _ HF.out HV.out).mono ?_; rintro e w1 ⟨rfl, hb1⟩; have HB1 := hide hb1; clear hb1)
  go_ret
  exact ⟨rfl, HB1.out⟩
end Go.Proofs.YtdaljjpbfogniaaDoor
