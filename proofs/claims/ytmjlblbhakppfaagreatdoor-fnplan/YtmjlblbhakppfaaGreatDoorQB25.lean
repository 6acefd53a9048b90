/- The program's marks in memory: taken, skipped; what a talk or a variable begins with. -/
import Derived.Test.YtmjlblbhakppfaaGreatDoorQB21
import Derived.Test.YtmjlblbhakppfaaGreatDoorQB05
import Derived.Test.YtmjlblbhakppfaaGreatDoorQB20
import Derived.Test.YtmjlblbhakppfaaGreatDoorQB24
import Derived.Test.YtmjlblbhakppfaaGreatDoorQB19
namespace Go.Proofs.YtmjlblbhakppfaaGreatDoor
open Go.RowKit

/-- marks that are not read yet: their box, the block of their texts -/
structure MsAt (w : World) (mb tb : Nat) (ms : List ByteArray) : Prop where
  at_ : ∃ ao cap, BoxL w mb [.slice ao ms.length cap] ∧ ms.length ≤ cap ∧ cap ≤ 9223372036854775807 ∧ (ms ≠ [] → ∃ o, ao = some ⟨tb, o, none⟩ ∧ tb < w.heap.size ∧ ∀ i (h : i < ms.length), w.cell? ⟨tb, o + i, none⟩ = some (.string ms[i]))
  ne : tb ≠ mb
theorem MsAt.keep {w w' : World} {mb tb : Nat} {ms : List ByteArray} {l : List Nat} (h : MsAt w mb tb ms) (ha : Apart w w' l) (h1 : mb ∉ l) (h2 : tb ∉ l) : MsAt w' mb tb ms := by
  obtain ⟨ao, cap, hb, hc, hm, hr⟩ := h.at_
  refine ⟨⟨ao, cap, hb.keep ha h1, hc, hm, fun hne => ?_⟩, h.ne⟩
  obtain ⟨o, e, hlt, hcs⟩ := hr hne
  exact ⟨o, e, Nat.lt_of_lt_of_le hlt ha.size, fun i hi => ha.cell' (hcs i hi) h2⟩
theorem MsAt.below {w w' : World} {mb tb : Nat} {ms : List ByteArray} (h : MsAt w mb tb ms) (hb : Below w.heap.size w w') : MsAt w' mb tb ms := h.keep (below_apart hb) (by simp) (by simp)
theorem ms_next {w : World} {mb tb : Nat} {m : ByteArray} {ms : List ByteArray} {o cap : Nat} (hb : BoxL w mb [.slice (some ⟨tb, o, none⟩) (m :: ms).length cap]) (hlt : tb < w.heap.size) (hcs : ∀ i (h : i < (m :: ms).length), w.cell? ⟨tb, o + i, none⟩ = some (.string (m :: ms)[i])) (hne : tb ≠ mb) (ao : Option Addr) (c : Nat) (hc : ms.length ≤ c) (hm : c ≤ 9223372036854775807) (hv : ms ≠ [] → ao = some ⟨tb, o + 1, none⟩) : MsAt (w.setCell ⟨mb, 0, none⟩ (.slice ao ms.length c)) mb tb ms := by
  refine ⟨⟨_, _, hb.set 0 (by simp) _, hc, hm, fun h => ⟨o + 1, hv h, by rw [World.size_setCell]; exact hlt, fun i hi => ?_⟩⟩, hne⟩
  have h1 := hcs (i + 1) (by simp; omega)
  have h2 := (setCell_apart w mb 0 (.slice ao ms.length c)).cell' h1 (by simp; exact hne)
  rw [show o + 1 + i = o + (i + 1) by omega]
  exact h2
set_option maxRecDepth 100000 in
theorem m_take (ms : List ByteArray) (w : World) (mb tb : Nat) (h : MsAt w mb tb ms) :
    Calls Tryz.prog 69 #[.pointer (some ⟨mb, 0, none⟩)] w fun e w' => e = .returned (.string (hdM ms)) ∧ MsAt w' mb tb ms.tail ∧ Apart w w' [mb] := by
  have H := hide h
  obtain ⟨ao, cap, hb, hc, hm, hr⟩ := h.at_
  cases ms with
  | nil =>
    have c0 := hb.cell 0 _ rfl
    clear hr h
    go_enter Tryz.func69, Tryz.ntmps69
    go_wp2_with fail
    go_ret
    exact ⟨ret_str rfl, H.out, (Apart.refl _).sub (by simp)⟩
  | cons m ms =>
    obtain ⟨o, rfl, hlt, hcs⟩ := hr (by simp)
    have c0 := hb.cell 0 _ rfl
    have c1 := hcs 0 (by simp)
    have fz := hb.fz 0
    have HB := hide hb
    have HC := hide hcs
    simp only [List.length_cons, Nat.add_zero, List.getElem_cons_zero] at c0 c1 hc
    clear h hb hcs hr
    go_enter Tryz.func69, Tryz.ntmps69
    go_wp2_with fail
    all_goals
      go_ret
      refine ⟨ret_str rfl, ms_next HB.out hlt HC.out H.out.ne _ _ (by omega) (by omega) (fun h => ?_), setCell_apart _ _ _ _⟩
      first
        | rfl
        | exact absurd (List.length_eq_zero_iff.1 (by omega)) h
set_option maxRecDepth 100000 in
theorem m_skip (t : List UInt8) (ms : List ByteArray) (w : World) (mb tb : Nat) (h : MsAt w mb tb ms) :
    Calls Tryz.prog 70 #[.pointer (some ⟨mb, 0, none⟩), .string (ba t)] w fun e w' => e = .returned (.bool (skM t ms).isSome) ∧ MsAt w' mb tb ((skM t ms).getD ms) ∧ Apart w w' [mb] := by
  have H := hide h
  obtain ⟨ao, cap, hb, hc, hm, hr⟩ := h.at_
  obtain ⟨s, hs⟩ : ∃ s, ba t = s := ⟨_, rfl⟩
  have HS := hide hs
  rw [hs]
  clear hs
  cases ms with
  | nil =>
    have c0 := hb.cell 0 _ rfl
    clear hr h
    go_enter Tryz.func70, Tryz.ntmps70
    go_wp2_with fail
    go_ret
    exact ⟨rfl, H.out, (Apart.refl _).sub (by simp)⟩
  | cons m ms =>
    obtain ⟨o, rfl, hlt, hcs⟩ := hr (by simp)
    have c0 := hb.cell 0 _ rfl
    have c1 := hcs 0 (by simp)
    have fz := hb.fz 0
    have HB := hide hb
    have HC := hide hcs
    simp only [List.length_cons, Nat.add_zero, List.getElem_cons_zero] at c0 c1 hc
    clear h hb hcs hr
    obtain ⟨q, hq⟩ : ∃ q, (m.toList == s.toList) = q := ⟨_, rfl⟩
    have HQ : Hid ((m.toList == t) = q) := hide (by rw [← hq, ← HS.out, ba_list])
    cases q
    · have hsk : skM t (m :: ms) = none := by rw [skM, if_neg (by rw [HQ.out]; simp)]
      rw [hsk]
      go_enter Tryz.func70, Tryz.ntmps70
      go_wp2_with fail
      go_ret
      exact ⟨rfl, H.out, (Apart.refl _).sub (by simp)⟩
    · have hsk : skM t (m :: ms) = some ms := by rw [skM, if_pos HQ.out]
      rw [hsk]
      go_enter Tryz.func70, Tryz.ntmps70
      go_wp2_with fail
      all_goals
        go_ret
        refine ⟨rfl, ms_next HB.out hlt HC.out H.out.ne _ _ (by omega) (by omega) (fun h => ?_), setCell_apart _ _ _ _⟩
        first
          | rfl
          | exact absurd (List.length_eq_zero_iff.1 (by omega)) h
end Go.Proofs.YtmjlblbhakppfaaGreatDoor
/- l02Whole: a right row's text. -/
namespace Go.Proofs.YtmjlblbhakppfaaGreatDoor
open Go.RowKit

def textV (part : Bool) (ns : List Nd) : ByteArray := if rightB part ns then (textF 10 ns).1 else ByteArray.empty
theorem right_ahead {part : Bool} {ns : List Nd} (h : rightB part ns = true) : ahead (talkS part) 10 [] ns = some [] ∧ ns.length ≤ 40 := by
  rw [rightB] at h
  simp only [Bool.and_eq_true, decide_eq_true_eq, beq_iff_eq] at h
  refine ⟨?_, h.1⟩
  cases hr : ahead (talkS part) 10 [] ns with
  | none => rw [hr] at h; simp at h
  | some r => rw [hr] at h; simp at h; rw [h.2.1]
theorem text_small {part : Bool} {ns : List Nd} (h : rightB part ns = true) : (textF 10 ns).1.size ≤ 1720 := by
  obtain ⟨h1, h2⟩ := right_ahead h
  have := (ahead_text part 10 [] ns [] (fun _ h => by cases h) h1).2
  simp at this
  omega

theorem s_whole (part : Bool) (ns : List Nd) (v : Value) (w : World) (fit : ∀ n ∈ ns, n.fit) (hv : SlAt w w.heap.size v ns) :
    Calls Tryz.prog 46 #[v, .bool part] w fun e w' => e = .returned (.string (textV part ns)) ∧ Below w.heap.size w w' := by
  have HV := hide hv
  have HF := hide fit
  have hlm := hv.lenm
  obtain ⟨ao, cap, rfl, hc, hm, hr⟩ := hv
  obtain ⟨rb, hrb⟩ : ∃ rb, rightB part ns = rb := ⟨_, rfl⟩
  have HRB := hide hrb
  clear fit hrb
  cases rb
  · have HE : Hid (textV part ns = ⟨#[]⟩) := hide (by rw [textV, HRB.out]; rfl)
    clear hr
    by_cases h400 : ns.length ≤ 400
    · go_enter Tryz.func46, Tryz.ntmps46
      go_wp2_with (go_at_call 49; refine (s_right part ns _ _ HF.out HV.out).mono ?_; rintro e w1 ⟨rfl, hb1⟩; rw [HRB.out]; have HB1 := hide hb1; clear hb1)
      go_ret
      exact ⟨ret_str HE.out, HB1.out⟩
    · go_enter Tryz.func46, Tryz.ntmps46
      go_wp2_with fail
      go_ret
      exact ⟨ret_str HE.out, Below.refl _ _⟩
  · have HE : Hid (textV part ns = (textF 10 ns).1) := hide (by rw [textV, HRB.out]; rfl)
    obtain ⟨hah, hl40⟩ := right_ahead HRB.out
    have hne : ns ≠ [] := fun h => by rw [h] at hah; cases hah
    obtain ⟨b, o, rfl, hbB, hrow⟩ := hr hne
    have HAR : Hid (ArrAt w (.slice (some ⟨b, o, none⟩) ns.length cap) ns) := hide ⟨b, o, cap, rfl, hc, by omega, hrow, hbB⟩
    have HAH := hide hah
    obtain ⟨t1, ht1⟩ : ∃ t1, (textF 10 ns).1 = t1 := ⟨_, rfl⟩
    have HT1 := hide ht1
    have htz : t1.size ≤ 1720 := by rw [← ht1]; exact text_small HRB.out
    clear hah hrow hne ht1 hr
    go_enter Tryz.func46, Tryz.ntmps46
    go_wp2_with (first | (go_at_call 49; refine (s_right part ns _ _ HF.out HV.out).mono ?_; rintro e w1 ⟨rfl, hb1⟩; rw [HRB.out]; have HB1 := hide hb1; clear hb1) | (go_at_call 79; refine (stext_calls part 10 [] ns [] 0 0 _ _ rfl (fun _ h => by cases h) rfl (Nat.zero_le _) hl40 (by rw [List.drop_zero]; exact HAH.out) (HAR.out.carry HB1.out)).mono ?_; rintro e w2 ⟨rfl, hb2⟩; rw [List.drop_zero, HT1.out]; have HB2 := hide hb2; clear hb2))
    go_ret
    exact ⟨ret_str (by rw [HE.out, HT1.out]), HB1.out.trans (HB2.out.mono HB1.out.size)⟩

end Go.Proofs.YtmjlblbhakppfaaGreatDoor
