import Derived.Test.YtaaeledleldllaaGreatQB10
import Derived.Test.YtaaeledleldllaaGreatQB11
import Derived.Test.YtaaeledleldllaaGreatQB12
namespace Go.Proofs.YtaaeledleldllaaGreat
open Go.RowKit

def STexts (w : World) (v : Value) (ls : List ByteArray) : Prop :=
  ∃ b o cap, v = .slice (some ⟨b, o, none⟩) ls.length cap ∧ ls.length ≤ cap ∧ cap ≤ maxLen ∧ ∀ i (h : i < ls.length), w.cell? ⟨b, o + i, none⟩ = some (.string ls[i])
def lessB (s t : ByteArray) : Bool := Op.bytesLess s.toList t.toList
def placeK : List ByteArray → ByteArray → Nat
  | [], _ => 0
  | s :: ls, t => if lessB s t then placeK ls t + 1 else 0
def putS (ls : List ByteArray) (t : ByteArray) : List ByteArray :=
  if hasB ((ls.drop (placeK ls t)).take 1) t then ls else ls.take (placeK ls t) ++ [t] ++ ls.drop (placeK ls t)

theorem place_eq : ∀ (ls : List ByteArray) (t : ByteArray) (k : Nat), k ≤ ls.length → (∀ j (h : j < ls.length), j < k → lessB ls[j] t = true) → (∀ h : k < ls.length, lessB ls[k] t = false) → placeK ls t = k
  | [], t, k, hk, _, _ => by simp at hk; subst hk; rfl
  | s :: ls, t, 0, _, _, h2 => by
    have := h2 (by simp)
    simp at this
    simp [placeK, this]
  | s :: ls, t, k + 1, hk, h1, h2 => by
    have h0 := h1 0 (by simp) (by omega)
    simp at h0
    have ih := place_eq ls t k (by simpa using hk) (fun j h hj => by have := h1 (j + 1) (by simpa using h) (by omega); simpa using this) (fun h => by have := h2 (by simpa using h); simpa using this)
    rw [placeK, if_pos h0, ih]
theorem put_same {ls : List ByteArray} {t : ByteArray} {k : Nat} (hp : placeK ls t = k) (hk : k < ls.length) (he : (ls[k].toList == t.toList) = true) : putS ls t = ls := by
  have e : (ls.drop k).take 1 = [ls[k]] := by rw [List.drop_eq_getElem_cons hk]; rfl
  rw [putS, hp, e, if_pos]
  simp only [hasB, List.any_cons, List.any_nil, Bool.or_false]
  exact he
theorem put_new {ls : List ByteArray} {t : ByteArray} {k : Nat} (hp : placeK ls t = k) (he : ∀ hk : k < ls.length, (ls[k].toList == t.toList) = false) : putS ls t = ls.take k ++ [t] ++ ls.drop k := by
  rw [putS, hp, if_neg]
  by_cases hk : k < ls.length
  · have e : (ls.drop k).take 1 = [ls[k]] := by rw [List.drop_eq_getElem_cons hk]; rfl
    rw [e]
    simp only [hasB, List.any_cons, List.any_nil, Bool.or_false, he hk]
    decide
  · rw [List.drop_of_length_le (by omega)]
    simp [hasB]

theorem texts_of_own {w : World} {base e : Nat} {v : Value} {ls : List ByteArray} (h : w.ownsRow base e 1 v ls.length (ls.map Value.string)) (hne : ls ≠ []) : STexts w v ls := by
  obtain ⟨_, hv⟩ := h
  rcases hv with ⟨rfl, h0⟩ | ⟨g, cap, cur, rfl, hg, hh, hn, hcap, hsz, htake⟩
  · exact absurd (List.length_eq_zero_iff.1 h0) hne
  · refine ⟨g, 0, cap, rfl, hn, hcap, fun i hi => ?_⟩
    have h1 : cur.toList[i]? = some (.string ls[i]) := by
      have h2 : (cur.toList.take (ls.length * 1))[i]? = (ls.map Value.string)[i]? := by rw [htake]
      rw [List.getElem?_take, if_pos (by omega)] at h2
      rw [h2]
      simp [hi]
    have h2 : cur[i]? = some (.string ls[i]) := by rw [← h1]; simp
    simp only [World.cell?, hh]
    simpa using h2

set_option maxRecDepth 100000 in
set_option maxHeartbeats 1000000 in
theorem s_put (ls : List ByteArray) (t : ByteArray) (v : Value) (w : World) (hv : STexts w v ls) (hl : ls.length ≤ 100) :
    Calls Tryz.prog 103 #[v, .string t] w fun e w' => ∃ v', e = .returned v' ∧ STexts w' v' (putS ls t) ∧ Below w.heap.size w w' := by
  have HV := hide hv
  obtain ⟨b, o, cap, rfl, hc, hm, hcell⟩ := hv
  obtain ⟨i0, hi, hz0, hz1, hz2⟩ := info_parts Tryz.infoS
  have HI := hide (And.intro hi (And.intro hz0 (And.intro hz1 hz2)))
  have HC := hide hcell
  have HM := hide hm
  clear hcell hm hi hz0 hz1 hz2
  go_enter Tryz.func103, Tryz.ntmps103
  go_wp2_with fail
  go_loop [5] (fun i => ∃ k : Nat, k ≤ ls.length ∧ i = .int .i64 k ∧ ∀ j (h : j < ls.length), j < k → lessB ls[j] t = true) (fun i => ls.length - (intOf i).toNat)
  case atStart => exact ⟨0, Nat.zero_le _, rfl, fun j _ h => absurd h (by omega)⟩
  case round =>
    obtain ⟨k, hk, rfl, hall⟩ := hrel
    have HA := hide hall
    clear hall
    by_cases hlt : k < ls.length
    · have hck := HC.out k hlt
      obtain ⟨s, hs⟩ : ∃ s, s = ls[k] := ⟨_, rfl⟩
      rw [← hs] at hck
      have HSs := hide hs
      clear hs
      cases hless : Op.bytesLess s.toList t.toList
      · have HLS := hide (show lessB ls[k] t = false by rw [← HSs.out]; exact hless)
        have HPK := hide (place_eq ls t k hk HA.out (fun _ => HLS.out))
        cases heq : (s.toList == t.toList)
        · have HPN := hide (put_new HPK.out (fun _ => by rw [← HSs.out]; exact heq))
          have HSRC1 : Hid (∀ W', Below w.heap.size w W' → ∀ j u, ((ls.take k).map Value.string)[j]? = some u → W'.cell? ((⟨b, o, none⟩ : Addr).add j) = some u) := hide (fun W' hb j u h => src_cells (ls := ls.take k) (fun i hi => by rw [List.getElem_take]; exact HC.out i (by simp at hi; omega)) hb j u h)
          by_cases hcap : cap = k
          · exfalso; omega
          · have HSRC2 : Hid (∀ W', Below w.heap.size w W' → ∀ j u, ((ls.drop k).map Value.string)[j]? = some u → W'.cell? ((⟨b, o + k, none⟩ : Addr).add j) = some u) := hide (fun W' hb j u h => src_cells (ls := ls.drop k) (fun i hi => by rw [List.getElem_drop, Nat.add_assoc]; exact HC.out (k + i) (by simp at hi; omega)) hb j u h)
            go_wp2_with (first | (at_builtin; refine wpList_append_own _ rfl (.tmp 34) (.tmp 37) 70 rfl w.heap.size 9 i0 (.string ByteArray.empty) 1 16 Tryz.underlying70 HI.out.1 HI.out.2.1 HI.out.2.2.1 HI.out.2.2.2 rfl (by decide) (.slice (some ⟨w.heap.size, 0, none⟩) 0 0) 0 [] rfl (own_empty _ _ _ _ (Nat.le_refl _) (heap_new _ _ _ rfl)) ⟨b, o, none⟩ k cap ((ls.take k).map Value.string) rfl (by first | (simp; done) | (simp; omega)) (HSRC1.out _ (alloc1 _ _)) (strs_cell _) (by unfold maxLen; omega) (by omega) (by simp) ?_; intro v1 w1 hown1 hgrow1 _; simp only [Nat.zero_add, List.nil_append] at hown1; have HOW1 := hide hown1; have HBW1 : Hid (Below w.heap.size w w1) := hide ((alloc1 _ _).grown hgrow1 (by simp) (by intro k hk; simp [Value.ownBlock] at hk; omega)); have hz1 : w.heap.size ≤ w1.heap.size := HBW1.out.size; clear hown1 hgrow1) | (at_builtin; refine wpList_append_own _ rfl (.tmp 39) (.tmp 41) 70 rfl w.heap.size 9 i0 (.string ByteArray.empty) 1 16 Tryz.underlying70 HI.out.1 HI.out.2.1 HI.out.2.2.1 HI.out.2.2.2 rfl (by decide) v1 k ((ls.take k).map Value.string) rfl (HOW1.out.alloc _) ⟨w1.heap.size, 0, none⟩ 1 1 [.string t] rfl rfl (one_new (cell_new _ _ _ _ rfl)) (one_cell _) (by unfold maxLen; omega) (by omega) (by first | (simp; done) | (simp; omega)) ?_; intro v2 w2 hown2 hgrow2 _; have HOW2 := hide hown2; have HBW2 : Hid (Below w.heap.size w w2) := hide ((HBW1.out.alloc hz1 _).grown hgrow2 (by first | (simp; done) | (simp; omega)) (own_row HOW1.out)); have hz2 : w.heap.size ≤ w2.heap.size := HBW2.out.size; clear hown2 hgrow2) | (at_builtin; refine wpList_append_own _ rfl (.tmp 43) (.tmp 46) 70 rfl w.heap.size 9 i0 (.string ByteArray.empty) 1 16 Tryz.underlying70 HI.out.1 HI.out.2.1 HI.out.2.2.1 HI.out.2.2.2 rfl (by decide) v2 (k + 1) ((ls.take k).map Value.string ++ [.string t]) rfl HOW2.out ⟨b, o + k, none⟩ (ls.length - k) (cap - k) ((ls.drop k).map Value.string) rfl (by simp) (HSRC2.out _ HBW2.out) (strs_cell _) (by unfold maxLen; omega) (by omega) hz2 ?_; intro v3 w3 hown3 hgrow3 _; have HOW3 := hide hown3; have HBW3 : Hid (Below w.heap.size w w3) := hide (HBW2.out.grown hgrow3 hz2 (own_row HOW2.out)); clear hown3 hgrow3))
            go_ret
            refine ⟨_, rfl, ?_, HBW3.out⟩
            rw [HPN.out]
            refine texts_of_own (base := w.heap.size) (e := 9) ?_ (by simp)
            have := HOW3.out
            have hln : k + 1 + (ls.length - k) = (ls.take k ++ [t] ++ ls.drop k).length := by simp; omega
            rw [hln] at this
            simpa using this
        · have HPS := hide (put_same HPK.out hlt (by rw [← HSs.out]; exact heq))
          go_wp2_with fail
          go_ret
          exact ⟨_, rfl, by rw [HPS.out]; exact HV.out, Below.refl _ _⟩
      · have HLS := hide (show lessB ls[k] t = true by rw [← HSs.out]; exact hless)
        go_wp2_with fail
        go_round
        case rel => exact ⟨k + 1, by omega, by go_num, fun j h hj => by
          rcases Nat.lt_or_ge j k with h1 | h1
          · exact HA.out j h h1
          · have : j = k := by omega
            subst this; exact HLS.out⟩
        case measure => simp [intOf]; omega
    · have HPK := hide (place_eq ls t k hk HA.out (fun h => absurd h hlt))
      have HPN := hide (put_new HPK.out (fun h => absurd h hlt))
      obtain rfl : k = ls.length := by omega
      have HSRC1 : Hid (∀ W', Below w.heap.size w W' → ∀ j u, ((ls.take ls.length).map Value.string)[j]? = some u → W'.cell? ((⟨b, o, none⟩ : Addr).add j) = some u) := hide (fun W' hb j u h => src_cells (ls := ls.take ls.length) (fun i hi => by rw [List.getElem_take]; exact HC.out i (by simp at hi; omega)) hb j u h)
      by_cases hcap : cap = ls.length
      · subst hcap
        go_wp2_with (first | (at_builtin; refine wpList_append_own _ rfl (.tmp 34) (.tmp 37) 70 rfl w.heap.size 9 i0 (.string ByteArray.empty) 1 16 Tryz.underlying70 HI.out.1 HI.out.2.1 HI.out.2.2.1 HI.out.2.2.2 rfl (by decide) (.slice (some ⟨w.heap.size, 0, none⟩) 0 0) 0 [] rfl (own_empty _ _ _ _ (Nat.le_refl _) (heap_new _ _ _ rfl)) ⟨b, o, none⟩ ls.length ls.length ((ls.take ls.length).map Value.string) rfl (by first | (simp; done) | (simp; omega)) (HSRC1.out _ (alloc1 _ _)) (strs_cell _) (by unfold maxLen; omega) (by omega) (by simp) ?_; intro v1 w1 hown1 hgrow1 _; simp only [Nat.zero_add, List.nil_append] at hown1; have HOW1 := hide hown1; have HBW1 : Hid (Below w.heap.size w w1) := hide ((alloc1 _ _).grown hgrow1 (by simp) (by intro k hk; simp [Value.ownBlock] at hk; omega)); have hz1 : w.heap.size ≤ w1.heap.size := HBW1.out.size; clear hown1 hgrow1) | (at_builtin; refine wpList_append_own _ rfl (.tmp 39) (.tmp 41) 70 rfl w.heap.size 9 i0 (.string ByteArray.empty) 1 16 Tryz.underlying70 HI.out.1 HI.out.2.1 HI.out.2.2.1 HI.out.2.2.2 rfl (by decide) v1 ls.length ((ls.take ls.length).map Value.string) rfl (HOW1.out.alloc _) ⟨w1.heap.size, 0, none⟩ 1 1 [.string t] rfl rfl (one_new (cell_new _ _ _ _ rfl)) (one_cell _) (by unfold maxLen; omega) (by omega) (by first | (simp; done) | (simp; omega)) ?_; intro v2 w2 hown2 hgrow2 _; have HOW2 := hide hown2; have HBW2 : Hid (Below w.heap.size w w2) := hide ((HBW1.out.alloc hz1 _).grown hgrow2 (by first | (simp; done) | (simp; omega)) (own_row HOW1.out)); have hz2 : w.heap.size ≤ w2.heap.size := HBW2.out.size; clear hown2 hgrow2) | (at_builtin; refine wpList_append_own _ rfl (.tmp 43) (.tmp 46) 70 rfl w.heap.size 9 i0 (.string ByteArray.empty) 1 16 Tryz.underlying70 HI.out.1 HI.out.2.1 HI.out.2.2.1 HI.out.2.2.2 rfl (by decide) v2 (ls.length + 1) ((ls.take ls.length).map Value.string ++ [.string t]) rfl HOW2.out ⟨b, o, none⟩ 0 0 [] rfl rfl (fun j u h => by simp at h) (fun u h => by simp at h) (by unfold maxLen; omega) (by omega) hz2 ?_; intro v3 w3 hown3 hgrow3 _; have HOW3 := hide hown3; have HBW3 : Hid (Below w.heap.size w w3) := hide (HBW2.out.grown hgrow3 hz2 (own_row HOW2.out)); clear hown3 hgrow3))
        go_ret
        refine ⟨_, rfl, ?_, HBW3.out⟩
        rw [HPN.out]
        refine texts_of_own (base := w.heap.size) (e := 9) ?_ (by simp)
        have := HOW3.out
        have hln : ls.length + 1 + 0 = (ls.take ls.length ++ [t] ++ ls.drop ls.length).length := by simp
        rw [hln] at this
        simpa using this
      · go_wp2_with (first | (at_builtin; refine wpList_append_own _ rfl (.tmp 34) (.tmp 37) 70 rfl w.heap.size 9 i0 (.string ByteArray.empty) 1 16 Tryz.underlying70 HI.out.1 HI.out.2.1 HI.out.2.2.1 HI.out.2.2.2 rfl (by decide) (.slice (some ⟨w.heap.size, 0, none⟩) 0 0) 0 [] rfl (own_empty _ _ _ _ (Nat.le_refl _) (heap_new _ _ _ rfl)) ⟨b, o, none⟩ ls.length cap ((ls.take ls.length).map Value.string) rfl (by first | (simp; done) | (simp; omega)) (HSRC1.out _ (alloc1 _ _)) (strs_cell _) (by unfold maxLen; omega) (by omega) (by simp) ?_; intro v1 w1 hown1 hgrow1 _; simp only [Nat.zero_add, List.nil_append] at hown1; have HOW1 := hide hown1; have HBW1 : Hid (Below w.heap.size w w1) := hide ((alloc1 _ _).grown hgrow1 (by simp) (by intro k hk; simp [Value.ownBlock] at hk; omega)); have hz1 : w.heap.size ≤ w1.heap.size := HBW1.out.size; clear hown1 hgrow1) | (at_builtin; refine wpList_append_own _ rfl (.tmp 39) (.tmp 41) 70 rfl w.heap.size 9 i0 (.string ByteArray.empty) 1 16 Tryz.underlying70 HI.out.1 HI.out.2.1 HI.out.2.2.1 HI.out.2.2.2 rfl (by decide) v1 ls.length ((ls.take ls.length).map Value.string) rfl (HOW1.out.alloc _) ⟨w1.heap.size, 0, none⟩ 1 1 [.string t] rfl rfl (one_new (cell_new _ _ _ _ rfl)) (one_cell _) (by unfold maxLen; omega) (by omega) (by first | (simp; done) | (simp; omega)) ?_; intro v2 w2 hown2 hgrow2 _; have HOW2 := hide hown2; have HBW2 : Hid (Below w.heap.size w w2) := hide ((HBW1.out.alloc hz1 _).grown hgrow2 (by first | (simp; done) | (simp; omega)) (own_row HOW1.out)); have hz2 : w.heap.size ≤ w2.heap.size := HBW2.out.size; clear hown2 hgrow2) | (at_builtin; refine wpList_append_own _ rfl (.tmp 43) (.tmp 46) 70 rfl w.heap.size 9 i0 (.string ByteArray.empty) 1 16 Tryz.underlying70 HI.out.1 HI.out.2.1 HI.out.2.2.1 HI.out.2.2.2 rfl (by decide) v2 (ls.length + 1) ((ls.take ls.length).map Value.string ++ [.string t]) rfl HOW2.out ⟨b, o + ls.length, none⟩ 0 (cap - ls.length) [] rfl rfl (fun j u h => by simp at h) (fun u h => by simp at h) (by unfold maxLen; omega) (by omega) hz2 ?_; intro v3 w3 hown3 hgrow3 _; have HOW3 := hide hown3; have HBW3 : Hid (Below w.heap.size w w3) := hide (HBW2.out.grown hgrow3 hz2 (own_row HOW2.out)); clear hown3 hgrow3))
        go_ret
        refine ⟨_, rfl, ?_, HBW3.out⟩
        rw [HPN.out]
        refine texts_of_own (base := w.heap.size) (e := 9) ?_ (by simp)
        have := HOW3.out
        have hln : ls.length + 1 + 0 = (ls.take ls.length ++ [t] ++ ls.drop ls.length).length := by simp
        rw [hln] at this
        simpa using this
end Go.Proofs.YtaaeledleldllaaGreat
namespace Go.Proofs.YtaaeledleldllaaGreat
open Go.RowKit

set_option maxHeartbeats 400000 in
theorem nil_step (f : Nat) (st : List Nd) (ao : Option Addr) (cap : Nat) (p : Value) (w : World) (B : Nat) (hp : PlaceAt w p st) :
    Calls Tryz.prog 122 #[.slice ao ([] : List Nd).length cap, p] w fun e w' => Told w' B e (ahead talkI f st []) ∧ Below w.heap.size w w' := by
  obtain ⟨u, rfl⟩ := hp.shape
  clear hp
  go_enter Tryz.func122, Tryz.ntmps122
  go_wp2_with fail
  go_ret2
  exact told_none (Below.refl _ _) (by cases f <;> rfl)

theorem plan_calls (f : Nat) : PlanCalls f := by
  induction f with
  | zero =>
    intro st l v p w B hlen ok hB hv hp
    obtain ⟨ao, cap, rfl, hc1, hc2, hr⟩ := hv
    cases l with
    | nil => exact nil_step 0 st ao cap p w B hp
    | cons n l1 =>
      obtain ⟨b, o, rfl, hbB, hrow⟩ := hr (by simp)
      by_cases h1 : cap = 1
      · by_cases o0 : n.op = 0
        · exact end_step_a 0 st n l1 p w B b o cap hlen ok hB hbB hc1 hc2 h1 hrow hp o0
        · by_cases o1 : n.op = 1
          · exact var_step_a 0 st n l1 p w B b o cap hlen ok hB hbB hc1 hc2 h1 hrow hp o1
          · by_cases o2 : n.op = 2
            · obtain ⟨op, name, peer, many, sort⟩ := n
              simp only at o2
              subst o2
              exact rec_step_a 0 (fun g h => absurd h (by omega)) st name peer many sort l1 p w B b o cap hlen ok hB hbB hc1 hc2 h1 hrow hp
            · by_cases o3 : n.op = 3
              · obtain ⟨op, name, peer, many, sort⟩ := n
                simp only at o3
                subst o3
                exact msg3_step_a 0 (fun g h => absurd h (by omega)) st name peer many sort l1 p w B b o cap hlen ok hB hbB hc1 hc2 h1 hrow hp
              · by_cases o5 : n.op = 5
                · obtain ⟨op, name, peer, many, sort⟩ := n
                  simp only at o5
                  subst o5
                  exact msg5_step_a 0 (fun g h => absurd h (by omega)) st name peer many sort l1 p w B b o cap hlen ok hB hbB hc1 hc2 h1 hrow hp
                · by_cases o6 : n.op = 6
                  · obtain ⟨op, name, peer, many, sort⟩ := n
                    simp only at o6
                    subst o6
                    exact msg6_step_a 0 (fun g h => absurd h (by omega)) st name peer many sort l1 p w B b o cap hlen ok hB hbB hc1 hc2 h1 hrow hp
                  · exact oth_step_a 0 st n l1 p w B b o cap hlen ok hB hbB hc1 hc2 h1 hrow hp ⟨o0, o1, o2, o3, o5, o6⟩
      · by_cases o0 : n.op = 0
        · exact end_step_b 0 st n l1 p w B b o cap hlen ok hB hbB hc1 hc2 h1 hrow hp o0
        · by_cases o1 : n.op = 1
          · exact var_step_b 0 st n l1 p w B b o cap hlen ok hB hbB hc1 hc2 h1 hrow hp o1
          · by_cases o2 : n.op = 2
            · obtain ⟨op, name, peer, many, sort⟩ := n
              simp only at o2
              subst o2
              exact rec_step_b 0 (fun g h => absurd h (by omega)) st name peer many sort l1 p w B b o cap hlen ok hB hbB hc1 hc2 h1 hrow hp
            · by_cases o3 : n.op = 3
              · obtain ⟨op, name, peer, many, sort⟩ := n
                simp only at o3
                subst o3
                exact msg3_step_b 0 (fun g h => absurd h (by omega)) st name peer many sort l1 p w B b o cap hlen ok hB hbB hc1 hc2 h1 hrow hp
              · by_cases o5 : n.op = 5
                · obtain ⟨op, name, peer, many, sort⟩ := n
                  simp only at o5
                  subst o5
                  exact msg5_step_b 0 (fun g h => absurd h (by omega)) st name peer many sort l1 p w B b o cap hlen ok hB hbB hc1 hc2 h1 hrow hp
                · by_cases o6 : n.op = 6
                  · obtain ⟨op, name, peer, many, sort⟩ := n
                    simp only at o6
                    subst o6
                    exact msg6_step_b 0 (fun g h => absurd h (by omega)) st name peer many sort l1 p w B b o cap hlen ok hB hbB hc1 hc2 h1 hrow hp
                  · exact oth_step_b 0 st n l1 p w B b o cap hlen ok hB hbB hc1 hc2 h1 hrow hp ⟨o0, o1, o2, o3, o5, o6⟩
  | succ f ih =>
    intro st l v p w B hlen ok hB hv hp
    obtain ⟨ao, cap, rfl, hc1, hc2, hr⟩ := hv
    cases l with
    | nil => exact nil_step (f + 1) st ao cap p w B hp
    | cons n l1 =>
      obtain ⟨b, o, rfl, hbB, hrow⟩ := hr (by simp)
      by_cases h1 : cap = 1
      · by_cases o0 : n.op = 0
        · exact end_step_a (f + 1) st n l1 p w B b o cap hlen ok hB hbB hc1 hc2 h1 hrow hp o0
        · by_cases o1 : n.op = 1
          · exact var_step_a (f + 1) st n l1 p w B b o cap hlen ok hB hbB hc1 hc2 h1 hrow hp o1
          · by_cases o2 : n.op = 2
            · obtain ⟨op, name, peer, many, sort⟩ := n
              simp only at o2
              subst o2
              exact rec_step_a (f + 1) (fun g h => by cases h; exact ih) st name peer many sort l1 p w B b o cap hlen ok hB hbB hc1 hc2 h1 hrow hp
            · by_cases o3 : n.op = 3
              · obtain ⟨op, name, peer, many, sort⟩ := n
                simp only at o3
                subst o3
                exact msg3_step_a (f + 1) (fun g h => by cases h; exact ih) st name peer many sort l1 p w B b o cap hlen ok hB hbB hc1 hc2 h1 hrow hp
              · by_cases o5 : n.op = 5
                · obtain ⟨op, name, peer, many, sort⟩ := n
                  simp only at o5
                  subst o5
                  exact msg5_step_a (f + 1) (fun g h => by cases h; exact ih) st name peer many sort l1 p w B b o cap hlen ok hB hbB hc1 hc2 h1 hrow hp
                · by_cases o6 : n.op = 6
                  · obtain ⟨op, name, peer, many, sort⟩ := n
                    simp only at o6
                    subst o6
                    exact msg6_step_a (f + 1) (fun g h => by cases h; exact ih) st name peer many sort l1 p w B b o cap hlen ok hB hbB hc1 hc2 h1 hrow hp
                  · exact oth_step_a (f + 1) st n l1 p w B b o cap hlen ok hB hbB hc1 hc2 h1 hrow hp ⟨o0, o1, o2, o3, o5, o6⟩
      · by_cases o0 : n.op = 0
        · exact end_step_b (f + 1) st n l1 p w B b o cap hlen ok hB hbB hc1 hc2 h1 hrow hp o0
        · by_cases o1 : n.op = 1
          · exact var_step_b (f + 1) st n l1 p w B b o cap hlen ok hB hbB hc1 hc2 h1 hrow hp o1
          · by_cases o2 : n.op = 2
            · obtain ⟨op, name, peer, many, sort⟩ := n
              simp only at o2
              subst o2
              exact rec_step_b (f + 1) (fun g h => by cases h; exact ih) st name peer many sort l1 p w B b o cap hlen ok hB hbB hc1 hc2 h1 hrow hp
            · by_cases o3 : n.op = 3
              · obtain ⟨op, name, peer, many, sort⟩ := n
                simp only at o3
                subst o3
                exact msg3_step_b (f + 1) (fun g h => by cases h; exact ih) st name peer many sort l1 p w B b o cap hlen ok hB hbB hc1 hc2 h1 hrow hp
              · by_cases o5 : n.op = 5
                · obtain ⟨op, name, peer, many, sort⟩ := n
                  simp only at o5
                  subst o5
                  exact msg5_step_b (f + 1) (fun g h => by cases h; exact ih) st name peer many sort l1 p w B b o cap hlen ok hB hbB hc1 hc2 h1 hrow hp
                · by_cases o6 : n.op = 6
                  · obtain ⟨op, name, peer, many, sort⟩ := n
                    simp only at o6
                    subst o6
                    exact msg6_step_b (f + 1) (fun g h => by cases h; exact ih) st name peer many sort l1 p w B b o cap hlen ok hB hbB hc1 hc2 h1 hrow hp
                  · exact oth_step_b (f + 1) st n l1 p w B b o cap hlen ok hB hbB hc1 hc2 h1 hrow hp ⟨o0, o1, o2, o3, o5, o6⟩
end Go.Proofs.YtaaeledleldllaaGreat
namespace Go.Proofs.YtaaeledleldllaaGreat
open Go.RowKit

set_option maxRecDepth 100000 in
set_option maxHeartbeats 1000000 in
theorem end_0 (part : Bool) (f : Nat) (st all : List Nd) (pos bx : Nat) (a d op : Int) (rv : Value) (w : World) (hlen : st.length + f = 10) (hst : StOk st) (ok : ∀ n ∈ all, n.ok) (ha : a = pos) (hpl : pos < all.length) (hd : d = (st.length + 1 : Nat)) (hop : op = openOf st) (hx : LookAt w bx part all) (hr : TextsAt w rv (recsOf st)) (hnil : recsOf st = [] → rv = .slice none 0 0) (name peer : ByteArray) (many sort : Int) (hn : all[pos] = ⟨0, name, peer, many, sort⟩) :
    Calls Tryz.prog 116 #[.pointer (some ⟨bx, 0, none⟩), .int .i64 a, .int .i64 d, rv, .int .i64 op] w fun e w' => e = .returned (.int .i64 (endPos all (ahead (talkS part) f st (all.drop pos)))) ∧ Below w.heap.size w w' := by
  have HX := hide hx
  have HR := hide hr
  have HO := hide ok
  have HL := hide hlen
  have HST := hide hst
  have HNIL := hide hnil
  obtain ⟨i0, hi, hz0, hz1, hz2⟩ := info_parts Tryz.infoS
  have HI := hide (And.intro hi (And.intro hz0 (And.intro hz1 hz2)))
  obtain ⟨rao, rcap, rfl, rc1, rc2, -⟩ := hr
  subst ha hd hop
  obtain ⟨xao, xcap, x0, x1, x2, x3, x4⟩ := hx
  obtain ⟨b, o, rfl, hrow⟩ := x4 (by intro h; simp [h] at hpl)
  have hnode := hrow.get pos hpl
  have HDROP := hide (show all.drop pos = ⟨0, name, peer, many, sort⟩ :: all.drop (pos + 1) by rw [← hn]; exact drop_cons hpl)
  have HN1 := hide (show Nd.ok ⟨0, name, peer, many, sort⟩ by rw [← hn]; exact HO.out _ (List.getElem_mem hpl))
  have HPN := hide (pos_next hpl)
  rw [hn] at hnode
  obtain ⟨c0, c1, c2, c3, c4⟩ := hnode
  dsimp only at c0 c1 c2 c3 c4
  have hbw : b < w.heap.size := World.block_lt_of_cell? w _ c0
  have hbx : bx < w.heap.size := World.block_lt_of_cell? w _ x0
  have HXA : Hid (∀ ob, (w.alloc ob).cell? ⟨bx, 1, none⟩ = some (.bool part)) := hide (fun ob => ((alloc1 w ob).cell (p := ⟨bx, 1, none⟩) hbx).trans x1)
  have hp2 : decide ((all.length : Int) ≤ (pos : Int)) = false := decide_eq_false (by omega)
  have hdl : st.length ≤ 10 := by omega
  have HOL := hide (open_le st)
  have ho2 : openOf st ≤ (recsOf st).length := open_le st
  have hrl : (recsOf st).length ≤ 10 := by have := recs_len st; omega
  clear hrow hn ok hlen hst x4 hi hz0 hz1 hz2 hnil
  by_cases q1 : peer.toList = []
  · by_cases q2 : many = 0
    · by_cases q3 : sort = 0
      · skip
        by_cases q4 : name.toList = []
        · go_enter Tryz.func116, Tryz.ntmps116
          go_wp2_with fail
          go_ret
          refine ⟨ret_int ?_, (by repeat (first | exact alloc1 _ _ | exact Below.refl _ _ | refine Below.drew ?_))⟩
          rw [HDROP.out, ahead_0 rfl, if_pos (by simp [endB, *])]
          exact HPN.out
        · go_enter Tryz.func116, Tryz.ntmps116
          go_wp2_with fail
          all_goals
            go_ret
            refine ⟨ret_int ?_, (by repeat (first | exact alloc1 _ _ | exact Below.refl _ _ | refine Below.drew ?_))⟩
            rw [HDROP.out, ahead_0 rfl]
            first
              | (rw [if_neg (by simp [endB, *])]; rfl)
              | (rw [if_pos (by simp [endB, *])]; exact HPN.out)
      · have q3' : (sort == 0) = false := beq_eq_false_iff_ne.2 q3
        go_enter Tryz.func116, Tryz.ntmps116
        go_wp2_with fail
        go_ret
        refine ⟨ret_int ?_, (by repeat (first | exact alloc1 _ _ | exact Below.refl _ _ | refine Below.drew ?_))⟩
        rw [HDROP.out, ahead_0 rfl, if_neg (by simp [endB, *])]
        rfl
    · have q2' : (many == 0) = false := beq_eq_false_iff_ne.2 q2
      go_enter Tryz.func116, Tryz.ntmps116
      go_wp2_with fail
      go_ret
      refine ⟨ret_int ?_, (by repeat (first | exact alloc1 _ _ | exact Below.refl _ _ | refine Below.drew ?_))⟩
      rw [HDROP.out, ahead_0 rfl, if_neg (by simp [endB, *])]
      rfl
  · have q1' : (peer.toList == []) = false := beq_eq_false_iff_ne.2 q1
    go_enter Tryz.func116, Tryz.ntmps116
    go_wp2_with fail
    go_ret
    refine ⟨ret_int ?_, (by repeat (first | exact alloc1 _ _ | exact Below.refl _ _ | refine Below.drew ?_))⟩
    rw [HDROP.out, ahead_0 rfl, if_neg (by simp [endB, *])]
    rfl
end Go.Proofs.YtaaeledleldllaaGreat
namespace Go.Proofs.YtaaeledleldllaaGreat
open Go.RowKit

set_option maxRecDepth 100000 in
set_option maxHeartbeats 1000000 in
theorem end_1 (part : Bool) (f : Nat) (st all : List Nd) (pos bx : Nat) (a d op : Int) (rv : Value) (w : World) (hlen : st.length + f = 10) (hst : StOk st) (ok : ∀ n ∈ all, n.ok) (ha : a = pos) (hpl : pos < all.length) (hd : d = (st.length + 1 : Nat)) (hop : op = openOf st) (hx : LookAt w bx part all) (hr : TextsAt w rv (recsOf st)) (hnil : recsOf st = [] → rv = .slice none 0 0) (name peer : ByteArray) (many sort : Int) (hn : all[pos] = ⟨1, name, peer, many, sort⟩) :
    Calls Tryz.prog 116 #[.pointer (some ⟨bx, 0, none⟩), .int .i64 a, .int .i64 d, rv, .int .i64 op] w fun e w' => e = .returned (.int .i64 (endPos all (ahead (talkS part) f st (all.drop pos)))) ∧ Below w.heap.size w w' := by
  have HX := hide hx
  have HR := hide hr
  have HO := hide ok
  have HL := hide hlen
  have HST := hide hst
  have HNIL := hide hnil
  obtain ⟨i0, hi, hz0, hz1, hz2⟩ := info_parts Tryz.infoS
  have HI := hide (And.intro hi (And.intro hz0 (And.intro hz1 hz2)))
  obtain ⟨rao, rcap, rfl, rc1, rc2, -⟩ := hr
  subst ha hd hop
  obtain ⟨xao, xcap, x0, x1, x2, x3, x4⟩ := hx
  obtain ⟨b, o, rfl, hrow⟩ := x4 (by intro h; simp [h] at hpl)
  have hnode := hrow.get pos hpl
  have HDROP := hide (show all.drop pos = ⟨1, name, peer, many, sort⟩ :: all.drop (pos + 1) by rw [← hn]; exact drop_cons hpl)
  have HN1 := hide (show Nd.ok ⟨1, name, peer, many, sort⟩ by rw [← hn]; exact HO.out _ (List.getElem_mem hpl))
  have HPN := hide (pos_next hpl)
  rw [hn] at hnode
  obtain ⟨c0, c1, c2, c3, c4⟩ := hnode
  dsimp only at c0 c1 c2 c3 c4
  have hbw : b < w.heap.size := World.block_lt_of_cell? w _ c0
  have hbx : bx < w.heap.size := World.block_lt_of_cell? w _ x0
  have HXA : Hid (∀ ob, (w.alloc ob).cell? ⟨bx, 1, none⟩ = some (.bool part)) := hide (fun ob => ((alloc1 w ob).cell (p := ⟨bx, 1, none⟩) hbx).trans x1)
  have hp2 : decide ((all.length : Int) ≤ (pos : Int)) = false := decide_eq_false (by omega)
  have hdl : st.length ≤ 10 := by omega
  have HOL := hide (open_le st)
  have ho2 : openOf st ≤ (recsOf st).length := open_le st
  have hrl : (recsOf st).length ≤ 10 := by have := recs_len st; omega
  clear hrow hn ok hlen hst x4 hi hz0 hz1 hz2 hnil
  have HBK := hide (back_false st name HST.out)
  have HTK : Hid (TextsAt w (.slice rao (openOf st) rcap) ((recsOf st).take (openOf st))) := hide (HR.out.take HOL.out)
  obtain ⟨am, ham⟩ : ∃ am, hasB ((recsOf st).take (openOf st)) name = am := ⟨_, rfl⟩
  have HAM := hide ham
  have hro : openOf st ≤ rcap := Nat.le_trans ho2 rc1
  clear ham
  by_cases q1 : peer.toList = []
  · by_cases q2 : many = 0
    · by_cases q3 : sort = 0
      · skip
        cases am
        · go_enter Tryz.func116, Tryz.ntmps116
          go_wp2_with fail
          go_region_with (go_at_call 62; refine (s_among ((recsOf st).take (openOf st)) name _ _ (HTK.out.carry (by repeat (first | exact alloc1 _ _ | exact Below.refl _ _ | refine Below.drew ?_)))).mono ?_; rintro e w1 ⟨rfl, rfl⟩; rw [HAM.out])
          go_wp2_with fail
          go_ret
          refine ⟨ret_int ?_, (by repeat (first | exact alloc1 _ _ | exact Below.refl _ _ | refine Below.drew ?_))⟩
          rw [HDROP.out, ahead_1 rfl, if_neg (by rw [HBK.out, HAM.out]; simp)]
          rfl
        · go_enter Tryz.func116, Tryz.ntmps116
          go_wp2_with fail
          go_region_with (go_at_call 62; refine (s_among ((recsOf st).take (openOf st)) name _ _ (HTK.out.carry (by repeat (first | exact alloc1 _ _ | exact Below.refl _ _ | refine Below.drew ?_)))).mono ?_; rintro e w1 ⟨rfl, rfl⟩; rw [HAM.out])
          go_wp2_with fail
          go_ret
          refine ⟨ret_int ?_, (by repeat (first | exact alloc1 _ _ | exact Below.refl _ _ | refine Below.drew ?_))⟩
          rw [HDROP.out, ahead_1 rfl, if_pos (by rw [HBK.out, HAM.out]; simp [varB, *])]
          exact HPN.out
      · have q3' : (sort == 0) = false := beq_eq_false_iff_ne.2 q3
        go_enter Tryz.func116, Tryz.ntmps116
        go_wp2_with fail
        go_region
        go_wp2_with fail
        go_ret
        refine ⟨ret_int ?_, (by repeat (first | exact alloc1 _ _ | exact Below.refl _ _ | refine Below.drew ?_))⟩
        rw [HDROP.out, ahead_1 rfl, if_neg (by simp [varB, *])]
        rfl
    · have q2' : (many == 0) = false := beq_eq_false_iff_ne.2 q2
      go_enter Tryz.func116, Tryz.ntmps116
      go_wp2_with fail
      go_region
      go_wp2_with fail
      go_ret
      refine ⟨ret_int ?_, (by repeat (first | exact alloc1 _ _ | exact Below.refl _ _ | refine Below.drew ?_))⟩
      rw [HDROP.out, ahead_1 rfl, if_neg (by simp [varB, *])]
      rfl
  · have q1' : (peer.toList == []) = false := beq_eq_false_iff_ne.2 q1
    go_enter Tryz.func116, Tryz.ntmps116
    go_wp2_with fail
    go_region
    go_wp2_with fail
    go_ret
    refine ⟨ret_int ?_, (by repeat (first | exact alloc1 _ _ | exact Below.refl _ _ | refine Below.drew ?_))⟩
    rw [HDROP.out, ahead_1 rfl, if_neg (by simp [varB, *])]
    rfl
end Go.Proofs.YtaaeledleldllaaGreat
