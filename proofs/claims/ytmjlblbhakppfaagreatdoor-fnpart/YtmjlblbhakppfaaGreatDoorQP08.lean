import Derived.Test.YtmjlblbhakppfaaGreatDoorQP07
namespace Go.Proofs.YtmjlblbhakppfaaGreatDoor
open Go.RowKit

def STexts (w : World) (v : Value) (ls : List ByteArray) : Prop :=
  ∃ b o cap, v = .slice (some ⟨b, o, none⟩) ls.length cap ∧ ls.length ≤ cap ∧ cap ≤ maxLen ∧ ∀ i (h : i < ls.length), w.cell? ⟨b, o + i, none⟩ = some (.string ls[i])
def lessB (s t : ByteArray) : Bool := Op.bytesLess s.toList t.toList
def placeK : List ByteArray → ByteArray → Nat
  | [], _ => 0
  | s :: ls, t => if lessB s t then placeK ls t + 1 else 0
def putS (ls : List ByteArray) (t : ByteArray) : List ByteArray :=
  if hasB ((ls.drop (placeK ls t)).take 1) t then ls else ls.take (placeK ls t) ++ [t] ++ ls.drop (placeK ls t)

theorem place_eq : ∀ (ls : List ByteArray) (t : ByteArray) (k : Nat), k ≤ ls.length → (∀ j (h : j < ls.length), j < k → lessB ls[j] t = true) → (∀ h : k < ls.length, lessB ls[k] t = false) → placeK ls t = k
  | [], t, k, hk, _, _ => by simp at hk; subst hk; rfl
  | s :: ls, t, 0, _, _, h2 => by
    have := h2 (by simp)
    simp at this
    simp [placeK, this]
  | s :: ls, t, k + 1, hk, h1, h2 => by
    have h0 := h1 0 (by simp) (by omega)
    simp at h0
    have ih := place_eq ls t k (by simpa using hk) (fun j h hj => by have := h1 (j + 1) (by simpa using h) (by omega); simpa using this) (fun h => by have := h2 (by simpa using h); simpa using this)
    rw [placeK, if_pos h0, ih]
theorem put_same {ls : List ByteArray} {t : ByteArray} {k : Nat} (hp : placeK ls t = k) (hk : k < ls.length) (he : (ls[k].toList == t.toList) = true) : putS ls t = ls := by
  have e : (ls.drop k).take 1 = [ls[k]] := by rw [List.drop_eq_getElem_cons hk]; rfl
  rw [putS, hp, e, if_pos]
  simp only [hasB, List.any_cons, List.any_nil, Bool.or_false]
  exact he
theorem put_new {ls : List ByteArray} {t : ByteArray} {k : Nat} (hp : placeK ls t = k) (he : ∀ hk : k < ls.length, (ls[k].toList == t.toList) = false) : putS ls t = ls.take k ++ [t] ++ ls.drop k := by
  rw [putS, hp, if_neg]
  by_cases hk : k < ls.length
  · have e : (ls.drop k).take 1 = [ls[k]] := by rw [List.drop_eq_getElem_cons hk]; rfl
    rw [e]
    simp only [hasB, List.any_cons, List.any_nil, Bool.or_false, he hk]
    decide
  · rw [List.drop_of_length_le (by omega)]
    simp [hasB]

theorem texts_of_own {w : World} {base e : Nat} {v : Value} {ls : List ByteArray} (h : w.ownsRow base e 1 v ls.length (ls.map Value.string)) (hne : ls ≠ []) : STexts w v ls := by
  obtain ⟨_, hv⟩ := h
  rcases hv with ⟨rfl, h0⟩ | ⟨g, cap, cur, rfl, hg, hh, hn, hcap, hsz, htake⟩
  · exact absurd (List.length_eq_zero_iff.1 h0) hne
  · refine ⟨g, 0, cap, rfl, hn, hcap, fun i hi => ?_⟩
    have h1 : cur.toList[i]? = some (.string ls[i]) := by
      have h2 : (cur.toList.take (ls.length * 1))[i]? = (ls.map Value.string)[i]? := by rw [htake]
      rw [List.getElem?_take, if_pos (by omega)] at h2
      rw [h2]
      simp [hi]
    have h2 : cur[i]? = some (.string ls[i]) := by rw [← h1]; simp
    simp only [World.cell?, hh]
    simpa using h2

set_option maxRecDepth 100000 in
set_option maxHeartbeats 1000000 in
theorem s_put (ls : List ByteArray) (t : ByteArray) (v : Value) (w : World) (hv : STexts w v ls) (hl : ls.length ≤ 100) :
    Calls Tryz.prog 84 #[v, .string t] w fun e w' => ∃ v', e = .returned v' ∧ STexts w' v' (putS ls t) ∧ Below w.heap.size w w' := by
  have HV := hide hv
  obtain ⟨b, o, cap, rfl, hc, hm, hcell⟩ := hv
  obtain ⟨i0, hi, hz0, hz1, hz2⟩ := info_parts Tryz.infoS
  have HI := hide (And.intro hi (And.intro hz0 (And.intro hz1 hz2)))
  have HC := hide hcell
  have HM := hide hm
  clear hcell hm hi hz0 hz1 hz2
  go_enter Tryz.func84, Tryz.ntmps84
  go_wp2_with fail
  go_loop [5] (fun i => ∃ k : Nat, k ≤ ls.length ∧ i = .int .i64 k ∧ ∀ j (h : j < ls.length), j < k → lessB ls[j] t = true) (fun i => ls.length - (intOf i).toNat)
  case atStart => exact ⟨0, Nat.zero_le _, rfl, fun j _ h => absurd h (by omega)⟩
  case round =>
    obtain ⟨k, hk, rfl, hall⟩ := hrel
    have HA := hide hall
    clear hall
    by_cases hlt : k < ls.length
    · have hck := HC.out k hlt
      obtain ⟨s, hs⟩ : ∃ s, s = ls[k] := ⟨_, rfl⟩
      rw [← hs] at hck
      have HSs := hide hs
      clear hs
      cases hless : Op.bytesLess s.toList t.toList
      · have HLS := hide (show lessB ls[k] t = false by rw [← HSs.out]; exact hless)
        have HPK := hide (place_eq ls t k hk HA.out (fun _ => HLS.out))
        cases heq : (s.toList == t.toList)
        · have HPN := hide (put_new HPK.out (fun _ => by rw [← HSs.out]; exact heq))
          have HSRC1 : Hid (∀ W', Below w.heap.size w W' → ∀ j u, ((ls.take k).map Value.string)[j]? = some u → W'.cell? ((⟨b, o, none⟩ : Addr).add j) = some u) := hide (fun W' hb j u h => src_cells (ls := ls.take k) (fun i hi => by rw [List.getElem_take]; exact HC.out i (by simp at hi; omega)) hb j u h)
          by_cases hcap : cap = k
          · exfalso; omega
          · have HSRC2 : Hid (∀ W', Below w.heap.size w W' → ∀ j u, ((ls.drop k).map Value.string)[j]? = some u → W'.cell? ((⟨b, o + k, none⟩ : Addr).add j) = some u) := hide (fun W' hb j u h => src_cells (ls := ls.drop k) (fun i hi => by rw [List.getElem_drop, Nat.add_assoc]; exact HC.out (k + i) (by simp at hi; omega)) hb j u h)
            go_wp2_with (first | (at_builtin; refine wpList_append_own _ rfl (.tmp 34) (.tmp 37) 30 rfl w.heap.size 9 i0 (.string ByteArray.empty) 1 16 Tryz.underlying30 HI.out.1 HI.out.2.1 HI.out.2.2.1 HI.out.2.2.2 rfl (by decide) (.slice (some ⟨w.heap.size, 0, none⟩) 0 0) 0 [] rfl (own_empty _ _ _ _ (Nat.le_refl _) (heap_new _ _ _ rfl)) ⟨b, o, none⟩ k cap ((ls.take k).map Value.string) rfl (by first | (simp; done) | (simp; omega)) (HSRC1.out _ (alloc1 _ _)) (strs_cell _) (by unfold maxLen; omega) (by omega) (by simp) ?_; intro v1 w1 hown1 hgrow1 _; simp only [Nat.zero_add, List.nil_append] at hown1; have HOW1 := hide hown1; have HBW1 : Hid (Below w.heap.size w w1) := hide ((alloc1 _ _).grown hgrow1 (by simp) (by intro k hk; simp [Value.ownBlock] at hk; omega)); have hz1 : w.heap.size ≤ w1.heap.size := HBW1.out.size; clear hown1 hgrow1) | (at_builtin; refine wpList_append_own _ rfl (.tmp 39) (.tmp 41) 30 rfl w.heap.size 9 i0 (.string ByteArray.empty) 1 16 Tryz.underlying30 HI.out.1 HI.out.2.1 HI.out.2.2.1 HI.out.2.2.2 rfl (by decide) v1 k ((ls.take k).map Value.string) rfl (HOW1.out.alloc _) ⟨w1.heap.size, 0, none⟩ 1 1 [.string t] rfl rfl (one_new (cell_new _ _ _ _ rfl)) (one_cell _) (by unfold maxLen; omega) (by omega) (by first | (simp; done) | (simp; omega)) ?_; intro v2 w2 hown2 hgrow2 _; have HOW2 := hide hown2; have HBW2 : Hid (Below w.heap.size w w2) := hide ((HBW1.out.alloc hz1 _).grown hgrow2 (by first | (simp; done) | (simp; omega)) (own_row HOW1.out)); have hz2 : w.heap.size ≤ w2.heap.size := HBW2.out.size; clear hown2 hgrow2) | (at_builtin; refine wpList_append_own _ rfl (.tmp 43) (.tmp 46) 30 rfl w.heap.size 9 i0 (.string ByteArray.empty) 1 16 Tryz.underlying30 HI.out.1 HI.out.2.1 HI.out.2.2.1 HI.out.2.2.2 rfl (by decide) v2 (k + 1) ((ls.take k).map Value.string ++ [.string t]) rfl HOW2.out ⟨b, o + k, none⟩ (ls.length - k) (cap - k) ((ls.drop k).map Value.string) rfl (by simp) (HSRC2.out _ HBW2.out) (strs_cell _) (by unfold maxLen; omega) (by omega) hz2 ?_; intro v3 w3 hown3 hgrow3 _; have HOW3 := hide hown3; have HBW3 : Hid (Below w.heap.size w w3) := hide (HBW2.out.grown hgrow3 hz2 (own_row HOW2.out)); clear hown3 hgrow3))
            go_ret
            refine ⟨_, rfl, ?_, HBW3.out⟩
            rw [HPN.out]
            refine texts_of_own (base := w.heap.size) (e := 9) ?_ (by simp)
            have := HOW3.out
            have hln : k + 1 + (ls.length - k) = (ls.take k ++ [t] ++ ls.drop k).length := by simp; omega
            rw [hln] at this
            simpa using this
        · have HPS := hide (put_same HPK.out hlt (by rw [← HSs.out]; exact heq))
          go_wp2_with fail
          go_ret
          exact ⟨_, rfl, by rw [HPS.out]; exact HV.out, Below.refl _ _⟩
      · have HLS := hide (show lessB ls[k] t = true by rw [← HSs.out]; exact hless)
        go_wp2_with fail
        go_round
        case rel => exact ⟨k + 1, by omega, by go_num, fun j h hj => by
          rcases Nat.lt_or_ge j k with h1 | h1
          · exact HA.out j h h1
          · have : j = k := by omega
            subst this; exact HLS.out⟩
        case measure => simp [intOf]; omega
    · have HPK := hide (place_eq ls t k hk HA.out (fun h => absurd h hlt))
      have HPN := hide (put_new HPK.out (fun h => absurd h hlt))
      obtain rfl : k = ls.length := by omega
      have HSRC1 : Hid (∀ W', Below w.heap.size w W' → ∀ j u, ((ls.take ls.length).map Value.string)[j]? = some u → W'.cell? ((⟨b, o, none⟩ : Addr).add j) = some u) := hide (fun W' hb j u h => src_cells (ls := ls.take ls.length) (fun i hi => by rw [List.getElem_take]; exact HC.out i (by simp at hi; omega)) hb j u h)
      by_cases hcap : cap = ls.length
      · subst hcap
        go_wp2_with (first | (at_builtin; refine wpList_append_own _ rfl (.tmp 34) (.tmp 37) 30 rfl w.heap.size 9 i0 (.string ByteArray.empty) 1 16 Tryz.underlying30 HI.out.1 HI.out.2.1 HI.out.2.2.1 HI.out.2.2.2 rfl (by decide) (.slice (some ⟨w.heap.size, 0, none⟩) 0 0) 0 [] rfl (own_empty _ _ _ _ (Nat.le_refl _) (heap_new _ _ _ rfl)) ⟨b, o, none⟩ ls.length ls.length ((ls.take ls.length).map Value.string) rfl (by first | (simp; done) | (simp; omega)) (HSRC1.out _ (alloc1 _ _)) (strs_cell _) (by unfold maxLen; omega) (by omega) (by simp) ?_; intro v1 w1 hown1 hgrow1 _; simp only [Nat.zero_add, List.nil_append] at hown1; have HOW1 := hide hown1; have HBW1 : Hid (Below w.heap.size w w1) := hide ((alloc1 _ _).grown hgrow1 (by simp) (by intro k hk; simp [Value.ownBlock] at hk; omega)); have hz1 : w.heap.size ≤ w1.heap.size := HBW1.out.size; clear hown1 hgrow1) | (at_builtin; refine wpList_append_own _ rfl (.tmp 39) (.tmp 41) 30 rfl w.heap.size 9 i0 (.string ByteArray.empty) 1 16 Tryz.underlying30 HI.out.1 HI.out.2.1 HI.out.2.2.1 HI.out.2.2.2 rfl (by decide) v1 ls.length ((ls.take ls.length).map Value.string) rfl (HOW1.out.alloc _) ⟨w1.heap.size, 0, none⟩ 1 1 [.string t] rfl rfl (one_new (cell_new _ _ _ _ rfl)) (one_cell _) (by unfold maxLen; omega) (by omega) (by first | (simp; done) | (simp; omega)) ?_; intro v2 w2 hown2 hgrow2 _; have HOW2 := hide hown2; have HBW2 : Hid (Below w.heap.size w w2) := hide ((HBW1.out.alloc hz1 _).grown hgrow2 (by first | (simp; done) | (simp; omega)) (own_row HOW1.out)); have hz2 : w.heap.size ≤ w2.heap.size := HBW2.out.size; clear hown2 hgrow2) | (at_builtin; refine wpList_append_own _ rfl (.tmp 43) (.tmp 46) 30 rfl w.heap.size 9 i0 (.string ByteArray.empty) 1 16 Tryz.underlying30 HI.out.1 HI.out.2.1 HI.out.2.2.1 HI.out.2.2.2 rfl (by decide) v2 (ls.length + 1) ((ls.take ls.length).map Value.string ++ [.string t]) rfl HOW2.out ⟨b, o, none⟩ 0 0 [] rfl rfl (fun j u h => by simp at h) (fun u h => by simp at h) (by unfold maxLen; omega) (by omega) hz2 ?_; intro v3 w3 hown3 hgrow3 _; have HOW3 := hide hown3; have HBW3 : Hid (Below w.heap.size w w3) := hide (HBW2.out.grown hgrow3 hz2 (own_row HOW2.out)); clear hown3 hgrow3))
        go_ret
        refine ⟨_, rfl, ?_, HBW3.out⟩
        rw [HPN.out]
        refine texts_of_own (base := w.heap.size) (e := 9) ?_ (by simp)
        have := HOW3.out
        have hln : ls.length + 1 + 0 = (ls.take ls.length ++ [t] ++ ls.drop ls.length).length := by simp
        rw [hln] at this
        simpa using this
      · go_wp2_with (first | (at_builtin; refine wpList_append_own _ rfl (.tmp 34) (.tmp 37) 30 rfl w.heap.size 9 i0 (.string ByteArray.empty) 1 16 Tryz.underlying30 HI.out.1 HI.out.2.1 HI.out.2.2.1 HI.out.2.2.2 rfl (by decide) (.slice (some ⟨w.heap.size, 0, none⟩) 0 0) 0 [] rfl (own_empty _ _ _ _ (Nat.le_refl _) (heap_new _ _ _ rfl)) ⟨b, o, none⟩ ls.length cap ((ls.take ls.length).map Value.string) rfl (by first | (simp; done) | (simp; omega)) (HSRC1.out _ (alloc1 _ _)) (strs_cell _) (by unfold maxLen; omega) (by omega) (by simp) ?_; intro v1 w1 hown1 hgrow1 _; simp only [Nat.zero_add, List.nil_append] at hown1; have HOW1 := hide hown1; have HBW1 : Hid (Below w.heap.size w w1) := hide ((alloc1 _ _).grown hgrow1 (by simp) (by intro k hk; simp [Value.ownBlock] at hk; omega)); have hz1 : w.heap.size ≤ w1.heap.size := HBW1.out.size; clear hown1 hgrow1) | (at_builtin; refine wpList_append_own _ rfl (.tmp 39) (.tmp 41) 30 rfl w.heap.size 9 i0 (.string ByteArray.empty) 1 16 Tryz.underlying30 HI.out.1 HI.out.2.1 HI.out.2.2.1 HI.out.2.2.2 rfl (by decide) v1 ls.length ((ls.take ls.length).map Value.string) rfl (HOW1.out.alloc _) ⟨w1.heap.size, 0, none⟩ 1 1 [.string t] rfl rfl (one_new (cell_new _ _ _ _ rfl)) (one_cell _) (by unfold maxLen; omega) (by omega) (by first | (simp; done) | (simp; omega)) ?_; intro v2 w2 hown2 hgrow2 _; have HOW2 := hide hown2; have HBW2 : Hid (Below w.heap.size w w2) := hide ((HBW1.out.alloc hz1 _).grown hgrow2 (by first | (simp; done) | (simp; omega)) (own_row HOW1.out)); have hz2 : w.heap.size ≤ w2.heap.size := HBW2.out.size; clear hown2 hgrow2) | (at_builtin; refine wpList_append_own _ rfl (.tmp 43) (.tmp 46) 30 rfl w.heap.size 9 i0 (.string ByteArray.empty) 1 16 Tryz.underlying30 HI.out.1 HI.out.2.1 HI.out.2.2.1 HI.out.2.2.2 rfl (by decide) v2 (ls.length + 1) ((ls.take ls.length).map Value.string ++ [.string t]) rfl HOW2.out ⟨b, o + ls.length, none⟩ 0 (cap - ls.length) [] rfl rfl (fun j u h => by simp at h) (fun u h => by simp at h) (by unfold maxLen; omega) (by omega) hz2 ?_; intro v3 w3 hown3 hgrow3 _; have HOW3 := hide hown3; have HBW3 : Hid (Below w.heap.size w w3) := hide (HBW2.out.grown hgrow3 hz2 (own_row HOW2.out)); clear hown3 hgrow3))
        go_ret
        refine ⟨_, rfl, ?_, HBW3.out⟩
        rw [HPN.out]
        refine texts_of_own (base := w.heap.size) (e := 9) ?_ (by simp)
        have := HOW3.out
        have hln : ls.length + 1 + 0 = (ls.take ls.length ++ [t] ++ ls.drop ls.length).length := by simp
        rw [hln] at this
        simpa using this
end Go.Proofs.YtmjlblbhakppfaaGreatDoor
namespace Go.Proofs.YtmjlblbhakppfaaGreatDoor
open Go.RowKit

set_option maxRecDepth 100000 in
set_option maxHeartbeats 1000000 in
theorem end_2a (part : Bool) (f : Nat) (st all : List Nd) (pos bx : Nat) (a d op : Int) (rv : Value) (w : World) (hlen : st.length + f = 10) (hst : StOk st) (ok : ∀ n ∈ all, n.ok) (ha : a = pos) (hpl : pos < all.length) (hd : d = (st.length + 1 : Nat)) (hop : op = openOf st) (hx : LookAt w bx part all) (hr : TextsAt w rv (recsOf st)) (hnil : recsOf st = [] → rv = .slice none 0 0) (name peer : ByteArray) (many sort : Int) (hbad : f = 0 ∨ (recB ⟨2, name, peer, many, sort⟩ && !withinB st name) = false) (hn : all[pos] = ⟨2, name, peer, many, sort⟩) :
    Calls Tryz.prog 82 #[.pointer (some ⟨bx, 0, none⟩), .int .i64 a, .int .i64 d, rv, .int .i64 op] w fun e w' => e = .returned (.int .i64 (endPos all (ahead (talkS part) f st (all.drop pos)))) ∧ Below w.heap.size w w' := by
  have HX := hide hx
  have HR := hide hr
  have HO := hide ok
  have HL := hide hlen
  have HST := hide hst
  have HNIL := hide hnil
  obtain ⟨i0, hi, hz0, hz1, hz2⟩ := info_parts Tryz.infoS
  have HI := hide (And.intro hi (And.intro hz0 (And.intro hz1 hz2)))
  obtain ⟨rao, rcap, rfl, rc1, rc2, -⟩ := hr
  subst ha hd hop
  obtain ⟨xao, xcap, x0, x1, x2, x3, x4⟩ := hx
  obtain ⟨b, o, rfl, hrow⟩ := x4 (by intro h; simp [h] at hpl)
  have hnode := hrow.get pos hpl
  have HDROP := hide (show all.drop pos = ⟨2, name, peer, many, sort⟩ :: all.drop (pos + 1) by rw [← hn]; exact drop_cons hpl)
  have HN1 := hide (show Nd.ok ⟨2, name, peer, many, sort⟩ by rw [← hn]; exact HO.out _ (List.getElem_mem hpl))
  have HPN := hide (pos_next hpl)
  rw [hn] at hnode
  obtain ⟨c0, c1, c2, c3, c4⟩ := hnode
  dsimp only at c0 c1 c2 c3 c4
  have hbw : b < w.heap.size := World.block_lt_of_cell? w _ c0
  have hbx : bx < w.heap.size := World.block_lt_of_cell? w _ x0
  have HXA : Hid (∀ ob, (w.alloc ob).cell? ⟨bx, 1, none⟩ = some (.bool part)) := hide (fun ob => ((alloc1 w ob).cell (p := ⟨bx, 1, none⟩) hbx).trans x1)
  have hp2 : decide ((all.length : Int) ≤ (pos : Int)) = false := decide_eq_false (by omega)
  have hdl : st.length ≤ 10 := by omega
  have HOL := hide (open_le st)
  have ho2 : openOf st ≤ (recsOf st).length := open_le st
  have hrl : (recsOf st).length ≤ 10 := by have := recs_len st; omega
  clear hrow hn ok hlen hst x4 hi hz0 hz1 hz2 hnil
  have HBAD := hide hbad
  clear hbad
  have HWI := hide (within_eq st name)
  obtain ⟨wo, hwo⟩ : ∃ wo, wordB name = wo := ⟨_, rfl⟩
  obtain ⟨am, ham⟩ : ∃ am, hasB (recsOf st) name = am := ⟨_, rfl⟩
  have HWO := hide hwo
  have HAM := hide ham
  clear ham hwo
  by_cases q1 : peer.toList = []
  · by_cases q2 : many = 0
    · by_cases q3 : sort = 0
      · skip
        cases wo
        · go_enter Tryz.func82, Tryz.ntmps82
          go_wp2_with (go_at_call 118; refine (s_name name _ HN1.out.1).mono ?_; rintro e w1 ⟨rfl, rfl⟩; rw [HWO.out])
          go_ret
          refine ⟨ret_int ?_, (by repeat (first | exact alloc1 _ _ | exact Below.refl _ _ | refine Below.drew ?_))⟩
          rw [HDROP.out]
          cases f
          · rw [ahead_20 rfl]; rfl
          · rw [ahead_2 rfl, if_neg (by simp [recB, HWO.out])]; rfl
        · cases am
          · cases f with
            | zero =>
              have hd2 : decide ((st.length : Int) + 1 ≤ 10) = false := decide_eq_false (by have := HL.out; omega)
              go_enter Tryz.func82, Tryz.ntmps82
              go_wp2_with (first | (go_at_call 118; refine (s_name name _ HN1.out.1).mono ?_; rintro e w1 ⟨rfl, rfl⟩; rw [HWO.out]) | (go_at_call 53; refine (s_among (recsOf st) name _ _ (HR.out.carry (by repeat (first | exact alloc1 _ _ | exact Below.refl _ _ | refine Below.drew ?_)))).mono ?_; rintro e w1 ⟨rfl, rfl⟩; rw [HAM.out]))
              go_ret
              refine ⟨ret_int ?_, (by repeat (first | exact alloc1 _ _ | exact Below.refl _ _ | refine Below.drew ?_))⟩
              rw [HDROP.out, ahead_20 rfl]; rfl
            | succ f =>
              exfalso
              rcases HBAD.out with h | h
              · omega
              · rw [HWI.out, HAM.out] at h
                simp [recB, HWO.out, q1, q2, q3] at h
          · go_enter Tryz.func82, Tryz.ntmps82
            go_wp2_with (first | (go_at_call 118; refine (s_name name _ HN1.out.1).mono ?_; rintro e w1 ⟨rfl, rfl⟩; rw [HWO.out]) | (go_at_call 53; refine (s_among (recsOf st) name _ _ (HR.out.carry (by repeat (first | exact alloc1 _ _ | exact Below.refl _ _ | refine Below.drew ?_)))).mono ?_; rintro e w1 ⟨rfl, rfl⟩; rw [HAM.out]))
            go_ret
            refine ⟨ret_int ?_, (by repeat (first | exact alloc1 _ _ | exact Below.refl _ _ | refine Below.drew ?_))⟩
            rw [HDROP.out]
            cases f
            · rw [ahead_20 rfl]; rfl
            · rw [ahead_2 rfl, if_neg (by rw [HWI.out]; simp [HAM.out])]; rfl
      · have q3' : (sort == 0) = false := beq_eq_false_iff_ne.2 q3
        go_enter Tryz.func82, Tryz.ntmps82
        go_wp2_with fail
        go_ret
        refine ⟨ret_int ?_, (by repeat (first | exact alloc1 _ _ | exact Below.refl _ _ | refine Below.drew ?_))⟩
        rw [HDROP.out]
        cases f
        · rw [ahead_20 rfl]; rfl
        · rw [ahead_2 rfl, if_neg (by simp [recB, *])]; rfl
    · have q2' : (many == 0) = false := beq_eq_false_iff_ne.2 q2
      go_enter Tryz.func82, Tryz.ntmps82
      go_wp2_with fail
      go_ret
      refine ⟨ret_int ?_, (by repeat (first | exact alloc1 _ _ | exact Below.refl _ _ | refine Below.drew ?_))⟩
      rw [HDROP.out]
      cases f
      · rw [ahead_20 rfl]; rfl
      · rw [ahead_2 rfl, if_neg (by simp [recB, *])]; rfl
  · have q1' : (peer.toList == []) = false := beq_eq_false_iff_ne.2 q1
    go_enter Tryz.func82, Tryz.ntmps82
    go_wp2_with fail
    go_ret
    refine ⟨ret_int ?_, (by repeat (first | exact alloc1 _ _ | exact Below.refl _ _ | refine Below.drew ?_))⟩
    rw [HDROP.out]
    cases f
    · rw [ahead_20 rfl]; rfl
    · rw [ahead_2 rfl, if_neg (by simp [recB, *])]; rfl
end Go.Proofs.YtmjlblbhakppfaaGreatDoor
namespace Go.Proofs.YtmjlblbhakppfaaGreatDoor
open Go.RowKit

set_option maxRecDepth 100000 in
set_option maxHeartbeats 1000000 in
theorem end_t (part : Bool) (f : Nat) (hih : ∀ g, f = g + 1 → EndCalls part g) (st all : List Nd) (pos bx : Nat) (a d op : Int) (rv : Value) (w : World) (hlen : st.length + f = 10) (hst : StOk st) (ok : ∀ n ∈ all, n.ok) (ha : a = pos) (hpl : pos < all.length) (hd : d = (st.length + 1 : Nat)) (hop : op = openOf st) (hx : LookAt w bx part all) (hr : TextsAt w rv (recsOf st)) (hnil : recsOf st = [] → rv = .slice none 0 0) (name peer : ByteArray) (op0 many sort : Int) (hk : op0 ≠ 0 ∧ op0 ≠ 1 ∧ op0 ≠ 2) (hn : all[pos] = ⟨op0, name, peer, many, sort⟩) :
    Calls Tryz.prog 82 #[.pointer (some ⟨bx, 0, none⟩), .int .i64 a, .int .i64 d, rv, .int .i64 op] w fun e w' => e = .returned (.int .i64 (endPos all (ahead (talkS part) f st (all.drop pos)))) ∧ Below w.heap.size w w' := by
  have HX := hide hx
  have HR := hide hr
  have HO := hide ok
  have HL := hide hlen
  have HST := hide hst
  have HNIL := hide hnil
  obtain ⟨i0, hi, hz0, hz1, hz2⟩ := info_parts Tryz.infoS
  have HI := hide (And.intro hi (And.intro hz0 (And.intro hz1 hz2)))
  obtain ⟨rao, rcap, rfl, rc1, rc2, -⟩ := hr
  subst ha hd hop
  obtain ⟨xao, xcap, x0, x1, x2, x3, x4⟩ := hx
  obtain ⟨b, o, rfl, hrow⟩ := x4 (by intro h; simp [h] at hpl)
  have hnode := hrow.get pos hpl
  have HDROP := hide (show all.drop pos = ⟨op0, name, peer, many, sort⟩ :: all.drop (pos + 1) by rw [← hn]; exact drop_cons hpl)
  have HN1 := hide (show Nd.ok ⟨op0, name, peer, many, sort⟩ by rw [← hn]; exact HO.out _ (List.getElem_mem hpl))
  have HPN := hide (pos_next hpl)
  rw [hn] at hnode
  obtain ⟨c0, c1, c2, c3, c4⟩ := hnode
  dsimp only at c0 c1 c2 c3 c4
  have hbw : b < w.heap.size := World.block_lt_of_cell? w _ c0
  have hbx : bx < w.heap.size := World.block_lt_of_cell? w _ x0
  have HXA : Hid (∀ ob, (w.alloc ob).cell? ⟨bx, 1, none⟩ = some (.bool part)) := hide (fun ob => ((alloc1 w ob).cell (p := ⟨bx, 1, none⟩) hbx).trans x1)
  have hp2 : decide ((all.length : Int) ≤ (pos : Int)) = false := decide_eq_false (by omega)
  have hdl : st.length ≤ 10 := by omega
  have HOL := hide (open_le st)
  have ho2 : openOf st ≤ (recsOf st).length := open_le st
  have hrl : (recsOf st).length ≤ 10 := by have := recs_len st; omega
  clear hrow hn ok hlen hst x4 hi hz0 hz1 hz2 hnil
  obtain ⟨tb, htb⟩ : ∃ tb, talkS part ⟨op0, name, peer, many, sort⟩ = tb := ⟨_, rfl⟩
  have HTB := hide htb
  clear htb
  obtain ⟨y0, y1, y2⟩ := hk
  have HK := hide (And.intro y0 (And.intro y1 y2))
  have z0 : (op0 == 0) = false := beq_eq_false_iff_ne.2 y0
  have z1 : (op0 == 1) = false := beq_eq_false_iff_ne.2 y1
  have z2 : (op0 == 2) = false := beq_eq_false_iff_ne.2 y2
  clear y0 y1 y2
  have HPE : Hid (talkS part ⟨op0, name, peer, many, sort⟩ = true → (peer.toList == []) = false) := hide (fun h => by
    simp only [talkS, wordB, nameB, Bool.and_eq_true] at h
    have h1 : 1 ≤ peer.size := by simpa using h.1.1.1.1.1.1
    rw [beq_eq_false_iff_ne]
    intro e
    rw [Go.ByteArray.toList_eq] at e
    have h2 : peer.data.size = 0 := by simpa using congrArg List.length e
    have h3 : peer.size = peer.data.size := rfl
    omega)
  cases tb
  · obtain ⟨pe, hpe⟩ : ∃ pe, (peer.toList == []) = pe := ⟨_, rfl⟩
    obtain ⟨me, hme⟩ : ∃ me, (many == 0) = me := ⟨_, rfl⟩
    obtain ⟨se, hse⟩ : ∃ se, (sort == 0) = se := ⟨_, rfl⟩
    cases pe
    all_goals cases me
    all_goals cases se
    all_goals
      go_enter Tryz.func82, Tryz.ntmps82
      go_wp2_with (go_at_call 119; refine (s_talk part bx ⟨op0, name, peer, many, sort⟩ _ HN1.out (HXA.out _)).mono ?_; rintro e w1 ⟨rfl, hb1⟩; rw [HTB.out]; obtain ⟨d0, d1, d2, d3, d4⟩ := NodeAt.carry (B := _) (boxed0 w ⟨op0, name, peer, many, sort⟩ 45) (by simp) hb1; dsimp only at d0 d1 d2 d3 d4; have hs1 : w.heap.size < w1.heap.size := (by have := hb1.size; simp at this; omega); have HB1 : Hid (Below w.heap.size w w1) := hide ((alloc1 _ _).trans (hb1.mono (by simp))); clear hb1)
      all_goals
        go_ret
        refine ⟨ret_int ?_, HB1.out⟩
        rw [HDROP.out]
        cases f
        · rw [ahead_t0 HK.out.1 HK.out.2.1]; rfl
        · rw [ahead_t HK.out.1 HK.out.2.1 HK.out.2.2, HTB.out]; rfl
  · cases f with
    | zero =>
      have hd2 : decide ((st.length : Int) + 1 ≤ 10) = false := decide_eq_false (by have := HL.out; omega)
      have q1' := HPE.out HTB.out
      go_enter Tryz.func82, Tryz.ntmps82
      go_wp2_with (go_at_call 119; refine (s_talk part bx ⟨op0, name, peer, many, sort⟩ _ HN1.out (HXA.out _)).mono ?_; rintro e w1 ⟨rfl, hb1⟩; rw [HTB.out]; obtain ⟨d0, d1, d2, d3, d4⟩ := NodeAt.carry (B := _) (boxed0 w ⟨op0, name, peer, many, sort⟩ 45) (by simp) hb1; dsimp only at d0 d1 d2 d3 d4; have hs1 : w.heap.size < w1.heap.size := (by have := hb1.size; simp at this; omega); have HB1 : Hid (Below w.heap.size w w1) := hide ((alloc1 _ _).trans (hb1.mono (by simp))); clear hb1)
      all_goals
        go_ret
        refine ⟨ret_int ?_, HB1.out⟩
        rw [HDROP.out, ahead_t0 HK.out.1 HK.out.2.1]; rfl
    | succ f =>
      have hd2 : decide ((st.length : Int) + 1 ≤ 10) = true := decide_eq_true (by have := HL.out; omega)
      have HF := hide (hih f rfl)
      have HMB : Hid (many = (many.toNat : Int) ∧ many.toNat ≤ 4) := hide (by have := HTB.out; simp [talkS, manyB] at this; have h2 := this.1.1.2; omega)
      clear hih
      have q1' := HPE.out HTB.out
      go_enter Tryz.func82, Tryz.ntmps82
      go_wp2_with (first | (go_at_call 119; refine (s_talk part bx ⟨op0, name, peer, many, sort⟩ _ HN1.out (HXA.out _)).mono ?_; rintro e w1 ⟨rfl, hb1⟩; rw [HTB.out]; obtain ⟨d0, d1, d2, d3, d4⟩ := NodeAt.carry (B := _) (boxed0 w ⟨op0, name, peer, many, sort⟩ 45) (by simp) hb1; dsimp only at d0 d1 d2 d3 d4; have hs1 : w.heap.size < w1.heap.size := (by have := hb1.size; simp at this; omega); have HB1 : Hid (Below w.heap.size w w1) := hide ((alloc1 _ _).trans (hb1.mono (by simp))); clear hb1) | (go_at_call 120; refine (s_kids part f HF.out (⟨op0, name, peer, many, sort⟩ :: st) all (pos + 1) bx many.toNat _ _ _ _ _ (by have := HL.out; simp; omega) ⟨.inl HK.out.2.2, HST.out⟩ HO.out (by omega) (by omega) HMB.out.1 HMB.out.2 (by simp) (by simp [openOf, recsOf, HK.out.2.2]) (HX.out.carry HB1.out) (by rw [recs_talk HK.out.2.2]; exact HR.out.carry HB1.out) (by rw [recs_talk HK.out.2.2]; exact HNIL.out)).mono ?_; rintro e w2 ⟨rfl, hb2⟩; have HB2 := hide hb2; clear hb2))
      go_ret
      refine ⟨ret_int ?_, HB1.out.trans (HB2.out.mono HB1.out.size)⟩
      rw [HDROP.out, ahead_t HK.out.1 HK.out.2.1 HK.out.2.2, HTB.out]; rfl
end Go.Proofs.YtmjlblbhakppfaaGreatDoor
