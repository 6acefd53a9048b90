import Derived.Test.YtlbcnmcfljaijaaQF09
namespace Go.Proofs.Ytlbcnmcfljaijaa
open Go.RowKit

def STexts (w : World) (v : Value) (ls : List ByteArray) : Prop :=
  ∃ b o cap, v = .slice (some ⟨b, o, none⟩) ls.length cap ∧ ls.length ≤ cap ∧ cap ≤ maxLen ∧ ∀ i (h : i < ls.length), w.cell? ⟨b, o + i, none⟩ = some (.string ls[i])
def lessB (s t : ByteArray) : Bool := Op.bytesLess s.toList t.toList
def placeK : List ByteArray → ByteArray → Nat
  | [], _ => 0
  | s :: ls, t => if lessB s t then placeK ls t + 1 else 0
def putS (ls : List ByteArray) (t : ByteArray) : List ByteArray :=
  if hasB ((ls.drop (placeK ls t)).take 1) t then ls else ls.take (placeK ls t) ++ [t] ++ ls.drop (placeK ls t)

theorem place_eq : ∀ (ls : List ByteArray) (t : ByteArray) (k : Nat), k ≤ ls.length → (∀ j (h : j < ls.length), j < k → lessB ls[j] t = true) → (∀ h : k < ls.length, lessB ls[k] t = false) → placeK ls t = k
  | [], t, k, hk, _, _ => by simp at hk; subst hk; rfl
  | s :: ls, t, 0, _, _, h2 => by
    have := h2 (by simp)
    simp at this
    simp [placeK, this]
  | s :: ls, t, k + 1, hk, h1, h2 => by
    have h0 := h1 0 (by simp) (by omega)
    simp at h0
    have ih := place_eq ls t k (by simpa using hk) (fun j h hj => by have := h1 (j + 1) (by simpa using h) (by omega); simpa using this) (fun h => by have := h2 (by simpa using h); simpa using this)
    rw [placeK, if_pos h0, ih]
theorem put_same {ls : List ByteArray} {t : ByteArray} {k : Nat} (hp : placeK ls t = k) (hk : k < ls.length) (he : (ls[k].toList == t.toList) = true) : putS ls t = ls := by
  have e : (ls.drop k).take 1 = [ls[k]] := by rw [List.drop_eq_getElem_cons hk]; rfl
  rw [putS, hp, e, if_pos]
  simp only [hasB, List.any_cons, List.any_nil, Bool.or_false]
  exact he
theorem put_new {ls : List ByteArray} {t : ByteArray} {k : Nat} (hp : placeK ls t = k) (he : ∀ hk : k < ls.length, (ls[k].toList == t.toList) = false) : putS ls t = ls.take k ++ [t] ++ ls.drop k := by
  rw [putS, hp, if_neg]
  by_cases hk : k < ls.length
  · have e : (ls.drop k).take 1 = [ls[k]] := by rw [List.drop_eq_getElem_cons hk]; rfl
    rw [e]
    simp only [hasB, List.any_cons, List.any_nil, Bool.or_false, he hk]
    decide
  · rw [List.drop_of_length_le (by omega)]
    simp [hasB]

theorem texts_of_own {w : World} {base e : Nat} {v : Value} {ls : List ByteArray} (h : w.ownsRow base e 1 v ls.length (ls.map Value.string)) (hne : ls ≠ []) : STexts w v ls := by
  obtain ⟨_, hv⟩ := h
  rcases hv with ⟨rfl, h0⟩ | ⟨g, cap, cur, rfl, hg, hh, hn, hcap, hsz, htake⟩
  · exact absurd (List.length_eq_zero_iff.1 h0) hne
  · refine ⟨g, 0, cap, rfl, hn, hcap, fun i hi => ?_⟩
    have h1 : cur.toList[i]? = some (.string ls[i]) := by
      have h2 : (cur.toList.take (ls.length * 1))[i]? = (ls.map Value.string)[i]? := by rw [htake]
      rw [List.getElem?_take, if_pos (by omega)] at h2
      rw [h2]
      simp [hi]
    have h2 : cur[i]? = some (.string ls[i]) := by rw [← h1]; simp
    simp only [World.cell?, hh]
    simpa using h2

set_option maxRecDepth 100000 in
set_option maxHeartbeats 1000000 in
theorem s_put (ls : List ByteArray) (t : ByteArray) (v : Value) (w : World) (hv : STexts w v ls) (hl : ls.length ≤ 100) :
    Calls Try.prog 76 #[v, .string t] w fun e w' => ∃ v', e = .returned v' ∧ STexts w' v' (putS ls t) ∧ Below w.heap.size w w' := by
  have HV := hide hv
  obtain ⟨b, o, cap, rfl, hc, hm, hcell⟩ := hv
  obtain ⟨i0, hi, hz0, hz1, hz2⟩ := info_parts Try.infoS
  have HI := hide (And.intro hi (And.intro hz0 (And.intro hz1 hz2)))
  have HC := hide hcell
  have HM := hide hm
  clear hcell hm hi hz0 hz1 hz2
  go_enter Try.func76, Try.ntmps76
  go_wp2_with fail
  go_loop [5] (fun i => ∃ k : Nat, k ≤ ls.length ∧ i = .int .i64 k ∧ ∀ j (h : j < ls.length), j < k → lessB ls[j] t = true) (fun i => ls.length - (intOf i).toNat)
  case atStart => exact ⟨0, Nat.zero_le _, rfl, fun j _ h => absurd h (by omega)⟩
  case round =>
    obtain ⟨k, hk, rfl, hall⟩ := hrel
    have HA := hide hall
    clear hall
    by_cases hlt : k < ls.length
    · have hck := HC.out k hlt
      obtain ⟨s, hs⟩ : ∃ s, s = ls[k] := ⟨_, rfl⟩
      rw [← hs] at hck
      have HSs := hide hs
      clear hs
      cases hless : Op.bytesLess s.toList t.toList
      · have HLS := hide (show lessB ls[k] t = false by rw [← HSs.out]; exact hless)
        have HPK := hide (place_eq ls t k hk HA.out (fun _ => HLS.out))
        cases heq : (s.toList == t.toList)
        · have HPN := hide (put_new HPK.out (fun _ => by rw [← HSs.out]; exact heq))
          have HSRC1 : Hid (∀ W', Below w.heap.size w W' → ∀ j u, ((ls.take k).map Value.string)[j]? = some u → W'.cell? ((⟨b, o, none⟩ : Addr).add j) = some u) := hide (fun W' hb j u h => src_cells (ls := ls.take k) (fun i hi => by rw [List.getElem_take]; exact HC.out i (by simp at hi; omega)) hb j u h)
          by_cases hcap : cap = k
          · exfalso; omega
          · have HSRC2 : Hid (∀ W', Below w.heap.size w W' → ∀ j u, ((ls.drop k).map Value.string)[j]? = some u → W'.cell? ((⟨b, o + k, none⟩ : Addr).add j) = some u) := hide (fun W' hb j u h => src_cells (ls := ls.drop k) (fun i hi => by rw [List.getElem_drop, Nat.add_assoc]; exact HC.out (k + i) (by simp at hi; omega)) hb j u h)
            go_wp2_with (first | (at_builtin; refine wpList_append_own _ rfl (.tmp 34) (.tmp 37) 68 rfl w.heap.size 9 i0 (.string ByteArray.empty) 1 16 Try.underlying68 HI.out.1 HI.out.2.1 HI.out.2.2.1 HI.out.2.2.2 rfl (by decide) (.slice (some ⟨w.heap.size, 0, none⟩) 0 0) 0 [] rfl (own_empty _ _ _ _ (Nat.le_refl _) (heap_new _ _ _ rfl)) ⟨b, o, none⟩ k cap ((ls.take k).map Value.string) rfl (by first | (simp; done) | (simp; omega)) (HSRC1.out _ (alloc1 _ _)) (strs_cell _) (by unfold maxLen; omega) (by omega) (by simp) ?_; intro v1 w1 hown1 hgrow1 _; simp only [Nat.zero_add, List.nil_append] at hown1; have HOW1 := hide hown1; have HBW1 : Hid (Below w.heap.size w w1) := hide ((alloc1 _ _).grown hgrow1 (by simp) (by intro k hk; simp [Value.ownBlock] at hk; omega)); have hz1 : w.heap.size ≤ w1.heap.size := HBW1.out.size; clear hown1 hgrow1) | (at_builtin; refine wpList_append_own _ rfl (.tmp 39) (.tmp 41) 68 rfl w.heap.size 9 i0 (.string ByteArray.empty) 1 16 Try.underlying68 HI.out.1 HI.out.2.1 HI.out.2.2.1 HI.out.2.2.2 rfl (by decide) v1 k ((ls.take k).map Value.string) rfl (HOW1.out.alloc _) ⟨w1.heap.size, 0, none⟩ 1 1 [.string t] rfl rfl (one_new (cell_new _ _ _ _ rfl)) (one_cell _) (by unfold maxLen; omega) (by omega) (by first | (simp; done) | (simp; omega)) ?_; intro v2 w2 hown2 hgrow2 _; have HOW2 := hide hown2; have HBW2 : Hid (Below w.heap.size w w2) := hide ((HBW1.out.alloc hz1 _).grown hgrow2 (by first | (simp; done) | (simp; omega)) (own_row HOW1.out)); have hz2 : w.heap.size ≤ w2.heap.size := HBW2.out.size; clear hown2 hgrow2) | (at_builtin; refine wpList_append_own _ rfl (.tmp 43) (.tmp 46) 68 rfl w.heap.size 9 i0 (.string ByteArray.empty) 1 16 Try.underlying68 HI.out.1 HI.out.2.1 HI.out.2.2.1 HI.out.2.2.2 rfl (by decide) v2 (k + 1) ((ls.take k).map Value.string ++ [.string t]) rfl HOW2.out ⟨b, o + k, none⟩ (ls.length - k) (cap - k) ((ls.drop k).map Value.string) rfl (by simp) (HSRC2.out _ HBW2.out) (strs_cell _) (by unfold maxLen; omega) (by omega) hz2 ?_; intro v3 w3 hown3 hgrow3 _; have HOW3 := hide hown3; have HBW3 : Hid (Below w.heap.size w w3) := hide (HBW2.out.grown hgrow3 hz2 (own_row HOW2.out)); clear hown3 hgrow3))
            go_ret
            refine ⟨_, rfl, ?_, HBW3.out⟩
            rw [HPN.out]
            refine texts_of_own (base := w.heap.size) (e := 9) ?_ (by simp)
            have := HOW3.out
            have hln : k + 1 + (ls.length - k) = (ls.take k ++ [t] ++ ls.drop k).length := by simp; omega
            rw [hln] at this
            simpa using this
        · have HPS := hide (put_same HPK.out hlt (by rw [← HSs.out]; exact heq))
          go_wp2_with fail
          go_ret
          exact ⟨_, rfl, by rw [HPS.out]; exact HV.out, Below.refl _ _⟩
      · have HLS := hide (show lessB ls[k] t = true by rw [← HSs.out]; exact hless)
        go_wp2_with fail
        go_round
        case rel => exact ⟨k + 1, by omega, by go_num, fun j h hj => by
          rcases Nat.lt_or_ge j k with h1 | h1
          · exact HA.out j h h1
          · have : j = k := by omega
            subst this; exact HLS.out⟩
        case measure => simp [intOf]; omega
    · have HPK := hide (place_eq ls t k hk HA.out (fun h => absurd h hlt))
      have HPN := hide (put_new HPK.out (fun h => absurd h hlt))
      obtain rfl : k = ls.length := by omega
      have HSRC1 : Hid (∀ W', Below w.heap.size w W' → ∀ j u, ((ls.take ls.length).map Value.string)[j]? = some u → W'.cell? ((⟨b, o, none⟩ : Addr).add j) = some u) := hide (fun W' hb j u h => src_cells (ls := ls.take ls.length) (fun i hi => by rw [List.getElem_take]; exact HC.out i (by simp at hi; omega)) hb j u h)
      by_cases hcap : cap = ls.length
      · subst hcap
        go_wp2_with (first | (at_builtin; refine wpList_append_own _ rfl (.tmp 34) (.tmp 37) 68 rfl w.heap.size 9 i0 (.string ByteArray.empty) 1 16 Try.underlying68 HI.out.1 HI.out.2.1 HI.out.2.2.1 HI.out.2.2.2 rfl (by decide) (.slice (some ⟨w.heap.size, 0, none⟩) 0 0) 0 [] rfl (own_empty _ _ _ _ (Nat.le_refl _) (heap_new _ _ _ rfl)) ⟨b, o, none⟩ ls.length ls.length ((ls.take ls.length).map Value.string) rfl (by first | (simp; done) | (simp; omega)) (HSRC1.out _ (alloc1 _ _)) (strs_cell _) (by unfold maxLen; omega) (by omega) (by simp) ?_; intro v1 w1 hown1 hgrow1 _; simp only [Nat.zero_add, List.nil_append] at hown1; have HOW1 := hide hown1; have HBW1 : Hid (Below w.heap.size w w1) := hide ((alloc1 _ _).grown hgrow1 (by simp) (by intro k hk; simp [Value.ownBlock] at hk; omega)); have hz1 : w.heap.size ≤ w1.heap.size := HBW1.out.size; clear hown1 hgrow1) | (at_builtin; refine wpList_append_own _ rfl (.tmp 39) (.tmp 41) 68 rfl w.heap.size 9 i0 (.string ByteArray.empty) 1 16 Try.underlying68 HI.out.1 HI.out.2.1 HI.out.2.2.1 HI.out.2.2.2 rfl (by decide) v1 ls.length ((ls.take ls.length).map Value.string) rfl (HOW1.out.alloc _) ⟨w1.heap.size, 0, none⟩ 1 1 [.string t] rfl rfl (one_new (cell_new _ _ _ _ rfl)) (one_cell _) (by unfold maxLen; omega) (by omega) (by first | (simp; done) | (simp; omega)) ?_; intro v2 w2 hown2 hgrow2 _; have HOW2 := hide hown2; have HBW2 : Hid (Below w.heap.size w w2) := hide ((HBW1.out.alloc hz1 _).grown hgrow2 (by first | (simp; done) | (simp; omega)) (own_row HOW1.out)); have hz2 : w.heap.size ≤ w2.heap.size := HBW2.out.size; clear hown2 hgrow2) | (at_builtin; refine wpList_append_own _ rfl (.tmp 43) (.tmp 46) 68 rfl w.heap.size 9 i0 (.string ByteArray.empty) 1 16 Try.underlying68 HI.out.1 HI.out.2.1 HI.out.2.2.1 HI.out.2.2.2 rfl (by decide) v2 (ls.length + 1) ((ls.take ls.length).map Value.string ++ [.string t]) rfl HOW2.out ⟨b, o, none⟩ 0 0 [] rfl rfl (fun j u h => by simp at h) (fun u h => by simp at h) (by unfold maxLen; omega) (by omega) hz2 ?_; intro v3 w3 hown3 hgrow3 _; have HOW3 := hide hown3; have HBW3 : Hid (Below w.heap.size w w3) := hide (HBW2.out.grown hgrow3 hz2 (own_row HOW2.out)); clear hown3 hgrow3))
        go_ret
        refine ⟨_, rfl, ?_, HBW3.out⟩
        rw [HPN.out]
        refine texts_of_own (base := w.heap.size) (e := 9) ?_ (by simp)
        have := HOW3.out
        have hln : ls.length + 1 + 0 = (ls.take ls.length ++ [t] ++ ls.drop ls.length).length := by simp
        rw [hln] at this
        simpa using this
      · go_wp2_with (first | (at_builtin; refine wpList_append_own _ rfl (.tmp 34) (.tmp 37) 68 rfl w.heap.size 9 i0 (.string ByteArray.empty) 1 16 Try.underlying68 HI.out.1 HI.out.2.1 HI.out.2.2.1 HI.out.2.2.2 rfl (by decide) (.slice (some ⟨w.heap.size, 0, none⟩) 0 0) 0 [] rfl (own_empty _ _ _ _ (Nat.le_refl _) (heap_new _ _ _ rfl)) ⟨b, o, none⟩ ls.length cap ((ls.take ls.length).map Value.string) rfl (by first | (simp; done) | (simp; omega)) (HSRC1.out _ (alloc1 _ _)) (strs_cell _) (by unfold maxLen; omega) (by omega) (by simp) ?_; intro v1 w1 hown1 hgrow1 _; simp only [Nat.zero_add, List.nil_append] at hown1; have HOW1 := hide hown1; have HBW1 : Hid (Below w.heap.size w w1) := hide ((alloc1 _ _).grown hgrow1 (by simp) (by intro k hk; simp [Value.ownBlock] at hk; omega)); have hz1 : w.heap.size ≤ w1.heap.size := HBW1.out.size; clear hown1 hgrow1) | (at_builtin; refine wpList_append_own _ rfl (.tmp 39) (.tmp 41) 68 rfl w.heap.size 9 i0 (.string ByteArray.empty) 1 16 Try.underlying68 HI.out.1 HI.out.2.1 HI.out.2.2.1 HI.out.2.2.2 rfl (by decide) v1 ls.length ((ls.take ls.length).map Value.string) rfl (HOW1.out.alloc _) ⟨w1.heap.size, 0, none⟩ 1 1 [.string t] rfl rfl (one_new (cell_new _ _ _ _ rfl)) (one_cell _) (by unfold maxLen; omega) (by omega) (by first | (simp; done) | (simp; omega)) ?_; intro v2 w2 hown2 hgrow2 _; have HOW2 := hide hown2; have HBW2 : Hid (Below w.heap.size w w2) := hide ((HBW1.out.alloc hz1 _).grown hgrow2 (by first | (simp; done) | (simp; omega)) (own_row HOW1.out)); have hz2 : w.heap.size ≤ w2.heap.size := HBW2.out.size; clear hown2 hgrow2) | (at_builtin; refine wpList_append_own _ rfl (.tmp 43) (.tmp 46) 68 rfl w.heap.size 9 i0 (.string ByteArray.empty) 1 16 Try.underlying68 HI.out.1 HI.out.2.1 HI.out.2.2.1 HI.out.2.2.2 rfl (by decide) v2 (ls.length + 1) ((ls.take ls.length).map Value.string ++ [.string t]) rfl HOW2.out ⟨b, o + ls.length, none⟩ 0 (cap - ls.length) [] rfl rfl (fun j u h => by simp at h) (fun u h => by simp at h) (by unfold maxLen; omega) (by omega) hz2 ?_; intro v3 w3 hown3 hgrow3 _; have HOW3 := hide hown3; have HBW3 : Hid (Below w.heap.size w w3) := hide (HBW2.out.grown hgrow3 hz2 (own_row HOW2.out)); clear hown3 hgrow3))
        go_ret
        refine ⟨_, rfl, ?_, HBW3.out⟩
        rw [HPN.out]
        refine texts_of_own (base := w.heap.size) (e := 9) ?_ (by simp)
        have := HOW3.out
        have hln : ls.length + 1 + 0 = (ls.take ls.length ++ [t] ++ ls.drop ls.length).length := by simp
        rw [hln] at this
        simpa using this
end Go.Proofs.Ytlbcnmcfljaijaa
namespace Go.Proofs.Ytlbcnmcfljaijaa
open Go.RowKit

def stepS (acc : List ByteArray) (n : Nd) : List ByteArray :=
  let a := if n.op == 3 then putS acc n.name else acc
  if n.peer.toList == [] then a else putS a n.peer
def rolesS (ns : List Nd) : List ByteArray := ns.foldl stepS []

theorem put_len (ls : List ByteArray) (t : ByteArray) : (putS ls t).length ≤ ls.length + 1 := by
  rw [putS]
  split
  · omega
  · simp; omega
theorem roles_next {ns : List Nd} {k : Nat} (h : k < ns.length) : (ns.take (k + 1)).foldl stepS [] = stepS ((ns.take k).foldl stepS []) ns[k] := by
  rw [List.take_succ_eq_append_getElem h, List.foldl_append]; rfl
theorem STexts.carry {w w' : World} {v : Value} {ls : List ByteArray} (h : STexts w v ls) (hb : Below w.heap.size w w') : STexts w' v ls := by
  obtain ⟨b, o, cap, h1, h2, h3, h4⟩ := h
  exact ⟨b, o, cap, h1, h2, h3, fun i hi => (hb.cell (p := ⟨b, _, none⟩) (World.block_lt_of_cell? w _ (h4 i hi))).trans (h4 i hi)⟩

set_option maxRecDepth 100000 in
set_option maxHeartbeats 1000000 in
theorem s_roles (ns : List Nd) (v : Value) (w : World) (hv : SlAt w w.heap.size v ns) (hl : ns.length ≤ 40) :
    Calls Try.prog 67 #[v] w fun e w' => ∃ v', e = .returned v' ∧ STexts w' v' (rolesS ns) ∧ Below w.heap.size w w' := by
  obtain ⟨ao, cap, rfl, hc, hm, hr⟩ := hv
  have HR := hide hr
  clear hr
  go_enter Try.func67, Try.ntmps67
  go_wp2_with fail
  go_loopw [3, 4] (fun out i wr => ∃ k : Nat, k ≤ ns.length ∧ i = .int .i64 k ∧ STexts wr out ((ns.take k).foldl stepS []) ∧ ((ns.take k).foldl stepS []).length ≤ 2 * k ∧ Below w.heap.size w wr)
    (fun _ i _ => ns.length - (intOf i).toNat)
  case atStart => exact ⟨0, Nat.zero_le _, rfl, ⟨w.heap.size, 0, 0, rfl, Nat.le_refl _, by unfold maxLen; omega, fun i h => absurd h (by simp)⟩, by simp, alloc1 _ _⟩
  case round =>
    obtain ⟨k, hk, rfl, hst, hsl, hbel⟩ := hrel
    obtain ⟨acc, hacc⟩ : ∃ acc, acc = (ns.take k).foldl stepS [] := ⟨_, rfl⟩
    rw [← hacc] at hst hsl
    have HACC := hide hacc
    have HST := hide hst
    have HBEL := hide hbel
    have hszr := hbel.size
    clear hacc hbel
    obtain ⟨b1, o1, cap1, rfl, hst1⟩ := hst
    clear hst1
    by_cases hlt : k < ns.length
    · obtain ⟨b, o, rfl, hbB, hrow⟩ := HR.out (by intro h; simp [h] at hlt)
      have hnode := (hrow.get k hlt).carry hbB HBEL.out
      obtain ⟨n1, hn1⟩ : ∃ n1, n1 = ns[k] := ⟨_, rfl⟩
      rw [← hn1] at hnode
      have HN := hide (show (ns.take (k + 1)).foldl stepS [] = stepS acc n1 by rw [roles_next hlt, HACC.out, hn1])
      have HND := hide hnode
      clear hn1 hrow
      have hbw : b < wr.heap.size := hnode.lt
      obtain ⟨c0, c1, c2, c3, c4⟩ := hnode
      obtain ⟨op3, hop3⟩ : ∃ op3, (n1.op == 3) = op3 := ⟨_, rfl⟩
      obtain ⟨pe, hpe⟩ : ∃ pe, (n1.peer.toList == []) = pe := ⟨_, rfl⟩
      have HO3 := hide hop3
      have HPE := hide hpe
      cases op3
      · cases pe
        · go_wp2_with (go_at_call 76; refine (s_put acc n1.peer _ _ HST.out (by omega)).mono ?_; rintro e w1 ⟨v1, rfl, hs1, hb1⟩; have HS1 := hide hs1; obtain ⟨b2, o2, cap2, rfl, hs2⟩ := hs1; have HB1 := hide hb1; clear hs2 hb1)
          go_roundw
          case rel =>
            have hst : stepS acc n1 = putS acc n1.peer := by simp [stepS, HO3.out, HPE.out]
            refine ⟨k + 1, by omega, by go_num, by rw [HN.out, hst]; exact HS1.out, by rw [HN.out, hst]; have := put_len acc n1.peer; omega, HBEL.out.trans (HB1.out.mono hszr)⟩
          case measure => simp [intOf]; omega
        · go_wp2_with fail
          go_roundw
          case rel =>
            have hst : stepS acc n1 = acc := by simp [stepS, HO3.out, HPE.out]
            refine ⟨k + 1, by omega, by go_num, by rw [HN.out, hst]; exact HST.out, by rw [HN.out, hst]; omega, HBEL.out⟩
          case measure => simp [intOf]; omega
      · cases pe
        · go_wp2_with (first | (go_at_call_of 76 n1.peer; refine (s_put (putS acc n1.name) n1.peer _ _ HS1.out (by have := put_len acc n1.name; omega)).mono ?_; rintro e w2 ⟨v2, rfl, hs3, hb2⟩; have HS2 := hide hs3; obtain ⟨b3, o3, cap3, rfl, hs4⟩ := hs3; have HB2 := hide hb2; clear hs4 hb2) | (go_at_call_of 76 n1.name; refine (s_put acc n1.name _ _ HST.out (by omega)).mono ?_; rintro e w1 ⟨v1, rfl, hs1, hb1⟩; have HS1 := hide hs1; obtain ⟨b2, o2, cap2, rfl, hs2⟩ := hs1; have hz1 := hb1.size; obtain ⟨d0, d1, d2, d3, d4⟩ := HND.out.carry hbw hb1; have HB1 := hide hb1; clear hs2 hb1))
          go_roundw
          case rel =>
            have hst : stepS acc n1 = putS (putS acc n1.name) n1.peer := by simp [stepS, HO3.out, HPE.out]
            refine ⟨k + 1, by omega, by go_num, by rw [HN.out, hst]; exact HS2.out, by rw [HN.out, hst]; have := put_len acc n1.name; have := put_len (putS acc n1.name) n1.peer; omega, HBEL.out.trans ((HB1.out.mono hszr).trans (HB2.out.mono (by omega)))⟩
          case measure => simp [intOf]; omega
        · go_wp2_with (go_at_call 76; refine (s_put acc n1.name _ _ HST.out (by omega)).mono ?_; rintro e w1 ⟨v1, rfl, hs1, hb1⟩; have HS1 := hide hs1; obtain ⟨b2, o2, cap2, rfl, hs2⟩ := hs1; have hz1 := hb1.size; obtain ⟨d0, d1, d2, d3, d4⟩ := HND.out.carry hbw hb1; have HB1 := hide hb1; clear hs2 hb1)
          go_roundw
          case rel =>
            have hst : stepS acc n1 = putS acc n1.name := by simp [stepS, HO3.out, HPE.out]
            refine ⟨k + 1, by omega, by go_num, by rw [HN.out, hst]; exact HS1.out, by rw [HN.out, hst]; have := put_len acc n1.name; omega, HBEL.out.trans (HB1.out.mono hszr)⟩
          case measure => simp [intOf]; omega
    · go_wp2_with fail
      go_ret
      refine ⟨_, rfl, ?_, HBEL.out⟩
      have := HST.out
      rw [HACC.out, List.take_of_length_le (by omega)] at this
      have e : acc.length = ((ns.take k).foldl stepS []).length := by rw [HACC.out]
      rw [e, List.take_of_length_le (by omega)]
      exact this
end Go.Proofs.Ytlbcnmcfljaijaa
namespace Go.Proofs.Ytlbcnmcfljaijaa
open Go.RowKit

theorem tl_inj {a b : ByteArray} (h : a.toList = b.toList) : a = b := by
  rw [Go.ByteArray.toList_eq, Go.ByteArray.toList_eq] at h
  apply ByteArray.ext
  exact Array.ext' h
def rightB (part : Bool) (l : List Nd) : Bool := decide (l.length ≤ 40) && ((ahead (talkS part) 10 [] l).map List.length == some 0 && decide ((rolesS l).length ≤ 4))
end Go.Proofs.Ytlbcnmcfljaijaa
