/- The specification's end: at every row of Nodes and place. -/
import Derived.Test.YtehodjfgojcnlaaGreatQSound04
import Derived.Test.YtehodjfgojcnlaaGreatQSound03
namespace Go.Proofs.YtehodjfgojcnlaaGreat
open Go.RowKit

theorem wrap_small (x : Int) (h0 : -1000 ≤ x) (h1 : x ≤ 8589934592) : wrap64 x = x := by
  simp only [wrap64]
  omega
theorem grow_cell {w w' : World} {row : Option Nat} (hg : w.grownBy w' row) (a : Addr) (hlt : a.block < w.heap.size) (hne : some a.block ≠ row) : w'.cell? a = w.cell? a :=
  World.cell?_of_block (hg.block a.block hlt hne)
theorem step_append_with {P : Program} {ops : Array Oper} {o : Oper} {a : Act} {w : World} {K : Act → World → Prop} {Q : Exit → Act → World → Prop} {E : Prop}
    (hg : o.guard = none) (s2 : Operand) (v2 : Value) (_ : a.eval s2 = v2) (s x : Operand) (t : TypeId) (hop : o.op = Op.call { callee := Callee.builtin Builtin.append, args := #[s, x], argTypes := #[t, t] })
    (base : Nat) (e : TypeId) (i : TypeInfo) (z : Value) (size bytes : Nat) (h1 : P.underlying t = some (.slice e)) (h2 : P.info? e = some i) (h3 : i.zero = some z) (h4 : i.size = size) (h5 : i.bytes = bytes) (h6 : z.cells.size = size) (h7 : 0 < size)
    (v : Value) (n : Nat) (xs : List Value) (hs : a.eval s = v) (hown : w.ownsRow base e size v n xs)
    (ad : Addr) (m c : Nat) (news : List Value) (hx : a.eval x = .slice (some ad) m c) (hn : news.length = m * size) (hc : ∀ j u, news[j]? = some u → w.cell? (ad.add j) = some u) (h1c : ∀ u ∈ news, u.oneCell' = true)
    (b1 : n + m ≤ maxLen) (b2 : (n + m) * bytes ≤ 140737488355328) (hbase : base ≤ w.heap.size)
    (hK : ∀ v' w', w'.ownsRow base e size v' (n + m) (xs ++ news) → w.grownBy w' v.ownBlock → K (a.put o.dst v') w') :
    if Region.wanted o (yielded ops a.tmps) = true then Oper.wp P o a w K Q else E :=
  step_append_own hg s x t hop base e i z size bytes h1 h2 h3 h4 h5 h6 h7 v n xs hs hown ad m c news hx hn hc h1c b1 b2 hbase hK
theorem strs_cell (ls : List ByteArray) : ∀ u ∈ ls.map Value.string, u.oneCell' = true := by
  intro u hu
  obtain ⟨s, _, rfl⟩ := List.mem_map.1 hu
  rfl
theorem src_cells {w W' : World} {rb ro : Nat} {ls : List ByteArray} (hc : ∀ i (h : i < ls.length), w.cell? ⟨rb, ro + i, none⟩ = some (.string ls[i])) (hb : Below w.heap.size w W') (j : Nat) (u : Value) (h : (ls.map Value.string)[j]? = some u) : W'.cell? ((⟨rb, ro, none⟩ : Addr).add j) = some u := by
  rw [List.getElem?_map] at h
  obtain ⟨s, hs, rfl⟩ := Option.map_eq_some_iff.1 h
  obtain ⟨hj, rfl⟩ := List.getElem?_eq_some_iff.1 hs
  have h1 := hc j hj
  have h2 : W'.cell? ⟨rb, ro + j, none⟩ = some (.string ls[j]) := (hb.cell (p := ⟨rb, _, none⟩) (World.block_lt_of_cell? w _ h1)).trans h1
  have e : (⟨rb, ro, none⟩ : Addr).add j = ⟨rb, ro + j, none⟩ := by unfold Addr.add; by_cases hj0 : j = 0 <;> simp [hj0]
  rw [e]; exact h2
theorem wrap_i (x : Int) (h0 : -1000 ≤ x) (h1 : x ≤ 8589934592) : IntKind.i64.wrap x = x := by
  rw [IntKind.wrap_i64]
  omega
theorem cell_new (W : World) (v : Value) (t : TypeId) (k : Nat) (h : k = W.heap.size) : (W.alloc (.cells #[v] t)).cell? ⟨k, 0, none⟩ = some v := by
  subst h; simp
theorem cell_old (W : World) (o : Obj) (k : Nat) (h : k < W.heap.size) : (W.alloc o).cell? ⟨k, 0, none⟩ = W.cell? ⟨k, 0, none⟩ := World.cell?_alloc_past o k 0 h
theorem heap_new (W : World) (o : Obj) (k : Nat) (h : k = W.heap.size) : (W.alloc o).heap[k]? = some o := by
  subst h; show (W.heap.push o)[W.heap.size]? = _; simp
theorem heap_old (W : World) (o : Obj) (k : Nat) (h : k < W.heap.size) : (W.alloc o).heap[k]? = W.heap[k]? := Below.heap_alloc W o k h
theorem own_empty (W : World) (base e g : Nat) (hg : base ≤ g) (h : W.heap[g]? = some (.cells #[] e (0, 0))) : W.ownsRow base e 1 (.slice (some ⟨g, 0, none⟩) 0 0) 0 [] :=
  ⟨rfl, .inr ⟨g, 0, #[], rfl, hg, h, Nat.le_refl _, by unfold maxLen; omega, rfl, rfl⟩⟩
theorem one_new {W : World} {ad : Addr} {v : Value} (h : W.cell? ad = some v) : ∀ j u, ([v] : List Value)[j]? = some u → W.cell? (ad.add j) = some u := by
  intro j u hj
  match j, hj with
  | 0, hj => simp at hj; subst hj; simpa [Addr.add] using h
theorem one_cell (s : ByteArray) : ∀ u ∈ [Value.string s], u.oneCell' = true := by
  intro u hu; simp at hu; subst hu; rfl
theorem boxed0 (w : World) (n : Nd) (t : TypeId) : NodeAt (w.alloc (.cells #[.int .i64 n.op, .string n.name, .string n.peer, .int .i64 n.many, .int .i64 n.sort] t)) w.heap.size 0 n := by
  simp [NodeAt]
theorem recs_talk {n : Nd} {st : List Nd} (h : n.op ≠ 2) : recsOf (n :: st) = recsOf st := by simp [recsOf, h]
end Go.Proofs.YtehodjfgojcnlaaGreat
/- l02Put: a text put among others, in its place. -/
namespace Go.Proofs.YtehodjfgojcnlaaGreat
open Go.RowKit

/-- a row of texts with an address -/
def STexts (w : World) (v : Value) (ls : List ByteArray) : Prop :=
  ∃ b o cap, v = .slice (some ⟨b, o, none⟩) ls.length cap ∧ ls.length ≤ cap ∧ cap ≤ maxLen ∧ ∀ i (h : i < ls.length), w.cell? ⟨b, o + i, none⟩ = some (.string ls[i])
def lessB (s t : ByteArray) : Bool := Op.bytesLess s.toList t.toList
def placeK : List ByteArray → ByteArray → Nat
  | [], _ => 0
  | s :: ls, t => if lessB s t then placeK ls t + 1 else 0
def putS (ls : List ByteArray) (t : ByteArray) : List ByteArray :=
  if hasB ((ls.drop (placeK ls t)).take 1) t then ls else ls.take (placeK ls t) ++ [t] ++ ls.drop (placeK ls t)

theorem place_eq : ∀ (ls : List ByteArray) (t : ByteArray) (k : Nat), k ≤ ls.length → (∀ j (h : j < ls.length), j < k → lessB ls[j] t = true) → (∀ h : k < ls.length, lessB ls[k] t = false) → placeK ls t = k
  | [], t, k, hk, _, _ => by simp at hk; subst hk; rfl
  | s :: ls, t, 0, _, _, h2 => by
    have := h2 (by simp)
    simp at this
    simp [placeK, this]
  | s :: ls, t, k + 1, hk, h1, h2 => by
    have h0 := h1 0 (by simp) (by omega)
    simp at h0
    have ih := place_eq ls t k (by simpa using hk) (fun j h hj => by have := h1 (j + 1) (by simpa using h) (by omega); simpa using this) (fun h => by have := h2 (by simpa using h); simpa using this)
    rw [placeK, if_pos h0, ih]
theorem put_same {ls : List ByteArray} {t : ByteArray} {k : Nat} (hp : placeK ls t = k) (hk : k < ls.length) (he : (ls[k].toList == t.toList) = true) : putS ls t = ls := by
  have e : (ls.drop k).take 1 = [ls[k]] := by rw [List.drop_eq_getElem_cons hk]; rfl
  rw [putS, hp, e, if_pos]
  simp only [hasB, List.any_cons, List.any_nil, Bool.or_false]
  exact he
theorem put_new {ls : List ByteArray} {t : ByteArray} {k : Nat} (hp : placeK ls t = k) (he : ∀ hk : k < ls.length, (ls[k].toList == t.toList) = false) : putS ls t = ls.take k ++ [t] ++ ls.drop k := by
  rw [putS, hp, if_neg]
  by_cases hk : k < ls.length
  · have e : (ls.drop k).take 1 = [ls[k]] := by rw [List.drop_eq_getElem_cons hk]; rfl
    rw [e]
    simp only [hasB, List.any_cons, List.any_nil, Bool.or_false, he hk]
    decide
  · rw [List.drop_of_length_le (by omega)]
    simp [hasB]

theorem texts_of_own {w : World} {base e : Nat} {v : Value} {ls : List ByteArray} (h : w.ownsRow base e 1 v ls.length (ls.map Value.string)) (hne : ls ≠ []) : STexts w v ls := by
  obtain ⟨_, hv⟩ := h
  rcases hv with ⟨rfl, h0⟩ | ⟨g, cap, cur, rfl, hg, hh, hn, hcap, hsz, htake⟩
  · exact absurd (List.length_eq_zero_iff.1 h0) hne
  · refine ⟨g, 0, cap, rfl, hn, hcap, fun i hi => ?_⟩
    have h1 : cur.toList[i]? = some (.string ls[i]) := by
      have h2 : (cur.toList.take (ls.length * 1))[i]? = (ls.map Value.string)[i]? := by rw [htake]
      rw [List.getElem?_take, if_pos (by omega)] at h2
      rw [h2]
      simp [hi]
    have h2 : cur[i]? = some (.string ls[i]) := by rw [← h1]; simp
    simp only [World.cell?, hh]
    simpa using h2

set_option maxRecDepth 100000 in
set_option maxHeartbeats 1000000 in
theorem s_put (ls : List ByteArray) (t : ByteArray) (v : Value) (w : World) (hv : STexts w v ls) (hl : ls.length ≤ 100) :
    Calls Tryz.prog 29 #[v, .string t] w fun e w' => ∃ v', e = .returned v' ∧ STexts w' v' (putS ls t) ∧ Below w.heap.size w w' := by
  have HV := hide hv
  obtain ⟨b, o, cap, rfl, hc, hm, hcell⟩ := hv
  obtain ⟨i0, hi, hz0, hz1, hz2⟩ := info_parts Tryz.infoS
  have HI := hide (And.intro hi (And.intro hz0 (And.intro hz1 hz2)))
  have HC := hide hcell
  have HM := hide hm
  clear hcell hm hi hz0 hz1 hz2
  go_enter Tryz.func29, Tryz.ntmps29
  go_wp2_with fail
  go_loop [5] (fun i => ∃ k : Nat, k ≤ ls.length ∧ i = .int .i64 k ∧ ∀ j (h : j < ls.length), j < k → lessB ls[j] t = true) (fun i => ls.length - (intOf i).toNat)
  case atStart => exact ⟨0, Nat.zero_le _, rfl, fun j _ h => absurd h (by omega)⟩
  case round =>
    obtain ⟨k, hk, rfl, hall⟩ := hrel
    have HA := hide hall
    clear hall
    by_cases hlt : k < ls.length
    · have hck := HC.out k hlt
      obtain ⟨s, hs⟩ : ∃ s, s = ls[k] := ⟨_, rfl⟩
      rw [← hs] at hck
      have HSs := hide hs
      clear hs
      cases hless : Op.bytesLess s.toList t.toList
      · have HLS := hide (show lessB ls[k] t = false by rw [← HSs.out]; exact hless)
        have HPK := hide (place_eq ls t k hk HA.out (fun _ => HLS.out))
        cases heq : (s.toList == t.toList)
        · have HPN := hide (put_new HPK.out (fun _ => by rw [← HSs.out]; exact heq))
          have HSRC1 : Hid (∀ W', Below w.heap.size w W' → ∀ j u, ((ls.take k).map Value.string)[j]? = some u → W'.cell? ((⟨b, o, none⟩ : Addr).add j) = some u) := hide (fun W' hb j u h => src_cells (ls := ls.take k) (fun i hi => by rw [List.getElem_take]; exact HC.out i (by simp at hi; omega)) hb j u h)
          by_cases hcap : cap = k
          · exfalso; omega
          · have HSRC2 : Hid (∀ W', Below w.heap.size w W' → ∀ j u, ((ls.drop k).map Value.string)[j]? = some u → W'.cell? ((⟨b, o + k, none⟩ : Addr).add j) = some u) := hide (fun W' hb j u h => src_cells (ls := ls.drop k) (fun i hi => by rw [List.getElem_drop, Nat.add_assoc]; exact HC.out (k + i) (by simp at hi; omega)) hb j u h)
            go_wp2_with (first | (at_builtin; refine wpList_append_own _ rfl (.tmp 34) (.tmp 37) 34 rfl w.heap.size 9 i0 (.string ByteArray.empty) 1 16 Tryz.underlying34 HI.out.1 HI.out.2.1 HI.out.2.2.1 HI.out.2.2.2 rfl (by decide) (.slice (some ⟨w.heap.size, 0, none⟩) 0 0) 0 [] rfl (own_empty _ _ _ _ (Nat.le_refl _) (heap_new _ _ _ rfl)) ⟨b, o, none⟩ k cap ((ls.take k).map Value.string) rfl (by first | (simp; done) | (simp; omega)) (HSRC1.out _ (alloc1 _ _)) (strs_cell _) (by unfold maxLen; omega) (by omega) (by simp) ?_; intro v1 w1 hown1 hgrow1 _; simp only [Nat.zero_add, List.nil_append] at hown1; have HOW1 := hide hown1; have HBW1 : Hid (Below w.heap.size w w1) := hide ((alloc1 _ _).grown hgrow1 (by simp) (by intro k hk; simp [Value.ownBlock] at hk; omega)); have hz1 : w.heap.size ≤ w1.heap.size := HBW1.out.size; clear hown1 hgrow1) | (at_builtin; refine wpList_append_own _ rfl (.tmp 39) (.tmp 41) 34 rfl w.heap.size 9 i0 (.string ByteArray.empty) 1 16 Tryz.underlying34 HI.out.1 HI.out.2.1 HI.out.2.2.1 HI.out.2.2.2 rfl (by decide) v1 k ((ls.take k).map Value.string) rfl (HOW1.out.alloc _) ⟨w1.heap.size, 0, none⟩ 1 1 [.string t] rfl rfl (one_new (cell_new _ _ _ _ rfl)) (one_cell _) (by unfold maxLen; omega) (by omega) (by first | (simp; done) | (simp; omega)) ?_; intro v2 w2 hown2 hgrow2 _; have HOW2 := hide hown2; have HBW2 : Hid (Below w.heap.size w w2) := hide ((HBW1.out.alloc hz1 _).grown hgrow2 (by first | (simp; done) | (simp; omega)) (own_row HOW1.out)); have hz2 : w.heap.size ≤ w2.heap.size := HBW2.out.size; clear hown2 hgrow2) | (at_builtin; refine wpList_append_own _ rfl (.tmp 43) (.tmp 46) 34 rfl w.heap.size 9 i0 (.string ByteArray.empty) 1 16 Tryz.underlying34 HI.out.1 HI.out.2.1 HI.out.2.2.1 HI.out.2.2.2 rfl (by decide) v2 (k + 1) ((ls.take k).map Value.string ++ [.string t]) rfl HOW2.out ⟨b, o + k, none⟩ (ls.length - k) (cap - k) ((ls.drop k).map Value.string) rfl (by simp) (HSRC2.out _ HBW2.out) (strs_cell _) (by unfold maxLen; omega) (by omega) hz2 ?_; intro v3 w3 hown3 hgrow3 _; have HOW3 := hide hown3; have HBW3 : Hid (Below w.heap.size w w3) := hide (HBW2.out.grown hgrow3 hz2 (own_row HOW2.out)); clear hown3 hgrow3))
            go_ret
            refine ⟨_, rfl, ?_, HBW3.out⟩
            rw [HPN.out]
            refine texts_of_own (base := w.heap.size) (e := 9) ?_ (by simp)
            have := HOW3.out
            have hln : k + 1 + (ls.length - k) = (ls.take k ++ [t] ++ ls.drop k).length := by simp; omega
            rw [hln] at this
            simpa using this
        · have HPS := hide (put_same HPK.out hlt (by rw [← HSs.out]; exact heq))
          go_wp2_with fail
          go_ret
          exact ⟨_, rfl, by rw [HPS.out]; exact HV.out, Below.refl _ _⟩
      · have HLS := hide (show lessB ls[k] t = true by rw [← HSs.out]; exact hless)
        go_wp2_with fail
        go_round
        case rel => exact ⟨k + 1, by omega, by go_num, fun j h hj => by
          rcases Nat.lt_or_ge j k with h1 | h1
          · exact HA.out j h h1
          · have : j = k := by omega
            subst this; exact HLS.out⟩
        case measure => simp [intOf]; omega
    · have HPK := hide (place_eq ls t k hk HA.out (fun h => absurd h hlt))
      have HPN := hide (put_new HPK.out (fun h => absurd h hlt))
      obtain rfl : k = ls.length := by omega
      have HSRC1 : Hid (∀ W', Below w.heap.size w W' → ∀ j u, ((ls.take ls.length).map Value.string)[j]? = some u → W'.cell? ((⟨b, o, none⟩ : Addr).add j) = some u) := hide (fun W' hb j u h => src_cells (ls := ls.take ls.length) (fun i hi => by rw [List.getElem_take]; exact HC.out i (by simp at hi; omega)) hb j u h)
      by_cases hcap : cap = ls.length
      · subst hcap
        go_wp2_with (first | (at_builtin; refine wpList_append_own _ rfl (.tmp 34) (.tmp 37) 34 rfl w.heap.size 9 i0 (.string ByteArray.empty) 1 16 Tryz.underlying34 HI.out.1 HI.out.2.1 HI.out.2.2.1 HI.out.2.2.2 rfl (by decide) (.slice (some ⟨w.heap.size, 0, none⟩) 0 0) 0 [] rfl (own_empty _ _ _ _ (Nat.le_refl _) (heap_new _ _ _ rfl)) ⟨b, o, none⟩ ls.length ls.length ((ls.take ls.length).map Value.string) rfl (by first | (simp; done) | (simp; omega)) (HSRC1.out _ (alloc1 _ _)) (strs_cell _) (by unfold maxLen; omega) (by omega) (by simp) ?_; intro v1 w1 hown1 hgrow1 _; simp only [Nat.zero_add, List.nil_append] at hown1; have HOW1 := hide hown1; have HBW1 : Hid (Below w.heap.size w w1) := hide ((alloc1 _ _).grown hgrow1 (by simp) (by intro k hk; simp [Value.ownBlock] at hk; omega)); have hz1 : w.heap.size ≤ w1.heap.size := HBW1.out.size; clear hown1 hgrow1) | (at_builtin; refine wpList_append_own _ rfl (.tmp 39) (.tmp 41) 34 rfl w.heap.size 9 i0 (.string ByteArray.empty) 1 16 Tryz.underlying34 HI.out.1 HI.out.2.1 HI.out.2.2.1 HI.out.2.2.2 rfl (by decide) v1 ls.length ((ls.take ls.length).map Value.string) rfl (HOW1.out.alloc _) ⟨w1.heap.size, 0, none⟩ 1 1 [.string t] rfl rfl (one_new (cell_new _ _ _ _ rfl)) (one_cell _) (by unfold maxLen; omega) (by omega) (by first | (simp; done) | (simp; omega)) ?_; intro v2 w2 hown2 hgrow2 _; have HOW2 := hide hown2; have HBW2 : Hid (Below w.heap.size w w2) := hide ((HBW1.out.alloc hz1 _).grown hgrow2 (by first | (simp; done) | (simp; omega)) (own_row HOW1.out)); have hz2 : w.heap.size ≤ w2.heap.size := HBW2.out.size; clear hown2 hgrow2) | (at_builtin; refine wpList_append_own _ rfl (.tmp 43) (.tmp 46) 34 rfl w.heap.size 9 i0 (.string ByteArray.empty) 1 16 Tryz.underlying34 HI.out.1 HI.out.2.1 HI.out.2.2.1 HI.out.2.2.2 rfl (by decide) v2 (ls.length + 1) ((ls.take ls.length).map Value.string ++ [.string t]) rfl HOW2.out ⟨b, o, none⟩ 0 0 [] rfl rfl (fun j u h => by simp at h) (fun u h => by simp at h) (by unfold maxLen; omega) (by omega) hz2 ?_; intro v3 w3 hown3 hgrow3 _; have HOW3 := hide hown3; have HBW3 : Hid (Below w.heap.size w w3) := hide (HBW2.out.grown hgrow3 hz2 (own_row HOW2.out)); clear hown3 hgrow3))
        go_ret
        refine ⟨_, rfl, ?_, HBW3.out⟩
        rw [HPN.out]
        refine texts_of_own (base := w.heap.size) (e := 9) ?_ (by simp)
        have := HOW3.out
        have hln : ls.length + 1 + 0 = (ls.take ls.length ++ [t] ++ ls.drop ls.length).length := by simp
        rw [hln] at this
        simpa using this
      · go_wp2_with (first | (at_builtin; refine wpList_append_own _ rfl (.tmp 34) (.tmp 37) 34 rfl w.heap.size 9 i0 (.string ByteArray.empty) 1 16 Tryz.underlying34 HI.out.1 HI.out.2.1 HI.out.2.2.1 HI.out.2.2.2 rfl (by decide) (.slice (some ⟨w.heap.size, 0, none⟩) 0 0) 0 [] rfl (own_empty _ _ _ _ (Nat.le_refl _) (heap_new _ _ _ rfl)) ⟨b, o, none⟩ ls.length cap ((ls.take ls.length).map Value.string) rfl (by first | (simp; done) | (simp; omega)) (HSRC1.out _ (alloc1 _ _)) (strs_cell _) (by unfold maxLen; omega) (by omega) (by simp) ?_; intro v1 w1 hown1 hgrow1 _; simp only [Nat.zero_add, List.nil_append] at hown1; have HOW1 := hide hown1; have HBW1 : Hid (Below w.heap.size w w1) := hide ((alloc1 _ _).grown hgrow1 (by simp) (by intro k hk; simp [Value.ownBlock] at hk; omega)); have hz1 : w.heap.size ≤ w1.heap.size := HBW1.out.size; clear hown1 hgrow1) | (at_builtin; refine wpList_append_own _ rfl (.tmp 39) (.tmp 41) 34 rfl w.heap.size 9 i0 (.string ByteArray.empty) 1 16 Tryz.underlying34 HI.out.1 HI.out.2.1 HI.out.2.2.1 HI.out.2.2.2 rfl (by decide) v1 ls.length ((ls.take ls.length).map Value.string) rfl (HOW1.out.alloc _) ⟨w1.heap.size, 0, none⟩ 1 1 [.string t] rfl rfl (one_new (cell_new _ _ _ _ rfl)) (one_cell _) (by unfold maxLen; omega) (by omega) (by first | (simp; done) | (simp; omega)) ?_; intro v2 w2 hown2 hgrow2 _; have HOW2 := hide hown2; have HBW2 : Hid (Below w.heap.size w w2) := hide ((HBW1.out.alloc hz1 _).grown hgrow2 (by first | (simp; done) | (simp; omega)) (own_row HOW1.out)); have hz2 : w.heap.size ≤ w2.heap.size := HBW2.out.size; clear hown2 hgrow2) | (at_builtin; refine wpList_append_own _ rfl (.tmp 43) (.tmp 46) 34 rfl w.heap.size 9 i0 (.string ByteArray.empty) 1 16 Tryz.underlying34 HI.out.1 HI.out.2.1 HI.out.2.2.1 HI.out.2.2.2 rfl (by decide) v2 (ls.length + 1) ((ls.take ls.length).map Value.string ++ [.string t]) rfl HOW2.out ⟨b, o + ls.length, none⟩ 0 (cap - ls.length) [] rfl rfl (fun j u h => by simp at h) (fun u h => by simp at h) (by unfold maxLen; omega) (by omega) hz2 ?_; intro v3 w3 hown3 hgrow3 _; have HOW3 := hide hown3; have HBW3 : Hid (Below w.heap.size w w3) := hide (HBW2.out.grown hgrow3 hz2 (own_row HOW2.out)); clear hown3 hgrow3))
        go_ret
        refine ⟨_, rfl, ?_, HBW3.out⟩
        rw [HPN.out]
        refine texts_of_own (base := w.heap.size) (e := 9) ?_ (by simp)
        have := HOW3.out
        have hln : ls.length + 1 + 0 = (ls.take ls.length ++ [t] ++ ls.drop ls.length).length := by simp
        rw [hln] at this
        simpa using this
end Go.Proofs.YtehodjfgojcnlaaGreat
