/- PlanRead of the program. -/
import Derived.Test.YtmjlblbhakppfaaGreatDoorQB32
import Derived.Test.YtmjlblbhakppfaaGreatDoorQB34
import Derived.Test.YtmjlblbhakppfaaGreatDoorQB19
namespace Go.Proofs.YtmjlblbhakppfaaGreatDoor
open Go.RowKit
set_option linter.unusedSimpArgs false
set_option linter.unusedVariables false

/-- the right row whose text it is -/
def IsText (part : Bool) (s : ByteArray) (ns : List Nd) : Prop := rightB part ns = true ∧ (textF 10 ns).1 = s
theorem cat_small : ∀ (ms : List ByteArray), (∀ x ∈ ms, ∀ c ∈ x.toList, c.toNat < 128) → ∀ c ∈ (catT ms).toList, c.toNat < 128 := fun ms h c hc => by
  rw [cat_flat] at hc
  unfold flatT at hc
  obtain ⟨x, hx, hc⟩ := List.mem_flatMap.1 hc
  exact h x hx c hc
theorem mk_read {part : Bool} {s : ByteArray} {ms : List ByteArray} {ns : List Nd} (h : MkT s ms) (hr : rightB part ns = true) : readR ⟨0, ms, [], []⟩ = some ns ↔ (textF 10 ns).1 = s := by
  obtain ⟨t1, t2, t3⟩ := text_marks hr
  constructor
  · intro h1
    have e := read_only hr h1
    rcases h with ⟨_, h⟩ | ⟨_, x, hx, c, hc, h⟩
    · rw [t2, ← e, h]
      exact mk_back s
    · rw [e] at hx
      have := t3 x hx c hc
      omega
  · intro h1
    rcases h with ⟨_, h⟩ | ⟨⟨c, hc, h⟩, _⟩
    · rw [h, ← h1, t1]
      exact (read_right hr).1
    · rw [← h1, t2] at hc
      have := cat_small _ t3 c hc
      omega
/-- what PlanRead and PartRead answer -/
structure RdAns (part : Bool) (s : ByteArray) (ns : List Nd) (code : Int) : Prop where
  big : 8000 < s.size → ns = [] ∧ code = 2
  good : s.size ≤ 8000 → ∀ ns', IsText part s ns' → ns = ns' ∧ code = 0
  bad : s.size ≤ 8000 → (∀ ns', ¬ IsText part s ns') → ns = [] ∧ code = 3
theorem row_of_cells {w : World} {g : Nat} : ∀ (l : List Nd) (o : Nat), (∀ j u, (l.flatMap Nd.cells)[j]? = some u → w.cell? ⟨g, o + j, none⟩ = some u) → RowAt w g o l
  | [], _, _ => trivial
  | n :: l, o, h => by
    refine ⟨⟨h 0 _ rfl, h 1 _ rfl, h 2 _ rfl, h 3 _ rfl, h 4 _ rfl⟩, row_of_cells l (o + 5) (fun j u hj => ?_)⟩
    have := h (5 + j) u (by rw [List.flatMap_cons, List.getElem?_append_right (by simp [Nd.cells])]; simpa [Nd.cells] using hj)
    rwa [← Nat.add_assoc] at this
theorem own_slat {w : World} {base : Nat} {v : Value} {l : List Nd} (h : NdOwn w base v l) (hl : l.length ≤ 100000) : SlAt w w.heap.size v l := by
  rcases h.2 with ⟨rfl, h0⟩ | ⟨g, cap, cur, rfl, hB, hg, h1, h2, h3, h4⟩
  · have : l = [] := List.length_eq_zero_iff.1 h0
    subst this
    exact ⟨none, 0, rfl, Nat.le_refl _, ⟨by omega, by simp⟩, fun h => absurd rfl h⟩
  · refine ⟨_, cap, rfl, h1, ⟨by unfold maxLen at h2; omega, by omega⟩, fun _ => ⟨g, 0, rfl, (Array.getElem?_eq_some_iff.1 hg).1, row_of_cells l 0 (fun j u hj => ?_)⟩⟩
    rw [Nat.zero_add]
    exact owns_cell h rfl j u hj
/-- what PlanRead of the program answers -/
def PrAns (part : Bool) (s : ByteArray) (w w' : World) (e : Ending) : Prop := ∃ v ns C, e = .returned (.agg #[v, .int .i64 C]) ∧ NdOwn w' w.heap.size v ns ∧ Below w.heap.size w w' ∧ RdAns part s ns C
theorem step_end {s : Rs} {L : List Nd} (h : stepR s = .inl (some L)) : L = s.l := by
  unfold stepR at h
  split at h
  · exfalso
    unfold startS talkTo at h
    repeat' split at h
    all_goals first | cases h | (split at h <;> cases h)
  · split at h
    · exfalso
      unfold labelS at h
      repeat' split at h
      all_goals cases h
    · exact (behind_inl h).2.2
theorem run_len : ∀ (f : Nat) (s : Rs) (L : List Nd), RwP s → runR f s = some L → L.length ≤ 30000
  | 0, s, L, _, h => by cases h
  | f + 1, s, L, hp, h => by
    rw [runR] at h
    split at h
    · rename_i r hr
      subst h
      rw [step_end hr]
      have := hp.l1
      omega
    · rename_i s' hr
      exact run_len f s' L (rwp_step hp hr) h
theorem read_len {ms : List ByteArray} {L : List Nd} (hlen : ms.length ≤ 8000) (hz : mzB ms) (h : readR ⟨0, ms, [], []⟩ = some L) : L.length ≤ 30000 :=
  run_len _ _ _ ⟨⟨fun i hi => (by cases hi), List.Pairwise.nil, fun h => (by cases h)⟩, by simp [measR]; omega, by simp [measR]; omega, hz, fun n hn => (by cases hn), fun n hn => (by cases hn)⟩ h
theorem sw_at {w : World} {base n c : Nat} {p : Option Addr} {ms : List ByteArray} (h : SwOwn w base (.slice p n c) ms) (h0 : 0 < w.heap.size) : ∃ tb, tb < w.heap.size ∧ n = ms.length ∧ ms.length ≤ c ∧ c ≤ 9223372036854775807 ∧ (ms ≠ [] → ∃ o, p = some ⟨tb, o, none⟩ ∧ ∀ i (h : i < ms.length), w.cell? ⟨tb, o + i, none⟩ = some (.string ms[i])) := by
  have h' : w.ownsRow base 9 1 (.slice p n c) ms.length (ms.map Value.string) := h
  rcases h.2 with ⟨e, hl⟩ | ⟨g, cap, cur, e, hB, hg, h1, h2, h3, h4⟩
  · injection e with e1 e2 e3
    subst e1 e2 e3
    exact ⟨0, h0, hl.symm, by omega, by omega, fun hne => absurd (List.length_eq_zero_iff.1 hl) hne⟩
  · injection e with e1 e2 e3
    subst e1 e2 e3
    refine ⟨g, (Array.getElem?_eq_some_iff.1 hg).1, rfl, h1, by unfold maxLen at h2; omega, fun _ => ⟨0, rfl, fun i hi => ?_⟩⟩
    rw [Nat.zero_add]
    exact owns_cell h' rfl i _ (by rw [List.getElem?_map, List.getElem?_eq_getElem hi]; rfl)
def outR : Obj := .cells #[.slice none 0 0, .int .i64 0] 28
theorem i_read (part : Bool) (s : ByteArray) (w W w1 : World) (hs : s.size ≤ 8000) (hsw : SortW W) (p1 : Option Addr) (c1 : Nat) (ms : List ByteArray) (h : SwOwn w1 W.heap.size (.slice p1 ms.length c1) ms ∧ ms.length ≤ 8000 ∧ mzB ms ∧ MkT s ms ∧ Below W.heap.size W w1) :
    Calls Tryz.prog 42 #[.agg #[.slice p1 ms.length c1]] w1 fun e w' => ∃ a n c b, e = .returned (.tuple #[.slice a n c, .bool b]) ∧ Below W.heap.size W w' ∧ ((b = false ∧ ∀ ns, ¬ IsText part s ns) ∨ (b = true ∧ ∃ L, NdOwn w' W.heap.size (.slice a n c) L ∧ L.length ≤ 30000 ∧ (∀ x ∈ L, x.fit) ∧ ∀ ns, rightB part ns = true → (ns = L ↔ IsText part s ns))) := by
  obtain ⟨h1, h2, h3, h4, h5⟩ := h
  have hsw1 := hsw.carry h5
  obtain ⟨tb, t1, -, t2, t3, t4⟩ := sw_at h1 hsw1.lt
  refine (i_readRow ms p1 c1 tb w1 h2 h3 t2 t3 t1 t4 hsw1).mono ?_
  rintro e w' ⟨v, b, rfl, hE⟩
  obtain ⟨a, n, c, rfl⟩ := hE.sl
  refine ⟨a, n, c, b, rfl, h5.trans (hE.low.mono h5.size), ?_⟩
  cases hR : readR ⟨0, ms, [], []⟩ with
  | none =>
    left
    refine ⟨by have := hE.is; rw [hR] at this; exact this, fun ns hn => ?_⟩
    have := (mk_read h4 hn.1).2 hn.2
    rw [hR] at this
    cases this
  | some L =>
    right
    obtain ⟨r1, r2⟩ := hE.row L hR
    refine ⟨by have := hE.is; rw [hR] at this; exact this, L, own_base r1 (by have := h5.size; omega), read_len h2 h3 hR, fun x hx => ?_, fun ns hr => ?_⟩
    · have := r2 x hx
      exact ⟨by omega, by omega⟩
    · have := mk_read (ns := ns) h4 hr
      rw [hR] at this
      constructor
      · intro e; subst e; exact ⟨hr, this.1 rfl⟩
      · intro e; exact (Option.some.inj (this.2 e.2)).symm
theorem setR {B : Nat} {a w : World} (h : Below B a w) (y0 y1 : Value) : Below B a ((w.setCell ⟨B, 0, none⟩ y0).setCell ⟨B, 1, none⟩ y1) := (h.setCell (p := ⟨B, 0, none⟩) (Nat.le_refl _) _).setCell (p := ⟨B, 1, none⟩) (Nat.le_refl _) _
theorem apR (w : World) (B : Nat) (y0 y1 : Value) : Apart w ((w.setCell ⟨B, 0, none⟩ y0).setCell ⟨B, 1, none⟩ y1) [B] := (setCell_apart w B 0 y0).setCell 1 y1
set_option maxRecDepth 100000 in
theorem i_planRead (s : ByteArray) (w : World) (hm : s.size ≤ maxLen) (hsw : SortW w) : Calls Tryz.prog 8 #[.string s] w fun e w' => PrAns false s w w' e := by
  have HSW := hide hsw
  unfold maxLen at hm
  clear hsw
  by_cases hs : 8000 < s.size
  · go_enter Tryz.func8, Tryz.ntmps8
    go_wp2_with fail
    refine bodyPost_ret (v := .agg #[.slice none 0 0, .int .i64 2]) (by simp [results, Tryz.results8, go_sem]) rfl ?_
    exact ⟨_, [], 2, rfl, World.ownsRow_nil _ _ _ _, malloc1 _ _, ⟨fun _ => ⟨rfl, rfl⟩, fun h => by omega, fun h => by omega⟩⟩
  · have HMK : Hid (∀ W, Calls Tryz.prog 43 #[.string s] W fun e w' => ∃ v ms, e = .returned v ∧ SwOwn w' W.heap.size v ms ∧ ms.length ≤ 8000 ∧ mzB ms ∧ MkT s ms ∧ Below W.heap.size W w') := hide (fun W => marks_of s W (by omega))
    have HO : Hid (BoxL (w.alloc outR) w.heap.size [.slice none 0 0, .int .i64 0]) := hide (BoxL.new w [.slice none 0 0, .int .i64 0] 28)
    have HSW2 : Hid (SortW (w.alloc outR)) := hide (HSW.out.carry (malloc1 _ _))
    go_enter Tryz.func8, Tryz.ntmps8
    go_wp2_with (first
      | (go_at_call 43; refine (HMK.out _).mono ?_; rintro e w1 ⟨v1, ms, rfl, h1⟩; obtain ⟨p1, c1, rfl⟩ := owns_shape h1.1; have H1 := hide h1; clear h1)
      | (go_at_call 42; refine (i_read false s w (w.alloc outR) _ (by omega) HSW2.out _ _ _ H1.out).mono ?_; rintro e w2 ⟨a2, n2, c2, b2, rfl, hb2, h2⟩; have HB2 := hide hb2; have HO2 := hide (HO.out.keep (below_apart hb2) (by simp)); have b0 := HO2.out.cell 0 _ rfl; have b1 := HO2.out.cell 1 _ rfl; have bz := HO2.out.fz; clear hb2; rcases h2 with ⟨rfl, hno⟩ | ⟨rfl, L, h2⟩)
      | (go_at_call 12; go_must (have HL := hide h2; clear h2 b0 b1 bz; have HPR := plan_right L (.slice a2 n2 c2) w2 HL.out.2.2.1 (own_slat HL.out.1 (by have := HL.out.2.1; omega)); obtain ⟨q, hq⟩ : ∃ q, rightB false L = q := ⟨_, rfl⟩; rw [hq] at HPR; refine HPR.mono ?_; clear HPR; have HQ := hide hq; clear hq; rintro e w3 ⟨rfl, hb3⟩; have HB3 := hide hb3; have HO3 := hide (HO2.out.keep (below_apart hb3) (by simp)); have b0 := HO3.out.cell 0 _ rfl; have b1 := HO3.out.cell 1 _ rfl; have bz := HO3.out.fz; clear hb3; cases q)))
    · refine bodyPost_ret (v := .agg #[.slice none 0 0, .int .i64 3]) (by simp [results, Tryz.results8, go_sem, b0, b1]) rfl ?_
      exact ⟨_, [], 3, rfl, World.ownsRow_nil _ _ _ _, setR ((malloc1 _ _).trans (HB2.out.mono (by simp))) _ _, ⟨fun h => by omega, fun _ ns hn => absurd hn (hno ns), fun _ _ => ⟨rfl, rfl⟩⟩⟩
    · refine bodyPost_ret (v := .agg #[.slice none 0 0, .int .i64 3]) (by simp [results, Tryz.results8, go_sem, b0, b1]) rfl ?_
      have hb := HB2.out.size
      refine ⟨_, [], 3, rfl, World.ownsRow_nil _ _ _ _, setR (((malloc1 _ _).trans (HB2.out.mono (by simp))).trans (HB3.out.mono (by simp at hb; omega))) _ _, ⟨fun h => by omega, fun _ ns hn => ?_, fun _ _ => ⟨rfl, rfl⟩⟩⟩
      exfalso
      have := (HL.out.2.2.2 ns hn.1).2 hn
      subst this
      have h1 := hn.1
      rw [HQ.out] at h1
      cases h1
    · refine bodyPost_ret (v := .agg #[.slice a2 n2 c2, .int .i64 0]) (by simp [results, Tryz.results8, go_sem, b0, b1]) rfl ?_
      have hb := HB2.out.size
      refine ⟨_, L, 0, rfl, own_base (owns_keep (owns_below HL.out.1 HB3.out) (apR _ _ _ _) (fun b hb hm => ?_)) (by simp), setR (((malloc1 _ _).trans (HB2.out.mono (by simp))).trans (HB3.out.mono (by simp at hb; omega))) _ _, ⟨fun h => by omega, fun _ ns hn => ⟨((HL.out.2.2.2 ns hn.1).2 hn).symm, rfl⟩, fun _ hn => absurd ((HL.out.2.2.2 L HQ.out).1 rfl) (hn L)⟩⟩
      have := (own_hi HL.out.1 b hb).1
      simp at this hm
      omega
def outRP : Obj := .cells #[.slice none 0 0, .int .i64 0] 41
set_option maxRecDepth 100000 in
theorem i_partRead (s : ByteArray) (w : World) (hm : s.size ≤ maxLen) (hsw : SortW w) : Calls Tryz.prog 25 #[.string s] w fun e w' => PrAns true s w w' e := by
  have HSW := hide hsw
  unfold maxLen at hm
  clear hsw
  by_cases hs : 8000 < s.size
  · go_enter Tryz.func25, Tryz.ntmps25
    go_wp2_with fail
    refine bodyPost_ret (v := .agg #[.slice none 0 0, .int .i64 2]) (by simp [results, Tryz.results25, go_sem]) rfl ?_
    exact ⟨_, [], 2, rfl, World.ownsRow_nil _ _ _ _, malloc1 _ _, ⟨fun _ => ⟨rfl, rfl⟩, fun h => by omega, fun h => by omega⟩⟩
  · have HMK : Hid (∀ W, Calls Tryz.prog 43 #[.string s] W fun e w' => ∃ v ms, e = .returned v ∧ SwOwn w' W.heap.size v ms ∧ ms.length ≤ 8000 ∧ mzB ms ∧ MkT s ms ∧ Below W.heap.size W w') := hide (fun W => marks_of s W (by omega))
    have HO : Hid (BoxL (w.alloc outRP) w.heap.size [.slice none 0 0, .int .i64 0]) := hide (BoxL.new w [.slice none 0 0, .int .i64 0] 41)
    have HSW2 : Hid (SortW (w.alloc outRP)) := hide (HSW.out.carry (malloc1 _ _))
    go_enter Tryz.func25, Tryz.ntmps25
    go_wp2_with (first
      | (go_at_call 43; refine (HMK.out _).mono ?_; rintro e w1 ⟨v1, ms, rfl, h1⟩; obtain ⟨p1, c1, rfl⟩ := owns_shape h1.1; have H1 := hide h1; clear h1)
      | (go_at_call 42; refine (i_read true s w (w.alloc outRP) _ (by omega) HSW2.out _ _ _ H1.out).mono ?_; rintro e w2 ⟨a2, n2, c2, b2, rfl, hb2, h2⟩; have HB2 := hide hb2; have HO2 := hide (HO.out.keep (below_apart hb2) (by simp)); have b0 := HO2.out.cell 0 _ rfl; have b1 := HO2.out.cell 1 _ rfl; have bz := HO2.out.fz; clear hb2; rcases h2 with ⟨rfl, hno⟩ | ⟨rfl, L, h2⟩)
      | (go_at_call 30; go_must (have HL := hide h2; clear h2 b0 b1 bz; have HPR := part_right L (.slice a2 n2 c2) w2 HL.out.2.2.1 (own_slat HL.out.1 (by have := HL.out.2.1; omega)); obtain ⟨q, hq⟩ : ∃ q, rightB true L = q := ⟨_, rfl⟩; rw [hq] at HPR; refine HPR.mono ?_; clear HPR; have HQ := hide hq; clear hq; rintro e w3 ⟨rfl, hb3⟩; have HB3 := hide hb3; have HO3 := hide (HO2.out.keep (below_apart hb3) (by simp)); have b0 := HO3.out.cell 0 _ rfl; have b1 := HO3.out.cell 1 _ rfl; have bz := HO3.out.fz; clear hb3; cases q)))
    · refine bodyPost_ret (v := .agg #[.slice none 0 0, .int .i64 3]) (by simp [results, Tryz.results25, go_sem, b0, b1]) rfl ?_
      exact ⟨_, [], 3, rfl, World.ownsRow_nil _ _ _ _, setR ((malloc1 _ _).trans (HB2.out.mono (by simp))) _ _, ⟨fun h => by omega, fun _ ns hn => absurd hn (hno ns), fun _ _ => ⟨rfl, rfl⟩⟩⟩
    · refine bodyPost_ret (v := .agg #[.slice none 0 0, .int .i64 3]) (by simp [results, Tryz.results25, go_sem, b0, b1]) rfl ?_
      have hb := HB2.out.size
      refine ⟨_, [], 3, rfl, World.ownsRow_nil _ _ _ _, setR (((malloc1 _ _).trans (HB2.out.mono (by simp))).trans (HB3.out.mono (by simp at hb; omega))) _ _, ⟨fun h => by omega, fun _ ns hn => ?_, fun _ _ => ⟨rfl, rfl⟩⟩⟩
      exfalso
      have := (HL.out.2.2.2 ns hn.1).2 hn
      subst this
      have h1 := hn.1
      rw [HQ.out] at h1
      cases h1
    · refine bodyPost_ret (v := .agg #[.slice a2 n2 c2, .int .i64 0]) (by simp [results, Tryz.results25, go_sem, b0, b1]) rfl ?_
      have hb := HB2.out.size
      refine ⟨_, L, 0, rfl, own_base (owns_keep (owns_below HL.out.1 HB3.out) (apR _ _ _ _) (fun b hb hm => ?_)) (by simp), setR (((malloc1 _ _).trans (HB2.out.mono (by simp))).trans (HB3.out.mono (by simp at hb; omega))) _ _, ⟨fun h => by omega, fun _ ns hn => ⟨((HL.out.2.2.2 ns hn.1).2 hn).symm, rfl⟩, fun _ hn => absurd ((HL.out.2.2.2 L HQ.out).1 rfl) (hn L)⟩⟩
      have := (own_hi HL.out.1 b hb).1
      simp at this hm
      omega
end Go.Proofs.YtmjlblbhakppfaaGreatDoor
