import Derived.Test.YtmjlblbhakppfaaGreatDoorQP27
import Derived.Test.YtmjlblbhakppfaaGreatDoorQP28
import Derived.Test.YtmjlblbhakppfaaGreatDoorQP13
import Derived.Test.YtmjlblbhakppfaaGreatDoorQP29
namespace Go.Proofs.YtmjlblbhakppfaaGreatDoor
open Go.RowKit
set_option linter.unusedSimpArgs false
set_option linter.unusedVariables false

def IsText (part : Bool) (s : ByteArray) (ns : List Nd) : Prop := rightB part ns = true ∧ (textF 10 ns).1 = s
theorem cat_small : ∀ (ms : List ByteArray), (∀ x ∈ ms, ∀ c ∈ x.toList, c.toNat < 128) → ∀ c ∈ (catT ms).toList, c.toNat < 128 := fun ms h c hc => by
  rw [cat_flat] at hc
  unfold flatT at hc
  obtain ⟨x, hx, hc⟩ := List.mem_flatMap.1 hc
  exact h x hx c hc
theorem mk_read {part : Bool} {s : ByteArray} {ms : List ByteArray} {ns : List Nd} (h : MkT s ms) (hr : rightB part ns = true) : readR ⟨0, ms, [], []⟩ = some ns ↔ (textF 10 ns).1 = s := by
  obtain ⟨t1, t2, t3⟩ := text_marks hr
  constructor
  · intro h1
    have e := read_only hr h1
    rcases h with ⟨_, h⟩ | ⟨_, x, hx, c, hc, h⟩
    · rw [t2, ← e, h]
      exact mk_back s
    · rw [e] at hx
      have := t3 x hx c hc
      omega
  · intro h1
    rcases h with ⟨_, h⟩ | ⟨⟨c, hc, h⟩, _⟩
    · rw [h, ← h1, t1]
      exact (read_right hr).1
    · rw [← h1, t2] at hc
      have := cat_small _ t3 c hc
      omega
structure RdAns (part : Bool) (s : ByteArray) (ns : List Nd) (code : Int) : Prop where
  big : 8000 < s.size → ns = [] ∧ code = 2
  good : s.size ≤ 8000 → ∀ ns', IsText part s ns' → ns = ns' ∧ code = 0
  bad : s.size ≤ 8000 → (∀ ns', ¬ IsText part s ns') → ns = [] ∧ code = 3
theorem row_of_cells {w : World} {g : Nat} : ∀ (l : List Nd) (o : Nat), (∀ j u, (l.flatMap Nd.cells)[j]? = some u → w.cell? ⟨g, o + j, none⟩ = some u) → RowAt w g o l
  | [], _, _ => trivial
  | n :: l, o, h => by
    refine ⟨⟨h 0 _ rfl, h 1 _ rfl, h 2 _ rfl, h 3 _ rfl, h 4 _ rfl⟩, row_of_cells l (o + 5) (fun j u hj => ?_)⟩
    have := h (5 + j) u (by rw [List.flatMap_cons, List.getElem?_append_right (by simp [Nd.cells])]; simpa [Nd.cells] using hj)
    rwa [← Nat.add_assoc] at this
theorem own_slat {w : World} {base : Nat} {v : Value} {l : List Nd} (h : NdOwn w base v l) (hl : l.length ≤ 100000) : SlAt w w.heap.size v l := by
  rcases h.2 with ⟨rfl, h0⟩ | ⟨g, cap, cur, rfl, hB, hg, h1, h2, h3, h4⟩
  · have : l = [] := List.length_eq_zero_iff.1 h0
    subst this
    exact ⟨none, 0, rfl, Nat.le_refl _, ⟨by omega, by simp⟩, fun h => absurd rfl h⟩
  · refine ⟨_, cap, rfl, h1, ⟨by unfold maxLen at h2; omega, by omega⟩, fun _ => ⟨g, 0, rfl, (Array.getElem?_eq_some_iff.1 hg).1, row_of_cells l 0 (fun j u hj => ?_)⟩⟩
    rw [Nat.zero_add]
    exact owns_cell h rfl j u hj
def PrAns (part : Bool) (s : ByteArray) (w w' : World) (e : Ending) : Prop := ∃ v ns C, e = .returned (.agg #[v, .int .i64 C]) ∧ NdOwn w' w.heap.size v ns ∧ Below w.heap.size w w' ∧ RdAns part s ns C
theorem step_end {s : Rs} {L : List Nd} (h : stepR s = .inl (some L)) : L = s.l := by
  unfold stepR at h
  split at h
  · exfalso
    unfold startS talkTo at h
    repeat' split at h
    all_goals first | cases h | (split at h <;> cases h)
  · split at h
    · exfalso
      unfold labelS at h
      repeat' split at h
      all_goals cases h
    · exact (behind_inl h).2.2
theorem run_len : ∀ (f : Nat) (s : Rs) (L : List Nd), RwP s → runR f s = some L → L.length ≤ 30000
  | 0, s, L, _, h => by cases h
  | f + 1, s, L, hp, h => by
    rw [runR] at h
    split at h
    · rename_i r hr
      subst h
      rw [step_end hr]
      have := hp.l1
      omega
    · rename_i s' hr
      exact run_len f s' L (rwp_step hp hr) h
theorem read_len {ms : List ByteArray} {L : List Nd} (hlen : ms.length ≤ 8000) (hz : mzB ms) (h : readR ⟨0, ms, [], []⟩ = some L) : L.length ≤ 30000 :=
  run_len _ _ _ ⟨⟨fun i hi => (by cases hi), List.Pairwise.nil, fun h => (by cases h)⟩, by simp [measR]; omega, by simp [measR]; omega, hz, fun n hn => (by cases hn), fun n hn => (by cases hn)⟩ h
theorem sw_at {w : World} {base n c : Nat} {p : Option Addr} {ms : List ByteArray} (h : SwOwn w base (.slice p n c) ms) (h0 : 0 < w.heap.size) : ∃ tb, tb < w.heap.size ∧ n = ms.length ∧ ms.length ≤ c ∧ c ≤ 9223372036854775807 ∧ (ms ≠ [] → ∃ o, p = some ⟨tb, o, none⟩ ∧ ∀ i (h : i < ms.length), w.cell? ⟨tb, o + i, none⟩ = some (.string ms[i])) := by
  have h' : w.ownsRow base 9 1 (.slice p n c) ms.length (ms.map Value.string) := h
  rcases h.2 with ⟨e, hl⟩ | ⟨g, cap, cur, e, hB, hg, h1, h2, h3, h4⟩
  · injection e with e1 e2 e3
    subst e1 e2 e3
    exact ⟨0, h0, hl.symm, by omega, by omega, fun hne => absurd (List.length_eq_zero_iff.1 hl) hne⟩
  · injection e with e1 e2 e3
    subst e1 e2 e3
    refine ⟨g, (Array.getElem?_eq_some_iff.1 hg).1, rfl, h1, by unfold maxLen at h2; omega, fun _ => ⟨0, rfl, fun i hi => ?_⟩⟩
    rw [Nat.zero_add]
    exact owns_cell h' rfl i _ (by rw [List.getElem?_map, List.getElem?_eq_getElem hi]; rfl)
def outR : Obj := .cells #[.slice none 0 0, .int .i64 0] 28
theorem i_read (part : Bool) (s : ByteArray) (w W w1 : World) (hs : s.size ≤ 8000) (hsw : SortW W) (p1 : Option Addr) (c1 : Nat) (ms : List ByteArray) (h : SwOwn w1 W.heap.size (.slice p1 ms.length c1) ms ∧ ms.length ≤ 8000 ∧ mzB ms ∧ MkT s ms ∧ Below W.heap.size W w1) :
    Calls Tryz.prog 42 #[.agg #[.slice p1 ms.length c1]] w1 fun e w' => ∃ a n c b, e = .returned (.tuple #[.slice a n c, .bool b]) ∧ Below W.heap.size W w' ∧ ((b = false ∧ ∀ ns, ¬ IsText part s ns) ∨ (b = true ∧ ∃ L, NdOwn w' W.heap.size (.slice a n c) L ∧ L.length ≤ 30000 ∧ (∀ x ∈ L, x.fit) ∧ ∀ ns, rightB part ns = true → (ns = L ↔ IsText part s ns))) := by
  obtain ⟨h1, h2, h3, h4, h5⟩ := h
  have hsw1 := hsw.carry h5
  obtain ⟨tb, t1, -, t2, t3, t4⟩ := sw_at h1 hsw1.lt
  refine (i_readRow ms p1 c1 tb w1 h2 h3 t2 t3 t1 t4 hsw1).mono ?_
  rintro e w' ⟨v, b, rfl, hE⟩
  obtain ⟨a, n, c, rfl⟩ := hE.sl
  refine ⟨a, n, c, b, rfl, h5.trans (hE.low.mono h5.size), ?_⟩
  cases hR : readR ⟨0, ms, [], []⟩ with
  | none =>
    left
    refine ⟨by have := hE.is; rw [hR] at this; exact this, fun ns hn => ?_⟩
    have := (mk_read h4 hn.1).2 hn.2
    rw [hR] at this
    cases this
  | some L =>
    right
    obtain ⟨r1, r2⟩ := hE.row L hR
    refine ⟨by have := hE.is; rw [hR] at this; exact this, L, own_base r1 (by have := h5.size; omega), read_len h2 h3 hR, fun x hx => ?_, fun ns hr => ?_⟩
    · have := r2 x hx
      exact ⟨by omega, by omega⟩
    · have := mk_read (ns := ns) h4 hr
      rw [hR] at this
      constructor
      · intro e; subst e; exact ⟨hr, this.1 rfl⟩
      · intro e; exact (Option.some.inj (this.2 e.2)).symm
theorem setR {B : Nat} {a w : World} (h : Below B a w) (y0 y1 : Value) : Below B a ((w.setCell ⟨B, 0, none⟩ y0).setCell ⟨B, 1, none⟩ y1) := (h.setCell (p := ⟨B, 0, none⟩) (Nat.le_refl _) _).setCell (p := ⟨B, 1, none⟩) (Nat.le_refl _) _
theorem apR (w : World) (B : Nat) (y0 y1 : Value) : Apart w ((w.setCell ⟨B, 0, none⟩ y0).setCell ⟨B, 1, none⟩ y1) [B] := (setCell_apart w B 0 y0).setCell 1 y1
def outRP : Obj := .cells #[.slice none 0 0, .int .i64 0] 41
set_option maxRecDepth 100000 in
theorem i_partRead (s : ByteArray) (w : World) (hm : s.size ≤ maxLen) (hsw : SortW w) : Calls Tryz.prog 25 #[.string s] w fun e w' => PrAns true s w w' e := by
  have HSW := hide hsw
  unfold maxLen at hm
  clear hsw
  by_cases hs : 8000 < s.size
  · go_enter Tryz.func25, Tryz.ntmps25
    go_wp2_with fail
    refine bodyPost_ret (v := .agg #[.slice none 0 0, .int .i64 2]) (by simp [results, Tryz.results25, go_sem]) rfl ?_
    exact ⟨_, [], 2, rfl, World.ownsRow_nil _ _ _ _, malloc1 _ _, ⟨fun _ => ⟨rfl, rfl⟩, fun h => by omega, fun h => by omega⟩⟩
  · have HMK : Hid (∀ W, Calls Tryz.prog 43 #[.string s] W fun e w' => ∃ v ms, e = .returned v ∧ SwOwn w' W.heap.size v ms ∧ ms.length ≤ 8000 ∧ mzB ms ∧ MkT s ms ∧ Below W.heap.size W w') := hide (fun W => marks_of s W (by omega))
    have HO : Hid (BoxL (w.alloc outRP) w.heap.size [.slice none 0 0, .int .i64 0]) := hide (BoxL.new w [.slice none 0 0, .int .i64 0] 41)
    have HSW2 : Hid (SortW (w.alloc outRP)) := hide (HSW.out.carry (malloc1 _ _))
    go_enter Tryz.func25, Tryz.ntmps25
    go_wp2_with (first
      | (go_at_call 43; refine (HMK.out _).mono ?_; rintro e w1 ⟨v1, ms, rfl, h1⟩; obtain ⟨p1, c1, rfl⟩ := owns_shape h1.1; have H1 := hide h1; clear h1)
      | (go_at_call 42; refine (i_read true s w (w.alloc outRP) _ (by omega) HSW2.out _ _ _ H1.out).mono ?_; rintro e w2 ⟨a2, n2, c2, b2, rfl, hb2, h2⟩; have HB2 := hide hb2; have HO2 := hide (HO.out.keep (below_apart hb2) (by simp)); have b0 := HO2.out.cell 0 _ rfl; have b1 := HO2.out.cell 1 _ rfl; have bz := HO2.out.fz; clear hb2; rcases h2 with ⟨rfl, hno⟩ | ⟨rfl, L, h2⟩)
      | (go_at_call 30; go_must (have HL := hide h2; clear h2 b0 b1 bz; have HPR := part_right L (.slice a2 n2 c2) w2 HL.out.2.2.1 (own_slat HL.out.1 (by have := HL.out.2.1; omega)); obtain ⟨q, hq⟩ : ∃ q, rightB true L = q := ⟨_, rfl⟩; rw [hq] at HPR; refine HPR.mono ?_; clear HPR; have HQ := hide hq; clear hq; rintro e w3 ⟨rfl, hb3⟩; have HB3 := hide hb3; have HO3 := hide (HO2.out.keep (below_apart hb3) (by simp)); have b0 := HO3.out.cell 0 _ rfl; have b1 := HO3.out.cell 1 _ rfl; have bz := HO3.out.fz; clear hb3; cases q)))
    · refine bodyPost_ret (v := .agg #[.slice none 0 0, .int .i64 3]) (by simp [results, Tryz.results25, go_sem, b0, b1]) rfl ?_
      exact ⟨_, [], 3, rfl, World.ownsRow_nil _ _ _ _, setR ((malloc1 _ _).trans (HB2.out.mono (by simp))) _ _, ⟨fun h => by omega, fun _ ns hn => absurd hn (hno ns), fun _ _ => ⟨rfl, rfl⟩⟩⟩
    · refine bodyPost_ret (v := .agg #[.slice none 0 0, .int .i64 3]) (by simp [results, Tryz.results25, go_sem, b0, b1]) rfl ?_
      have hb := HB2.out.size
      refine ⟨_, [], 3, rfl, World.ownsRow_nil _ _ _ _, setR (((malloc1 _ _).trans (HB2.out.mono (by simp))).trans (HB3.out.mono (by simp at hb; omega))) _ _, ⟨fun h => by omega, fun _ ns hn => ?_, fun _ _ => ⟨rfl, rfl⟩⟩⟩
      exfalso
      have := (HL.out.2.2.2 ns hn.1).2 hn
      subst this
      have h1 := hn.1
      rw [HQ.out] at h1
      cases h1
    · refine bodyPost_ret (v := .agg #[.slice a2 n2 c2, .int .i64 0]) (by simp [results, Tryz.results25, go_sem, b0, b1]) rfl ?_
      have hb := HB2.out.size
      refine ⟨_, L, 0, rfl, own_base (owns_keep (owns_below HL.out.1 HB3.out) (apR _ _ _ _) (fun b hb hm => ?_)) (by simp), setR (((malloc1 _ _).trans (HB2.out.mono (by simp))).trans (HB3.out.mono (by simp at hb; omega))) _ _, ⟨fun h => by omega, fun _ ns hn => ⟨((HL.out.2.2.2 ns hn.1).2 hn).symm, rfl⟩, fun _ hn => absurd ((HL.out.2.2.2 L HQ.out).1 rfl) (hn L)⟩⟩
      have := (own_hi HL.out.1 b hb).1
      simp at this hm
      omega
end Go.Proofs.YtmjlblbhakppfaaGreatDoor
namespace Go.Proofs.YtmjlblbhakppfaaGreatDoor
open Go.RowKit
attribute [local go_sem ↓] Go.wp_at_zero Go.wp_at_succ

def RdW (w : World) (S : Nat → Prop) (v : Value) (l : List Nd) : Prop := ∃ ao cap, v = .slice ao l.length cap ∧ l.length ≤ cap ∧ cap ≤ maxLen ∧ l.length ≤ 2000 ∧ (l ≠ [] → ∃ g o, ao = some ⟨g, o, none⟩ ∧ S g ∧ RowAt w g o l)
theorem RowAt.block {w w' : World} {g : Nat} (hb : w'.heap[g]? = w.heap[g]?) : ∀ {l : List Nd} {o : Nat}, RowAt w g o l → RowAt w' g o l
  | [], _, _ => trivial
  | _ :: _, _, ⟨⟨h0, h1, h2, h3, h4⟩, hr⟩ => ⟨⟨(World.cell?_of_block (a := ⟨g, _, none⟩) hb).trans h0, (World.cell?_of_block (a := ⟨g, _, none⟩) hb).trans h1, (World.cell?_of_block (a := ⟨g, _, none⟩) hb).trans h2, (World.cell?_of_block (a := ⟨g, _, none⟩) hb).trans h3, (World.cell?_of_block (a := ⟨g, _, none⟩) hb).trans h4⟩, RowAt.block hb hr⟩
theorem RdW.carry {w w' : World} {S S' : Nat → Prop} {v : Value} {l : List Nd} (h : RdW w S v l) (hb : ∀ g, S g → w'.heap[g]? = w.heap[g]?) (hS : ∀ g, S g → S' g) : RdW w' S' v l := by
  obtain ⟨ao, cap, e, h1, h2, h3, h4⟩ := h
  refine ⟨ao, cap, e, h1, h2, h3, fun hne => ?_⟩
  obtain ⟨g, o, e1, e2, e3⟩ := h4 hne
  exact ⟨g, o, e1, hS g e2, e3.block (hb g e2)⟩
theorem RdW.up {w : World} {S S' : Nat → Prop} {v : Value} {l : List Nd} (h : RdW w S v l) (hS : ∀ g, S g → S' g) : RdW w S' v l := h.carry (fun _ _ => rfl) hS
theorem RdW.on {w w' : World} {S : Nat → Prop} {v : Value} {l : List Nd} (h : RdW w S v l) (hS : ∀ g, S g → g < w.heap.size) (hb : Below w.heap.size w w') : RdW w' S v l := h.carry (fun g hg => hb.block g (hS g hg)) (fun _ hg => hg)
theorem drop_next {all post : List Nd} {pos : Nat} {x : Nd} {r : List Nd} (h : all.drop pos = x :: r ++ post) : ∃ hp : pos < all.length, all[pos] = x ∧ all.drop (pos + 1) = r ++ post := by
  have hp : pos < all.length := by
    rcases Nat.lt_or_ge pos all.length with h' | h'
    · exact h'
    · rw [List.drop_of_length_le h'] at h; cases h
  rw [List.drop_eq_getElem_cons hp, List.cons_append] at h
  injection h with h1 h2
  exact ⟨hp, h1, h2⟩
theorem drop_len {all mid post : List Nd} {pos : Nat} (h : all.drop pos = mid ++ post) (hm : mid ≠ []) : pos + mid.length + post.length = all.length := by
  have := congrArg List.length h
  rw [List.length_drop, List.length_append] at this
  have : 0 < mid.length := List.length_pos_iff.2 hm
  omega
theorem drop_more {all mid post : List Nd} {pos : Nat} (h : all.drop pos = mid ++ post) : all.drop (pos + mid.length) = post := by
  rw [← List.drop_drop, h, List.drop_left]
def BehindCalls (n : Nat) : Prop := ∀ (p : Pn n) (all post : List Nd) (pos : Nat) (v : Value) (w : World) (S : Nat → Prop), (∀ g, S g → g < w.heap.size) → shapeN n p → all.length ≤ 1000 → all.drop pos = rowN n p ++ post → RdW w S v all → Calls Tryz.prog 91 #[v, .int .i64 pos] w fun e w' => e = .returned (.int .i64 ((pos + (rowN n p).length : Nat) : Int)) ∧ Below w.heap.size w w'
set_option maxRecDepth 100000 in
set_option maxHeartbeats 1000000 in
theorem behind_leaf (x : Option ByteArray) (all post : List Nd) (pos : Nat) (v : Value) (w : World) (S : Nat → Prop) (hS : ∀ g, S g → g < w.heap.size) (hl : all.length ≤ 1000) (h : all.drop pos = leafRow x ++ post) (hv : RdW w S v all) : Calls Tryz.prog 91 #[v, .int .i64 pos] w fun e w' => e = .returned (.int .i64 ((pos + (leafRow x).length : Nat) : Int)) ∧ Below w.heap.size w w' := by
  obtain ⟨nd, hr, hop, hmany⟩ : ∃ nd, leafRow x = [nd] ∧ (nd.op = 0 ∨ nd.op = 1) ∧ nd.many = 0 := by
    cases x with
    | none => exact ⟨_, rfl, .inl rfl, rfl⟩
    | some x => exact ⟨_, rfl, .inr rfl, rfl⟩
  rw [hr] at h ⊢
  obtain ⟨hp, hn, -⟩ := drop_next h
  obtain ⟨ao, cap, rfl, hc, hm, -, hrow⟩ := hv
  obtain ⟨g, o, rfl, hg, hrow⟩ := hrow (fun e => by rw [e] at hp; simp at hp)
  have hnode := hrow.get pos hp
  rw [hn] at hnode
  obtain ⟨op, name, peer, many, sort⟩ := nd
  dsimp only at hmany hop
  subst hmany
  obtain ⟨c0, c1, c2, c3, c4⟩ := hnode
  dsimp only at c0 c1 c2 c3 c4
  have HL : Hid (([⟨op, name, peer, 0, sort⟩] : List Nd).length = 1) := hide rfl
  have e2 : (op == 2) = false := by rcases hop with rfl | rfl <;> rfl
  have hgw := hS g hg
  obtain ⟨M, hM⟩ : ∃ M, all.length = M := ⟨_, rfl⟩
  rw [hM] at hp hl hc ⊢
  clear hrow hn hr h hS hM hop
  go_enter Tryz.func91, Tryz.ntmps91
  go_wp2_with fail
  go_loopw [1, 6] (fun av kv wr => av = .int .i64 ((pos : Int) + 1) ∧ kv = .int .i64 0 ∧ wr = w.alloc (.cells #[.int .i64 op, .string name, .string peer, .int .i64 0, .int .i64 sort] 45)) (fun _ _ _ => 0)
  case atStart => exact ⟨by go_num, rfl, rfl⟩
  case round =>
    obtain ⟨rfl, rfl, rfl⟩ := hrel
    go_wp2_with fail
    go_ret
    refine ⟨?_, malloc1 w _⟩
    show Ending.returned (.int .i64 ((pos : Int) + 1)) = .returned (.int .i64 ((pos + 1 : Nat) : Int))
    rw [Int.natCast_add]
    rfl
set_option maxRecDepth 100000 in
set_option maxHeartbeats 1000000 in
theorem behind_loop (n : Nat) (ih : BehindCalls n) (x : ByteArray) (q : Pn n) (hq : shapeN n q) (all post : List Nd) (pos : Nat) (v : Value) (w : World) (S : Nat → Prop) (hS : ∀ g, S g → g < w.heap.size) (hl : all.length ≤ 1000) (h : all.drop pos = rowN (n + 1) (.loop x q) ++ post) (hv : RdW w S v all) : Calls Tryz.prog 91 #[v, .int .i64 pos] w fun e w' => e = .returned (.int .i64 ((pos + (rowN (n + 1) (.loop x q)).length : Nat) : Int)) ∧ Below w.heap.size w w' := by
  rw [row_loop] at h ⊢
  obtain ⟨hp, hn, h1⟩ := drop_next h
  have HIH : Hid (∀ W, Below w.heap.size w W → Calls Tryz.prog 91 #[v, .int .i64 ((pos + 1 : Nat) : Int)] W fun e w' => e = .returned (.int .i64 ((pos + 1 + (rowN n q).length : Nat) : Int)) ∧ Below W.heap.size W w') := hide (fun W hW => ih q all post (pos + 1) v W S (fun g hg => Nat.lt_of_lt_of_le (hS g hg) hW.size) hq hl h1 (hv.on hS hW))
  obtain ⟨ao, cap, rfl, hc, hm, -, hrow⟩ := hv
  obtain ⟨g, o, rfl, hg, hrow⟩ := hrow (fun e => by rw [e] at hp; simp at hp)
  have hnode := hrow.get pos hp
  rw [hn] at hnode
  obtain ⟨c0, c1, c2, c3, c4⟩ := hnode
  dsimp only at c0 c1 c2 c3 c4
  have hgw := hS g hg
  obtain ⟨M, hM⟩ : ∃ M, all.length = M := ⟨_, rfl⟩
  rw [hM] at hp hl hc HIH ⊢
  clear hrow hn h h1 hS hM ih
  go_enter Tryz.func91, Tryz.ntmps91
  go_wp2_with (go_at_call 91; refine (HIH.out _ (malloc1 _ _)).mono ?_; rintro e w1 ⟨rfl, hb1⟩; have HB1 : Hid (Below w.heap.size w w1) := hide ((malloc1 w _).trans (hb1.mono (by simp))); clear hb1)
  go_ret
  refine ⟨?_, HB1.out⟩
  show Ending.returned (.int .i64 ((pos + 1 + (rowN n q).length : Nat) : Int)) = .returned (.int .i64 ((pos + ((rowN n q).length + 1) : Nat) : Int))
  rw [show pos + 1 + (rowN n q).length = pos + ((rowN n q).length + 1) by omega]
set_option maxRecDepth 100000 in
set_option maxHeartbeats 1000000 in
theorem behind_talk (n : Nat) (ih : BehindCalls n) (t : Tk) (l : List (Br (Pn n))) (ht : t.op ≠ 2) (hsh : ∀ b ∈ l, shapeN n b.p) (all post : List Nd) (pos : Nat) (v : Value) (w : World) (S : Nat → Prop) (hS : ∀ g, S g → g < w.heap.size) (hl : all.length ≤ 1000) (h : all.drop pos = rowN (n + 1) (.talk t l) ++ post) (hv : RdW w S v all) : Calls Tryz.prog 91 #[v, .int .i64 pos] w fun e w' => e = .returned (.int .i64 ((pos + (rowN (n + 1) (.talk t l)).length : Nat) : Int)) ∧ Below w.heap.size w w' := by
  rw [row_talk] at h ⊢
  obtain ⟨hp, hn, h1⟩ := drop_next h
  have HIH : Hid (∀ (k p : Nat) (b : Br (Pn n)), l[k]? = some b → all.drop p = brsBy (rowN n) (l.drop k) ++ post → (all.drop (p + 1 + (rowN n b.p).length) = brsBy (rowN n) (l.drop (k + 1)) ++ post ∧ p + 1 < all.length) ∧ ∀ W, Below w.heap.size w W → Calls Tryz.prog 91 #[v, .int .i64 ((p : Int) + 1)] W fun e w' => e = .returned (.int .i64 ((p + 1 + (rowN n b.p).length : Nat) : Int)) ∧ Below W.heap.size W w') := hide (fun k p b hb hd => by
    have hlt := (List.getElem?_eq_some_iff.1 hb).1
    have hbe : l[k] = b := (List.getElem?_eq_some_iff.1 hb).2
    rw [List.drop_eq_getElem_cons hlt, hbe, brs_cons, List.cons_append, List.append_assoc] at hd
    obtain ⟨hp1, hn1, h2⟩ := drop_next (r := rowN n b.p ++ brsBy (rowN n) (l.drop (k + 1))) (post := post) (by rw [hd, List.cons_append, List.append_assoc])
    rw [List.append_assoc] at h2
    refine ⟨⟨drop_more h2, ?_⟩, fun W hW => ?_⟩
    · rcases Nat.lt_or_ge (p + 1) all.length with h' | h'
      · exact h'
      · rw [List.drop_of_length_le h'] at h2
        have := congrArg List.length h2
        rw [List.length_append] at this
        have := row_pos n b.p
        simp at *
        omega
    · exact ih b.p all _ (p + 1) v W S (fun g hg => Nat.lt_of_lt_of_le (hS g hg) hW.size) (hsh b (List.mem_of_getElem? hb)) hl h2 (hv.on hS hW))
  obtain ⟨ao, cap, rfl, hc, hm, -, hrow⟩ := hv
  obtain ⟨g, o, rfl, hg, hrow⟩ := hrow (fun e => by rw [e] at hp; simp at hp)
  have hnode := hrow.get pos hp
  rw [hn] at hnode
  obtain ⟨op, a, b⟩ := t
  dsimp only at ht
  obtain ⟨c0, c1, c2, c3, c4⟩ := hnode
  dsimp only at c0 c1 c2 c3 c4
  have hgw := hS g hg
  have e2 : (op == 2) = false := by simpa using ht
  have hbl : l.length ≤ 1000 := by
    have h1' := congrArg List.length h1
    rw [List.length_drop, List.length_append] at h1'
    have := brs_count (rowN n) l
    omega
  have HH := hide h1
  have HTL : Hid (∀ p, all.drop p = brsBy (rowN n) (l.drop l.length) ++ post → p ≤ all.length → p = pos + ((brsBy (rowN n) l).length + 1)) := hide (fun p hd hple => by
    have h1' := congrArg List.length h1
    have h2' := congrArg List.length hd
    rw [List.drop_length] at h2'
    simp only [List.length_drop, List.length_append, brsBy, List.flatMap_nil, List.length_nil] at h1' h2'
    have : pos < all.length := hp
    unfold brsBy
    omega)
  obtain ⟨K, hK⟩ : ∃ K, l.length = K := ⟨_, rfl⟩
  obtain ⟨M, hM⟩ : ∃ M, all.length = M := ⟨_, rfl⟩
  rw [hM] at hp hl hc HIH HTL ⊢
  rw [hK] at c3 hbl HTL
  have HK := hide hK
  have HM := hide hM
  clear hrow hn h h1 hS hM hK ih hsh ht
  go_enter Tryz.func91, Tryz.ntmps91
  go_wp2_with fail
  go_loopw [1, 6] (fun av kv wr => ∃ k p : Nat, k ≤ K ∧ p ≤ M ∧ av = .int .i64 p ∧ kv = .int .i64 k ∧ all.drop p = brsBy (rowN n) (l.drop k) ++ post ∧ Below (w.heap.size + 1) (w.alloc (.cells #[.int .i64 op, .string a, .string b, .int .i64 (K : Int), .int .i64 0] 45)) wr) (fun _ kv _ => K - (intOf kv).toNat)
  case atStart => exact ⟨0, pos + 1, Nat.zero_le _, hp, by go_num, rfl, HH.out, Below.refl _ _⟩
  case round =>
    obtain ⟨k, p, hk, hpM, rfl, rfl, hd, hb⟩ := hrel
    have HD := hide hd
    have HB := hide hb
    have m3 : wr.cell? ⟨w.heap.size, 3, none⟩ = some (.int .i64 (K : Int)) := (hb.cell (p := ⟨w.heap.size, 3, none⟩) (by simp)).trans (by simp)
    have HBW : Hid (Below w.heap.size w wr) := hide ((malloc1 w _).trans (hb.mono (by omega)))
    have hzw := HBW.out.size
    clear hd hb
    by_cases hlt : k < K
    · obtain ⟨d, hdk⟩ : ∃ d, l[k]? = some d := ⟨l[k]'(by rw [HK.out]; exact hlt), List.getElem?_eq_getElem _⟩
      obtain ⟨⟨hnx, hp1⟩, hcall⟩ := HIH.out k p d hdk HD.out
      have HC := hide hcall
      have HNX := hide hnx
      have hle : p + 1 + (rowN n d.p).length ≤ M := by
        have := congrArg List.length HNX.out
        have h0 := congrArg List.length HD.out
        rw [List.length_drop] at this
        rw [List.length_drop] at h0
        have hbd := brs_drop hdk
        simp only [List.length_append, HM.out] at this h0
        omega
      clear hcall hnx hdk
      go_wp2_with (go_at_call 91; refine (HC.out _ HBW.out).mono ?_; rintro e w1 ⟨rfl, hb1⟩; have HB1 := hide hb1; clear hb1)
      go_roundw
      case rel => exact ⟨k + 1, p + 1 + (rowN n d.p).length, hlt, hle, rfl, by go_num, HNX.out, HB.out.trans (HB1.out.mono (by have := HB.out.size; simpa using this))⟩
      case measure => simp [intOf]; omega
    · obtain rfl : k = K := by omega
      have HE := hide (HTL.out p HD.out hpM)
      go_wp2_with fail
      go_ret
      refine ⟨?_, HBW.out⟩
      rw [← HE.out]
      rfl
theorem behind_calls : ∀ n : Nat, BehindCalls n := by
  intro n
  induction n with
  | zero => intro p all post pos v w S hS _ hl h hv; exact behind_leaf p all post pos v w S hS hl h hv
  | succ n ih =>
    intro p
    refine Pn.cases (P := fun p => ∀ (all post : List Nd) (pos : Nat) (v : Value) (w : World) (S : Nat → Prop), (∀ g, S g → g < w.heap.size) → shapeN (n + 1) p → all.length ≤ 1000 → all.drop pos = rowN (n + 1) p ++ post → RdW w S v all → Calls Tryz.prog 91 #[v, .int .i64 pos] w fun e w' => e = .returned (.int .i64 ((pos + (rowN (n + 1) p).length : Nat) : Int)) ∧ Below w.heap.size w w') (fun x all post pos v w S hS _ hl h hv => behind_leaf x all post pos v w S hS hl h hv) (fun x q all post pos v w S hS hs hl h hv => behind_loop n ih x q hs all post pos v w S hS hl h hv) (fun t l all post pos v w S hS hs hl h hv => ?_) p
    have hs' : tkOk t ∧ l ≠ [] ∧ ∀ b ∈ l, shapeN n b.p := hs
    refine behind_talk n ih t l (fun e => ?_) hs'.2.2 all post pos v w S hS hl h hv
    rcases hs'.1 with h3 | ⟨h5 | h6, _⟩ <;> omega
end Go.Proofs.YtmjlblbhakppfaaGreatDoor
namespace Go.Proofs.YtmjlblbhakppfaaGreatDoor
open Go.RowKit
attribute [local go_sem ↓] Go.wp_at_zero Go.wp_at_succ

def isIn (role : ByteArray) (n : Nd) : Bool := n.op == 3 && (n.name.toList == role.toList || n.peer.toList == role.toList)
theorem has_any (role : ByteArray) (l : List Nd) : hasRole role l = l.any (isIn role) := rfl
theorem mid_get {all mid post : List Nd} {pos k : Nat} (h : all.drop pos = mid ++ post) (hk : k < mid.length) : ∃ hp : pos + k < all.length, all[pos + k] = mid[k] := by
  have h1 := congrArg (fun l => l[k]?) h
  rw [List.getElem?_drop, List.getElem?_append_left hk, List.getElem?_eq_getElem hk] at h1
  exact List.getElem?_eq_some_iff.1 h1
set_option maxRecDepth 100000 in
set_option maxHeartbeats 1000000 in
theorem s_talks (role : ByteArray) (all mid post : List Nd) (pos : Nat) (v : Value) (w : World) (S : Nat → Prop) (hS : ∀ g, S g → g < w.heap.size) (hl : all.length ≤ 1000) (hpl : pos ≤ 1000) (h : all.drop pos = mid ++ post) (hv : RdW w S v all) :
    Calls Tryz.prog 92 #[v, .int .i64 pos, .int .i64 ((pos + mid.length : Nat) : Int), .string role] w fun e w' => e = .returned (.bool (hasRole role mid)) ∧ Below w.heap.size w w' := by
  obtain ⟨ao, cap, rfl, hc, hm, -, hrow⟩ := hv
  have HR := hide hrow
  have HH := hide h
  have HS := hide hS
  have hlm : mid.length ≤ 1000 := by have := congrArg List.length h; rw [List.length_drop, List.length_append] at this; omega
  obtain ⟨M, hM⟩ : ∃ M, mid.length = M := ⟨_, rfl⟩
  obtain ⟨L, hL⟩ : ∃ L, all.length = L := ⟨_, rfl⟩
  rw [hM] at hlm ⊢
  rw [hL] at hl hc ⊢
  have HM := hide hM
  have HL := hide hL
  clear hrow h hS hM hL
  go_enter Tryz.func92, Tryz.ntmps92
  go_wp2_with fail
  go_loopw [9] (fun i wr => ∃ k : Nat, k ≤ M ∧ i = .int .i64 ((pos + k : Nat) : Int) ∧ (∀ j (hj : j < mid.length), j < k → isIn role mid[j] = false) ∧ Below w.heap.size w wr) (fun i _ => pos + M - (intOf i).toNat)
  case atStart => exact ⟨0, Nat.zero_le _, rfl, fun j _ h => absurd h (by omega), Below.refl _ _⟩
  case round =>
    obtain ⟨k, hk, rfl, hall, hb⟩ := hrel
    have HA := hide hall
    have HB := hide hb
    clear hall hb
    by_cases hlt : k < M
    · have hkm : k < mid.length := by rw [HM.out]; exact hlt
      obtain ⟨hpk, hget⟩ := mid_get HH.out hkm
      obtain ⟨g, o, rfl, hg, hrow⟩ := HR.out (fun e => by rw [e] at hpk; simp at hpk)
      have hnode := (hrow.get (pos + k) hpk).carry (HS.out g hg) HB.out
      rw [hget] at hnode
      obtain ⟨x, hx⟩ : ∃ x, mid[k] = x := ⟨_, rfl⟩
      rw [hx] at hnode
      have HX := hide hx
      obtain ⟨op, name, peer, many, sort⟩ := x
      obtain ⟨c0, c1, c2, c3, c4⟩ := hnode
      dsimp only at c0 c1 c2 c3 c4
      rw [HL.out] at hpk
      clear hrow hget hx
      have HNO : Hid (isIn role ⟨op, name, peer, many, sort⟩ = false → ∀ j (hj : j < mid.length), j < k + 1 → isIn role mid[j] = false) := hide (fun h0 j hj hjk => by
        by_cases e : j = k
        · subst e; rw [HX.out]; exact h0
        · exact HA.out j hj (by omega))
      have HYES : Hid (isIn role ⟨op, name, peer, many, sort⟩ = true → hasRole role mid = true) := hide (fun h0 => by
        rw [has_any, List.any_eq_true]
        exact ⟨mid[k], List.getElem_mem hkm, by rw [HX.out]; exact h0⟩)
      have hI : isIn role ⟨op, name, peer, many, sort⟩ = ((op == 3) && (name.toList == role.toList || peer.toList == role.toList)) := rfl
      rw [hI] at HNO HYES
      obtain ⟨q3, h3⟩ : ∃ q, (op == 3) = q := ⟨_, rfl⟩
      obtain ⟨q1, h1⟩ : ∃ q, (name.toList == role.toList) = q := ⟨_, rfl⟩
      obtain ⟨q2, h2⟩ : ∃ q, (peer.toList == role.toList) = q := ⟨_, rfl⟩
      rw [h3, h1, h2] at HNO HYES
      clear hI
      cases q3
      · go_wp2_with fail
        go_roundw
        case rel => exact ⟨k + 1, hlt, by go_num, HNO.out rfl, HB.out⟩
        case measure => simp [intOf]; omega
      · cases q1
        · cases q2
          · go_wp2_with fail
            go_roundw
            case rel => exact ⟨k + 1, hlt, by go_num, HNO.out rfl, HB.out⟩
            case measure => simp [intOf]; omega
          · go_wp2_with fail
            go_ret
            exact ⟨ret_bool (HYES.out rfl), HB.out⟩
        · go_wp2_with fail
          go_ret
          exact ⟨ret_bool (HYES.out (by cases q2 <;> rfl)), HB.out⟩
    · obtain rfl : k = M := by omega
      have HF : Hid (hasRole role mid = false) := hide (by
        rw [has_any, List.any_eq_false]
        intro x hx
        obtain ⟨j, hj, rfl⟩ := List.getElem_of_mem hx
        rw [HA.out j hj (by rw [← HM.out]; exact hj)]
        simp)
      go_wp2_with fail
      go_ret
      exact ⟨ret_bool HF.out, HB.out⟩
set_option maxRecDepth 100000 in
set_option maxHeartbeats 1000000 in
theorem s_same (x y : List Nd) (v u : Value) (w : World) (S : Nat → Prop) (hS : ∀ g, S g → g < w.heap.size) (hx : RdW w S v x) (hy : RdW w S u y) :
    Calls Tryz.prog 145 #[v, u] w fun e w' => e = .returned (.bool (rowEq x y)) ∧ Below w.heap.size w w' := by
  obtain ⟨ax, cx, rfl, hcx, hmx, hlx, hrx⟩ := hx
  obtain ⟨ay, cy, rfl, hcy, hmy, hly, hry⟩ := hy
  have HRX := hide hrx
  have HRY := hide hry
  have HS := hide hS
  obtain ⟨L, hL⟩ : ∃ L, x.length = L := ⟨_, rfl⟩
  obtain ⟨M, hM⟩ : ∃ M, y.length = M := ⟨_, rfl⟩
  rw [hL] at hlx hcx ⊢
  rw [hM] at hly hcy ⊢
  have HL := hide hL
  have HM := hide hM
  clear hrx hry hL hM hS
  by_cases hne : L = M
  · subst hne
    go_enter Tryz.func145, Tryz.ntmps145
    go_wp2_with fail
    go_loopw [5] (fun i wr => ∃ k : Nat, k ≤ L ∧ i = .int .i64 k ∧ (∀ j (h1 : j < x.length) (h2 : j < y.length), j < k → ndEq x[j] y[j] = true) ∧ Below w.heap.size w wr) (fun i _ => L - (intOf i).toNat)
    case atStart => exact ⟨0, Nat.zero_le _, rfl, fun j _ _ h => absurd h (by omega), Below.refl _ _⟩
    case round =>
      obtain ⟨k, hk, rfl, hall, hbel⟩ := hrel
      have HA := hide hall
      have HBEL := hide hbel
      clear hall
      by_cases hlt : k < L
      · have hkx : k < x.length := by rw [HL.out]; exact hlt
        have hky : k < y.length := by rw [HM.out]; exact hlt
        obtain ⟨b, o, rfl, hbB, hrow⟩ := HRX.out (by intro h; rw [h] at hkx; simp at hkx)
        obtain ⟨b', o', rfl, hbB', hrow'⟩ := HRY.out (by intro h; rw [h] at hky; simp at hky)
        have hn1 := (hrow.get k hkx).carry (HS.out b hbB) hbel
        have hn2 := (hrow'.get k hky).carry (HS.out b' hbB') hbel
        obtain ⟨x1, hx1⟩ : ∃ x1, x[k] = x1 := ⟨_, rfl⟩
        obtain ⟨y1, hy1⟩ : ∃ y1, y[k] = y1 := ⟨_, rfl⟩
        rw [hx1] at hn1
        rw [hy1] at hn2
        obtain ⟨c0, c1, c2, c3, c4⟩ := hn1
        obtain ⟨d0, d1, d2, d3, d4⟩ := hn2
        obtain ⟨r, hr⟩ : ∃ r, ndEq x1 y1 = r := ⟨_, rfl⟩
        have heq : ∀ W, (Op.equalIn 10000 45 (.agg #[.int .i64 x1.op, .string x1.name, .string x1.peer, .int .i64 x1.many, .int .i64 x1.sort]) (.agg #[.int .i64 y1.op, .string y1.name, .string y1.peer, .int .i64 y1.many, .int .i64 y1.sort])).run Tryz.prog W = .ok r W := fun W => by rw [nd_equal, hr]
        have HRR := hide hr
        have HX1 := hide hx1
        have HY1 := hide hy1
        clear hrow hrow' hr hx1 hy1 hbel
        cases r
        · go_wp2_with fail
          go_region
          go_wp2_with fail
          all_goals
            go_ret
            exact ⟨ret_bool (rowEq_no hkx hky (by rw [HX1.out, HY1.out]; exact HRR.out)), by first | exact HBEL.out | exact HBEL.out.drew⟩
        · go_wp2_with fail
          go_region
          go_wp2_with fail
          all_goals
            go_roundw
            case rel =>
              refine ⟨k + 1, hlt, by go_num, fun j h1 h2 hjk => ?_, by first | exact HBEL.out | exact HBEL.out.drew⟩
              by_cases hjk' : j = k
              · subst hjk'; rw [HX1.out, HY1.out]; exact HRR.out
              · exact HA.out j h1 h2 (by omega)
            case measure => simp [intOf]; omega
      · go_wp2_with fail
        go_ret
        exact ⟨ret_bool (rowEq_yes (by rw [HL.out, HM.out]) (fun j h1 h2 => HA.out j h1 h2 (by rw [HL.out] at h1; omega))), HBEL.out⟩
  · have HF : Hid (rowEq x y = false) := hide (rowEq_len (by rw [HL.out, HM.out]; exact hne))
    have hq : ((L : Int) == (M : Int)) = false := beq_eq_false_iff_ne.2 (by omega)
    go_enter Tryz.func145, Tryz.ntmps145
    go_wp2_with fail
    go_ret
    exact ⟨ret_bool HF.out, Below.refl _ _⟩
end Go.Proofs.YtmjlblbhakppfaaGreatDoor
