/- rolesIn: the roles in the order in which they come; talkersOf. -/
import Derived.Test.YtehodjfgojcnlaaGreatQSound06
import Derived.Maps.AppendAt
import Derived.Test.YtehodjfgojcnlaaGreatQSound03
namespace Go.Proofs.YtehodjfgojcnlaaGreat
open Go.RowKit

theorem add_len (ls : List ByteArray) (t : ByteArray) : (addI ls t).length ≤ ls.length + 1 := by
  rw [addI]; split <;> simp
theorem rolesI_next {ns : List Nd} {k : Nat} (h : k < ns.length) : (ns.take (k + 1)).foldl stepI [] = stepI ((ns.take k).foldl stepI []) ns[k] := by
  rw [List.take_succ_eq_append_getElem h, List.foldl_append]; rfl
theorem foldI_next {ts : List ByteArray} {k : Nat} {acc : List ByteArray} (h : k < ts.length) : (ts.take (k + 1)).foldl addI acc = addI ((ts.take k).foldl addI acc) ts[k] := by
  rw [List.take_succ_eq_append_getElem h, List.foldl_append]; rfl
theorem talkers_len (n : Nd) : (talkers n).length ≤ 2 := by
  rw [talkers]; split
  · simp
  · split <;> simp
def Nd.fit (n : Nd) : Prop := n.name.size ≤ 1048576 ∧ n.peer.size ≤ 1048576
theorem Nd.fit.ok {n : Nd} (h : n.fit) : n.ok := ⟨Nat.le_trans h.1 (by unfold maxLen; omega), Nat.le_trans h.2 (by unfold maxLen; omega)⟩
theorem talkers_ok {n : Nd} (ok : n.fit) : ∀ t ∈ talkers n, t.size ≤ 1048576 := by
  intro t ht
  rw [talkers] at ht
  split at ht
  · simp at ht; rcases ht with h | h
    · rw [h]; exact ok.1
    · rw [h]; exact ok.2
  · split at ht
    · simp at ht; rw [ht]; exact ok.2
    · cases ht
theorem TextsAt.grown {w w' : World} {v : Value} {ls : List ByteArray} {row : Option Nat} (h : TextsAt w v ls) (hg : w.grownBy w' row) (hne : ∀ b, v.ownBlock = some b → some b ≠ row) : TextsAt w' v ls := by
  obtain ⟨ao, cap, rfl, h2, h3, h4⟩ := h
  refine ⟨ao, cap, rfl, h2, h3, fun hn => ?_⟩
  obtain ⟨b, o, rfl, hr⟩ := h4 hn
  exact ⟨b, o, rfl, fun i hi => (grow_cell hg ⟨b, _, none⟩ (World.block_lt_of_cell? w _ (hr i hi)) (hne b rfl)).trans (hr i hi)⟩
def CloneCalls : Prop := ∀ (s : ByteArray) (w : World), s.size ≤ 1048576 → Calls Tryz.prog 39 #[.string s] w fun e w' => e = .returned (.string s) ∧ Below w.heap.size w w'

set_option maxHeartbeats 400000 in
theorem i_talkers (n : Nd) (w : World) :
    Calls Tryz.prog 37 #[n.val] w fun e w' => ∃ v', e = .returned v' ∧ TextsAt w' v' (talkers n) ∧ (∀ b, v'.ownBlock = some b → w.heap.size ≤ b) ∧ Below w.heap.size w w' := by
  obtain ⟨op, name, peer, many, sort⟩ := n
  by_cases h3 : op = 3
  · subst h3
    have HT : Hid (talkers ⟨3, name, peer, many, sort⟩ = [name, peer]) := hide rfl
    unfold Nd.val
    go_enter Tryz.func37, Tryz.ntmps37
    go_wp2_with fail
    go_ret
    refine ⟨_, rfl, ?_, by intro b hb; simp [Value.ownBlock] at hb; omega, (alloc1 _ _).trans ((alloc1 _ _).mono (by simp))⟩
    rw [HT.out]
    refine ⟨_, _, rfl, by simp, by simp, fun _ => ⟨_, _, rfl, fun i hi => ?_⟩⟩
    match i, hi with
    | 0, _ => simp
    | 1, _ => simp
  · by_cases h5 : op = 5 ∨ op = 6
    · have HT : Hid (talkers ⟨op, name, peer, many, sort⟩ = [peer]) := hide (by rcases h5 with h | h <;> subst h <;> rfl)
      unfold Nd.val
      rcases h5 with h | h
      all_goals
        subst h
        clear h3
        go_enter Tryz.func37, Tryz.ntmps37
        go_wp2_with fail
        go_ret
        refine ⟨_, rfl, ?_, by intro b hb; simp [Value.ownBlock] at hb; omega, (alloc1 _ _).trans ((alloc1 _ _).mono (by simp))⟩
        rw [HT.out]
        refine ⟨_, _, rfl, by simp, by simp, fun _ => ⟨_, _, rfl, fun i hi => ?_⟩⟩
        match i, hi with
        | 0, _ => simp
    · have g3 : (op == 3) = false := beq_eq_false_iff_ne.2 h3
      have g5 : (op == 5) = false := beq_eq_false_iff_ne.2 (fun h => h5 (.inl h))
      have g6 : (op == 6) = false := beq_eq_false_iff_ne.2 (fun h => h5 (.inr h))
      have HT : Hid (talkers ⟨op, name, peer, many, sort⟩ = []) := hide (by simp [talkers, g3, g5, g6])
      clear h3 h5
      unfold Nd.val
      go_enter Tryz.func37, Tryz.ntmps37
      go_wp2_with fail
      go_ret
      refine ⟨_, rfl, ?_, by intro b hb; simp [Value.ownBlock] at hb, alloc1 _ _⟩
      rw [HT.out]
      exact ⟨_, _, rfl, by simp, by simp, fun h => absurd rfl h⟩

set_option maxRecDepth 100000 in
set_option maxHeartbeats 1000000 in
theorem i_roles (hcl : CloneCalls) (ns : List Nd) (v : Value) (w : World) (ok : ∀ n ∈ ns, n.fit) (hv : SlAt w w.heap.size v ns) (hl : ns.length ≤ 40) :
    Calls Tryz.prog 22 #[v] w fun e w' => ∃ v', e = .returned v' ∧ w'.ownsRow w.heap.size 9 1 v' (rolesI ns).length ((rolesI ns).map Value.string) ∧ Below w.heap.size w w' := by
  obtain ⟨ao, cap, rfl, hc, hm, hr⟩ := hv
  obtain ⟨i0, hi, hz0, hz1, hz2⟩ := info_parts Tryz.infoS
  have HI := hide (And.intro hi (And.intro hz0 (And.intro hz1 hz2)))
  have HR := hide hr
  have HCL := hide hcl
  have HOK := hide ok
  clear hr hcl ok hi hz0 hz1 hz2
  go_enter Tryz.func22, Tryz.ntmps22
  go_wp2_with fail
  go_loopw [3, 10] (fun out i wr => ∃ (k : Nat) (acc : List ByteArray), k ≤ ns.length ∧ i = .int .i64 k ∧ acc = (ns.take k).foldl stepI [] ∧ wr.ownsRow w.heap.size 9 1 out acc.length (acc.map Value.string) ∧ acc.length ≤ 2 * k ∧ Below w.heap.size w wr)
    (fun _ i _ => ns.length - (intOf i).toNat)
  case atStart => exact ⟨0, [], Nat.zero_le _, rfl, rfl, World.ownsRow_nil _ _ _ _, by simp, Below.refl _ _⟩
  case round =>
    obtain ⟨k, acc, hk, rfl, hacc, hown, hal, hbel⟩ := hrel
    have HACC := hide hacc
    have HOWN := hide hown
    have HBEL := hide hbel
    have hszr := hbel.size
    clear hacc hbel hown
    by_cases hlt : k < ns.length
    · obtain ⟨b, o, rfl, hbB, hrow⟩ := HR.out (by intro h; simp [h] at hlt)
      have hnode := (hrow.get k hlt).carry hbB HBEL.out
      obtain ⟨n1, hn1⟩ : ∃ n1, n1 = ns[k] := ⟨_, rfl⟩
      rw [← hn1] at hnode
      have HN := hide (show (ns.take (k + 1)).foldl stepI [] = stepI acc n1 by rw [rolesI_next hlt, HACC.out, hn1])
      have HN1 := hide (show n1.fit by rw [hn1]; exact HOK.out _ (List.getElem_mem hlt))
      clear hn1 hrow
      have hbw : b < wr.heap.size := hnode.lt
      obtain ⟨c0, c1, c2, c3, c4⟩ := hnode
      go_wp2_with (go_at_call 37; refine (i_talkers n1 _).mono ?_; rintro e w1 ⟨v1, rfl, ht1, hf1, hb1⟩; have HT1 := hide ht1; obtain ⟨ao1, cap1, rfl, hc11, hc12, hc13⟩ := ht1; have HB1 : Hid (Below w.heap.size w w1) := hide (HBEL.out.trans (((alloc1 _ _).trans (hb1.mono (by simp))).mono hszr)); have HOW1 := hide (own_below (HOWN.out.alloc _) hb1); have hs1 := HB1.out.size; have HF1 := hide hf1; clear hb1 hc13 hf1)
      obtain ⟨ts, hts⟩ : ∃ ts, talkers n1 = ts := ⟨_, rfl⟩
      have HTS := hide hts
      rw [hts] at hc11 hc12 ⊢
      have hl2 : ts.length ≤ 2 := by rw [← hts]; exact talkers_len n1
      have HTO := hide (show ∀ t ∈ ts, t.size ≤ 1048576 by rw [← hts]; exact talkers_ok HN1.out)
      have HT2 : Hid (TextsAt w1 (.slice ao1 ts.length cap1) ts) := hide (by rw [← hts]; exact HT1.out)
      clear hts
      go_loopw [3, 17] (fun out i w2 => ∃ (j : Nat) (ac : List ByteArray), j ≤ ts.length ∧ i = .int .i64 j ∧ ac = (ts.take j).foldl addI acc ∧ w2.ownsRow w.heap.size 9 1 out ac.length (ac.map Value.string) ∧ ac.length ≤ 2 * k + j ∧ Below w.heap.size w w2 ∧ TextsAt w2 (.slice ao1 ts.length cap1) ts ∧ (∀ a, ao1 = some a → out.ownBlock ≠ some a.block) ∧ (∀ a, ao1 = some a → ts ≠ [] → a.block < w2.heap.size))
        (fun _ i _ => ts.length - (intOf i).toNat)
      case atStart =>
        refine ⟨0, acc, by omega, rfl, rfl, HOW1.out, by omega, HB1.out, HT2.out, fun a ha hb => ?_, fun a ha hne => ?_⟩
        · have h1 := (HOWN.out.lt _ hb).2
          have h2 := HF1.out a.block (by rw [ha]; rfl)
          simp at h2
          omega
        · obtain ⟨_, _, he, _, _, hc⟩ := HT2.out
          obtain ⟨b, o, hbo, hcell⟩ := hc hne
          have hlt := World.block_lt_of_cell? _ _ (hcell 0 (List.length_pos_iff.2 hne))
          have : a.block = b := by
            rw [ha] at he; injection he with he; rw [hbo] at he; injection he with he; rw [he]
          rw [this]; exact hlt
      case round =>
        obtain ⟨j, ac, hj, rfl, hac, hown2, hal2, hbel2, htx2, hoff2, hin2⟩ := hrel
        have HAC := hide hac
        have HOW2 := hide hown2
        have HBEL2 := hide hbel2
        have HTX2 := hide htx2
        have HOFF2 := hide hoff2
        have HIN2 := hide hin2
        have hz2 := hbel2.size
        clear hac hown2 hbel2 hoff2 hin2
        by_cases hjt : j < ts.length
        · obtain ⟨ao2, cap2, he2, -, -, hcl2⟩ := htx2
          obtain ⟨b2, o2, rfl, hcell2⟩ := hcl2 (by intro h; simp [h] at hjt)
          obtain ⟨rfl, rfl⟩ : ao1 = some ⟨b2, o2, none⟩ ∧ cap1 = cap2 := by simpa using he2
          have hck := hcell2 j hjt
          obtain ⟨s, hs⟩ : ∃ s, s = ts[j] := ⟨_, rfl⟩
          rw [← hs] at hck
          have HNX := hide (show (ts.take (j + 1)).foldl addI acc = addI ac s by rw [foldI_next hjt, HAC.out, hs])
          have HSO := hide (show s.size ≤ 1048576 by rw [hs]; exact HTO.out _ (List.getElem_mem hjt))
          clear hs hcell2 hcl2 he2
          cases hh : hasB ac s
          · have HH := hide hh
            clear hh
            go_wp2_with (first | (go_at_call 38; refine (s_contains ac s _ _ (texts_own HOW2.out (by omega))).mono ?_; rintro e w3 ⟨rfl, rfl⟩; rw [HH.out]) | (go_at_call 39; refine (HCL.out s _ HSO.out).mono ?_; rintro e w4 ⟨rfl, hb4⟩; have HOW4 := hide (own_below HOW2.out hb4); have hs4 := hb4.size; have HT4 := hide (HTX2.out.carry hb4); have HB4 := hide hb4; clear hb4) | (at_builtin; refine wpList_append_own_at _ rfl (.tmp 25) (.tmp 28) 34 rfl w.heap.size 9 i0 (.string ByteArray.empty) 1 16 Tryz.underlying34 HI.out.1 HI.out.2.1 HI.out.2.2.1 HI.out.2.2.2 rfl (by decide) _ ac.length (ac.map Value.string) rfl (HOW4.out.alloc _) ⟨_, 0, none⟩ 1 1 [.string s] rfl rfl (one_new (cell_new _ _ _ _ rfl)) (one_cell _) (by unfold maxLen; omega) (by omega) (by simp; omega) ?_; intro v5 w5 hown5 hgrow5 _ hob5; have HOW5 := hide hown5; have HOB5 := hide hob5; have HT5 : Hid (TextsAt w5 (.slice (some ⟨b2, o2, none⟩) ts.length cap1) ts) := hide ((HT4.out.carry (alloc1 _ _)).grown hgrow5 (fun b hb => by simp [Value.ownBlock] at hb; subst hb; exact fun h => HOFF2.out _ rfl h.symm)); have HS5 := hide hgrow5.size; have HB5 : Hid (Below w.heap.size w w5) := hide ((((HBEL2.out.trans (HB4.out.mono hz2)).alloc (by omega) _)).grown hgrow5 (by simp; omega) (own_row HOW4.out)); clear hown5 hgrow5 hob5))
            go_wp2_with fail
            go_roundw
            case rel =>
              have e : addI ac s = ac ++ [s] := by simp [addI, HH.out]
              have h5 := HS5.out
              simp at h5
              refine ⟨j + 1, ac ++ [s], by omega, by go_num, by rw [HNX.out, e], by have := HOW5.out; simpa using this, by simp; omega, HB5.out, HT5.out, fun a ha hb => ?_, fun a ha hne => ?_⟩
              · have h1 := HIN2.out a ha (by intro h; simp [h] at hjt)
                rcases HOB5.out with h | h
                · exact HOFF2.out a ha (h.symm.trans hb)
                · rw [h] at hb; simp at hb; omega
              · have h1 := HIN2.out a ha hne
                omega
            case measure => simp [intOf]; omega
          · have HH := hide hh
            clear hh
            go_wp2_with (go_at_call 38; refine (s_contains ac s _ _ (texts_own HOW2.out (by omega))).mono ?_; rintro e w3 ⟨rfl, rfl⟩; rw [HH.out])
            go_roundw
            case rel =>
              have e : addI ac s = ac := by simp [addI, HH.out]
              exact ⟨j + 1, ac, by omega, by go_num, by rw [HNX.out, e], HOW2.out, by omega, HBEL2.out, HTX2.out, HOFF2.out, HIN2.out⟩
            case measure => simp [intOf]; omega
        · clear htx2
          go_wp2_with fail
          go_roundw
          case rel =>
            have hst : stepI acc n1 = ac := by rw [HAC.out, stepI, HTS.out, List.take_of_length_le (by omega)]
            exact ⟨k + 1, ac, by omega, by go_num, by rw [HN.out, hst], HOW2.out, by omega, HBEL2.out⟩
          case measure => simp [intOf]; omega
    · go_wp2_with fail
      go_ret
      refine ⟨_, rfl, ?_, HBEL.out⟩
      have h1 : acc = rolesI ns := by rw [HACC.out, List.take_of_length_le (by omega)]; rfl
      rw [← h1]
      exact HOWN.out
end Go.Proofs.YtehodjfgojcnlaaGreat
/- Pieces: how great what is merged, and a part, may be. -/
namespace Go.Proofs.YtehodjfgojcnlaaGreat
open Go.RowKit

def fitL (l : List Nd) : Prop := ∀ n ∈ l, n.fit
theorem fit_app {l r : List Nd} : fitL (l ++ r) ↔ fitL l ∧ fitL r := by
  unfold fitL
  simp only [List.mem_append]
  exact ⟨fun h => ⟨fun n hn => h n (.inl hn), fun n hn => h n (.inr hn)⟩, fun h n hn => hn.elim (h.1 n) (h.2 n)⟩
theorem fit_cons {n : Nd} {l : List Nd} : fitL (n :: l) ↔ n.fit ∧ fitL l := by
  unfold fitL
  simp only [List.mem_cons]
  exact ⟨fun h => ⟨h n (.inl rfl), fun m hm => h m (.inr hm)⟩, fun h m hm => hm.elim (fun e => e ▸ h.1) (h.2 m)⟩
theorem fit_nil : fitL [] := fun _ h => by cases h
section
variable {α : Type} {f : α → List Nd}
theorem brs_set : ∀ {l : List (Br α)} {i : Nat} {b : Br α} (c : Br α), l[i]? = some b → (brsBy f (l.set i c)).length + (f b.p).length = (brsBy f l).length + (f c.p).length ∧ (fitL (brsBy f l) → fitL [⟨4, c.l, noT, 0, c.s⟩] → fitL (f c.p) → fitL (brsBy f (l.set i c)))
  | [], i, b, c, h => by simp at h
  | a :: l, 0, b, c, h => by
    simp at h
    subst h
    rw [List.set_cons_zero, brs_cons, brs_cons]
    refine ⟨by simp only [List.length_cons, List.length_append]; omega, fun h1 h2 h3 => ?_⟩
    rw [fit_cons, fit_app] at *
    exact ⟨h2.1, h3, h1.2.2⟩
  | a :: l, i + 1, b, c, h => by
    rw [List.getElem?_cons_succ] at h
    obtain ⟨h1, h2⟩ := brs_set c h
    rw [List.set_cons_succ, brs_cons, brs_cons]
    refine ⟨by simp only [List.length_cons, List.length_append]; omega, fun h3 h4 h5 => ?_⟩
    rw [fit_cons, fit_app] at h3 ⊢
    exact ⟨h3.1, h3.2.1, h2 h3.2.2 h4 h5⟩
theorem brs_get : ∀ {l : List (Br α)} {i : Nat} {b : Br α}, l[i]? = some b → (f b.p).length + 1 ≤ (brsBy f l).length ∧ (fitL (brsBy f l) → fitL [⟨4, b.l, noT, 0, b.s⟩] ∧ fitL (f b.p))
  | [], i, b, h => by simp at h
  | a :: l, 0, b, h => by
    simp at h
    subst h
    rw [brs_cons]
    refine ⟨by simp only [List.length_cons, List.length_append]; omega, fun h1 => ?_⟩
    rw [fit_cons, fit_app] at h1
    exact ⟨fit_cons.2 ⟨h1.1, fit_nil⟩, h1.2.1⟩
  | a :: l, i + 1, b, h => by
    rw [List.getElem?_cons_succ] at h
    obtain ⟨h1, h2⟩ := brs_get h
    rw [brs_cons]
    refine ⟨by simp only [List.length_cons, List.length_append]; omega, fun h3 => ?_⟩
    rw [fit_cons, fit_app] at h3
    exact h2 h3.2.2
def SzOk (a b c : List Nd) : Prop := c.length ≤ a.length + b.length ∧ (fitL a → fitL b → fitL c)
theorem sz_left (a b : List Nd) : SzOk a b a := ⟨by omega, fun h _ => h⟩
theorem mergeBy_sz {mg : α → α → Option α} (hmg : ∀ x y z, mg x y = some z → SzOk (f x) (f y) (f z)) : ∀ (ds acc l : List (Br α)), mergeBy mg acc ds = some l → SzOk (brsBy f acc) (brsBy f ds) (brsBy f l)
  | [], acc, l, h => by
    rw [mergeBy] at h
    injection h with h
    subst h
    exact sz_left _ _
  | d :: ds, acc, l, h => by
    rw [mergeBy] at h
    rw [brs_cons]
    split at h
    · obtain ⟨h1, h2⟩ := mergeBy_sz hmg ds _ l h
      rw [brs_app] at h1 h2
      have e : brsBy f [d] = ⟨4, d.l, noT, 0, d.s⟩ :: f d.p := by rw [brs_cons]; simp [brsBy]
      rw [e] at h1 h2
      refine ⟨by simp only [List.length_append, List.length_cons] at *; omega, fun ha hb => ?_⟩
      rw [fit_cons, fit_app] at hb
      exact h2 (fit_app.2 ⟨ha, fit_cons.2 ⟨hb.1, hb.2.1⟩⟩) hb.2.2
    · rename_i i hi
      split at h
      · cases h
      · rename_i b hb
        split at h
        · cases h
        · rename_i q hq
          split at h
          · obtain ⟨h1, h2⟩ := mergeBy_sz hmg ds _ l h
            obtain ⟨h3, h4⟩ := hmg b.p d.p q hq
            obtain ⟨h5, h6⟩ := brs_set (f := f) ⟨b.l, b.s, q⟩ hb
            obtain ⟨h7, h8⟩ := brs_get (f := f) hb
            refine ⟨by simp only [List.length_append, List.length_cons] at *; omega, fun ha hc => ?_⟩
            rw [fit_cons, fit_app] at hc
            exact h2 (h6 ha (h8 ha).1 (h4 (h8 ha).2 hc.2.1)) hc.2.2
          · cases h
theorem mergeAll_sz {mg : α → α → Option α} (hmg : ∀ x y z, mg x y = some z → SzOk (f x) (f y) (f z)) : ∀ (r : List (Br α)) (x z : α), mergeAll mg x r = some z → SzOk (f x) (brsBy f r) (f z)
  | [], x, z, h => by rw [mergeAll] at h; injection h with h; subst h; exact sz_left _ _
  | b :: r, x, z, h => by
    rw [mergeAll] at h
    split at h
    · cases h
    · rename_i q hq
      obtain ⟨h1, h2⟩ := mergeAll_sz hmg r q z h
      obtain ⟨h3, h4⟩ := hmg x b.p q hq
      rw [brs_cons]
      refine ⟨by simp only [List.length_cons, List.length_append]; omega, fun ha hb => ?_⟩
      rw [fit_cons, fit_app] at hb
      exact h2 (h4 ha hb.2.1) hb.2.2
end
theorem hear_some {n : Nat} {p : Pn (n + 1)} {a : ByteArray} {l : List (Br (Pn n))} (h : hearN p = some (a, l)) : ∃ b, p = .talk ⟨6, b, a⟩ l := by
  revert h
  refine Pn.cases (P := fun p => hearN p = some (a, l) → ∃ b, p = .talk ⟨6, b, a⟩ l) (fun x h => ?_) (fun x q h => ?_) (fun t l' h => ?_) p
  · cases h
  · cases h
  · have h' : (if t.op == 6 then some (t.b, l') else none) = some (a, l) := h
    split at h'
    · rename_i h6
      injection h' with h'
      injection h' with e1 e2
      obtain ⟨op, x, y⟩ := t
      dsimp only at e1 h6
      have h6' : op = 6 := by simpa using h6
      subst e1
      subst e2
      subst h6'
      exact ⟨x, rfl⟩
    · cases h'
theorem merge_sz : ∀ (n : Nat) (x y z : Pn n), mergeN n x y = some z → SzOk (rowN n x) (rowN n y) (rowN n z) := by
  intro n
  induction n with
  | zero =>
    intro x y z h
    rw [mergeN] at h
    split at h
    · injection h with h; subst h; exact sz_left _ _
    · cases h
  | succ n ih =>
    intro x y z h
    rw [mergeN] at h
    split at h
    · injection h with h; subst h; exact sz_left _ _
    · split at h
      · rename_i a cs b ds hx hy
        split at h
        · split at h
          · rename_i l hl
            split at h
            · injection h with h
              subst h
              obtain ⟨x', rfl⟩ := hear_some hx
              obtain ⟨y', rfl⟩ := hear_some hy
              obtain ⟨h1, h2⟩ := mergeBy_sz ih ds cs l hl
              rw [row_talk, row_talk, row_talk]
              refine ⟨by simp only [List.length_cons]; omega, fun ha hb => ?_⟩
              rw [fit_cons] at ha hb ⊢
              exact ⟨⟨by simp [noT], ha.1.2⟩, h2 ha.2 hb.2⟩
            · cases h
          · cases h
        · cases h
      · cases h
def PartOk (a c : List Nd) : Prop := c.length ≤ a.length ∧ (fitL a → fitL c)
theorem parts_sz {α : Type} {f : α → List Nd} {g : α → Option α} {Q : α → Prop} (hg : ∀ x y, Q x → g x = some y → PartOk (f x) (f y)) : ∀ (l r : List (Br α)), (∀ b ∈ l, Q b.p) → partsBy g l = some r → PartOk (brsBy f l) (brsBy f r) ∧ r.length = l.length
  | [], r, _, h => by rw [partsBy] at h; injection h with h; subst h; exact ⟨⟨Nat.le_refl _, id⟩, rfl⟩
  | b :: l, r, hq, h => by
    rw [partsBy] at h
    split at h
    · cases h
    · rename_i q hq'
      split at h
      · cases h
      · rename_i r' hr'
        injection h with h
        subst h
        obtain ⟨h1, h2⟩ := hg b.p q (hq b (by simp)) hq'
        obtain ⟨⟨h3, h4⟩, h5⟩ := parts_sz hg l r' (fun c hc => hq c (by simp [hc])) hr'
        rw [brs_cons, brs_cons]
        refine ⟨⟨by simp only [List.length_cons, List.length_append]; omega, fun ha => ?_⟩, by simp only [List.length_cons]; omega⟩
        rw [fit_cons, fit_app] at ha ⊢
        exact ⟨ha.1, h2 ha.2.1, h4 ha.2.2⟩
theorem part_sz (role : ByteArray) : ∀ (n : Nat) (p q : Pn n), planN n p → partN role n p = some q → PartOk (rowN n p) (rowN n q) := by
  intro n
  induction n with
  | zero => intro p q _ h; rw [partN] at h; injection h with h; subst h; exact ⟨Nat.le_refl _, id⟩
  | succ n ih =>
    intro p
    refine Pn.cases (P := fun p => ∀ q, planN (n + 1) p → partN role (n + 1) p = some q → PartOk (rowN (n + 1) p) (rowN (n + 1) q)) (fun x q _ h => ?_) (fun x p q hp h => ?_) (fun t l q hp h => ?_) p
    · have h' : some (Pn.leaf x) = some q := h
      injection h' with h'; subst h'; exact ⟨Nat.le_refl _, id⟩
    · have h' : (if idleL role (rowN (n + 1) (.loop x p)) then some (Pn.leaf none) else (partN role n p).map (Pn.loop x)) = some q := h
      have hp' : planN n p := hp
      split at h'
      · injection h' with h'
        subst h'
        rw [row_loop, row_leaf]
        refine ⟨by simp only [leafRow, List.length_cons, List.length_nil]; omega, fun _ => fit_cons.2 ⟨by simp [Nd.fit, noT], fit_nil⟩⟩
      · cases hq : partN role n p with
        | none => rw [hq] at h'; cases h'
        | some q' =>
          rw [hq] at h'
          simp only [Option.map_some, Option.some.injEq] at h'
          subst h'
          obtain ⟨h1, h2⟩ := ih p q' hp' hq
          rw [row_loop, row_loop]
          refine ⟨by simp only [List.length_cons]; omega, fun ha => ?_⟩
          rw [fit_cons] at ha ⊢
          exact ⟨ha.1, h2 ha.2⟩
    · have h' : (match partsBy (partN role n) l with
        | none => none
        | some r => if role.toList == t.a.toList then some (Pn.talk ⟨5, noT, t.b⟩ r) else if role.toList == t.b.toList then some (.talk ⟨6, noT, t.a⟩ r) else
          match r with
          | [] => none
          | c :: r => (mergeAll (mergeN n) c.p r).map (upN n)) = some q := h
      have hp' : t.op = 3 ∧ (t.a.toList == t.b.toList) = false ∧ 1 ≤ l.length ∧ l.length ≤ 4 ∧ ∀ b ∈ l, planN n b.p := hp
      split at h'
      · cases h'
      · rename_i r hr
        obtain ⟨⟨h1, h2⟩, h3⟩ := parts_sz (Q := planN n) (fun x y hx hy => ih x y hx hy) l r hp'.2.2.2.2 hr
        rw [row_talk]
        split at h'
        · injection h' with h'
          subst h'
          rw [row_talk]
          refine ⟨by simp only [List.length_cons]; omega, fun ha => ?_⟩
          rw [fit_cons] at ha ⊢
          exact ⟨⟨by simp [noT], ha.1.2⟩, h2 ha.2⟩
        · split at h'
          · injection h' with h'
            subst h'
            rw [row_talk]
            refine ⟨by simp only [List.length_cons]; omega, fun ha => ?_⟩
            rw [fit_cons] at ha ⊢
            exact ⟨⟨by simp [noT], ha.1.1⟩, h2 ha.2⟩
          · split at h'
            · cases h'
            · rename_i c r
              cases hm : mergeAll (mergeN n) c.p r with
              | none => rw [hm] at h'; cases h'
              | some z =>
                rw [hm] at h'
                simp only [Option.map_some, Option.some.injEq] at h'
                subst h'
                obtain ⟨h4, h5⟩ := mergeAll_sz (merge_sz n) r c.p z hm
                rw [up_row]
                rw [brs_cons] at h1 h2
                refine ⟨by simp only [List.length_cons, List.length_append] at *; omega, fun ha => ?_⟩
                have := h2 (fit_cons.1 ha).2
                rw [fit_cons, fit_app] at this
                exact h5 this.2.1 this.2.2
end Go.Proofs.YtehodjfgojcnlaaGreat
