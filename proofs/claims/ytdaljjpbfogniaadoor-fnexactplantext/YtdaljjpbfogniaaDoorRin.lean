/- rolesIn: the roles in the order in which they come; talkersOf. -/
import Derived.Test.YtdaljjpbfogniaaDoorRMath
import Derived.Maps.AppendAt
namespace Go.Proofs.YtdaljjpbfogniaaDoor
open Go.RowKit

theorem add_len (ls : List ByteArray) (t : ByteArray) : (addI ls t).length ≤ ls.length + 1 := by
  rw [addI]; split <;> simp
theorem rolesI_next {ns : List Nd} {k : Nat} (h : k < ns.length) : (ns.take (k + 1)).foldl stepI [] = stepI ((ns.take k).foldl stepI []) ns[k] := by
  rw [List.take_succ_eq_append_getElem h, List.foldl_append]; rfl
theorem foldI_next {ts : List ByteArray} {k : Nat} {acc : List ByteArray} (h : k < ts.length) : (ts.take (k + 1)).foldl addI acc = addI ((ts.take k).foldl addI acc) ts[k] := by
  rw [List.take_succ_eq_append_getElem h, List.foldl_append]; rfl
theorem talkers_len (n : Nd) : (talkers n).length ≤ 2 := by
  rw [talkers]; split
  · simp
  · split <;> simp
def Nd.fit (n : Nd) : Prop := n.name.size ≤ 1048576 ∧ n.peer.size ≤ 1048576
theorem Nd.fit.ok {n : Nd} (h : n.fit) : n.ok := ⟨Nat.le_trans h.1 (by unfold maxLen; omega), Nat.le_trans h.2 (by unfold maxLen; omega)⟩
theorem talkers_ok {n : Nd} (ok : n.fit) : ∀ t ∈ talkers n, t.size ≤ 1048576 := by
  intro t ht
  rw [talkers] at ht
  split at ht
  · simp at ht; rcases ht with h | h
    · rw [h]; exact ok.1
    · rw [h]; exact ok.2
  · split at ht
    · simp at ht; rw [ht]; exact ok.2
    · cases ht
theorem TextsAt.grown {w w' : World} {v : Value} {ls : List ByteArray} {row : Option Nat} (h : TextsAt w v ls) (hg : w.grownBy w' row) (hne : ∀ b, v.ownBlock = some b → some b ≠ row) : TextsAt w' v ls := by
  obtain ⟨ao, cap, rfl, h2, h3, h4⟩ := h
  refine ⟨ao, cap, rfl, h2, h3, fun hn => ?_⟩
  obtain ⟨b, o, rfl, hr⟩ := h4 hn
  exact ⟨b, o, rfl, fun i hi => (grow_cell hg ⟨b, _, none⟩ (World.block_lt_of_cell? w _ (hr i hi)) (hne b rfl)).trans (hr i hi)⟩
def CloneCalls : Prop := ∀ (s : ByteArray) (w : World), s.size ≤ 1048576 → Calls Tryd.prog 78 #[.string s] w fun e w' => e = .returned (.string s) ∧ Below w.heap.size w w'

set_option maxHeartbeats 400000 in
theorem i_talkers (n : Nd) (w : World) :
    Calls Tryd.prog 76 #[n.val] w fun e w' => ∃ v', e = .returned v' ∧ TextsAt w' v' (talkers n) ∧ (∀ b, v'.ownBlock = some b → w.heap.size ≤ b) ∧ Below w.heap.size w w' := by
  obtain ⟨op, name, peer, many, sort⟩ := n
  by_cases h3 : op = 3
  · subst h3
    have HT : Hid (talkers ⟨3, name, peer, many, sort⟩ = [name, peer]) := hide rfl
    unfold Nd.val
    go_enter Tryd.func76, Tryd.ntmps76
    go_wp2_with fail
    go_ret
    refine ⟨_, rfl, ?_, by intro b hb; simp [Value.ownBlock] at hb; omega, (alloc1 _ _).trans ((alloc1 _ _).mono (by simp))⟩
    rw [HT.out]
    refine ⟨_, _, rfl, by simp, by simp, fun _ => ⟨_, _, rfl, fun i hi => ?_⟩⟩
    match i, hi with
    | 0, _ => simp
    | 1, _ => simp
  · by_cases h5 : op = 5 ∨ op = 6
    · have HT : Hid (talkers ⟨op, name, peer, many, sort⟩ = [peer]) := hide (by rcases h5 with h | h <;> subst h <;> rfl)
      unfold Nd.val
      rcases h5 with h | h
      all_goals
        subst h
        clear h3
        go_enter Tryd.func76, Tryd.ntmps76
        go_wp2_with fail
        go_ret
        refine ⟨_, rfl, ?_, by intro b hb; simp [Value.ownBlock] at hb; omega, (alloc1 _ _).trans ((alloc1 _ _).mono (by simp))⟩
        rw [HT.out]
        refine ⟨_, _, rfl, by simp, by simp, fun _ => ⟨_, _, rfl, fun i hi => ?_⟩⟩
        match i, hi with
        | 0, _ => simp
    · have g3 : (op == 3) = false := beq_eq_false_iff_ne.2 h3
      have g5 : (op == 5) = false := beq_eq_false_iff_ne.2 (fun h => h5 (.inl h))
      have g6 : (op == 6) = false := beq_eq_false_iff_ne.2 (fun h => h5 (.inr h))
      have HT : Hid (talkers ⟨op, name, peer, many, sort⟩ = []) := hide (by simp [talkers, g3, g5, g6])
      clear h3 h5
      unfold Nd.val
      go_enter Tryd.func76, Tryd.ntmps76
      go_wp2_with fail
      go_ret
      refine ⟨_, rfl, ?_, by intro b hb; simp [Value.ownBlock] at hb, alloc1 _ _⟩
      rw [HT.out]
      exact ⟨_, _, rfl, by simp, by simp, fun h => absurd rfl h⟩

set_option maxRecDepth 100000 in
set_option maxHeartbeats 1000000 in
theorem i_roles (hcl : CloneCalls) (ns : List Nd) (v : Value) (w : World) (ok : ∀ n ∈ ns, n.fit) (hv : SlAt w w.heap.size v ns) (hl : ns.length ≤ 40) :
    Calls Tryd.prog 55 #[v] w fun e w' => ∃ v', e = .returned v' ∧ w'.ownsRow w.heap.size 9 1 v' (rolesI ns).length ((rolesI ns).map Value.string) ∧ Below w.heap.size w w' := by
  obtain ⟨ao, cap, rfl, hc, hm, hr⟩ := hv
  obtain ⟨i0, hi, hz0, hz1, hz2⟩ := info_parts Tryd.infoS
  have HI := hide (And.intro hi (And.intro hz0 (And.intro hz1 hz2)))
  have HR := hide hr
  have HCL := hide hcl
  have HOK := hide ok
  clear hr hcl ok hi hz0 hz1 hz2
  go_enter Tryd.func55, Tryd.ntmps55
  go_wp2_with fail
  go_loopw [3, 10] (fun out i wr => ∃ (k : Nat) (acc : List ByteArray), k ≤ ns.length ∧ i = .int .i64 k ∧ acc = (ns.take k).foldl stepI [] ∧ wr.ownsRow w.heap.size 9 1 out acc.length (acc.map Value.string) ∧ acc.length ≤ 2 * k ∧ Below w.heap.size w wr)
    (fun _ i _ => ns.length - (intOf i).toNat)
  case atStart => exact ⟨0, [], Nat.zero_le _, rfl, rfl, World.ownsRow_nil _ _ _ _, by simp, Below.refl _ _⟩
  case round =>
    obtain ⟨k, acc, hk, rfl, hacc, hown, hal, hbel⟩ := hrel
    have HACC := hide hacc
    have HOWN := hide hown
    have HBEL := hide hbel
    have hszr := hbel.size
    clear hacc hbel hown
    by_cases hlt : k < ns.length
    · obtain ⟨b, o, rfl, hbB, hrow⟩ := HR.out (by intro h; simp [h] at hlt)
      have hnode := (hrow.get k hlt).carry hbB HBEL.out
      obtain ⟨n1, hn1⟩ : ∃ n1, n1 = ns[k] := ⟨_, rfl⟩
      rw [← hn1] at hnode
      have HN := hide (show (ns.take (k + 1)).foldl stepI [] = stepI acc n1 by rw [rolesI_next hlt, HACC.out, hn1])
      have HN1 := hide (show n1.fit by rw [hn1]; exact HOK.out _ (List.getElem_mem hlt))
      clear hn1 hrow
      have hbw : b < wr.heap.size := hnode.lt
      obtain ⟨c0, c1, c2, c3, c4⟩ := hnode
      go_wp2_with (go_at_call 76; refine (i_talkers n1 _).mono ?_; rintro e w1 ⟨v1, rfl, ht1, hf1, hb1⟩; have HT1 := hide ht1; obtain ⟨ao1, cap1, rfl, hc11, hc12, hc13⟩ := ht1; have HB1 : Hid (Below w.heap.size w w1) := hide (HBEL.out.trans (((alloc1 _ _).trans (hb1.mono (by simp))).mono hszr)); have HOW1 := hide (own_below (HOWN.out.alloc _) hb1); have hs1 := HB1.out.size; have HF1 := hide hf1; clear hb1 hc13 hf1)
      obtain ⟨ts, hts⟩ : ∃ ts, talkers n1 = ts := ⟨_, rfl⟩
      have HTS := hide hts
      rw [hts] at hc11 hc12 ⊢
      have hl2 : ts.length ≤ 2 := by rw [← hts]; exact talkers_len n1
      have HTO := hide (show ∀ t ∈ ts, t.size ≤ 1048576 by rw [← hts]; exact talkers_ok HN1.out)
      have HT2 : Hid (TextsAt w1 (.slice ao1 ts.length cap1) ts) := hide (by rw [← hts]; exact HT1.out)
      clear hts
      go_loopw [3, 17] (fun out i w2 => ∃ (j : Nat) (ac : List ByteArray), j ≤ ts.length ∧ i = .int .i64 j ∧ ac = (ts.take j).foldl addI acc ∧ w2.ownsRow w.heap.size 9 1 out ac.length (ac.map Value.string) ∧ ac.length ≤ 2 * k + j ∧ Below w.heap.size w w2 ∧ TextsAt w2 (.slice ao1 ts.length cap1) ts ∧ (∀ a, ao1 = some a → out.ownBlock ≠ some a.block) ∧ (∀ a, ao1 = some a → ts ≠ [] → a.block < w2.heap.size))
        (fun _ i _ => ts.length - (intOf i).toNat)
      case atStart =>
        refine ⟨0, acc, by omega, rfl, rfl, HOW1.out, by omega, HB1.out, HT2.out, fun a ha hb => ?_, fun a ha hne => ?_⟩
        · have h1 := (HOWN.out.lt _ hb).2
          have h2 := HF1.out a.block (by rw [ha]; rfl)
          simp at h2
          omega
        · obtain ⟨_, _, he, _, _, hc⟩ := HT2.out
          obtain ⟨b, o, hbo, hcell⟩ := hc hne
          have hlt := World.block_lt_of_cell? _ _ (hcell 0 (List.length_pos_iff.2 hne))
          have : a.block = b := by
            rw [ha] at he; injection he with he; rw [hbo] at he; injection he with he; rw [he]
          rw [this]; exact hlt
      case round =>
        obtain ⟨j, ac, hj, rfl, hac, hown2, hal2, hbel2, htx2, hoff2, hin2⟩ := hrel
        have HAC := hide hac
        have HOW2 := hide hown2
        have HBEL2 := hide hbel2
        have HTX2 := hide htx2
        have HOFF2 := hide hoff2
        have HIN2 := hide hin2
        have hz2 := hbel2.size
        clear hac hown2 hbel2 hoff2 hin2
        by_cases hjt : j < ts.length
        · obtain ⟨ao2, cap2, he2, -, -, hcl2⟩ := htx2
          obtain ⟨b2, o2, rfl, hcell2⟩ := hcl2 (by intro h; simp [h] at hjt)
          obtain ⟨rfl, rfl⟩ : ao1 = some ⟨b2, o2, none⟩ ∧ cap1 = cap2 := by simpa using he2
          have hck := hcell2 j hjt
          obtain ⟨s, hs⟩ : ∃ s, s = ts[j] := ⟨_, rfl⟩
          rw [← hs] at hck
          have HNX := hide (show (ts.take (j + 1)).foldl addI acc = addI ac s by rw [foldI_next hjt, HAC.out, hs])
          have HSO := hide (show s.size ≤ 1048576 by rw [hs]; exact HTO.out _ (List.getElem_mem hjt))
          clear hs hcell2 hcl2 he2
          cases hh : hasB ac s
          · have HH := hide hh
            clear hh
            go_wp2_with (first | (go_at_call 77; refine (s_contains ac s _ _ (texts_own HOW2.out (by omega))).mono ?_; rintro e w3 ⟨rfl, rfl⟩; rw [HH.out]) | (go_at_call 78; refine (HCL.out s _ HSO.out).mono ?_; rintro e w4 ⟨rfl, hb4⟩; have HOW4 := hide (own_below HOW2.out hb4); have hs4 := hb4.size; have HT4 := hide (HTX2.out.carry hb4); have HB4 := hide hb4; clear hb4) | (at_builtin; refine wpList_append_own_at _ rfl (.tmp 25) (.tmp 28) 53 rfl w.heap.size 9 i0 (.string ByteArray.empty) 1 16 Tryd.underlying53 HI.out.1 HI.out.2.1 HI.out.2.2.1 HI.out.2.2.2 rfl (by decide) _ ac.length (ac.map Value.string) rfl (HOW4.out.alloc _) ⟨_, 0, none⟩ 1 1 [.string s] rfl rfl (one_new (cell_new _ _ _ _ rfl)) (one_cell _) (by unfold maxLen; omega) (by omega) (by simp; omega) ?_; intro v5 w5 hown5 hgrow5 _ hob5; have HOW5 := hide hown5; have HOB5 := hide hob5; have HT5 : Hid (TextsAt w5 (.slice (some ⟨b2, o2, none⟩) ts.length cap1) ts) := hide ((HT4.out.carry (alloc1 _ _)).grown hgrow5 (fun b hb => by simp [Value.ownBlock] at hb; subst hb; exact fun h => HOFF2.out _ rfl h.symm)); have HS5 := hide hgrow5.size; have HB5 : Hid (Below w.heap.size w w5) := hide ((((HBEL2.out.trans (HB4.out.mono hz2)).alloc (by omega) _)).grown hgrow5 (by simp; omega) (own_row HOW4.out)); clear hown5 hgrow5 hob5))
            go_wp2_with fail
            go_roundw
            case rel =>
              have e : addI ac s = ac ++ [s] := by simp [addI, HH.out]
              have h5 := HS5.out
              simp at h5
              refine ⟨j + 1, ac ++ [s], by omega, by go_num, by rw [HNX.out, e], by have := HOW5.out; simpa using this, by simp; omega, HB5.out, HT5.out, fun a ha hb => ?_, fun a ha hne => ?_⟩
              · have h1 := HIN2.out a ha (by intro h; simp [h] at hjt)
                rcases HOB5.out with h | h
                · exact HOFF2.out a ha (h.symm.trans hb)
                · rw [h] at hb; simp at hb; omega
              · have h1 := HIN2.out a ha hne
                omega
            case measure => simp [intOf]; omega
          · have HH := hide hh
            clear hh
            go_wp2_with (go_at_call 77; refine (s_contains ac s _ _ (texts_own HOW2.out (by omega))).mono ?_; rintro e w3 ⟨rfl, rfl⟩; rw [HH.out])
            go_roundw
            case rel =>
              have e : addI ac s = ac := by simp [addI, HH.out]
              exact ⟨j + 1, ac, by omega, by go_num, by rw [HNX.out, e], HOW2.out, by omega, HBEL2.out, HTX2.out, HOFF2.out, HIN2.out⟩
            case measure => simp [intOf]; omega
        · clear htx2
          go_wp2_with fail
          go_roundw
          case rel =>
            have hst : stepI acc n1 = ac := by rw [HAC.out, stepI, HTS.out, List.take_of_length_le (by omega)]
            exact ⟨k + 1, ac, by omega, by go_num, by rw [HN.out, hst], HOW2.out, by omega, HBEL2.out⟩
          case measure => simp [intOf]; omega
    · go_wp2_with fail
      go_ret
      refine ⟨_, rfl, ?_, HBEL.out⟩
      have h1 : acc = rolesI ns := by rw [HACC.out, List.take_of_length_le (by omega)]; rfl
      rw [← h1]
      exact HOWN.out
end Go.Proofs.YtdaljjpbfogniaaDoor
