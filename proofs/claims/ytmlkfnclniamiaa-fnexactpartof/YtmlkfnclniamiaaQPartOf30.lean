/- The program: is each variable of a row of a recursion of the row itself? -/
import Derived.Test.YtmlkfnclniamiaaQPartOf29
import Derived.Test.YtmlkfnclniamiaaQPartOf07
namespace Go.Proofs.Ytmlkfnclniamiaa
open Go.RowKit
attribute [local go_sem ↓] Go.wp_at_zero Go.wp_at_succ

structure RoundC (w wr : World) (row : List Nd) (nv : Value) (k : Nat) (ns : List ByteArray) : Prop where
  same : closedL ns (row.drop k) = closedL [] row
  own : wr.ownsRow w.heap.size 9 1 nv ns.length (ns.map Value.string)
  len : ns.length ≤ k
  bel : Below w.heap.size w wr
set_option maxRecDepth 100000 in
set_option maxHeartbeats 2000000 in
theorem closed_calls (row : List Nd) (v : Value) (w : World) (hv : NdRd w v row) :
    Calls Try.prog 134 #[v] w fun e w' => e = .returned (.bool (closedL [] row)) ∧ Below w.heap.size w w' := by
  obtain ⟨i0, hi, hz0, hz1, hz2⟩ := info_parts Try.infoStr
  have HI := hide (And.intro hi (And.intro hz0 (And.intro hz1 hz2)))
  obtain ⟨ao, cap, rfl, hl, hr⟩ := hv
  have HR := hide hr
  obtain ⟨L, hL⟩ : ∃ L, row.length = L := ⟨_, rfl⟩
  rw [hL] at hl ⊢
  have HL := hide hL
  clear hr hL hi hz0 hz1 hz2
  go_enter Try.func134, Try.ntmps134
  go_wp2_with fail
  go_loopw [3, 8] (fun nv i wr => ∃ (k : Nat) (ns : List ByteArray), k ≤ L ∧ i = .int .i64 k ∧ RoundC w wr row nv k ns) (fun _ i _ => L - (intOf i).toNat)
  case atStart => exact ⟨0, [], Nat.zero_le _, rfl, ⟨rfl, owns_nil _ _ _ _, Nat.le_refl _, Below.refl _ _⟩⟩
  case round =>
    obtain ⟨k, ns, hk, rfl, hR⟩ := hrel
    have HRR := hide hR
    have hzw := hR.bel.size
    have hnl := hR.len
    obtain ⟨np, nc, hnv⟩ := owns_shape hR.own
    obtain ⟨M, hM⟩ : ∃ M, ns.length = M := ⟨_, rfl⟩
    rw [hM] at hnv hnl
    have HM := hide hM
    subst hnv
    by_cases hlt : k < L
    · have hkr : k < row.length := by rw [HL.out]; exact hlt
      obtain ⟨b, o, rfl, hbB, hrow⟩ := HR.out (by intro h; rw [h] at hkr; simp at hkr)
      have hn1 := (hrow.get k hkr).carry hbB hR.bel
      have HST : Hid (∀ x, row[k] = x → closedL [] row = if x.op == 2 then closedL (ns ++ [x.name]) (row.drop (k + 1)) else if x.op == 1 && !hasB ns x.name then false else closedL ns (row.drop (k + 1))) := hide (fun x hx => by
        rw [← hR.same, List.drop_eq_getElem_cons hkr, hx, closedL])
      obtain ⟨x1, hx1⟩ : ∃ x1, row[k] = x1 := ⟨_, rfl⟩
      rw [hx1] at hn1
      have HS1 := hide (HST.out x1 hx1)
      obtain ⟨op, name, peer, many, sort⟩ := x1
      obtain ⟨c0, c1, c2, c3, c4⟩ := hn1
      dsimp only at c0 c1 c2 c3 c4
      have HOWN : Hid (wr.ownsRow w.heap.size 9 1 (.slice np M nc) M (ns.map Value.string)) := hide (by have := hR.own; rw [HM.out] at this; exact this)
      have hbw : b < wr.heap.size := Nat.lt_of_lt_of_le hbB hzw
      clear hrow hx1 hR hM HST
      by_cases h2 : op = 2
      · subst h2
        go_wp2_with (at_builtin; refine wpList_append_own _ rfl (.tmp 15) (.tmp 18) 29 rfl w.heap.size 9 i0 (.string ByteArray.empty) 1 16 Try.underlying29 HI.out.1 HI.out.2.1 HI.out.2.2.1 HI.out.2.2.2 rfl (by decide) (.slice np M nc) M (ns.map Value.string) rfl (owns_below HOWN.out ((malloc1 wr _).trans ((malloc1 _ _).mono (by simp)))) ⟨wr.heap.size + 1, 0, none⟩ 1 1 [.string name] rfl rfl (fun j u hj => new_rowq _ _ _ _ (by simp) j u hj) (by intro u hu; simp at hu; subst hu; rfl) (by unfold maxLen; omega) (by omega) (by simp; omega) ?_; intro v4 w4 hown4 hgr4 _; have HO4 := hide hown4; have HA4 : Hid (Apart (wr.alloc (.cells #[.int .i64 2, .string name, .string peer, .int .i64 many, .int .i64 sort] 53)) w4 (vblocks (.slice np M nc))) := hide (by have := (below_apart (malloc1 _ _)).trans (grownBy_apart hgr4); rwa [List.nil_append] at this); have x0 : w4.cell? ⟨wr.heap.size, 0, none⟩ = some (.int .i64 2) := HA4.out.cell' (by simp) (fun hm => absurd ((owns_fresh HOWN.out).hi _ hm) (by omega)); obtain ⟨p4, c4', rfl⟩ := owns_shape hown4; clear hown4 hgr4)
        go_roundw
        case rel =>
          refine ⟨k + 1, ns ++ [name], hlt, by go_num, ⟨?_, ?_, by rw [List.length_append, HM.out]; simp; omega, (HRR.out.bel.trans ((malloc1 wr _).mono hzw)).trans (HA4.out.below (by simp; omega) (owns_fresh HOWN.out).lo)⟩⟩
          · rw [HS1.out]; rfl
          · rw [List.length_append, List.length_singleton, HM.out, List.map_append]
            exact HO4.out
        case measure => simp [intOf]; omega
      · have e2 : (op == 2) = false := by simpa using h2
        by_cases h1 : op = 1
        · subst h1
          obtain ⟨q, hq⟩ : ∃ q, hasB ns name = q := ⟨_, rfl⟩
          have HQ := hide hq
          have HCO : Hid (∀ W, Below wr.heap.size wr W → Calls Try.prog 69 #[.slice np M nc, .string name] W fun e w' => e = .returned (.bool q) ∧ w' = W) := hide (fun W hW => by
            have := s_contains ns name (.slice np M nc) W (texts_own (base := w.heap.size) (e := 9) (by rw [HM.out]; exact owns_below HOWN.out hW) (by rw [HM.out]; omega))
            rw [hq] at this
            exact this)
          clear hq
          cases q
          · go_wp2_with (go_at_call 69; refine (HCO.out _ (malloc1 _ _)).mono ?_; rintro e w' ⟨rfl, rfl⟩)
            go_ret
            refine ⟨ret_bool ?_, HRR.out.bel.trans ((malloc1 wr _).mono hzw)⟩
            rw [HS1.out]
            simp [HQ.out]
          · go_wp2_with (go_at_call 69; refine (HCO.out _ (malloc1 _ _)).mono ?_; rintro e w' ⟨rfl, rfl⟩)
            go_roundw
            case rel =>
              refine ⟨k + 1, ns, hlt, by go_num, ⟨?_, by rw [HM.out]; exact owns_below HOWN.out (malloc1 _ _), by rw [HM.out]; omega, HRR.out.bel.trans ((malloc1 wr _).mono hzw)⟩⟩
              rw [HS1.out]
              simp [HQ.out]
            case measure => simp [intOf]; omega
        · have e1 : (op == 1) = false := by simpa using h1
          go_wp2_with fail
          go_roundw
          case rel =>
            refine ⟨k + 1, ns, hlt, by go_num, ⟨?_, by rw [HM.out]; exact owns_below HOWN.out (malloc1 _ _), by rw [HM.out]; omega, HRR.out.bel.trans ((malloc1 wr _).mono hzw)⟩⟩
            rw [HS1.out]
            simp [e1, e2]
          case measure => simp [intOf]; omega
    · have HT : Hid (closedL [] row = true) := hide (by rw [← HRR.out.same, List.drop_of_length_le (by rw [HL.out]; omega), closedL])
      go_wp2_with fail
      go_ret
      exact ⟨ret_bool HT.out, HRR.out.bel⟩
end Go.Proofs.Ytmlkfnclniamiaa
/- The program: the roles of a row that a call has made; a recursion in which a role has nothing to do. -/
namespace Go.Proofs.Ytmlkfnclniamiaa
open Go.RowKit

set_option maxRecDepth 100000 in
set_option maxHeartbeats 1000000 in
theorem i_rolesB (hcl : CloneCalls) (ns : List Nd) (v : Value) (w : World) (ok : ∀ n ∈ ns, n.fit) (hv : NdRd w v ns) (hl : ns.length ≤ 40) :
    Calls Try.prog 47 #[v] w fun e w' => ∃ v', e = .returned v' ∧ w'.ownsRow w.heap.size 9 1 v' (rolesI ns).length ((rolesI ns).map Value.string) ∧ Below w.heap.size w w' := by
  obtain ⟨ao, cap, rfl, hm, hr⟩ := hv
  obtain ⟨i0, hi, hz0, hz1, hz2⟩ := info_parts Try.infoS
  have HI := hide (And.intro hi (And.intro hz0 (And.intro hz1 hz2)))
  have HR := hide hr
  have HCL := hide hcl
  have HOK := hide ok
  clear hr hcl ok hi hz0 hz1 hz2
  go_enter Try.func47, Try.ntmps47
  go_wp2_with fail
  go_loopw [3, 10] (fun out i wr => ∃ (k : Nat) (acc : List ByteArray), k ≤ ns.length ∧ i = .int .i64 k ∧ acc = (ns.take k).foldl stepI [] ∧ wr.ownsRow w.heap.size 9 1 out acc.length (acc.map Value.string) ∧ acc.length ≤ 2 * k ∧ Below w.heap.size w wr)
    (fun _ i _ => ns.length - (intOf i).toNat)
  case atStart => exact ⟨0, [], Nat.zero_le _, rfl, rfl, World.ownsRow_nil _ _ _ _, by simp, Below.refl _ _⟩
  case round =>
    obtain ⟨k, acc, hk, rfl, hacc, hown, hal, hbel⟩ := hrel
    have HACC := hide hacc
    have HOWN := hide hown
    have HBEL := hide hbel
    have hszr := hbel.size
    clear hacc hbel hown
    by_cases hlt : k < ns.length
    · obtain ⟨b, o, rfl, hbB, hrow⟩ := HR.out (by intro h; simp [h] at hlt)
      have hnode := (hrow.get k hlt).carry hbB HBEL.out
      obtain ⟨n1, hn1⟩ : ∃ n1, n1 = ns[k] := ⟨_, rfl⟩
      rw [← hn1] at hnode
      have HN := hide (show (ns.take (k + 1)).foldl stepI [] = stepI acc n1 by rw [rolesI_next hlt, HACC.out, hn1])
      have HN1 := hide (show n1.fit by rw [hn1]; exact HOK.out _ (List.getElem_mem hlt))
      clear hn1 hrow
      have hbw : b < wr.heap.size := hnode.lt
      obtain ⟨c0, c1, c2, c3, c4⟩ := hnode
      go_wp2_with (go_at_call 68; refine (i_talkers n1 _).mono ?_; rintro e w1 ⟨v1, rfl, ht1, hf1, hb1⟩; have HT1 := hide ht1; obtain ⟨ao1, cap1, rfl, hc11, hc12, hc13⟩ := ht1; have HB1 : Hid (Below w.heap.size w w1) := hide (HBEL.out.trans (((alloc1 _ _).trans (hb1.mono (by simp))).mono hszr)); have HOW1 := hide (own_below (HOWN.out.alloc _) hb1); have hs1 := HB1.out.size; have HF1 := hide hf1; clear hb1 hc13 hf1)
      obtain ⟨ts, hts⟩ : ∃ ts, talkers n1 = ts := ⟨_, rfl⟩
      have HTS := hide hts
      rw [hts] at hc11 hc12 ⊢
      have hl2 : ts.length ≤ 2 := by rw [← hts]; exact talkers_len n1
      have HTO := hide (show ∀ t ∈ ts, t.size ≤ 1048576 by rw [← hts]; exact talkers_ok HN1.out)
      have HT2 : Hid (TextsAt w1 (.slice ao1 ts.length cap1) ts) := hide (by rw [← hts]; exact HT1.out)
      clear hts
      go_loopw [3, 17] (fun out i w2 => ∃ (j : Nat) (ac : List ByteArray), j ≤ ts.length ∧ i = .int .i64 j ∧ ac = (ts.take j).foldl addI acc ∧ w2.ownsRow w.heap.size 9 1 out ac.length (ac.map Value.string) ∧ ac.length ≤ 2 * k + j ∧ Below w.heap.size w w2 ∧ TextsAt w2 (.slice ao1 ts.length cap1) ts ∧ (∀ a, ao1 = some a → out.ownBlock ≠ some a.block) ∧ (∀ a, ao1 = some a → ts ≠ [] → a.block < w2.heap.size))
        (fun _ i _ => ts.length - (intOf i).toNat)
      case atStart =>
        refine ⟨0, acc, by omega, rfl, rfl, HOW1.out, by omega, HB1.out, HT2.out, fun a ha hb => ?_, fun a ha hne => ?_⟩
        · have h1 := (HOWN.out.lt _ hb).2
          have h2 := HF1.out a.block (by rw [ha]; rfl)
          simp at h2
          omega
        · obtain ⟨_, _, he, _, _, hc⟩ := HT2.out
          obtain ⟨b, o, hbo, hcell⟩ := hc hne
          have hlt := World.block_lt_of_cell? _ _ (hcell 0 (List.length_pos_iff.2 hne))
          have : a.block = b := by
            rw [ha] at he; injection he with he; rw [hbo] at he; injection he with he; rw [he]
          rw [this]; exact hlt
      case round =>
        obtain ⟨j, ac, hj, rfl, hac, hown2, hal2, hbel2, htx2, hoff2, hin2⟩ := hrel
        have HAC := hide hac
        have HOW2 := hide hown2
        have HBEL2 := hide hbel2
        have HTX2 := hide htx2
        have HOFF2 := hide hoff2
        have HIN2 := hide hin2
        have hz2 := hbel2.size
        clear hac hown2 hbel2 hoff2 hin2
        by_cases hjt : j < ts.length
        · obtain ⟨ao2, cap2, he2, -, -, hcl2⟩ := htx2
          obtain ⟨b2, o2, rfl, hcell2⟩ := hcl2 (by intro h; simp [h] at hjt)
          obtain ⟨rfl, rfl⟩ : ao1 = some ⟨b2, o2, none⟩ ∧ cap1 = cap2 := by simpa using he2
          have hck := hcell2 j hjt
          obtain ⟨s, hs⟩ : ∃ s, s = ts[j] := ⟨_, rfl⟩
          rw [← hs] at hck
          have HNX := hide (show (ts.take (j + 1)).foldl addI acc = addI ac s by rw [foldI_next hjt, HAC.out, hs])
          have HSO := hide (show s.size ≤ 1048576 by rw [hs]; exact HTO.out _ (List.getElem_mem hjt))
          clear hs hcell2 hcl2 he2
          cases hh : hasB ac s
          · have HH := hide hh
            clear hh
            go_wp2_with (first | (go_at_call 69; refine (s_contains ac s _ _ (texts_own HOW2.out (by omega))).mono ?_; rintro e w3 ⟨rfl, rfl⟩; rw [HH.out]) | (go_at_call 70; refine (HCL.out s _ HSO.out).mono ?_; rintro e w4 ⟨rfl, hb4⟩; have HOW4 := hide (own_below HOW2.out hb4); have hs4 := hb4.size; have HT4 := hide (HTX2.out.carry hb4); have HB4 := hide hb4; clear hb4) | (at_builtin; refine wpList_append_own_at _ rfl (.tmp 25) (.tmp 28) 29 rfl w.heap.size 9 i0 (.string ByteArray.empty) 1 16 Try.underlying29 HI.out.1 HI.out.2.1 HI.out.2.2.1 HI.out.2.2.2 rfl (by decide) _ ac.length (ac.map Value.string) rfl (HOW4.out.alloc _) ⟨_, 0, none⟩ 1 1 [.string s] rfl rfl (one_new (cell_new _ _ _ _ rfl)) (one_cell _) (by unfold maxLen; omega) (by omega) (by simp; omega) ?_; intro v5 w5 hown5 hgrow5 _ hob5; have HOW5 := hide hown5; have HOB5 := hide hob5; have HT5 : Hid (TextsAt w5 (.slice (some ⟨b2, o2, none⟩) ts.length cap1) ts) := hide ((HT4.out.carry (alloc1 _ _)).grown hgrow5 (fun b hb => by simp [Value.ownBlock] at hb; subst hb; exact fun h => HOFF2.out _ rfl h.symm)); have HS5 := hide hgrow5.size; have HB5 : Hid (Below w.heap.size w w5) := hide ((((HBEL2.out.trans (HB4.out.mono hz2)).alloc (by omega) _)).grown hgrow5 (by simp; omega) (own_row HOW4.out)); clear hown5 hgrow5 hob5))
            go_wp2_with fail
            go_roundw
            case rel =>
              have e : addI ac s = ac ++ [s] := by simp [addI, HH.out]
              have h5 := HS5.out
              simp at h5
              refine ⟨j + 1, ac ++ [s], by omega, by go_num, by rw [HNX.out, e], by have := HOW5.out; simpa using this, by simp; omega, HB5.out, HT5.out, fun a ha hb => ?_, fun a ha hne => ?_⟩
              · have h1 := HIN2.out a ha (by intro h; simp [h] at hjt)
                rcases HOB5.out with h | h
                · exact HOFF2.out a ha (h.symm.trans hb)
                · rw [h] at hb; simp at hb; omega
              · have h1 := HIN2.out a ha hne
                omega
            case measure => simp [intOf]; omega
          · have HH := hide hh
            clear hh
            go_wp2_with (go_at_call 69; refine (s_contains ac s _ _ (texts_own HOW2.out (by omega))).mono ?_; rintro e w3 ⟨rfl, rfl⟩; rw [HH.out])
            go_roundw
            case rel =>
              have e : addI ac s = ac := by simp [addI, HH.out]
              exact ⟨j + 1, ac, by omega, by go_num, by rw [HNX.out, e], HOW2.out, by omega, HBEL2.out, HTX2.out, HOFF2.out, HIN2.out⟩
            case measure => simp [intOf]; omega
        · clear htx2
          go_wp2_with fail
          go_roundw
          case rel =>
            have hst : stepI acc n1 = ac := by rw [HAC.out, stepI, HTS.out, List.take_of_length_le (by omega)]
            exact ⟨k + 1, ac, by omega, by go_num, by rw [HN.out, hst], HOW2.out, by omega, HBEL2.out⟩
          case measure => simp [intOf]; omega
    · go_wp2_with fail
      go_ret
      refine ⟨_, rfl, ?_, HBEL.out⟩
      have h1 : acc = rolesI ns := by rw [HACC.out, List.take_of_length_le (by omega)]; rfl
      rw [← h1]
      exact HOWN.out
theorem toListEq {a b : ByteArray} (h : (a.toList == b.toList) = true) : a = b := by
  have h := beq_iff_eq.1 h
  rw [Go.ByteArray.toList_eq, Go.ByteArray.toList_eq] at h
  apply ByteArray.ext
  exact Array.ext' h
theorem has_add (acc : List ByteArray) (t r : ByteArray) : hasB (addI acc t) r = (hasB acc r || t.toList == r.toList) := by
  unfold addI
  split
  · rename_i h
    cases hr : (t.toList == r.toList)
    · rw [Bool.or_false]
    · rw [Bool.or_true]
      have e : t = r := toListEq hr
      rw [← e]
      exact h
  · simp [hasB]
theorem has_adds (r : ByteArray) : ∀ (ts acc : List ByteArray), hasB (ts.foldl addI acc) r = (hasB acc r || ts.any fun t => t.toList == r.toList)
  | [], acc => by simp
  | t :: ts, acc => by rw [List.foldl_cons, has_adds r ts, has_add, List.any_cons, Bool.or_assoc]
theorem has_roles (r : ByteArray) (row : List Nd) (h : ∀ n ∈ row, n.op ≠ 5 ∧ n.op ≠ 6) : hasB (rolesI row) r = hasRole r row := by
  rw [rolesI_eq, has_adds]
  have e0 : hasB [] r = false := rfl
  rw [e0, Bool.false_or]
  clear e0
  induction row with
  | nil => rfl
  | cons n l ih =>
    rw [List.flatMap_cons, List.any_append, ih (fun m hm => h m (by simp [hm]))]
    unfold hasRole
    rw [List.any_cons]
    congr 1
    obtain ⟨h5, h6⟩ := h n (by simp)
    have e5 : (n.op == 5) = false := by simpa using h5
    have e6 : (n.op == 6) = false := by simpa using h6
    unfold talkers
    cases h3 : (n.op == 3)
    · simp [e5, e6]
    · simp
end Go.Proofs.Ytmlkfnclniamiaa
