/- The specification: who talks between two places; what is closed; rows compared. -/
import Derived.Test.YtmlkfnclniamiaaQPartOf32
namespace Go.Proofs.Ytmlkfnclniamiaa
open Go.RowKit
attribute [local go_sem ↓] Go.wp_at_zero Go.wp_at_succ

def isIn (role : ByteArray) (n : Nd) : Bool := n.op == 3 && (n.name.toList == role.toList || n.peer.toList == role.toList)
theorem has_any (role : ByteArray) (l : List Nd) : hasRole role l = l.any (isIn role) := rfl
theorem mid_get {all mid post : List Nd} {pos k : Nat} (h : all.drop pos = mid ++ post) (hk : k < mid.length) : ∃ hp : pos + k < all.length, all[pos + k] = mid[k] := by
  have h1 := congrArg (fun l => l[k]?) h
  rw [List.getElem?_drop, List.getElem?_append_left hk, List.getElem?_eq_getElem hk] at h1
  exact List.getElem?_eq_some_iff.1 h1
set_option maxRecDepth 100000 in
set_option maxHeartbeats 1000000 in
theorem s_talks (role : ByteArray) (all mid post : List Nd) (pos : Nat) (v : Value) (w : World) (S : Nat → Prop) (hS : ∀ g, S g → g < w.heap.size) (hl : all.length ≤ 1000) (hpl : pos ≤ 1000) (h : all.drop pos = mid ++ post) (hv : RdS w S v all) :
    Calls Try.prog 74 #[v, .int .i64 pos, .int .i64 ((pos + mid.length : Nat) : Int), .string role] w fun e w' => e = .returned (.bool (hasRole role mid)) ∧ Below w.heap.size w w' := by
  obtain ⟨ao, cap, rfl, hc, hm, -, hrow⟩ := hv
  have HR := hide hrow
  have HH := hide h
  have HS := hide hS
  have hlm : mid.length ≤ 1000 := by have := congrArg List.length h; rw [List.length_drop, List.length_append] at this; omega
  obtain ⟨M, hM⟩ : ∃ M, mid.length = M := ⟨_, rfl⟩
  obtain ⟨L, hL⟩ : ∃ L, all.length = L := ⟨_, rfl⟩
  rw [hM] at hlm ⊢
  rw [hL] at hl hc ⊢
  have HM := hide hM
  have HL := hide hL
  clear hrow h hS hM hL
  go_enter Try.func74, Try.ntmps74
  go_wp2_with fail
  go_loopw [9] (fun i wr => ∃ k : Nat, k ≤ M ∧ i = .int .i64 ((pos + k : Nat) : Int) ∧ (∀ j (hj : j < mid.length), j < k → isIn role mid[j] = false) ∧ Below w.heap.size w wr) (fun i _ => pos + M - (intOf i).toNat)
  case atStart => exact ⟨0, Nat.zero_le _, rfl, fun j _ h => absurd h (by omega), Below.refl _ _⟩
  case round =>
    obtain ⟨k, hk, rfl, hall, hb⟩ := hrel
    have HA := hide hall
    have HB := hide hb
    clear hall hb
    by_cases hlt : k < M
    · have hkm : k < mid.length := by rw [HM.out]; exact hlt
      obtain ⟨hpk, hget⟩ := mid_get HH.out hkm
      obtain ⟨g, o, rfl, hg, hrow⟩ := HR.out (fun e => by rw [e] at hpk; simp at hpk)
      have hnode := (hrow.get (pos + k) hpk).carry (HS.out g hg) HB.out
      rw [hget] at hnode
      obtain ⟨x, hx⟩ : ∃ x, mid[k] = x := ⟨_, rfl⟩
      rw [hx] at hnode
      have HX := hide hx
      obtain ⟨op, name, peer, many, sort⟩ := x
      obtain ⟨c0, c1, c2, c3, c4⟩ := hnode
      dsimp only at c0 c1 c2 c3 c4
      rw [HL.out] at hpk
      clear hrow hget hx
      have HNO : Hid (isIn role ⟨op, name, peer, many, sort⟩ = false → ∀ j (hj : j < mid.length), j < k + 1 → isIn role mid[j] = false) := hide (fun h0 j hj hjk => by
        by_cases e : j = k
        · subst e; rw [HX.out]; exact h0
        · exact HA.out j hj (by omega))
      have HYES : Hid (isIn role ⟨op, name, peer, many, sort⟩ = true → hasRole role mid = true) := hide (fun h0 => by
        rw [has_any, List.any_eq_true]
        exact ⟨mid[k], List.getElem_mem hkm, by rw [HX.out]; exact h0⟩)
      have hI : isIn role ⟨op, name, peer, many, sort⟩ = ((op == 3) && (name.toList == role.toList || peer.toList == role.toList)) := rfl
      rw [hI] at HNO HYES
      obtain ⟨q3, h3⟩ : ∃ q, (op == 3) = q := ⟨_, rfl⟩
      obtain ⟨q1, h1⟩ : ∃ q, (name.toList == role.toList) = q := ⟨_, rfl⟩
      obtain ⟨q2, h2⟩ : ∃ q, (peer.toList == role.toList) = q := ⟨_, rfl⟩
      rw [h3, h1, h2] at HNO HYES
      clear hI
      cases q3
      · go_wp2_with fail
        go_roundw
        case rel => exact ⟨k + 1, hlt, by go_num, HNO.out rfl, HB.out⟩
        case measure => simp [intOf]; omega
      · cases q1
        · cases q2
          · go_wp2_with fail
            go_roundw
            case rel => exact ⟨k + 1, hlt, by go_num, HNO.out rfl, HB.out⟩
            case measure => simp [intOf]; omega
          · go_wp2_with fail
            go_ret
            exact ⟨ret_bool (HYES.out rfl), HB.out⟩
        · go_wp2_with fail
          go_ret
          exact ⟨ret_bool (HYES.out (by cases q2 <;> rfl)), HB.out⟩
    · obtain rfl : k = M := by omega
      have HF : Hid (hasRole role mid = false) := hide (by
        rw [has_any, List.any_eq_false]
        intro x hx
        obtain ⟨j, hj, rfl⟩ := List.getElem_of_mem hx
        rw [HA.out j hj (by rw [← HM.out]; exact hj)]
        simp)
      go_wp2_with fail
      go_ret
      exact ⟨ret_bool HF.out, HB.out⟩
set_option maxRecDepth 100000 in
set_option maxHeartbeats 1000000 in
theorem s_same (x y : List Nd) (v u : Value) (w : World) (S : Nat → Prop) (hS : ∀ g, S g → g < w.heap.size) (hx : RdS w S v x) (hy : RdS w S u y) :
    Calls Try.prog 130 #[v, u] w fun e w' => e = .returned (.bool (rowEq x y)) ∧ Below w.heap.size w w' := by
  obtain ⟨ax, cx, rfl, hcx, hmx, hlx, hrx⟩ := hx
  obtain ⟨ay, cy, rfl, hcy, hmy, hly, hry⟩ := hy
  have HRX := hide hrx
  have HRY := hide hry
  have HS := hide hS
  obtain ⟨L, hL⟩ : ∃ L, x.length = L := ⟨_, rfl⟩
  obtain ⟨M, hM⟩ : ∃ M, y.length = M := ⟨_, rfl⟩
  rw [hL] at hlx hcx ⊢
  rw [hM] at hly hcy ⊢
  have HL := hide hL
  have HM := hide hM
  clear hrx hry hL hM hS
  by_cases hne : L = M
  · subst hne
    go_enter Try.func130, Try.ntmps130
    go_wp2_with fail
    go_loopw [5] (fun i wr => ∃ k : Nat, k ≤ L ∧ i = .int .i64 k ∧ (∀ j (h1 : j < x.length) (h2 : j < y.length), j < k → ndEq x[j] y[j] = true) ∧ Below w.heap.size w wr) (fun i _ => L - (intOf i).toNat)
    case atStart => exact ⟨0, Nat.zero_le _, rfl, fun j _ _ h => absurd h (by omega), Below.refl _ _⟩
    case round =>
      obtain ⟨k, hk, rfl, hall, hbel⟩ := hrel
      have HA := hide hall
      have HBEL := hide hbel
      clear hall
      by_cases hlt : k < L
      · have hkx : k < x.length := by rw [HL.out]; exact hlt
        have hky : k < y.length := by rw [HM.out]; exact hlt
        obtain ⟨b, o, rfl, hbB, hrow⟩ := HRX.out (by intro h; rw [h] at hkx; simp at hkx)
        obtain ⟨b', o', rfl, hbB', hrow'⟩ := HRY.out (by intro h; rw [h] at hky; simp at hky)
        have hn1 := (hrow.get k hkx).carry (HS.out b hbB) hbel
        have hn2 := (hrow'.get k hky).carry (HS.out b' hbB') hbel
        obtain ⟨x1, hx1⟩ : ∃ x1, x[k] = x1 := ⟨_, rfl⟩
        obtain ⟨y1, hy1⟩ : ∃ y1, y[k] = y1 := ⟨_, rfl⟩
        rw [hx1] at hn1
        rw [hy1] at hn2
        obtain ⟨c0, c1, c2, c3, c4⟩ := hn1
        obtain ⟨d0, d1, d2, d3, d4⟩ := hn2
        obtain ⟨r, hr⟩ : ∃ r, ndEq x1 y1 = r := ⟨_, rfl⟩
        have heq : ∀ W, (Op.equalIn 10000 53 (.agg #[.int .i64 x1.op, .string x1.name, .string x1.peer, .int .i64 x1.many, .int .i64 x1.sort]) (.agg #[.int .i64 y1.op, .string y1.name, .string y1.peer, .int .i64 y1.many, .int .i64 y1.sort])).run Try.prog W = .ok r W := fun W => by rw [nd_equal, hr]
        have HRR := hide hr
        have HX1 := hide hx1
        have HY1 := hide hy1
        clear hrow hrow' hr hx1 hy1 hbel
        cases r
        · go_wp2_with fail
          go_region
          go_wp2_with fail
          all_goals
            go_ret
            exact ⟨ret_bool (rowEq_no hkx hky (by rw [HX1.out, HY1.out]; exact HRR.out)), by first | exact HBEL.out | exact HBEL.out.drew⟩
        · go_wp2_with fail
          go_region
          go_wp2_with fail
          all_goals
            go_roundw
            case rel =>
              refine ⟨k + 1, hlt, by go_num, fun j h1 h2 hjk => ?_, by first | exact HBEL.out | exact HBEL.out.drew⟩
              by_cases hjk' : j = k
              · subst hjk'; rw [HX1.out, HY1.out]; exact HRR.out
              · exact HA.out j h1 h2 (by omega)
            case measure => simp [intOf]; omega
      · go_wp2_with fail
        go_ret
        exact ⟨ret_bool (rowEq_yes (by rw [HL.out, HM.out]) (fun j h1 h2 => HA.out j h1 h2 (by rw [HL.out] at h1; omega))), HBEL.out⟩
  · have HF : Hid (rowEq x y = false) := hide (rowEq_len (by rw [HL.out, HM.out]; exact hne))
    have hq : ((L : Int) == (M : Int)) = false := beq_eq_false_iff_ne.2 (by omega)
    go_enter Try.func130, Try.ntmps130
    go_wp2_with fail
    go_ret
    exact ⟨ret_bool HF.out, Below.refl _ _⟩
end Go.Proofs.Ytmlkfnclniamiaa
/- The specification: is each variable between two places of a recursion there? -/
namespace Go.Proofs.Ytmlkfnclniamiaa
open Go.RowKit
attribute [local go_sem ↓] Go.wp_at_zero Go.wp_at_succ

structure RoundD (w wr : World) (mid : List Nd) (nv : Value) (k : Nat) (ns : List ByteArray) : Prop where
  same : closedL ns (mid.drop k) = closedL [] mid
  own : wr.ownsRow w.heap.size 9 1 nv ns.length (ns.map Value.string)
  len : ns.length ≤ k
  bel : Below w.heap.size w wr
set_option maxRecDepth 100000 in
set_option maxHeartbeats 2000000 in
theorem s_closed (all mid post : List Nd) (pos : Nat) (v : Value) (w : World) (S : Nat → Prop) (hS : ∀ g, S g → g < w.heap.size) (hl : all.length ≤ 1000) (hpl : pos ≤ 1000) (h : all.drop pos = mid ++ post) (hv : RdS w S v all) :
    Calls Try.prog 75 #[v, .int .i64 pos, .int .i64 ((pos + mid.length : Nat) : Int)] w fun e w' => e = .returned (.bool (closedL [] mid)) ∧ Below w.heap.size w w' := by
  obtain ⟨i0, hi, hz0, hz1, hz2⟩ := info_parts Try.infoStr
  have HI := hide (And.intro hi (And.intro hz0 (And.intro hz1 hz2)))
  obtain ⟨ao, cap, rfl, hc, hm, -, hrow⟩ := hv
  have HR := hide hrow
  have HH := hide h
  have HS := hide hS
  have hlm : mid.length ≤ 1000 := by have := congrArg List.length h; rw [List.length_drop, List.length_append] at this; omega
  obtain ⟨M, hM⟩ : ∃ M, mid.length = M := ⟨_, rfl⟩
  obtain ⟨L, hL⟩ : ∃ L, all.length = L := ⟨_, rfl⟩
  rw [hM] at hlm ⊢
  obtain ⟨T, hT⟩ : ∃ T, pos + M = T := ⟨_, rfl⟩
  rw [hT]
  rw [hL] at hl hc ⊢
  have HM := hide hM
  have HL := hide hL
  clear hrow h hS hM hL hi hz0 hz1 hz2
  go_enter Try.func75, Try.ntmps75
  go_wp2_with fail
  go_loopw [7, 8] (fun nv i wr => ∃ (k : Nat) (ns : List ByteArray), k ≤ M ∧ i = .int .i64 ((pos + k : Nat) : Int) ∧ RoundD w wr mid nv k ns) (fun _ i _ => pos + M - (intOf i).toNat)
  case atStart => exact ⟨0, [], Nat.zero_le _, rfl, ⟨rfl, owns_empty _ _ _ _ _ (Nat.le_refl _) (mheap_new _ _ _ rfl), Nat.le_refl _, malloc1 _ _⟩⟩
  case round =>
    obtain ⟨k, ns, hk, rfl, hR⟩ := hrel
    have HRR := hide hR
    have hzw := hR.bel.size
    have hnl := hR.len
    obtain ⟨np, nc, hnv⟩ := owns_shape hR.own
    obtain ⟨Q, hQ⟩ : ∃ Q, ns.length = Q := ⟨_, rfl⟩
    rw [hQ] at hnv hnl
    have HQ := hide hQ
    subst hnv
    by_cases hlt : k < M
    · have hkm : k < mid.length := by rw [HM.out]; exact hlt
      obtain ⟨hpk, hget⟩ := mid_get HH.out hkm
      obtain ⟨g, o, rfl, hg, hrow⟩ := HR.out (fun e => by rw [e] at hpk; simp at hpk)
      have hgw := HS.out g hg
      have hnode := (hrow.get (pos + k) hpk).carry hgw hR.bel
      rw [hget] at hnode
      have HST : Hid (∀ x, mid[k] = x → closedL [] mid = if x.op == 2 then closedL (ns ++ [x.name]) (mid.drop (k + 1)) else if x.op == 1 && !hasB ns x.name then false else closedL ns (mid.drop (k + 1))) := hide (fun x hx => by
        rw [← hR.same, List.drop_eq_getElem_cons hkm, hx, closedL])
      obtain ⟨x, hx⟩ : ∃ x, mid[k] = x := ⟨_, rfl⟩
      rw [hx] at hnode
      have HS1 := hide (HST.out x hx)
      have HOWN : Hid (wr.ownsRow w.heap.size 9 1 (.slice np Q nc) Q (ns.map Value.string)) := hide (by have := hR.own; rw [HQ.out] at this; exact this)
      obtain ⟨op, name, peer, many, sort⟩ := x
      obtain ⟨c0, c1, c2, c3, c4⟩ := hnode
      dsimp only at c0 c1 c2 c3 c4
      rw [HL.out] at hpk
      have hbw : g < wr.heap.size := Nat.lt_of_lt_of_le hgw hzw
      clear hrow hget hx hR hQ HST
      by_cases h2 : op = 2
      · subst h2
        go_wp2_with (at_builtin; refine wpList_append_own _ rfl (.tmp 22) (.tmp 28) 29 rfl w.heap.size 9 i0 (.string ByteArray.empty) 1 16 Try.underlying29 HI.out.1 HI.out.2.1 HI.out.2.2.1 HI.out.2.2.2 rfl (by decide) (.slice np Q nc) Q (ns.map Value.string) rfl (owns_below HOWN.out (malloc1 wr _)) ⟨wr.heap.size, 0, none⟩ 1 1 [.string name] rfl rfl (fun j u hj => new_rowq _ _ _ _ (by simp) j u hj) (by intro u hu; simp at hu; subst hu; rfl) (by unfold maxLen; omega) (by omega) (by simp; omega) ?_; intro v4 w4 hown4 hgr4 _; have HO4 := hide hown4; have HA4 : Hid (Apart wr w4 (vblocks (.slice np Q nc))) := hide (by have := (below_apart (malloc1 wr _)).trans (grownBy_apart hgr4); rwa [List.nil_append] at this); have d0 : w4.cell? ⟨g, o + (pos + k) * 5, none⟩ = some (.int .i64 2) := HA4.out.cell' c0 (fun hm => absurd ((owns_fresh HOWN.out).lo _ hm) (by omega)); obtain ⟨p4, c4', rfl⟩ := owns_shape hown4; clear hown4 hgr4)
        go_roundw
        case rel =>
          refine ⟨k + 1, ns ++ [name], hlt, by go_num, ⟨?_, ?_, by rw [List.length_append, HQ.out]; simp; omega, HRR.out.bel.trans (HA4.out.below hzw (owns_fresh HOWN.out).lo)⟩⟩
          · rw [HS1.out]; rfl
          · rw [List.length_append, List.length_singleton, HQ.out, List.map_append]
            exact HO4.out
        case measure => simp [intOf]; omega
      · have e2 : (op == 2) = false := by simpa using h2
        by_cases h1 : op = 1
        · subst h1
          obtain ⟨q, hq⟩ : ∃ q, hasB ns name = q := ⟨_, rfl⟩
          have HQQ := hide hq
          have HCO : Hid (∀ W, Below wr.heap.size wr W → Calls Try.prog 90 #[.slice np Q nc, .string name] W fun e w' => e = .returned (.bool q) ∧ w' = W) := hide (fun W hW => by
            have := s_among ns name (.slice np Q nc) W (texts_own (base := w.heap.size) (e := 9) (by rw [HQ.out]; exact owns_below HOWN.out hW) (by rw [HQ.out]; omega))
            rw [hq] at this
            exact this)
          clear hq
          cases q
          · go_wp2_with (go_at_call 90; refine (HCO.out _ (Below.refl _ _)).mono ?_; rintro e w' ⟨rfl, hw'⟩; subst w')
            go_ret
            refine ⟨ret_bool ?_, HRR.out.bel⟩
            rw [HS1.out]
            simp [HQQ.out]
          · go_wp2_with (go_at_call 90; refine (HCO.out _ (Below.refl _ _)).mono ?_; rintro e w' ⟨rfl, hw'⟩; subst w')
            go_roundw
            case rel =>
              refine ⟨k + 1, ns, hlt, by go_num, ⟨?_, by rw [HQ.out]; exact HOWN.out, by rw [HQ.out]; omega, HRR.out.bel⟩⟩
              rw [HS1.out]
              simp [HQQ.out]
            case measure => simp [intOf]; omega
        · have e1 : (op == 1) = false := by simpa using h1
          go_wp2_with fail
          go_roundw
          case rel =>
            refine ⟨k + 1, ns, hlt, by go_num, ⟨?_, by rw [HQ.out]; exact HOWN.out, by rw [HQ.out]; omega, HRR.out.bel⟩⟩
            rw [HS1.out]
            simp [e1, e2]
          case measure => simp [intOf]; omega
    · have HT : Hid (closedL [] mid = true) := hide (by rw [← HRR.out.same, List.drop_of_length_le (by rw [HM.out]; omega), closedL])
      go_wp2_with fail
      go_ret
      exact ⟨ret_bool HT.out, HRR.out.bel⟩
end Go.Proofs.Ytmlkfnclniamiaa
