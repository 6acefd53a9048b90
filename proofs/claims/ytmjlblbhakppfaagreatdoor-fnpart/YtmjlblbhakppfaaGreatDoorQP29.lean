import Derived.Test.YtmjlblbhakppfaaGreatDoorQP26
import Derived.Test.YtmjlblbhakppfaaGreatDoorQP11
namespace Go.Proofs.YtmjlblbhakppfaaGreatDoor
open Go.RowKit

set_option maxRecDepth 100000 in
set_option maxHeartbeats 1000000 in
theorem i_rolesB (hcl : CloneCalls) (ns : List Nd) (v : Value) (w : World) (ok : ∀ n ∈ ns, n.fit) (hv : NdRd w v ns) (hl : ns.length ≤ 40) :
    Calls Tryz.prog 44 #[v] w fun e w' => ∃ v', e = .returned v' ∧ w'.ownsRow w.heap.size 9 1 v' (rolesI ns).length ((rolesI ns).map Value.string) ∧ Below w.heap.size w w' := by
  obtain ⟨ao, cap, rfl, hm, hr⟩ := hv
  obtain ⟨i0, hi, hz0, hz1, hz2⟩ := info_parts Tryz.infoS
  have HI := hide (And.intro hi (And.intro hz0 (And.intro hz1 hz2)))
  have HR := hide hr
  have HCL := hide hcl
  have HOK := hide ok
  clear hr hcl ok hi hz0 hz1 hz2
  go_enter Tryz.func44, Tryz.ntmps44
  go_wp2_with fail
  go_loopw [3, 10] (fun out i wr => ∃ (k : Nat) (acc : List ByteArray), k ≤ ns.length ∧ i = .int .i64 k ∧ acc = (ns.take k).foldl stepI [] ∧ wr.ownsRow w.heap.size 9 1 out acc.length (acc.map Value.string) ∧ acc.length ≤ 2 * k ∧ Below w.heap.size w wr)
    (fun _ i _ => ns.length - (intOf i).toNat)
  case atStart => exact ⟨0, [], Nat.zero_le _, rfl, rfl, World.ownsRow_nil _ _ _ _, by simp, Below.refl _ _⟩
  case round =>
    obtain ⟨k, acc, hk, rfl, hacc, hown, hal, hbel⟩ := hrel
    have HACC := hide hacc
    have HOWN := hide hown
    have HBEL := hide hbel
    have hszr := hbel.size
    clear hacc hbel hown
    by_cases hlt : k < ns.length
    · obtain ⟨b, o, rfl, hbB, hrow⟩ := HR.out (by intro h; simp [h] at hlt)
      have hnode := (hrow.get k hlt).carry hbB HBEL.out
      obtain ⟨n1, hn1⟩ : ∃ n1, n1 = ns[k] := ⟨_, rfl⟩
      rw [← hn1] at hnode
      have HN := hide (show (ns.take (k + 1)).foldl stepI [] = stepI acc n1 by rw [rolesI_next hlt, HACC.out, hn1])
      have HN1 := hide (show n1.fit by rw [hn1]; exact HOK.out _ (List.getElem_mem hlt))
      clear hn1 hrow
      have hbw : b < wr.heap.size := hnode.lt
      obtain ⟨c0, c1, c2, c3, c4⟩ := hnode
      go_wp2_with (go_at_call 75; refine (i_talkers n1 _).mono ?_; rintro e w1 ⟨v1, rfl, ht1, hf1, hb1⟩; have HT1 := hide ht1; obtain ⟨ao1, cap1, rfl, hc11, hc12, hc13⟩ := ht1; have HB1 : Hid (Below w.heap.size w w1) := hide (HBEL.out.trans (((alloc1 _ _).trans (hb1.mono (by simp))).mono hszr)); have HOW1 := hide (own_below (HOWN.out.alloc _) hb1); have hs1 := HB1.out.size; have HF1 := hide hf1; clear hb1 hc13 hf1)
      obtain ⟨ts, hts⟩ : ∃ ts, talkers n1 = ts := ⟨_, rfl⟩
      have HTS := hide hts
      rw [hts] at hc11 hc12 ⊢
      have hl2 : ts.length ≤ 2 := by rw [← hts]; exact talkers_len n1
      have HTO := hide (show ∀ t ∈ ts, t.size ≤ 1048576 by rw [← hts]; exact talkers_ok HN1.out)
      have HT2 : Hid (TextsAt w1 (.slice ao1 ts.length cap1) ts) := hide (by rw [← hts]; exact HT1.out)
      clear hts
      go_loopw [3, 17] (fun out i w2 => ∃ (j : Nat) (ac : List ByteArray), j ≤ ts.length ∧ i = .int .i64 j ∧ ac = (ts.take j).foldl addI acc ∧ w2.ownsRow w.heap.size 9 1 out ac.length (ac.map Value.string) ∧ ac.length ≤ 2 * k + j ∧ Below w.heap.size w w2 ∧ TextsAt w2 (.slice ao1 ts.length cap1) ts ∧ (∀ a, ao1 = some a → out.ownBlock ≠ some a.block) ∧ (∀ a, ao1 = some a → ts ≠ [] → a.block < w2.heap.size))
        (fun _ i _ => ts.length - (intOf i).toNat)
      case atStart =>
        refine ⟨0, acc, by omega, rfl, rfl, HOW1.out, by omega, HB1.out, HT2.out, fun a ha hb => ?_, fun a ha hne => ?_⟩
        · have h1 := (HOWN.out.lt _ hb).2
          have h2 := HF1.out a.block (by rw [ha]; rfl)
          simp at h2
          omega
        · obtain ⟨_, _, he, _, _, hc⟩ := HT2.out
          obtain ⟨b, o, hbo, hcell⟩ := hc hne
          have hlt := World.block_lt_of_cell? _ _ (hcell 0 (List.length_pos_iff.2 hne))
          have : a.block = b := by
            rw [ha] at he; injection he with he; rw [hbo] at he; injection he with he; rw [he]
          rw [this]; exact hlt
      case round =>
        obtain ⟨j, ac, hj, rfl, hac, hown2, hal2, hbel2, htx2, hoff2, hin2⟩ := hrel
        have HAC := hide hac
        have HOW2 := hide hown2
        have HBEL2 := hide hbel2
        have HTX2 := hide htx2
        have HOFF2 := hide hoff2
        have HIN2 := hide hin2
        have hz2 := hbel2.size
        clear hac hown2 hbel2 hoff2 hin2
        by_cases hjt : j < ts.length
        · obtain ⟨ao2, cap2, he2, -, -, hcl2⟩ := htx2
          obtain ⟨b2, o2, rfl, hcell2⟩ := hcl2 (by intro h; simp [h] at hjt)
          obtain ⟨rfl, rfl⟩ : ao1 = some ⟨b2, o2, none⟩ ∧ cap1 = cap2 := by simpa using he2
          have hck := hcell2 j hjt
          obtain ⟨s, hs⟩ : ∃ s, s = ts[j] := ⟨_, rfl⟩
          rw [← hs] at hck
          have HNX := hide (show (ts.take (j + 1)).foldl addI acc = addI ac s by rw [foldI_next hjt, HAC.out, hs])
          have HSO := hide (show s.size ≤ 1048576 by rw [hs]; exact HTO.out _ (List.getElem_mem hjt))
          clear hs hcell2 hcl2 he2
          cases hh : hasB ac s
          · have HH := hide hh
            clear hh
            go_wp2_with (first | (go_at_call 52; refine (s_contains ac s _ _ (texts_own HOW2.out (by omega))).mono ?_; rintro e w3 ⟨rfl, rfl⟩; rw [HH.out]) | (go_at_call 76; refine (HCL.out s _ HSO.out).mono ?_; rintro e w4 ⟨rfl, hb4⟩; have HOW4 := hide (own_below HOW2.out hb4); have hs4 := hb4.size; have HT4 := hide (HTX2.out.carry hb4); have HB4 := hide hb4; clear hb4) | (at_builtin; refine wpList_append_own_at _ rfl (.tmp 25) (.tmp 28) 30 rfl w.heap.size 9 i0 (.string ByteArray.empty) 1 16 Tryz.underlying30 HI.out.1 HI.out.2.1 HI.out.2.2.1 HI.out.2.2.2 rfl (by decide) _ ac.length (ac.map Value.string) rfl (HOW4.out.alloc _) ⟨_, 0, none⟩ 1 1 [.string s] rfl rfl (one_new (cell_new _ _ _ _ rfl)) (one_cell _) (by unfold maxLen; omega) (by omega) (by simp; omega) ?_; intro v5 w5 hown5 hgrow5 _ hob5; have HOW5 := hide hown5; have HOB5 := hide hob5; have HT5 : Hid (TextsAt w5 (.slice (some ⟨b2, o2, none⟩) ts.length cap1) ts) := hide ((HT4.out.carry (alloc1 _ _)).grown hgrow5 (fun b hb => by simp [Value.ownBlock] at hb; subst hb; exact fun h => HOFF2.out _ rfl h.symm)); have HS5 := hide hgrow5.size; have HB5 : Hid (Below w.heap.size w w5) := hide ((((HBEL2.out.trans (HB4.out.mono hz2)).alloc (by omega) _)).grown hgrow5 (by simp; omega) (own_row HOW4.out)); clear hown5 hgrow5 hob5))
            go_wp2_with fail
            go_roundw
            case rel =>
              have e : addI ac s = ac ++ [s] := by simp [addI, HH.out]
              have h5 := HS5.out
              simp at h5
              refine ⟨j + 1, ac ++ [s], by omega, by go_num, by rw [HNX.out, e], by have := HOW5.out; simpa using this, by simp; omega, HB5.out, HT5.out, fun a ha hb => ?_, fun a ha hne => ?_⟩
              · have h1 := HIN2.out a ha (by intro h; simp [h] at hjt)
                rcases HOB5.out with h | h
                · exact HOFF2.out a ha (h.symm.trans hb)
                · rw [h] at hb; simp at hb; omega
              · have h1 := HIN2.out a ha hne
                omega
            case measure => simp [intOf]; omega
          · have HH := hide hh
            clear hh
            go_wp2_with (go_at_call 52; refine (s_contains ac s _ _ (texts_own HOW2.out (by omega))).mono ?_; rintro e w3 ⟨rfl, rfl⟩; rw [HH.out])
            go_roundw
            case rel =>
              have e : addI ac s = ac := by simp [addI, HH.out]
              exact ⟨j + 1, ac, by omega, by go_num, by rw [HNX.out, e], HOW2.out, by omega, HBEL2.out, HTX2.out, HOFF2.out, HIN2.out⟩
            case measure => simp [intOf]; omega
        · clear htx2
          go_wp2_with fail
          go_roundw
          case rel =>
            have hst : stepI acc n1 = ac := by rw [HAC.out, stepI, HTS.out, List.take_of_length_le (by omega)]
            exact ⟨k + 1, ac, by omega, by go_num, by rw [HN.out, hst], HOW2.out, by omega, HBEL2.out⟩
          case measure => simp [intOf]; omega
    · go_wp2_with fail
      go_ret
      refine ⟨_, rfl, ?_, HBEL.out⟩
      have h1 : acc = rolesI ns := by rw [HACC.out, List.take_of_length_le (by omega)]; rfl
      rw [← h1]
      exact HOWN.out
theorem toListEq {a b : ByteArray} (h : (a.toList == b.toList) = true) : a = b := by
  have h := beq_iff_eq.1 h
  rw [Go.ByteArray.toList_eq, Go.ByteArray.toList_eq] at h
  apply ByteArray.ext
  exact Array.ext' h
theorem has_add (acc : List ByteArray) (t r : ByteArray) : hasB (addI acc t) r = (hasB acc r || t.toList == r.toList) := by
  unfold addI
  split
  · rename_i h
    cases hr : (t.toList == r.toList)
    · rw [Bool.or_false]
    · rw [Bool.or_true]
      have e : t = r := toListEq hr
      rw [← e]
      exact h
  · simp [hasB]
theorem has_adds (r : ByteArray) : ∀ (ts acc : List ByteArray), hasB (ts.foldl addI acc) r = (hasB acc r || ts.any fun t => t.toList == r.toList)
  | [], acc => by simp
  | t :: ts, acc => by rw [List.foldl_cons, has_adds r ts, has_add, List.any_cons, Bool.or_assoc]
theorem has_roles (r : ByteArray) (row : List Nd) (h : ∀ n ∈ row, n.op ≠ 5 ∧ n.op ≠ 6) : hasB (rolesI row) r = hasRole r row := by
  rw [rolesI_eq, has_adds]
  have e0 : hasB [] r = false := rfl
  rw [e0, Bool.false_or]
  clear e0
  induction row with
  | nil => rfl
  | cons n l ih =>
    rw [List.flatMap_cons, List.any_append, ih (fun m hm => h m (by simp [hm]))]
    unfold hasRole
    rw [List.any_cons]
    congr 1
    obtain ⟨h5, h6⟩ := h n (by simp)
    have e5 : (n.op == 5) = false := by simpa using h5
    have e6 : (n.op == 6) = false := by simpa using h6
    unfold talkers
    cases h3 : (n.op == 3)
    · simp [e5, e6]
    · simp
end Go.Proofs.YtmjlblbhakppfaaGreatDoor
namespace Go.Proofs.YtmjlblbhakppfaaGreatDoor
open Go.RowKit
attribute [local go_sem ↓] Go.wp_at_zero Go.wp_at_succ

theorem loop_row (n : Nat) (q : Pn n) (hq : shapeN n q) (x : ByteArray) (u : Value) (S : Nat → Prop) (w W : World) (hS : ∀ g, S g → g < w.heap.size) (h : PcAt w S n q u) (hlen : (rowN n q).length ≤ 999) (hW : Below w.heap.size w W) :
    Calls Tryz.prog 142 #[.agg #[.string x, u]] W fun e w' => Rowed W w' e (rowN (n + 1) (.loop x q)) := by
  obtain ⟨T, a, K, e, hm, _, hcall⟩ := row_rec n q (row_calls n q hq) x u w (h.up (fun g hg => hS g hg)) hlen
  injection e with e1 e2
  subst e1
  subst e2
  have h1 := hm w
  have h2 : (Go.method 304 111 (.agg #[.string x, u]) "loop.example/g00574/impl.row").run Tryz.prog w = .ok (142, .agg #[.string x, u]) w := by kernel_rfl
  rw [h2] at h1
  injection h1 with h1 _
  injection h1 with h1 _
  rw [h1]
  exact hcall W hW
theorem plan_ops : ∀ (n : Nat) (p : Pn n), planN n p → ∀ m ∈ rowN n p, m.op ≠ 5 ∧ m.op ≠ 6 := by
  have hleaf : ∀ x, ∀ m ∈ leafRow x, m.op ≠ 5 ∧ m.op ≠ 6 := by
    intro x m hm
    cases x <;> simp [leafRow] at hm <;> subst hm <;> exact ⟨by simp, by simp⟩
  intro n
  induction n with
  | zero => intro p _ m hm; exact hleaf p m hm
  | succ n ih =>
    intro p
    refine Pn.cases (P := fun p => planN (n + 1) p → ∀ m ∈ rowN (n + 1) p, m.op ≠ 5 ∧ m.op ≠ 6) (fun x _ m hm => hleaf x m hm) (fun x q hq m hm => ?_) (fun t l hp m hm => ?_) p
    · rw [row_loop, List.mem_cons] at hm
      rcases hm with rfl | hm
      · exact ⟨by simp, by simp⟩
      · exact ih q hq m hm
    · have hp' : t.op = 3 ∧ (t.a.toList == t.b.toList) = false ∧ 1 ≤ l.length ∧ l.length ≤ 4 ∧ ∀ b ∈ l, planN n b.p := hp
      rw [row_talk, List.mem_cons] at hm
      rcases hm with rfl | hm
      · rw [hp'.1]; exact ⟨by simp, by simp⟩
      · rw [brsBy, List.mem_flatMap] at hm
        obtain ⟨b, hb, hm⟩ := hm
        rw [List.mem_cons] at hm
        rcases hm with rfl | hm
        · exact ⟨by simp, by simp⟩
        · exact ih b.p (hp'.2.2.2.2 b hb) m hm
set_option maxRecDepth 100000 in
set_option maxHeartbeats 1000000 in
theorem loop_idle (role : ByteArray) (n : Nat) (q : Pn n) (hq : planN n q) (x : ByteArray) (u : Value) (S : Nat → Prop) (w W : World) (hS : ∀ g, S g → g < w.heap.size) (h : PcAt w S n q u) (hlen : (rowN (n + 1) (.loop x q)).length ≤ 40) (hfit : fitL (rowN (n + 1) (.loop x q))) (hW : Below w.heap.size w W) :
    Calls Tryz.prog 125 #[.agg #[.string x, u], .string role] W fun e w' => e = .returned (.bool (idleL role (rowN (n + 1) (.loop x q)))) ∧ Below W.heap.size W w' := by
  have HRW : Hid (∀ V, Below W.heap.size W V → Calls Tryz.prog 142 #[.agg #[.string x, u]] V fun e w' => Rowed V w' e (rowN (n + 1) (.loop x q))) := hide (fun V hV => loop_row n q (plan_shape n q hq) x u S w V hS h (by rw [row_loop] at hlen; simp only [List.length_cons] at hlen; omega) (hW.trans (hV.mono hW.size)))
  have HOPS := hide (plan_ops (n + 1) (.loop x q) hq)
  obtain ⟨T, av, rfl⟩ := h.shape
  obtain ⟨R, hR⟩ : ∃ R, rowN (n + 1) (.loop x q) = R := ⟨_, rfl⟩
  rw [hR] at HRW HOPS hlen hfit ⊢
  have HLEN := hide hlen
  have HFIT := hide hfit
  obtain ⟨q1, hq1⟩ : ∃ q1, hasB (rolesI R) role = q1 := ⟨_, rfl⟩
  obtain ⟨q2, hq2⟩ : ∃ q2, closedL [] R = q2 := ⟨_, rfl⟩
  have HI : Hid (idleL role R = (!q1 && q2)) := hide (by rw [idleL, ← has_roles role R HOPS.out, hq1, hq2])
  have HQ1 := hide hq1
  have HQ2 := hide hq2
  have HRL : Hid ((rolesI R).length ≤ 4294967296) := hide (by
    have : ∀ (l acc : List ByteArray), (l.foldl addI acc).length ≤ acc.length + l.length := by
      intro l
      induction l with
      | nil => intro acc; simp
      | cons t l ih => intro acc; rw [List.foldl_cons]; refine Nat.le_trans (ih _) ?_; unfold addI; split <;> simp only [List.length_cons, List.length_append, List.length_nil] <;> omega
    have h1 := this (R.flatMap talkers) []
    rw [← rolesI_eq] at h1
    have h2 : ∀ l : List Nd, (l.flatMap talkers).length ≤ 2 * l.length := by
      intro l
      induction l with
      | nil => simp
      | cons m l ih => rw [List.flatMap_cons, List.length_append, List.length_cons]; have := talkers_len m; omega
    have h3 := h2 R
    rw [List.length_nil, Nat.zero_add] at h1
    omega)
  clear hq1 hq2 hR hlen hfit h hq
  cases q1
  all_goals
    go_enter Tryz.func125, Tryz.ntmps125
    go_wp2_with (first
      | (go_at_call 142; refine (HRW.out _ (malloc1 _ _)).mono ?_; rintro e w1 ⟨v1, rfl, ho1, hb1⟩; have HN1 := hide (ho1.rd (by have := HLEN.out; omega)); have HB1 : Hid (Below W.heap.size W w1) := hide ((malloc1 W _).trans (hb1.mono (by simp))); clear ho1 hb1)
      | (go_at_call 44; refine (i_rolesB clone_calls R _ w1 HFIT.out HN1.out HLEN.out).mono ?_; rintro e w2 ⟨v2, rfl, ho2, hb2⟩; have HT2 := hide (texts_own ho2 HRL.out); have HB2 := hide hb2; clear ho2 hb2)
      | (go_at_call 52; refine (s_contains (rolesI R) role _ _ HT2.out).mono ?_; rw [HQ1.out]; rintro e w3 ⟨rfl, rfl⟩)
      | (go_at_call 143; refine (closed_calls R _ _ (HN1.out.on HB2.out)).mono ?_; rw [HQ2.out]; rintro e w4 ⟨rfl, hb4⟩; have HB4 := hide hb4; clear hb4))
    go_ret
    first
      | exact ⟨ret_bool (by rw [HI.out]; simp), (HB1.out.trans (HB2.out.mono HB1.out.size)).trans (HB4.out.mono (Nat.le_trans HB1.out.size HB2.out.size))⟩
      | exact ⟨ret_bool (by rw [HI.out]; simp), HB1.out.trans (HB2.out.mono HB1.out.size)⟩
end Go.Proofs.YtmjlblbhakppfaaGreatDoor
namespace Go.Proofs.YtmjlblbhakppfaaGreatDoor
open Go.RowKit
attribute [local go_sem ↓] Go.wp_at_zero Go.wp_at_succ

set_option maxRecDepth 100000 in
set_option maxHeartbeats 1000000 in
theorem part_other (role : ByteArray) (v : Value) (w : World) (t1 : ∀ W : World, (Instr.typeAssert v 69 111 true).run Tryz.prog W = .ok (.tuple #[.agg #[.string ByteArray.empty, .nilIface], .bool false]) W) (t2 : ∀ W : World, (Instr.typeAssert v 69 116 true).run Tryz.prog W = .ok (.tuple #[.agg #[.string ByteArray.empty, .string ByteArray.empty, .slice none 0 0], .bool false]) W) :
    Calls Tryz.prog 59 #[v, .string role] w fun e w' => e = .returned (.tuple #[v, .bool true]) ∧ Below w.heap.size w w' := by
  go_enter Tryz.func59, Tryz.ntmps59
  go_wp2_with fail
  go_ret2
  exact ⟨rfl, Below.refl _ _⟩
theorem part_leaf (role : ByteArray) (x : Option ByteArray) (v : Value) (w : World) (h : leafAt x v) : Calls Tryz.prog 59 #[v, .string role] w fun e w' => e = .returned (.tuple #[v, .bool true]) ∧ Below w.heap.size w w' := by
  cases x with
  | none => rw [show v = _ from h]; exact part_other role _ w (fun W => by kernel_rfl) (fun W => by kernel_rfl)
  | some x => rw [show v = _ from h]; exact part_other role _ w (fun W => by kernel_rfl) (fun W => by kernel_rfl)
set_option maxRecDepth 100000 in
set_option maxHeartbeats 1000000 in
theorem part_loop (role : ByteArray) (n : Nat) (S : Nat → Prop) (o : Option (Pn (n + 1))) (x : ByteArray) (T : TypeId) (av : Array Value) (w : World) (hc : ∀ W, Below w.heap.size w W → Calls Tryz.prog 89 #[.agg #[.string x, .iface T (.agg av)], .string role] W fun e w' => Merged (n + 1) S W w' e o) :
    Calls Tryz.prog 59 #[.iface 111 (.agg #[.string x, .iface T (.agg av)]), .string role] w fun e w' => Merged (n + 1) S w w' e o := by
  have HC := hide hc
  have t1 : ∀ W : World, (Instr.typeAssert (.iface 111 (.agg #[.string x, .iface T (.agg av)])) 69 111 true).run Tryz.prog W = .ok (.tuple #[.agg #[.string x, .iface T (.agg av)], .bool true]) W := fun W => by kernel_rfl
  clear hc
  go_enter Tryz.func59, Tryz.ntmps59
  go_wp2_with (go_at_call 89; refine (HC.out _ (malloc1 _ _)).mono ?_; rintro e w1 ⟨q1, rfl, h1a, h1b, hif1⟩; have HIF := hide hif1; clear hif1; have H1A := hide h1a; have HB1 : Hid (Below w.heap.size w w1) := hide ((malloc1 w _).trans (h1b.mono (by simp))); clear h1a h1b)
  go_ret2
  exact ⟨q1, rfl, (fun z hz => (H1A.out z hz).up (fun g hg => hg.elim .inl (fun k => .inr ⟨by have := k.1; simp at this; omega, k.2⟩))), HB1.out, HIF.out⟩
set_option maxRecDepth 100000 in
set_option maxHeartbeats 1000000 in
theorem part_msg (role : ByteArray) (n : Nat) (S : Nat → Prop) (o : Option (Pn (n + 1))) (a b : ByteArray) (p : Option Addr) (l c : Nat) (w : World) (hc : ∀ W, Below w.heap.size w W → Calls Tryz.prog 90 #[.agg #[.string a, .string b, .slice p l c], .string role] W fun e w' => Merged (n + 1) S W w' e o) :
    Calls Tryz.prog 59 #[.iface 116 (.agg #[.string a, .string b, .slice p l c]), .string role] w fun e w' => Merged (n + 1) S w w' e o := by
  have HC := hide hc
  have t1 : ∀ W : World, (Instr.typeAssert (.iface 116 (.agg #[.string a, .string b, .slice p l c])) 69 111 true).run Tryz.prog W = .ok (.tuple #[.agg #[.string ByteArray.empty, .nilIface], .bool false]) W := fun W => by kernel_rfl
  have t2 : ∀ W : World, (Instr.typeAssert (.iface 116 (.agg #[.string a, .string b, .slice p l c])) 69 116 true).run Tryz.prog W = .ok (.tuple #[.agg #[.string a, .string b, .slice p l c], .bool true]) W := fun W => by kernel_rfl
  clear hc
  go_enter Tryz.func59, Tryz.ntmps59
  go_wp2_with (go_at_call 90; refine (HC.out _ (malloc1 _ _)).mono ?_; rintro e w1 ⟨q1, rfl, h1a, h1b, hif1⟩; have HIF := hide hif1; clear hif1; have H1A := hide h1a; have HB1 : Hid (Below w.heap.size w w1) := hide ((malloc1 w _).trans (h1b.mono (by simp))); clear h1a h1b)
  go_ret2
  exact ⟨q1, rfl, (fun z hz => (H1A.out z hz).up (fun g hg => hg.elim .inl (fun k => .inr ⟨by have := k.1; simp at this; omega, k.2⟩))), HB1.out, HIF.out⟩
set_option maxRecDepth 100000 in
set_option maxHeartbeats 1000000 in
theorem loop_part (role : ByteArray) (n : Nat) (hpc : PartCalls role n) (S : Nat → Prop) (x : ByteArray) (q : Pn n) (hq : planN n q) (hlen : (rowN (n + 1) (.loop x q)).length ≤ 40) (hfit : fitL (rowN (n + 1) (.loop x q))) (u : Value) (w : World) (hS : ∀ g, S g → g < w.heap.size) (h : PcAt w S n q u) :
    Calls Tryz.prog 89 #[.agg #[.string x, u], .string role] w fun e w' => Merged (n + 1) S w w' e (partN role (n + 1) (.loop x q)) := by
  have HID : Hid (∀ W, Below w.heap.size w W → Calls Tryz.prog 125 #[.agg #[.string x, u], .string role] W fun e w' => e = .returned (.bool (idleL role (rowN (n + 1) (.loop x q)))) ∧ Below W.heap.size W w') := hide (fun W hW => loop_idle role n q hq x u S w W hS h hlen hfit hW)
  rw [row_loop] at hlen hfit
  have HPC : Hid (∀ W, Below w.heap.size w W → Calls Tryz.prog 59 #[u, .string role] W fun e w' => Merged n S W w' e (partN role n q)) := hide (fun W hW => hpc S q u W (fun g hg => Nat.lt_of_lt_of_le (hS g hg) hW.size) hq (by simp only [List.length_cons] at hlen; omega) (fit_cons.1 hfit).2 (PcAt.carry (fun g hg => hW.block g (hS g hg)) (fun g hg => hg) _ _ _ h))
  obtain ⟨T, av, rfl⟩ := h.shape
  obtain ⟨i, hi⟩ : ∃ i, idleL role (rowN (n + 1) (.loop x q)) = i := ⟨_, rfl⟩
  obtain ⟨om, hom⟩ : ∃ om, partN role n q = om := ⟨_, rfl⟩
  have HP : Hid (partN role (n + 1) (.loop x q) = if i then some (.leaf none) else om.map (Pn.loop x)) := hide (by
    show (if idleL role (rowN (n + 1) (.loop x q)) then some (Pn.leaf none) else (partN role n q).map (Pn.loop x)) = _
    rw [hi, hom])
  rw [hi] at HID
  rw [hom] at HPC
  clear hi hom hlen hfit h hpc
  cases i
  · go_enter Tryz.func89, Tryz.ntmps89
    go_wp2_with (first
      | (go_at_call 125; refine (HID.out _ (malloc1 _ _)).mono ?_; rintro e w1 ⟨rfl, hb1⟩; have HB1 : Hid (Below w.heap.size w w1) := hide ((malloc1 w _).trans (hb1.mono (by simp))); have z0 := (hb1.cell (p := ⟨w.heap.size, 0, none⟩) (by simp)); have z1 := (hb1.cell (p := ⟨w.heap.size, 1, none⟩) (by simp)); simp at z0 z1; have hz1 : w.heap.size < w1.heap.size := (by have := hb1.size; simp at this; omega); clear hb1)
      | (go_at_call 59; refine (HPC.out _ HB1.out).mono ?_; rintro e w2 ⟨q2, rfl, h2a, h2b, hif2⟩; have H2A := hide h2a; have HB2 : Hid (Below w.heap.size w w2) := hide (HB1.out.trans (h2b.mono HB1.out.size)); have y0 := (h2b.cell (p := ⟨w.heap.size, 0, none⟩) hz1).trans z0; have HZ := hide HB1.out.size; clear h2a h2b; rcases hif2 with rfl | ⟨t2, a2, rfl⟩))
    all_goals
      go_ret2
      rw [HP.out]
      refine ⟨_, ret2_bool ?_, fun z hz => ?_, HB2.out, (by first | exact .inl rfl | exact .inr ⟨_, _, rfl⟩)⟩
      · show (om.map (Pn.loop x)).isSome = _
        cases om <;> rfl
      · have hz' : om.map (Pn.loop x) = some z := hz
        cases om with
        | none => cases hz'
        | some y =>
          simp only [Option.map_some, Option.some.injEq] at hz'
          subst hz'
          exact ⟨_, rfl, (H2A.out y rfl).up (fun g hg => hg.elim .inl (fun k => .inr ⟨Nat.le_trans HZ.out k.1, k.2⟩))⟩
  · go_enter Tryz.func89, Tryz.ntmps89
    go_wp2_with (go_at_call 125; refine (HID.out _ (malloc1 _ _)).mono ?_; rintro e w1 ⟨rfl, hb1⟩; have HB1 : Hid (Below w.heap.size w w1) := hide ((malloc1 w _).trans (hb1.mono (by simp))); clear hb1)
    go_ret2
    rw [HP.out]
    exact ⟨_, rfl, (fun z hz => by have hz' : some (Pn.leaf none) = some z := hz; injection hz' with hz'; subst hz'; exact rfl), HB1.out, (by first | exact .inl rfl | exact .inr ⟨_, _, rfl⟩)⟩
theorem leaf_merged {role : ByteArray} {n : Nat} {S : Nat → Prop} {x : Option ByteArray} {z0 : Pn n} {v : Value} {w : World} (h : leafAt x v) (hz : ∀ W, PcAt W (plus S w.heap.size W.heap.size) n z0 v) : Calls Tryz.prog 59 #[v, .string role] w fun e w' => Merged n S w w' e (some z0) := by
  refine (part_leaf role x v w h).mono ?_
  rintro e w' ⟨rfl, hb⟩
  obtain ⟨t, a, rfl⟩ := leaf_shape h
  exact ⟨_, rfl, (fun z hz' => by injection hz' with hz'; subst hz'; exact hz w'), hb, .inr ⟨_, _, rfl⟩⟩
theorem part_calls (role : ByteArray) : ∀ n : Nat, PartCalls role n := by
  intro n
  induction n with
  | zero =>
    intro S p u w hS hp hl hf h
    exact leaf_merged (x := p) h (fun W => h)
  | succ n ih =>
    intro S p
    refine Pn.cases (P := fun p => ∀ (u : Value) (w : World), (∀ g, S g → g < w.heap.size) → planN (n + 1) p → (rowN (n + 1) p).length ≤ 40 → fitL (rowN (n + 1) p) → PcAt w S (n + 1) p u → Calls Tryz.prog 59 #[u, .string role] w fun e w' => Merged (n + 1) S w w' e (partN role (n + 1) p)) (fun x u w hS hp hl hf h => ?_) (fun x q u w hS hp hl hf h => ?_) (fun t l u w hS hp hl hf h => ?_) p
    · exact leaf_merged (x := x) h (fun W => h)
    · obtain ⟨u', rfl, h⟩ := h
      have hsh := h.shape
      obtain ⟨T, av, rfl⟩ := hsh
      refine part_loop role n S _ x T av w (fun W hW => loop_part role n ih S x q hp hl hf _ W (fun g hg => Nat.lt_of_lt_of_le (hS g hg) hW.size) (PcAt.carry (fun g hg => hW.block g (hS g hg)) (fun g hg => hg) _ _ _ h))
    · obtain ⟨op, a, b⟩ := t
      have hp' : op = 3 ∧ (a.toList == b.toList) = false ∧ 1 ≤ l.length ∧ l.length ≤ 4 ∧ ∀ b ∈ l, planN n b.p := hp
      obtain ⟨rfl, -⟩ := hp'
      obtain ⟨sl, rfl, h⟩ := h
      rw [row_talk] at hl hf
      have h' := h
      obtain ⟨ao, cap, rfl, -⟩ := h'
      rw [part_talk]
      refine part_msg role n S _ a b ao l.length cap w (fun W hW => message_part role n ih S a b l hp (by simp only [List.length_cons] at hl; omega) (fit_cons.1 hf).2 _ W (fun g hg => Nat.lt_of_lt_of_le (hS g hg) hW.size) (h.carry (fun g hg => hW.block g (hS g hg)) (fun g hg => hg) (fun b _ u hu => PcAt.carry (fun g hg => hW.block g (hS g hg)) (fun g hg => hg) _ _ _ hu)))
end Go.Proofs.YtmjlblbhakppfaaGreatDoor
namespace Go.Proofs.YtmjlblbhakppfaaGreatDoor
open Go.RowKit

def fourN : (n : Nat) → Pn n → Prop
  | 0, _ => True
  | n + 1, p => p.by (fun _ => True) (fun _ q => fourN n q) (fun _ l => l.length ≤ 4 ∧ ∀ b ∈ l, fourN n b.p)
theorem up_four : ∀ (n : Nat) (p : Pn n), fourN n p → fourN (n + 1) (upN n p) := by
  intro n
  induction n with
  | zero => intro p _; trivial
  | succ n ih =>
    intro p
    refine Pn.cases (P := fun p => fourN (n + 1) p → fourN (n + 2) (upN (n + 1) p)) (fun x _ => trivial) (fun x q hp => ih q hp) (fun t l hp => ?_) p
    have hp' : l.length ≤ 4 ∧ ∀ b ∈ l, fourN n b.p := hp
    refine ⟨by rw [List.length_map]; exact hp'.1, fun b hb => ?_⟩
    obtain ⟨c, hc, rfl⟩ := List.mem_map.1 hb
    exact ih c.p (hp'.2 c hc)
theorem merge_four : ∀ (n : Nat) (x y z : Pn n), fourN n x → fourN n y → mergeN n x y = some z → fourN n z := by
  intro n
  induction n with
  | zero => intro x y z _ _ _; trivial
  | succ n ih =>
    intro x y z hx hy h
    rw [mergeN] at h
    split at h
    · injection h with h; subst h; exact hx
    · split at h
      · rename_i a cs b ds ex ey
        split at h
        · split at h
          · rename_i l hl
            split at h
            · rename_i h4
              injection h with h
              subst h
              obtain ⟨x', rfl⟩ := hear_some ex
              obtain ⟨y', rfl⟩ := hear_some ey
              have hx' : cs.length ≤ 4 ∧ ∀ b ∈ cs, fourN n b.p := hx
              have hy' : ds.length ≤ 4 ∧ ∀ b ∈ ds, fourN n b.p := hy
              exact ⟨h4, mergeBy_all (Q := fourN n) ih ds cs l hx'.2 hy'.2 hl⟩
            · cases h
          · cases h
        · cases h
      · cases h
theorem part_four (role : ByteArray) : ∀ (n : Nat) (p q : Pn n), planN n p → partN role n p = some q → fourN n q := by
  intro n
  induction n with
  | zero => intro p q _ _; trivial
  | succ n ih =>
    intro p
    refine Pn.cases (P := fun p => ∀ q, planN (n + 1) p → partN role (n + 1) p = some q → fourN (n + 1) q) (fun x q _ h => ?_) (fun x p q hp h => ?_) (fun t l q hp h => ?_) p
    · have h' : some (Pn.leaf x) = some q := h
      injection h' with h'; subst h'; trivial
    · have h' : (if idleL role (rowN (n + 1) (.loop x p)) then some (Pn.leaf none) else (partN role n p).map (Pn.loop x)) = some q := h
      have hp' : planN n p := hp
      split at h'
      · injection h' with h'
        subst h'
        trivial
      · cases hq : partN role n p with
        | none => rw [hq] at h'; cases h'
        | some q' =>
          rw [hq] at h'
          simp only [Option.map_some, Option.some.injEq] at h'
          subst h'
          exact ih p q' hp' hq
    · have h' : (match partsBy (partN role n) l with
        | none => none
        | some r => if role.toList == t.a.toList then some (Pn.talk ⟨5, noT, t.b⟩ r) else if role.toList == t.b.toList then some (.talk ⟨6, noT, t.a⟩ r) else
          match r with
          | [] => none
          | c :: r => (mergeAll (mergeN n) c.p r).map (upN n)) = some q := h
      have hp' : t.op = 3 ∧ (t.a.toList == t.b.toList) = false ∧ 1 ≤ l.length ∧ l.length ≤ 4 ∧ ∀ b ∈ l, planN n b.p := hp
      split at h'
      · cases h'
      · rename_i r hr
        have hall := parts_all (Q := planN n) (R := fourN n) (fun x y hx hy => ih x y hx hy) l r hp'.2.2.2.2 hr
        have hrl : r.length ≤ 4 := by have := (parts_sz (f := rowN n) (Q := planN n) (fun x y hx hy => part_sz role n x y hx hy) l r hp'.2.2.2.2 hr).2; omega
        split at h'
        · injection h' with h'
          subst h'
          exact ⟨hrl, hall⟩
        · split at h'
          · injection h' with h'
            subst h'
            exact ⟨hrl, hall⟩
          · split at h'
            · cases h'
            · rename_i c r
              cases hm : mergeAll (mergeN n) c.p r with
              | none => rw [hm] at h'; cases h'
              | some z =>
                rw [hm] at h'
                simp only [Option.map_some, Option.some.injEq] at h'
                subst h'
                exact up_four n z (mergeAll_all (Q := fourN n) (fun x y z hx hy h => merge_four n x y z hx hy h) r c.p z (hall c (by simp)) (fun b hb => hall b (by simp [hb])) hm)
def takeBy {α : Type} (mg : α → α → Option α) (acc : List (Br α)) (d : Br α) : Option (List (Br α)) :=
  match findB d.l acc with
  | none => if acc.length < 4 then some (acc ++ [d]) else none
  | some i => match acc[i]? with
    | none => none
    | some b => match mg b.p d.p with
      | none => none
      | some q => if b.s == d.s then some (acc.set i ⟨b.l, b.s, q⟩) else none
def takesBy {α : Type} (mg : α → α → Option α) : List (Br α) → List (Br α) → Option (List (Br α))
  | acc, [] => some acc
  | acc, d :: ds => match takeBy mg acc d with
    | none => none
    | some l => takesBy mg l ds
def fourO {α : Type} : Option (List α) → Option (List α)
  | none => none
  | some l => if l.length ≤ 4 then some l else none
theorem mergeBy_len {α : Type} {mg : α → α → Option α} : ∀ (ds acc l : List (Br α)), mergeBy mg acc ds = some l → acc.length ≤ l.length
  | [], acc, l, h => by
    rw [mergeBy] at h
    injection h with h
    subst h
    exact Nat.le_refl _
  | d :: ds, acc, l, h => by
    rw [mergeBy] at h
    split at h
    · have := mergeBy_len ds _ l h
      simp at this
      omega
    · split at h
      · cases h
      · split at h
        · cases h
        · split at h
          · have := mergeBy_len ds _ l h
            simpa using this
          · cases h
theorem takes_merge {α : Type} {mg : α → α → Option α} : ∀ (ds acc : List (Br α)), acc.length ≤ 4 → takesBy mg acc ds = fourO (mergeBy mg acc ds)
  | [], acc, h => by rw [takesBy, mergeBy, fourO, if_pos h]
  | d :: ds, acc, h => by
    rw [takesBy, mergeBy, takeBy]
    cases hf : findB d.l acc with
    | none =>
      dsimp only
      by_cases h4 : acc.length < 4
      · rw [if_pos h4]
        exact takes_merge ds (acc ++ [d]) (by simp; omega)
      · rw [if_neg h4]
        dsimp only
        cases hm : mergeBy mg (acc ++ [d]) ds with
        | none => rfl
        | some l =>
          have := mergeBy_len ds _ l hm
          simp at this
          rw [fourO, if_neg (by omega)]
    | some i =>
      dsimp only
      cases acc[i]? with
      | none => rfl
      | some b =>
        dsimp only
        cases mg b.p d.p with
        | none => rfl
        | some q =>
          dsimp only
          cases hs : (b.s == d.s) with
          | false => rfl
          | true =>
            simp only [if_true]
            exact takes_merge ds _ (by rw [List.length_set]; exact h)
theorem takes_hear {n : Nat} (a : ByteArray) (cs ds : List (Br (Pn n))) (h : cs.length ≤ 4) : (takesBy (mergeN n) cs ds).map (Pn.talk ⟨6, noT, a⟩) = hearO n a (mergeBy (mergeN n) cs ds) := by
  rw [takes_merge ds cs h]
  cases mergeBy (mergeN n) cs ds with
  | none => rfl
  | some l =>
    rw [fourO, hearO]
    split <;> rfl
end Go.Proofs.YtmjlblbhakppfaaGreatDoor
