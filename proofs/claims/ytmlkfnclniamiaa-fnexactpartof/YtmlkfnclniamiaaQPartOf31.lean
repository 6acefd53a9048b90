/- The program's part of a role in a piece. -/
import Derived.Test.YtmlkfnclniamiaaQPartOf30
namespace Go.Proofs.Ytmlkfnclniamiaa
open Go.RowKit
attribute [local go_sem ↓] Go.wp_at_zero Go.wp_at_succ

theorem loop_row (n : Nat) (q : Pn n) (hq : shapeN n q) (x : ByteArray) (u : Value) (S : Nat → Prop) (w W : World) (hS : ∀ g, S g → g < w.heap.size) (h : PcAt w S n q u) (hlen : (rowN n q).length ≤ 999) (hW : Below w.heap.size w W) :
    Calls Try.prog 133 #[.agg #[.string x, u]] W fun e w' => Rowed W w' e (rowN (n + 1) (.loop x q)) := by
  obtain ⟨T, a, K, e, hm, _, hcall⟩ := row_rec n q (row_calls n q hq) x u w (h.up (fun g hg => hS g hg)) hlen
  injection e with e1 e2
  subst e1
  subst e2
  have h1 := hm w
  have h2 : (Go.method 279 98 (.agg #[.string x, u]) "loop.example/g00574/impl.row").run Try.prog w = .ok (133, .agg #[.string x, u]) w := by kernel_rfl
  rw [h2] at h1
  injection h1 with h1 _
  injection h1 with h1 _
  rw [h1]
  exact hcall W hW
theorem plan_ops : ∀ (n : Nat) (p : Pn n), planN n p → ∀ m ∈ rowN n p, m.op ≠ 5 ∧ m.op ≠ 6 := by
  have hleaf : ∀ x, ∀ m ∈ leafRow x, m.op ≠ 5 ∧ m.op ≠ 6 := by
    intro x m hm
    cases x <;> simp [leafRow] at hm <;> subst hm <;> exact ⟨by simp, by simp⟩
  intro n
  induction n with
  | zero => intro p _ m hm; exact hleaf p m hm
  | succ n ih =>
    intro p
    refine Pn.cases (P := fun p => planN (n + 1) p → ∀ m ∈ rowN (n + 1) p, m.op ≠ 5 ∧ m.op ≠ 6) (fun x _ m hm => hleaf x m hm) (fun x q hq m hm => ?_) (fun t l hp m hm => ?_) p
    · rw [row_loop, List.mem_cons] at hm
      rcases hm with rfl | hm
      · exact ⟨by simp, by simp⟩
      · exact ih q hq m hm
    · have hp' : t.op = 3 ∧ (t.a.toList == t.b.toList) = false ∧ 1 ≤ l.length ∧ l.length ≤ 4 ∧ ∀ b ∈ l, planN n b.p := hp
      rw [row_talk, List.mem_cons] at hm
      rcases hm with rfl | hm
      · rw [hp'.1]; exact ⟨by simp, by simp⟩
      · rw [brsBy, List.mem_flatMap] at hm
        obtain ⟨b, hb, hm⟩ := hm
        rw [List.mem_cons] at hm
        rcases hm with rfl | hm
        · exact ⟨by simp, by simp⟩
        · exact ih b.p (hp'.2.2.2.2 b hb) m hm
set_option maxRecDepth 100000 in
set_option maxHeartbeats 1000000 in
theorem loop_idle (role : ByteArray) (n : Nat) (q : Pn n) (hq : planN n q) (x : ByteArray) (u : Value) (S : Nat → Prop) (w W : World) (hS : ∀ g, S g → g < w.heap.size) (h : PcAt w S n q u) (hlen : (rowN (n + 1) (.loop x q)).length ≤ 40) (hfit : fitL (rowN (n + 1) (.loop x q))) (hW : Below w.heap.size w W) :
    Calls Try.prog 116 #[.agg #[.string x, u], .string role] W fun e w' => e = .returned (.bool (idleL role (rowN (n + 1) (.loop x q)))) ∧ Below W.heap.size W w' := by
  have HRW : Hid (∀ V, Below W.heap.size W V → Calls Try.prog 133 #[.agg #[.string x, u]] V fun e w' => Rowed V w' e (rowN (n + 1) (.loop x q))) := hide (fun V hV => loop_row n q (plan_shape n q hq) x u S w V hS h (by rw [row_loop] at hlen; simp only [List.length_cons] at hlen; omega) (hW.trans (hV.mono hW.size)))
  have HOPS := hide (plan_ops (n + 1) (.loop x q) hq)
  obtain ⟨T, av, rfl⟩ := h.shape
  obtain ⟨R, hR⟩ : ∃ R, rowN (n + 1) (.loop x q) = R := ⟨_, rfl⟩
  rw [hR] at HRW HOPS hlen hfit ⊢
  have HLEN := hide hlen
  have HFIT := hide hfit
  obtain ⟨q1, hq1⟩ : ∃ q1, hasB (rolesI R) role = q1 := ⟨_, rfl⟩
  obtain ⟨q2, hq2⟩ : ∃ q2, closedL [] R = q2 := ⟨_, rfl⟩
  have HI : Hid (idleL role R = (!q1 && q2)) := hide (by rw [idleL, ← has_roles role R HOPS.out, hq1, hq2])
  have HQ1 := hide hq1
  have HQ2 := hide hq2
  have HRL : Hid ((rolesI R).length ≤ 4294967296) := hide (by
    have : ∀ (l acc : List ByteArray), (l.foldl addI acc).length ≤ acc.length + l.length := by
      intro l
      induction l with
      | nil => intro acc; simp
      | cons t l ih => intro acc; rw [List.foldl_cons]; refine Nat.le_trans (ih _) ?_; unfold addI; split <;> simp only [List.length_cons, List.length_append, List.length_nil] <;> omega
    have h1 := this (R.flatMap talkers) []
    rw [← rolesI_eq] at h1
    have h2 : ∀ l : List Nd, (l.flatMap talkers).length ≤ 2 * l.length := by
      intro l
      induction l with
      | nil => simp
      | cons m l ih => rw [List.flatMap_cons, List.length_append, List.length_cons]; have := talkers_len m; omega
    have h3 := h2 R
    rw [List.length_nil, Nat.zero_add] at h1
    omega)
  clear hq1 hq2 hR hlen hfit h hq
  cases q1
  all_goals
    go_enter Try.func116, Try.ntmps116
    go_wp2_with (first
      | (go_at_call 133; refine (HRW.out _ (malloc1 _ _)).mono ?_; rintro e w1 ⟨v1, rfl, ho1, hb1⟩; have HN1 := hide (ho1.rd (by have := HLEN.out; omega)); have HB1 : Hid (Below W.heap.size W w1) := hide ((malloc1 W _).trans (hb1.mono (by simp))); clear ho1 hb1)
      | (go_at_call 47; refine (i_rolesB clone_calls R _ w1 HFIT.out HN1.out HLEN.out).mono ?_; rintro e w2 ⟨v2, rfl, ho2, hb2⟩; have HT2 := hide (texts_own ho2 HRL.out); have HB2 := hide hb2; clear ho2 hb2)
      | (go_at_call 69; refine (s_contains (rolesI R) role _ _ HT2.out).mono ?_; rw [HQ1.out]; rintro e w3 ⟨rfl, rfl⟩)
      | (go_at_call 134; refine (closed_calls R _ _ (HN1.out.on HB2.out)).mono ?_; rw [HQ2.out]; rintro e w4 ⟨rfl, hb4⟩; have HB4 := hide hb4; clear hb4))
    go_ret
    first
      | exact ⟨ret_bool (by rw [HI.out]; simp), (HB1.out.trans (HB2.out.mono HB1.out.size)).trans (HB4.out.mono (Nat.le_trans HB1.out.size HB2.out.size))⟩
      | exact ⟨ret_bool (by rw [HI.out]; simp), HB1.out.trans (HB2.out.mono HB1.out.size)⟩
end Go.Proofs.Ytmlkfnclniamiaa
/- The program's part of a role: the type switch. -/
namespace Go.Proofs.Ytmlkfnclniamiaa
open Go.RowKit
attribute [local go_sem ↓] Go.wp_at_zero Go.wp_at_succ

set_option maxRecDepth 100000 in
set_option maxHeartbeats 1000000 in
theorem part_other (role : ByteArray) (v : Value) (w : World) (t1 : ∀ W : World, (Instr.typeAssert v 63 98 true).run Try.prog W = .ok (.tuple #[.agg #[.string ByteArray.empty, .nilIface], .bool false]) W) (t2 : ∀ W : World, (Instr.typeAssert v 63 103 true).run Try.prog W = .ok (.tuple #[.agg #[.string ByteArray.empty, .string ByteArray.empty, .slice none 0 0], .bool false]) W) :
    Calls Try.prog 54 #[v, .string role] w fun e w' => e = .returned (.tuple #[v, .bool true]) ∧ Below w.heap.size w w' := by
  go_enter Try.func54, Try.ntmps54
  go_wp2_with fail
  go_ret2
  exact ⟨rfl, Below.refl _ _⟩
theorem part_leaf (role : ByteArray) (x : Option ByteArray) (v : Value) (w : World) (h : leafAt x v) : Calls Try.prog 54 #[v, .string role] w fun e w' => e = .returned (.tuple #[v, .bool true]) ∧ Below w.heap.size w w' := by
  cases x with
  | none => rw [show v = _ from h]; exact part_other role _ w (fun W => by kernel_rfl) (fun W => by kernel_rfl)
  | some x => rw [show v = _ from h]; exact part_other role _ w (fun W => by kernel_rfl) (fun W => by kernel_rfl)
set_option maxRecDepth 100000 in
set_option maxHeartbeats 1000000 in
theorem part_loop (role : ByteArray) (n : Nat) (S : Nat → Prop) (o : Option (Pn (n + 1))) (x : ByteArray) (T : TypeId) (av : Array Value) (w : World) (hc : ∀ W, Below w.heap.size w W → Calls Try.prog 81 #[.agg #[.string x, .iface T (.agg av)], .string role] W fun e w' => Merged (n + 1) S W w' e o) :
    Calls Try.prog 54 #[.iface 98 (.agg #[.string x, .iface T (.agg av)]), .string role] w fun e w' => Merged (n + 1) S w w' e o := by
  have HC := hide hc
  have t1 : ∀ W : World, (Instr.typeAssert (.iface 98 (.agg #[.string x, .iface T (.agg av)])) 63 98 true).run Try.prog W = .ok (.tuple #[.agg #[.string x, .iface T (.agg av)], .bool true]) W := fun W => by kernel_rfl
  clear hc
  go_enter Try.func54, Try.ntmps54
  go_wp2_with (go_at_call 81; refine (HC.out _ (malloc1 _ _)).mono ?_; rintro e w1 ⟨q1, rfl, h1a, h1b, hif1⟩; have HIF := hide hif1; clear hif1; have H1A := hide h1a; have HB1 : Hid (Below w.heap.size w w1) := hide ((malloc1 w _).trans (h1b.mono (by simp))); clear h1a h1b)
  go_ret2
  exact ⟨q1, rfl, (fun z hz => (H1A.out z hz).up (fun g hg => hg.elim .inl (fun k => .inr ⟨by have := k.1; simp at this; omega, k.2⟩))), HB1.out, HIF.out⟩
set_option maxRecDepth 100000 in
set_option maxHeartbeats 1000000 in
theorem part_msg (role : ByteArray) (n : Nat) (S : Nat → Prop) (o : Option (Pn (n + 1))) (a b : ByteArray) (p : Option Addr) (l c : Nat) (w : World) (hc : ∀ W, Below w.heap.size w W → Calls Try.prog 82 #[.agg #[.string a, .string b, .slice p l c], .string role] W fun e w' => Merged (n + 1) S W w' e o) :
    Calls Try.prog 54 #[.iface 103 (.agg #[.string a, .string b, .slice p l c]), .string role] w fun e w' => Merged (n + 1) S w w' e o := by
  have HC := hide hc
  have t1 : ∀ W : World, (Instr.typeAssert (.iface 103 (.agg #[.string a, .string b, .slice p l c])) 63 98 true).run Try.prog W = .ok (.tuple #[.agg #[.string ByteArray.empty, .nilIface], .bool false]) W := fun W => by kernel_rfl
  have t2 : ∀ W : World, (Instr.typeAssert (.iface 103 (.agg #[.string a, .string b, .slice p l c])) 63 103 true).run Try.prog W = .ok (.tuple #[.agg #[.string a, .string b, .slice p l c], .bool true]) W := fun W => by kernel_rfl
  clear hc
  go_enter Try.func54, Try.ntmps54
  go_wp2_with (go_at_call 82; refine (HC.out _ (malloc1 _ _)).mono ?_; rintro e w1 ⟨q1, rfl, h1a, h1b, hif1⟩; have HIF := hide hif1; clear hif1; have H1A := hide h1a; have HB1 : Hid (Below w.heap.size w w1) := hide ((malloc1 w _).trans (h1b.mono (by simp))); clear h1a h1b)
  go_ret2
  exact ⟨q1, rfl, (fun z hz => (H1A.out z hz).up (fun g hg => hg.elim .inl (fun k => .inr ⟨by have := k.1; simp at this; omega, k.2⟩))), HB1.out, HIF.out⟩
set_option maxRecDepth 100000 in
set_option maxHeartbeats 1000000 in
theorem loop_part (role : ByteArray) (n : Nat) (hpc : PartCalls role n) (S : Nat → Prop) (x : ByteArray) (q : Pn n) (hq : planN n q) (hlen : (rowN (n + 1) (.loop x q)).length ≤ 40) (hfit : fitL (rowN (n + 1) (.loop x q))) (u : Value) (w : World) (hS : ∀ g, S g → g < w.heap.size) (h : PcAt w S n q u) :
    Calls Try.prog 81 #[.agg #[.string x, u], .string role] w fun e w' => Merged (n + 1) S w w' e (partN role (n + 1) (.loop x q)) := by
  have HID : Hid (∀ W, Below w.heap.size w W → Calls Try.prog 116 #[.agg #[.string x, u], .string role] W fun e w' => e = .returned (.bool (idleL role (rowN (n + 1) (.loop x q)))) ∧ Below W.heap.size W w') := hide (fun W hW => loop_idle role n q hq x u S w W hS h hlen hfit hW)
  rw [row_loop] at hlen hfit
  have HPC : Hid (∀ W, Below w.heap.size w W → Calls Try.prog 54 #[u, .string role] W fun e w' => Merged n S W w' e (partN role n q)) := hide (fun W hW => hpc S q u W (fun g hg => Nat.lt_of_lt_of_le (hS g hg) hW.size) hq (by simp only [List.length_cons] at hlen; omega) (fit_cons.1 hfit).2 (PcAt.carry (fun g hg => hW.block g (hS g hg)) (fun g hg => hg) _ _ _ h))
  obtain ⟨T, av, rfl⟩ := h.shape
  obtain ⟨i, hi⟩ : ∃ i, idleL role (rowN (n + 1) (.loop x q)) = i := ⟨_, rfl⟩
  obtain ⟨om, hom⟩ : ∃ om, partN role n q = om := ⟨_, rfl⟩
  have HP : Hid (partN role (n + 1) (.loop x q) = if i then some (.leaf none) else om.map (Pn.loop x)) := hide (by
    show (if idleL role (rowN (n + 1) (.loop x q)) then some (Pn.leaf none) else (partN role n q).map (Pn.loop x)) = _
    rw [hi, hom])
  rw [hi] at HID
  rw [hom] at HPC
  clear hi hom hlen hfit h hpc
  cases i
  · go_enter Try.func81, Try.ntmps81
    go_wp2_with (first
      | (go_at_call 116; refine (HID.out _ (malloc1 _ _)).mono ?_; rintro e w1 ⟨rfl, hb1⟩; have HB1 : Hid (Below w.heap.size w w1) := hide ((malloc1 w _).trans (hb1.mono (by simp))); have z0 := (hb1.cell (p := ⟨w.heap.size, 0, none⟩) (by simp)); have z1 := (hb1.cell (p := ⟨w.heap.size, 1, none⟩) (by simp)); simp at z0 z1; have hz1 : w.heap.size < w1.heap.size := (by have := hb1.size; simp at this; omega); clear hb1)
      | (go_at_call 54; refine (HPC.out _ HB1.out).mono ?_; rintro e w2 ⟨q2, rfl, h2a, h2b, hif2⟩; have H2A := hide h2a; have HB2 : Hid (Below w.heap.size w w2) := hide (HB1.out.trans (h2b.mono HB1.out.size)); have y0 := (h2b.cell (p := ⟨w.heap.size, 0, none⟩) hz1).trans z0; have HZ := hide HB1.out.size; clear h2a h2b; rcases hif2 with rfl | ⟨t2, a2, rfl⟩))
    all_goals
      go_ret2
      rw [HP.out]
      refine ⟨_, ret2_bool ?_, fun z hz => ?_, HB2.out, (by first | exact .inl rfl | exact .inr ⟨_, _, rfl⟩)⟩
      · show (om.map (Pn.loop x)).isSome = _
        cases om <;> rfl
      · have hz' : om.map (Pn.loop x) = some z := hz
        cases om with
        | none => cases hz'
        | some y =>
          simp only [Option.map_some, Option.some.injEq] at hz'
          subst hz'
          exact ⟨_, rfl, (H2A.out y rfl).up (fun g hg => hg.elim .inl (fun k => .inr ⟨Nat.le_trans HZ.out k.1, k.2⟩))⟩
  · go_enter Try.func81, Try.ntmps81
    go_wp2_with (go_at_call 116; refine (HID.out _ (malloc1 _ _)).mono ?_; rintro e w1 ⟨rfl, hb1⟩; have HB1 : Hid (Below w.heap.size w w1) := hide ((malloc1 w _).trans (hb1.mono (by simp))); clear hb1)
    go_ret2
    rw [HP.out]
    exact ⟨_, rfl, (fun z hz => by have hz' : some (Pn.leaf none) = some z := hz; injection hz' with hz'; subst hz'; exact rfl), HB1.out, (by first | exact .inl rfl | exact .inr ⟨_, _, rfl⟩)⟩
theorem leaf_merged {role : ByteArray} {n : Nat} {S : Nat → Prop} {x : Option ByteArray} {z0 : Pn n} {v : Value} {w : World} (h : leafAt x v) (hz : ∀ W, PcAt W (plus S w.heap.size W.heap.size) n z0 v) : Calls Try.prog 54 #[v, .string role] w fun e w' => Merged n S w w' e (some z0) := by
  refine (part_leaf role x v w h).mono ?_
  rintro e w' ⟨rfl, hb⟩
  obtain ⟨t, a, rfl⟩ := leaf_shape h
  exact ⟨_, rfl, (fun z hz' => by injection hz' with hz'; subst hz'; exact hz w'), hb, .inr ⟨_, _, rfl⟩⟩
theorem part_calls (role : ByteArray) : ∀ n : Nat, PartCalls role n := by
  intro n
  induction n with
  | zero =>
    intro S p u w hS hp hl hf h
    exact leaf_merged (x := p) h (fun W => h)
  | succ n ih =>
    intro S p
    refine Pn.cases (P := fun p => ∀ (u : Value) (w : World), (∀ g, S g → g < w.heap.size) → planN (n + 1) p → (rowN (n + 1) p).length ≤ 40 → fitL (rowN (n + 1) p) → PcAt w S (n + 1) p u → Calls Try.prog 54 #[u, .string role] w fun e w' => Merged (n + 1) S w w' e (partN role (n + 1) p)) (fun x u w hS hp hl hf h => ?_) (fun x q u w hS hp hl hf h => ?_) (fun t l u w hS hp hl hf h => ?_) p
    · exact leaf_merged (x := x) h (fun W => h)
    · obtain ⟨u', rfl, h⟩ := h
      have hsh := h.shape
      obtain ⟨T, av, rfl⟩ := hsh
      refine part_loop role n S _ x T av w (fun W hW => loop_part role n ih S x q hp hl hf _ W (fun g hg => Nat.lt_of_lt_of_le (hS g hg) hW.size) (PcAt.carry (fun g hg => hW.block g (hS g hg)) (fun g hg => hg) _ _ _ h))
    · obtain ⟨op, a, b⟩ := t
      have hp' : op = 3 ∧ (a.toList == b.toList) = false ∧ 1 ≤ l.length ∧ l.length ≤ 4 ∧ ∀ b ∈ l, planN n b.p := hp
      obtain ⟨rfl, -⟩ := hp'
      obtain ⟨sl, rfl, h⟩ := h
      rw [row_talk] at hl hf
      have h' := h
      obtain ⟨ao, cap, rfl, -⟩ := h'
      rw [part_talk]
      refine part_msg role n S _ a b ao l.length cap w (fun W hW => message_part role n ih S a b l hp (by simp only [List.length_cons] at hl; omega) (fit_cons.1 hf).2 _ W (fun g hg => Nat.lt_of_lt_of_le (hS g hg) hW.size) (h.carry (fun g hg => hW.block g (hS g hg)) (fun g hg => hg) (fun b _ u hu => PcAt.carry (fun g hg => hW.block g (hS g hg)) (fun g hg => hg) _ _ _ hu)))
end Go.Proofs.Ytmlkfnclniamiaa
