/- The program's part of a role: the type switch. -/
import Derived.Test.YtehodjfgojcnlaaGreatQSound19
namespace Go.Proofs.YtehodjfgojcnlaaGreat
open Go.RowKit
attribute [local go_sem ↓] Go.wp_at_zero Go.wp_at_succ

set_option maxRecDepth 100000 in
set_option maxHeartbeats 1000000 in
theorem part_other (role : ByteArray) (v : Value) (w : World) (t1 : ∀ W : World, (Instr.typeAssert v 47 75 true).run Tryz.prog W = .ok (.tuple #[.agg #[.string ByteArray.empty, .nilIface], .bool false]) W) (t2 : ∀ W : World, (Instr.typeAssert v 47 80 true).run Tryz.prog W = .ok (.tuple #[.agg #[.string ByteArray.empty, .string ByteArray.empty, .slice none 0 0], .bool false]) W) :
    Calls Tryz.prog 26 #[v, .string role] w fun e w' => e = .returned (.tuple #[v, .bool true]) ∧ Below w.heap.size w w' := by
  go_enter Tryz.func26, Tryz.ntmps26
  go_wp2_with fail
  go_ret2
  exact ⟨rfl, Below.refl _ _⟩
theorem part_leaf (role : ByteArray) (x : Option ByteArray) (v : Value) (w : World) (h : leafAt x v) : Calls Tryz.prog 26 #[v, .string role] w fun e w' => e = .returned (.tuple #[v, .bool true]) ∧ Below w.heap.size w w' := by
  cases x with
  | none => rw [show v = _ from h]; exact part_other role _ w (fun W => by kernel_rfl) (fun W => by kernel_rfl)
  | some x => rw [show v = _ from h]; exact part_other role _ w (fun W => by kernel_rfl) (fun W => by kernel_rfl)
set_option maxRecDepth 100000 in
set_option maxHeartbeats 1000000 in
theorem part_loop (role : ByteArray) (n : Nat) (S : Nat → Prop) (o : Option (Pn (n + 1))) (x : ByteArray) (T : TypeId) (av : Array Value) (w : World) (hc : ∀ W, Below w.heap.size w W → Calls Tryz.prog 45 #[.agg #[.string x, .iface T (.agg av)], .string role] W fun e w' => Merged (n + 1) S W w' e o) :
    Calls Tryz.prog 26 #[.iface 75 (.agg #[.string x, .iface T (.agg av)]), .string role] w fun e w' => Merged (n + 1) S w w' e o := by
  have HC := hide hc
  have t1 : ∀ W : World, (Instr.typeAssert (.iface 75 (.agg #[.string x, .iface T (.agg av)])) 47 75 true).run Tryz.prog W = .ok (.tuple #[.agg #[.string x, .iface T (.agg av)], .bool true]) W := fun W => by kernel_rfl
  clear hc
  go_enter Tryz.func26, Tryz.ntmps26
  go_wp2_with (go_at_call 45; refine (HC.out _ (malloc1 _ _)).mono ?_; rintro e w1 ⟨q1, rfl, h1a, h1b, hif1⟩; have HIF := hide hif1; clear hif1; have H1A := hide h1a; have HB1 : Hid (Below w.heap.size w w1) := hide ((malloc1 w _).trans (h1b.mono (by simp))); clear h1a h1b)
  go_ret2
  exact ⟨q1, rfl, (fun z hz => (H1A.out z hz).up (fun g hg => hg.elim .inl (fun k => .inr ⟨by have := k.1; simp at this; omega, k.2⟩))), HB1.out, HIF.out⟩
set_option maxRecDepth 100000 in
set_option maxHeartbeats 1000000 in
theorem part_msg (role : ByteArray) (n : Nat) (S : Nat → Prop) (o : Option (Pn (n + 1))) (a b : ByteArray) (p : Option Addr) (l c : Nat) (w : World) (hc : ∀ W, Below w.heap.size w W → Calls Tryz.prog 46 #[.agg #[.string a, .string b, .slice p l c], .string role] W fun e w' => Merged (n + 1) S W w' e o) :
    Calls Tryz.prog 26 #[.iface 80 (.agg #[.string a, .string b, .slice p l c]), .string role] w fun e w' => Merged (n + 1) S w w' e o := by
  have HC := hide hc
  have t1 : ∀ W : World, (Instr.typeAssert (.iface 80 (.agg #[.string a, .string b, .slice p l c])) 47 75 true).run Tryz.prog W = .ok (.tuple #[.agg #[.string ByteArray.empty, .nilIface], .bool false]) W := fun W => by kernel_rfl
  have t2 : ∀ W : World, (Instr.typeAssert (.iface 80 (.agg #[.string a, .string b, .slice p l c])) 47 80 true).run Tryz.prog W = .ok (.tuple #[.agg #[.string a, .string b, .slice p l c], .bool true]) W := fun W => by kernel_rfl
  clear hc
  go_enter Tryz.func26, Tryz.ntmps26
  go_wp2_with (go_at_call 46; refine (HC.out _ (malloc1 _ _)).mono ?_; rintro e w1 ⟨q1, rfl, h1a, h1b, hif1⟩; have HIF := hide hif1; clear hif1; have H1A := hide h1a; have HB1 : Hid (Below w.heap.size w w1) := hide ((malloc1 w _).trans (h1b.mono (by simp))); clear h1a h1b)
  go_ret2
  exact ⟨q1, rfl, (fun z hz => (H1A.out z hz).up (fun g hg => hg.elim .inl (fun k => .inr ⟨by have := k.1; simp at this; omega, k.2⟩))), HB1.out, HIF.out⟩
set_option maxRecDepth 100000 in
set_option maxHeartbeats 1000000 in
theorem loop_part (role : ByteArray) (n : Nat) (hpc : PartCalls role n) (S : Nat → Prop) (x : ByteArray) (q : Pn n) (hq : planN n q) (hlen : (rowN (n + 1) (.loop x q)).length ≤ 40) (hfit : fitL (rowN (n + 1) (.loop x q))) (u : Value) (w : World) (hS : ∀ g, S g → g < w.heap.size) (h : PcAt w S n q u) :
    Calls Tryz.prog 45 #[.agg #[.string x, u], .string role] w fun e w' => Merged (n + 1) S w w' e (partN role (n + 1) (.loop x q)) := by
  have HID : Hid (∀ W, Below w.heap.size w W → Calls Tryz.prog 73 #[.agg #[.string x, u], .string role] W fun e w' => e = .returned (.bool (idleL role (rowN (n + 1) (.loop x q)))) ∧ Below W.heap.size W w') := hide (fun W hW => loop_idle role n q hq x u S w W hS h hlen hfit hW)
  rw [row_loop] at hlen hfit
  have HPC : Hid (∀ W, Below w.heap.size w W → Calls Tryz.prog 26 #[u, .string role] W fun e w' => Merged n S W w' e (partN role n q)) := hide (fun W hW => hpc S q u W (fun g hg => Nat.lt_of_lt_of_le (hS g hg) hW.size) hq (by simp only [List.length_cons] at hlen; omega) (fit_cons.1 hfit).2 (PcAt.carry (fun g hg => hW.block g (hS g hg)) (fun g hg => hg) _ _ _ h))
  obtain ⟨T, av, rfl⟩ := h.shape
  obtain ⟨i, hi⟩ : ∃ i, idleL role (rowN (n + 1) (.loop x q)) = i := ⟨_, rfl⟩
  obtain ⟨om, hom⟩ : ∃ om, partN role n q = om := ⟨_, rfl⟩
  have HP : Hid (partN role (n + 1) (.loop x q) = if i then some (.leaf none) else om.map (Pn.loop x)) := hide (by
    show (if idleL role (rowN (n + 1) (.loop x q)) then some (Pn.leaf none) else (partN role n q).map (Pn.loop x)) = _
    rw [hi, hom])
  rw [hi] at HID
  rw [hom] at HPC
  clear hi hom hlen hfit h hpc
  cases i
  · go_enter Tryz.func45, Tryz.ntmps45
    go_wp2_with (first
      | (go_at_call 73; refine (HID.out _ (malloc1 _ _)).mono ?_; rintro e w1 ⟨rfl, hb1⟩; have HB1 : Hid (Below w.heap.size w w1) := hide ((malloc1 w _).trans (hb1.mono (by simp))); have z0 := (hb1.cell (p := ⟨w.heap.size, 0, none⟩) (by simp)); have z1 := (hb1.cell (p := ⟨w.heap.size, 1, none⟩) (by simp)); simp at z0 z1; have hz1 : w.heap.size < w1.heap.size := (by have := hb1.size; simp at this; omega); clear hb1)
      | (go_at_call 26; refine (HPC.out _ HB1.out).mono ?_; rintro e w2 ⟨q2, rfl, h2a, h2b, hif2⟩; have H2A := hide h2a; have HB2 : Hid (Below w.heap.size w w2) := hide (HB1.out.trans (h2b.mono HB1.out.size)); have y0 := (h2b.cell (p := ⟨w.heap.size, 0, none⟩) hz1).trans z0; have HZ := hide HB1.out.size; clear h2a h2b; rcases hif2 with rfl | ⟨t2, a2, rfl⟩))
    all_goals
      go_ret2
      rw [HP.out]
      refine ⟨_, ret2_bool ?_, fun z hz => ?_, HB2.out, (by first | exact .inl rfl | exact .inr ⟨_, _, rfl⟩)⟩
      · show (om.map (Pn.loop x)).isSome = _
        cases om <;> rfl
      · have hz' : om.map (Pn.loop x) = some z := hz
        cases om with
        | none => cases hz'
        | some y =>
          simp only [Option.map_some, Option.some.injEq] at hz'
          subst hz'
          exact ⟨_, rfl, (H2A.out y rfl).up (fun g hg => hg.elim .inl (fun k => .inr ⟨Nat.le_trans HZ.out k.1, k.2⟩))⟩
  · go_enter Tryz.func45, Tryz.ntmps45
    go_wp2_with (go_at_call 73; refine (HID.out _ (malloc1 _ _)).mono ?_; rintro e w1 ⟨rfl, hb1⟩; have HB1 : Hid (Below w.heap.size w w1) := hide ((malloc1 w _).trans (hb1.mono (by simp))); clear hb1)
    go_ret2
    rw [HP.out]
    exact ⟨_, rfl, (fun z hz => by have hz' : some (Pn.leaf none) = some z := hz; injection hz' with hz'; subst hz'; exact rfl), HB1.out, (by first | exact .inl rfl | exact .inr ⟨_, _, rfl⟩)⟩
theorem leaf_merged {role : ByteArray} {n : Nat} {S : Nat → Prop} {x : Option ByteArray} {z0 : Pn n} {v : Value} {w : World} (h : leafAt x v) (hz : ∀ W, PcAt W (plus S w.heap.size W.heap.size) n z0 v) : Calls Tryz.prog 26 #[v, .string role] w fun e w' => Merged n S w w' e (some z0) := by
  refine (part_leaf role x v w h).mono ?_
  rintro e w' ⟨rfl, hb⟩
  obtain ⟨t, a, rfl⟩ := leaf_shape h
  exact ⟨_, rfl, (fun z hz' => by injection hz' with hz'; subst hz'; exact hz w'), hb, .inr ⟨_, _, rfl⟩⟩
theorem part_calls (role : ByteArray) : ∀ n : Nat, PartCalls role n := by
  intro n
  induction n with
  | zero =>
    intro S p u w hS hp hl hf h
    exact leaf_merged (x := p) h (fun W => h)
  | succ n ih =>
    intro S p
    refine Pn.cases (P := fun p => ∀ (u : Value) (w : World), (∀ g, S g → g < w.heap.size) → planN (n + 1) p → (rowN (n + 1) p).length ≤ 40 → fitL (rowN (n + 1) p) → PcAt w S (n + 1) p u → Calls Tryz.prog 26 #[u, .string role] w fun e w' => Merged (n + 1) S w w' e (partN role (n + 1) p)) (fun x u w hS hp hl hf h => ?_) (fun x q u w hS hp hl hf h => ?_) (fun t l u w hS hp hl hf h => ?_) p
    · exact leaf_merged (x := x) h (fun W => h)
    · obtain ⟨u', rfl, h⟩ := h
      have hsh := h.shape
      obtain ⟨T, av, rfl⟩ := hsh
      refine part_loop role n S _ x T av w (fun W hW => loop_part role n ih S x q hp hl hf _ W (fun g hg => Nat.lt_of_lt_of_le (hS g hg) hW.size) (PcAt.carry (fun g hg => hW.block g (hS g hg)) (fun g hg => hg) _ _ _ h))
    · obtain ⟨op, a, b⟩ := t
      have hp' : op = 3 ∧ (a.toList == b.toList) = false ∧ 1 ≤ l.length ∧ l.length ≤ 4 ∧ ∀ b ∈ l, planN n b.p := hp
      obtain ⟨rfl, -⟩ := hp'
      obtain ⟨sl, rfl, h⟩ := h
      rw [row_talk] at hl hf
      have h' := h
      obtain ⟨ao, cap, rfl, -⟩ := h'
      rw [part_talk]
      refine part_msg role n S _ a b ao l.length cap w (fun W hW => message_part role n ih S a b l hp (by simp only [List.length_cons] at hl; omega) (fit_cons.1 hf).2 _ W (fun g hg => Nat.lt_of_lt_of_le (hS g hg) hW.size) (h.carry (fun g hg => hW.block g (hS g hg)) (fun g hg => hg) (fun b _ u hu => PcAt.carry (fun g hg => hW.block g (hS g hg)) (fun g hg => hg) _ _ _ hu)))
end Go.Proofs.YtehodjfgojcnlaaGreat
/- Pieces: at most four cases each; cases taken one by one. -/
namespace Go.Proofs.YtehodjfgojcnlaaGreat
open Go.RowKit

def fourN : (n : Nat) → Pn n → Prop
  | 0, _ => True
  | n + 1, p => p.by (fun _ => True) (fun _ q => fourN n q) (fun _ l => l.length ≤ 4 ∧ ∀ b ∈ l, fourN n b.p)
theorem plan_four : ∀ (n : Nat) (p : Pn n), planN n p → fourN n p := by
  intro n
  induction n with
  | zero => intro p _; trivial
  | succ n ih =>
    intro p
    refine Pn.cases (P := fun p => planN (n + 1) p → fourN (n + 1) p) (fun x _ => trivial) (fun x q hp => ih q hp) (fun t l hp => ?_) p
    have hp' : t.op = 3 ∧ (t.a.toList == t.b.toList) = false ∧ 1 ≤ l.length ∧ l.length ≤ 4 ∧ ∀ b ∈ l, planN n b.p := hp
    exact ⟨hp'.2.2.2.1, fun b hb => ih b.p (hp'.2.2.2.2 b hb)⟩
theorem up_four : ∀ (n : Nat) (p : Pn n), fourN n p → fourN (n + 1) (upN n p) := by
  intro n
  induction n with
  | zero => intro p _; trivial
  | succ n ih =>
    intro p
    refine Pn.cases (P := fun p => fourN (n + 1) p → fourN (n + 2) (upN (n + 1) p)) (fun x _ => trivial) (fun x q hp => ih q hp) (fun t l hp => ?_) p
    have hp' : l.length ≤ 4 ∧ ∀ b ∈ l, fourN n b.p := hp
    refine ⟨by rw [List.length_map]; exact hp'.1, fun b hb => ?_⟩
    obtain ⟨c, hc, rfl⟩ := List.mem_map.1 hb
    exact ih c.p (hp'.2 c hc)
theorem merge_four : ∀ (n : Nat) (x y z : Pn n), fourN n x → fourN n y → mergeN n x y = some z → fourN n z := by
  intro n
  induction n with
  | zero => intro x y z _ _ _; trivial
  | succ n ih =>
    intro x y z hx hy h
    rw [mergeN] at h
    split at h
    · injection h with h; subst h; exact hx
    · split at h
      · rename_i a cs b ds ex ey
        split at h
        · split at h
          · rename_i l hl
            split at h
            · rename_i h4
              injection h with h
              subst h
              obtain ⟨x', rfl⟩ := hear_some ex
              obtain ⟨y', rfl⟩ := hear_some ey
              have hx' : cs.length ≤ 4 ∧ ∀ b ∈ cs, fourN n b.p := hx
              have hy' : ds.length ≤ 4 ∧ ∀ b ∈ ds, fourN n b.p := hy
              exact ⟨h4, mergeBy_all (Q := fourN n) ih ds cs l hx'.2 hy'.2 hl⟩
            · cases h
          · cases h
        · cases h
      · cases h
theorem part_four (role : ByteArray) : ∀ (n : Nat) (p q : Pn n), planN n p → partN role n p = some q → fourN n q := by
  intro n
  induction n with
  | zero => intro p q _ _; trivial
  | succ n ih =>
    intro p
    refine Pn.cases (P := fun p => ∀ q, planN (n + 1) p → partN role (n + 1) p = some q → fourN (n + 1) q) (fun x q _ h => ?_) (fun x p q hp h => ?_) (fun t l q hp h => ?_) p
    · have h' : some (Pn.leaf x) = some q := h
      injection h' with h'; subst h'; trivial
    · have h' : (if idleL role (rowN (n + 1) (.loop x p)) then some (Pn.leaf none) else (partN role n p).map (Pn.loop x)) = some q := h
      have hp' : planN n p := hp
      split at h'
      · injection h' with h'
        subst h'
        trivial
      · cases hq : partN role n p with
        | none => rw [hq] at h'; cases h'
        | some q' =>
          rw [hq] at h'
          simp only [Option.map_some, Option.some.injEq] at h'
          subst h'
          exact ih p q' hp' hq
    · have h' : (match partsBy (partN role n) l with
        | none => none
        | some r => if role.toList == t.a.toList then some (Pn.talk ⟨5, noT, t.b⟩ r) else if role.toList == t.b.toList then some (.talk ⟨6, noT, t.a⟩ r) else
          match r with
          | [] => none
          | c :: r => (mergeAll (mergeN n) c.p r).map (upN n)) = some q := h
      have hp' : t.op = 3 ∧ (t.a.toList == t.b.toList) = false ∧ 1 ≤ l.length ∧ l.length ≤ 4 ∧ ∀ b ∈ l, planN n b.p := hp
      split at h'
      · cases h'
      · rename_i r hr
        have hall := parts_all (Q := planN n) (R := fourN n) (fun x y hx hy => ih x y hx hy) l r hp'.2.2.2.2 hr
        have hrl : r.length ≤ 4 := by have := (parts_sz (f := rowN n) (Q := planN n) (fun x y hx hy => part_sz role n x y hx hy) l r hp'.2.2.2.2 hr).2; omega
        split at h'
        · injection h' with h'
          subst h'
          exact ⟨hrl, hall⟩
        · split at h'
          · injection h' with h'
            subst h'
            exact ⟨hrl, hall⟩
          · split at h'
            · cases h'
            · rename_i c r
              cases hm : mergeAll (mergeN n) c.p r with
              | none => rw [hm] at h'; cases h'
              | some z =>
                rw [hm] at h'
                simp only [Option.map_some, Option.some.injEq] at h'
                subst h'
                exact up_four n z (mergeAll_all (Q := fourN n) (fun x y z hx hy h => merge_four n x y z hx hy h) r c.p z (hall c (by simp)) (fun b hb => hall b (by simp [hb])) hm)
/-- one case taken -/
def takeBy {α : Type} (mg : α → α → Option α) (acc : List (Br α)) (d : Br α) : Option (List (Br α)) :=
  match findB d.l acc with
  | none => if acc.length < 4 then some (acc ++ [d]) else none
  | some i => match acc[i]? with
    | none => none
    | some b => match mg b.p d.p with
      | none => none
      | some q => if b.s == d.s then some (acc.set i ⟨b.l, b.s, q⟩) else none
def takesBy {α : Type} (mg : α → α → Option α) : List (Br α) → List (Br α) → Option (List (Br α))
  | acc, [] => some acc
  | acc, d :: ds => match takeBy mg acc d with
    | none => none
    | some l => takesBy mg l ds
def fourO {α : Type} : Option (List α) → Option (List α)
  | none => none
  | some l => if l.length ≤ 4 then some l else none
theorem mergeBy_len {α : Type} {mg : α → α → Option α} : ∀ (ds acc l : List (Br α)), mergeBy mg acc ds = some l → acc.length ≤ l.length
  | [], acc, l, h => by
    rw [mergeBy] at h
    injection h with h
    subst h
    exact Nat.le_refl _
  | d :: ds, acc, l, h => by
    rw [mergeBy] at h
    split at h
    · have := mergeBy_len ds _ l h
      simp at this
      omega
    · split at h
      · cases h
      · split at h
        · cases h
        · split at h
          · have := mergeBy_len ds _ l h
            simpa using this
          · cases h
theorem takes_merge {α : Type} {mg : α → α → Option α} : ∀ (ds acc : List (Br α)), acc.length ≤ 4 → takesBy mg acc ds = fourO (mergeBy mg acc ds)
  | [], acc, h => by rw [takesBy, mergeBy, fourO, if_pos h]
  | d :: ds, acc, h => by
    rw [takesBy, mergeBy, takeBy]
    cases hf : findB d.l acc with
    | none =>
      dsimp only
      by_cases h4 : acc.length < 4
      · rw [if_pos h4]
        exact takes_merge ds (acc ++ [d]) (by simp; omega)
      · rw [if_neg h4]
        dsimp only
        cases hm : mergeBy mg (acc ++ [d]) ds with
        | none => rfl
        | some l =>
          have := mergeBy_len ds _ l hm
          simp at this
          rw [fourO, if_neg (by omega)]
    | some i =>
      dsimp only
      cases acc[i]? with
      | none => rfl
      | some b =>
        dsimp only
        cases mg b.p d.p with
        | none => rfl
        | some q =>
          dsimp only
          cases hs : (b.s == d.s) with
          | false => rfl
          | true =>
            simp only [if_true]
            exact takes_merge ds _ (by rw [List.length_set]; exact h)
theorem takes_hear {n : Nat} (a : ByteArray) (cs ds : List (Br (Pn n))) (h : cs.length ≤ 4) : (takesBy (mergeN n) cs ds).map (Pn.talk ⟨6, noT, a⟩) = hearO n a (mergeBy (mergeN n) cs ds) := by
  rw [takes_merge ds cs h]
  cases mergeBy (mergeN n) cs ds with
  | none => rfl
  | some l =>
    rw [fourO, hearO]
    split <;> rfl
end Go.Proofs.YtehodjfgojcnlaaGreat
