/- Pieces: at most four cases each; cases taken one by one. -/
import Derived.Test.YtmlkfnclniamiaaQPartOf31
namespace Go.Proofs.Ytmlkfnclniamiaa
open Go.RowKit

def fourN : (n : Nat) → Pn n → Prop
  | 0, _ => True
  | n + 1, p => p.by (fun _ => True) (fun _ q => fourN n q) (fun _ l => l.length ≤ 4 ∧ ∀ b ∈ l, fourN n b.p)
theorem plan_four : ∀ (n : Nat) (p : Pn n), planN n p → fourN n p := by
  intro n
  induction n with
  | zero => intro p _; trivial
  | succ n ih =>
    intro p
    refine Pn.cases (P := fun p => planN (n + 1) p → fourN (n + 1) p) (fun x _ => trivial) (fun x q hp => ih q hp) (fun t l hp => ?_) p
    have hp' : t.op = 3 ∧ (t.a.toList == t.b.toList) = false ∧ 1 ≤ l.length ∧ l.length ≤ 4 ∧ ∀ b ∈ l, planN n b.p := hp
    exact ⟨hp'.2.2.2.1, fun b hb => ih b.p (hp'.2.2.2.2 b hb)⟩
theorem up_four : ∀ (n : Nat) (p : Pn n), fourN n p → fourN (n + 1) (upN n p) := by
  intro n
  induction n with
  | zero => intro p _; trivial
  | succ n ih =>
    intro p
    refine Pn.cases (P := fun p => fourN (n + 1) p → fourN (n + 2) (upN (n + 1) p)) (fun x _ => trivial) (fun x q hp => ih q hp) (fun t l hp => ?_) p
    have hp' : l.length ≤ 4 ∧ ∀ b ∈ l, fourN n b.p := hp
    refine ⟨by rw [List.length_map]; exact hp'.1, fun b hb => ?_⟩
    obtain ⟨c, hc, rfl⟩ := List.mem_map.1 hb
    exact ih c.p (hp'.2 c hc)
theorem merge_four : ∀ (n : Nat) (x y z : Pn n), fourN n x → fourN n y → mergeN n x y = some z → fourN n z := by
  intro n
  induction n with
  | zero => intro x y z _ _ _; trivial
  | succ n ih =>
    intro x y z hx hy h
    rw [mergeN] at h
    split at h
    · injection h with h; subst h; exact hx
    · split at h
      · rename_i a cs b ds ex ey
        split at h
        · split at h
          · rename_i l hl
            split at h
            · rename_i h4
              injection h with h
              subst h
              obtain ⟨x', rfl⟩ := hear_some ex
              obtain ⟨y', rfl⟩ := hear_some ey
              have hx' : cs.length ≤ 4 ∧ ∀ b ∈ cs, fourN n b.p := hx
              have hy' : ds.length ≤ 4 ∧ ∀ b ∈ ds, fourN n b.p := hy
              exact ⟨h4, mergeBy_all (Q := fourN n) ih ds cs l hx'.2 hy'.2 hl⟩
            · cases h
          · cases h
        · cases h
      · cases h
theorem part_four (role : ByteArray) : ∀ (n : Nat) (p q : Pn n), planN n p → partN role n p = some q → fourN n q := by
  intro n
  induction n with
  | zero => intro p q _ _; trivial
  | succ n ih =>
    intro p
    refine Pn.cases (P := fun p => ∀ q, planN (n + 1) p → partN role (n + 1) p = some q → fourN (n + 1) q) (fun x q _ h => ?_) (fun x p q hp h => ?_) (fun t l q hp h => ?_) p
    · have h' : some (Pn.leaf x) = some q := h
      injection h' with h'; subst h'; trivial
    · have h' : (if idleL role (rowN (n + 1) (.loop x p)) then some (Pn.leaf none) else (partN role n p).map (Pn.loop x)) = some q := h
      have hp' : planN n p := hp
      split at h'
      · injection h' with h'
        subst h'
        trivial
      · cases hq : partN role n p with
        | none => rw [hq] at h'; cases h'
        | some q' =>
          rw [hq] at h'
          simp only [Option.map_some, Option.some.injEq] at h'
          subst h'
          exact ih p q' hp' hq
    · have h' : (match partsBy (partN role n) l with
        | none => none
        | some r => if role.toList == t.a.toList then some (Pn.talk ⟨5, noT, t.b⟩ r) else if role.toList == t.b.toList then some (.talk ⟨6, noT, t.a⟩ r) else
          match r with
          | [] => none
          | c :: r => (mergeAll (mergeN n) c.p r).map (upN n)) = some q := h
      have hp' : t.op = 3 ∧ (t.a.toList == t.b.toList) = false ∧ 1 ≤ l.length ∧ l.length ≤ 4 ∧ ∀ b ∈ l, planN n b.p := hp
      split at h'
      · cases h'
      · rename_i r hr
        have hall := parts_all (Q := planN n) (R := fourN n) (fun x y hx hy => ih x y hx hy) l r hp'.2.2.2.2 hr
        have hrl : r.length ≤ 4 := by have := (parts_sz (f := rowN n) (Q := planN n) (fun x y hx hy => part_sz role n x y hx hy) l r hp'.2.2.2.2 hr).2; omega
        split at h'
        · injection h' with h'
          subst h'
          exact ⟨hrl, hall⟩
        · split at h'
          · injection h' with h'
            subst h'
            exact ⟨hrl, hall⟩
          · split at h'
            · cases h'
            · rename_i c r
              cases hm : mergeAll (mergeN n) c.p r with
              | none => rw [hm] at h'; cases h'
              | some z =>
                rw [hm] at h'
                simp only [Option.map_some, Option.some.injEq] at h'
                subst h'
                exact up_four n z (mergeAll_all (Q := fourN n) (fun x y z hx hy h => merge_four n x y z hx hy h) r c.p z (hall c (by simp)) (fun b hb => hall b (by simp [hb])) hm)
/-- one case taken -/
def takeBy {α : Type} (mg : α → α → Option α) (acc : List (Br α)) (d : Br α) : Option (List (Br α)) :=
  match findB d.l acc with
  | none => if acc.length < 4 then some (acc ++ [d]) else none
  | some i => match acc[i]? with
    | none => none
    | some b => match mg b.p d.p with
      | none => none
      | some q => if b.s == d.s then some (acc.set i ⟨b.l, b.s, q⟩) else none
def takesBy {α : Type} (mg : α → α → Option α) : List (Br α) → List (Br α) → Option (List (Br α))
  | acc, [] => some acc
  | acc, d :: ds => match takeBy mg acc d with
    | none => none
    | some l => takesBy mg l ds
def fourO {α : Type} : Option (List α) → Option (List α)
  | none => none
  | some l => if l.length ≤ 4 then some l else none
theorem mergeBy_len {α : Type} {mg : α → α → Option α} : ∀ (ds acc l : List (Br α)), mergeBy mg acc ds = some l → acc.length ≤ l.length
  | [], acc, l, h => by
    rw [mergeBy] at h
    injection h with h
    subst h
    exact Nat.le_refl _
  | d :: ds, acc, l, h => by
    rw [mergeBy] at h
    split at h
    · have := mergeBy_len ds _ l h
      simp at this
      omega
    · split at h
      · cases h
      · split at h
        · cases h
        · split at h
          · have := mergeBy_len ds _ l h
            simpa using this
          · cases h
theorem takes_merge {α : Type} {mg : α → α → Option α} : ∀ (ds acc : List (Br α)), acc.length ≤ 4 → takesBy mg acc ds = fourO (mergeBy mg acc ds)
  | [], acc, h => by rw [takesBy, mergeBy, fourO, if_pos h]
  | d :: ds, acc, h => by
    rw [takesBy, mergeBy, takeBy]
    cases hf : findB d.l acc with
    | none =>
      dsimp only
      by_cases h4 : acc.length < 4
      · rw [if_pos h4]
        exact takes_merge ds (acc ++ [d]) (by simp; omega)
      · rw [if_neg h4]
        dsimp only
        cases hm : mergeBy mg (acc ++ [d]) ds with
        | none => rfl
        | some l =>
          have := mergeBy_len ds _ l hm
          simp at this
          rw [fourO, if_neg (by omega)]
    | some i =>
      dsimp only
      cases acc[i]? with
      | none => rfl
      | some b =>
        dsimp only
        cases mg b.p d.p with
        | none => rfl
        | some q =>
          dsimp only
          cases hs : (b.s == d.s) with
          | false => rfl
          | true =>
            simp only [if_true]
            exact takes_merge ds _ (by rw [List.length_set]; exact h)
theorem takes_hear {n : Nat} (a : ByteArray) (cs ds : List (Br (Pn n))) (h : cs.length ≤ 4) : (takesBy (mergeN n) cs ds).map (Pn.talk ⟨6, noT, a⟩) = hearO n a (mergeBy (mergeN n) cs ds) := by
  rw [takes_merge ds cs h]
  cases mergeBy (mergeN n) cs ds with
  | none => rfl
  | some l =>
    rw [fourO, hearO]
    split <;> rfl
end Go.Proofs.Ytmlkfnclniamiaa
/- The specification: rows that are read; the place behind a piece; who talks; what is closed. -/
namespace Go.Proofs.Ytmlkfnclniamiaa
open Go.RowKit
attribute [local go_sem ↓] Go.wp_at_zero Go.wp_at_succ

/-- Nodes that are read, in these blocks -/
def RdS (w : World) (S : Nat → Prop) (v : Value) (l : List Nd) : Prop := ∃ ao cap, v = .slice ao l.length cap ∧ l.length ≤ cap ∧ cap ≤ maxLen ∧ l.length ≤ 2000 ∧ (l ≠ [] → ∃ g o, ao = some ⟨g, o, none⟩ ∧ S g ∧ RowAt w g o l)
theorem RowAt.block {w w' : World} {g : Nat} (hb : w'.heap[g]? = w.heap[g]?) : ∀ {l : List Nd} {o : Nat}, RowAt w g o l → RowAt w' g o l
  | [], _, _ => trivial
  | _ :: _, _, ⟨⟨h0, h1, h2, h3, h4⟩, hr⟩ => ⟨⟨(World.cell?_of_block (a := ⟨g, _, none⟩) hb).trans h0, (World.cell?_of_block (a := ⟨g, _, none⟩) hb).trans h1, (World.cell?_of_block (a := ⟨g, _, none⟩) hb).trans h2, (World.cell?_of_block (a := ⟨g, _, none⟩) hb).trans h3, (World.cell?_of_block (a := ⟨g, _, none⟩) hb).trans h4⟩, RowAt.block hb hr⟩
theorem RdS.carry {w w' : World} {S S' : Nat → Prop} {v : Value} {l : List Nd} (h : RdS w S v l) (hb : ∀ g, S g → w'.heap[g]? = w.heap[g]?) (hS : ∀ g, S g → S' g) : RdS w' S' v l := by
  obtain ⟨ao, cap, e, h1, h2, h3, h4⟩ := h
  refine ⟨ao, cap, e, h1, h2, h3, fun hne => ?_⟩
  obtain ⟨g, o, e1, e2, e3⟩ := h4 hne
  exact ⟨g, o, e1, hS g e2, e3.block (hb g e2)⟩
theorem RdS.up {w : World} {S S' : Nat → Prop} {v : Value} {l : List Nd} (h : RdS w S v l) (hS : ∀ g, S g → S' g) : RdS w S' v l := h.carry (fun _ _ => rfl) hS
theorem RdS.on {w w' : World} {S : Nat → Prop} {v : Value} {l : List Nd} (h : RdS w S v l) (hS : ∀ g, S g → g < w.heap.size) (hb : Below w.heap.size w w') : RdS w' S v l := h.carry (fun g hg => hb.block g (hS g hg)) (fun _ hg => hg)
theorem drop_next {all post : List Nd} {pos : Nat} {x : Nd} {r : List Nd} (h : all.drop pos = x :: r ++ post) : ∃ hp : pos < all.length, all[pos] = x ∧ all.drop (pos + 1) = r ++ post := by
  have hp : pos < all.length := by
    rcases Nat.lt_or_ge pos all.length with h' | h'
    · exact h'
    · rw [List.drop_of_length_le h'] at h; cases h
  rw [List.drop_eq_getElem_cons hp, List.cons_append] at h
  injection h with h1 h2
  exact ⟨hp, h1, h2⟩
theorem drop_len {all mid post : List Nd} {pos : Nat} (h : all.drop pos = mid ++ post) (hm : mid ≠ []) : pos + mid.length + post.length = all.length := by
  have := congrArg List.length h
  rw [List.length_drop, List.length_append] at this
  have : 0 < mid.length := List.length_pos_iff.2 hm
  omega
theorem drop_more {all mid post : List Nd} {pos : Nat} (h : all.drop pos = mid ++ post) : all.drop (pos + mid.length) = post := by
  rw [← List.drop_drop, h, List.drop_left]
def BehindCalls (n : Nat) : Prop := ∀ (p : Pn n) (all post : List Nd) (pos : Nat) (v : Value) (w : World) (S : Nat → Prop), (∀ g, S g → g < w.heap.size) → shapeN n p → all.length ≤ 1000 → all.drop pos = rowN n p ++ post → RdS w S v all → Calls Try.prog 73 #[v, .int .i64 pos] w fun e w' => e = .returned (.int .i64 ((pos + (rowN n p).length : Nat) : Int)) ∧ Below w.heap.size w w'
set_option maxRecDepth 100000 in
set_option maxHeartbeats 1000000 in
theorem behind_leaf (x : Option ByteArray) (all post : List Nd) (pos : Nat) (v : Value) (w : World) (S : Nat → Prop) (hS : ∀ g, S g → g < w.heap.size) (hl : all.length ≤ 1000) (h : all.drop pos = leafRow x ++ post) (hv : RdS w S v all) : Calls Try.prog 73 #[v, .int .i64 pos] w fun e w' => e = .returned (.int .i64 ((pos + (leafRow x).length : Nat) : Int)) ∧ Below w.heap.size w w' := by
  obtain ⟨nd, hr, hop, hmany⟩ : ∃ nd, leafRow x = [nd] ∧ (nd.op = 0 ∨ nd.op = 1) ∧ nd.many = 0 := by
    cases x with
    | none => exact ⟨_, rfl, .inl rfl, rfl⟩
    | some x => exact ⟨_, rfl, .inr rfl, rfl⟩
  rw [hr] at h ⊢
  obtain ⟨hp, hn, -⟩ := drop_next h
  obtain ⟨ao, cap, rfl, hc, hm, -, hrow⟩ := hv
  obtain ⟨g, o, rfl, hg, hrow⟩ := hrow (fun e => by rw [e] at hp; simp at hp)
  have hnode := hrow.get pos hp
  rw [hn] at hnode
  obtain ⟨op, name, peer, many, sort⟩ := nd
  dsimp only at hmany hop
  subst hmany
  obtain ⟨c0, c1, c2, c3, c4⟩ := hnode
  dsimp only at c0 c1 c2 c3 c4
  have HL : Hid (([⟨op, name, peer, 0, sort⟩] : List Nd).length = 1) := hide rfl
  have e2 : (op == 2) = false := by rcases hop with rfl | rfl <;> rfl
  have hgw := hS g hg
  obtain ⟨M, hM⟩ : ∃ M, all.length = M := ⟨_, rfl⟩
  rw [hM] at hp hl hc ⊢
  clear hrow hn hr h hS hM hop
  go_enter Try.func73, Try.ntmps73
  go_wp2_with fail
  go_loopw [1, 6] (fun av kv wr => av = .int .i64 ((pos : Int) + 1) ∧ kv = .int .i64 0 ∧ wr = w.alloc (.cells #[.int .i64 op, .string name, .string peer, .int .i64 0, .int .i64 sort] 53)) (fun _ _ _ => 0)
  case atStart => exact ⟨by go_num, rfl, rfl⟩
  case round =>
    obtain ⟨rfl, rfl, rfl⟩ := hrel
    go_wp2_with fail
    go_ret
    refine ⟨?_, malloc1 w _⟩
    show Ending.returned (.int .i64 ((pos : Int) + 1)) = .returned (.int .i64 ((pos + 1 : Nat) : Int))
    rw [Int.natCast_add]
    rfl
set_option maxRecDepth 100000 in
set_option maxHeartbeats 1000000 in
theorem behind_loop (n : Nat) (ih : BehindCalls n) (x : ByteArray) (q : Pn n) (hq : shapeN n q) (all post : List Nd) (pos : Nat) (v : Value) (w : World) (S : Nat → Prop) (hS : ∀ g, S g → g < w.heap.size) (hl : all.length ≤ 1000) (h : all.drop pos = rowN (n + 1) (.loop x q) ++ post) (hv : RdS w S v all) : Calls Try.prog 73 #[v, .int .i64 pos] w fun e w' => e = .returned (.int .i64 ((pos + (rowN (n + 1) (.loop x q)).length : Nat) : Int)) ∧ Below w.heap.size w w' := by
  rw [row_loop] at h ⊢
  obtain ⟨hp, hn, h1⟩ := drop_next h
  have HIH : Hid (∀ W, Below w.heap.size w W → Calls Try.prog 73 #[v, .int .i64 ((pos + 1 : Nat) : Int)] W fun e w' => e = .returned (.int .i64 ((pos + 1 + (rowN n q).length : Nat) : Int)) ∧ Below W.heap.size W w') := hide (fun W hW => ih q all post (pos + 1) v W S (fun g hg => Nat.lt_of_lt_of_le (hS g hg) hW.size) hq hl h1 (hv.on hS hW))
  obtain ⟨ao, cap, rfl, hc, hm, -, hrow⟩ := hv
  obtain ⟨g, o, rfl, hg, hrow⟩ := hrow (fun e => by rw [e] at hp; simp at hp)
  have hnode := hrow.get pos hp
  rw [hn] at hnode
  obtain ⟨c0, c1, c2, c3, c4⟩ := hnode
  dsimp only at c0 c1 c2 c3 c4
  have hgw := hS g hg
  obtain ⟨M, hM⟩ : ∃ M, all.length = M := ⟨_, rfl⟩
  rw [hM] at hp hl hc HIH ⊢
  clear hrow hn h h1 hS hM ih
  go_enter Try.func73, Try.ntmps73
  go_wp2_with (go_at_call 73; refine (HIH.out _ (malloc1 _ _)).mono ?_; rintro e w1 ⟨rfl, hb1⟩; have HB1 : Hid (Below w.heap.size w w1) := hide ((malloc1 w _).trans (hb1.mono (by simp))); clear hb1)
  go_ret
  refine ⟨?_, HB1.out⟩
  show Ending.returned (.int .i64 ((pos + 1 + (rowN n q).length : Nat) : Int)) = .returned (.int .i64 ((pos + ((rowN n q).length + 1) : Nat) : Int))
  rw [show pos + 1 + (rowN n q).length = pos + ((rowN n q).length + 1) by omega]
set_option maxRecDepth 100000 in
set_option maxHeartbeats 1000000 in
theorem behind_talk (n : Nat) (ih : BehindCalls n) (t : Tk) (l : List (Br (Pn n))) (ht : t.op ≠ 2) (hsh : ∀ b ∈ l, shapeN n b.p) (all post : List Nd) (pos : Nat) (v : Value) (w : World) (S : Nat → Prop) (hS : ∀ g, S g → g < w.heap.size) (hl : all.length ≤ 1000) (h : all.drop pos = rowN (n + 1) (.talk t l) ++ post) (hv : RdS w S v all) : Calls Try.prog 73 #[v, .int .i64 pos] w fun e w' => e = .returned (.int .i64 ((pos + (rowN (n + 1) (.talk t l)).length : Nat) : Int)) ∧ Below w.heap.size w w' := by
  rw [row_talk] at h ⊢
  obtain ⟨hp, hn, h1⟩ := drop_next h
  have HIH : Hid (∀ (k p : Nat) (b : Br (Pn n)), l[k]? = some b → all.drop p = brsBy (rowN n) (l.drop k) ++ post → (all.drop (p + 1 + (rowN n b.p).length) = brsBy (rowN n) (l.drop (k + 1)) ++ post ∧ p + 1 < all.length) ∧ ∀ W, Below w.heap.size w W → Calls Try.prog 73 #[v, .int .i64 ((p : Int) + 1)] W fun e w' => e = .returned (.int .i64 ((p + 1 + (rowN n b.p).length : Nat) : Int)) ∧ Below W.heap.size W w') := hide (fun k p b hb hd => by
    have hlt := (List.getElem?_eq_some_iff.1 hb).1
    have hbe : l[k] = b := (List.getElem?_eq_some_iff.1 hb).2
    rw [List.drop_eq_getElem_cons hlt, hbe, brs_cons, List.cons_append, List.append_assoc] at hd
    obtain ⟨hp1, hn1, h2⟩ := drop_next (r := rowN n b.p ++ brsBy (rowN n) (l.drop (k + 1))) (post := post) (by rw [hd, List.cons_append, List.append_assoc])
    rw [List.append_assoc] at h2
    refine ⟨⟨drop_more h2, ?_⟩, fun W hW => ?_⟩
    · rcases Nat.lt_or_ge (p + 1) all.length with h' | h'
      · exact h'
      · rw [List.drop_of_length_le h'] at h2
        have := congrArg List.length h2
        rw [List.length_append] at this
        have := row_pos n b.p
        simp at *
        omega
    · exact ih b.p all _ (p + 1) v W S (fun g hg => Nat.lt_of_lt_of_le (hS g hg) hW.size) (hsh b (List.mem_of_getElem? hb)) hl h2 (hv.on hS hW))
  obtain ⟨ao, cap, rfl, hc, hm, -, hrow⟩ := hv
  obtain ⟨g, o, rfl, hg, hrow⟩ := hrow (fun e => by rw [e] at hp; simp at hp)
  have hnode := hrow.get pos hp
  rw [hn] at hnode
  obtain ⟨op, a, b⟩ := t
  dsimp only at ht
  obtain ⟨c0, c1, c2, c3, c4⟩ := hnode
  dsimp only at c0 c1 c2 c3 c4
  have hgw := hS g hg
  have e2 : (op == 2) = false := by simpa using ht
  have hbl : l.length ≤ 1000 := by
    have h1' := congrArg List.length h1
    rw [List.length_drop, List.length_append] at h1'
    have := brs_count (rowN n) l
    omega
  have HH := hide h1
  have HTL : Hid (∀ p, all.drop p = brsBy (rowN n) (l.drop l.length) ++ post → p ≤ all.length → p = pos + ((brsBy (rowN n) l).length + 1)) := hide (fun p hd hple => by
    have h1' := congrArg List.length h1
    have h2' := congrArg List.length hd
    rw [List.drop_length] at h2'
    simp only [List.length_drop, List.length_append, brsBy, List.flatMap_nil, List.length_nil] at h1' h2'
    have : pos < all.length := hp
    unfold brsBy
    omega)
  obtain ⟨K, hK⟩ : ∃ K, l.length = K := ⟨_, rfl⟩
  obtain ⟨M, hM⟩ : ∃ M, all.length = M := ⟨_, rfl⟩
  rw [hM] at hp hl hc HIH HTL ⊢
  rw [hK] at c3 hbl HTL
  have HK := hide hK
  have HM := hide hM
  clear hrow hn h h1 hS hM hK ih hsh ht
  go_enter Try.func73, Try.ntmps73
  go_wp2_with fail
  go_loopw [1, 6] (fun av kv wr => ∃ k p : Nat, k ≤ K ∧ p ≤ M ∧ av = .int .i64 p ∧ kv = .int .i64 k ∧ all.drop p = brsBy (rowN n) (l.drop k) ++ post ∧ Below (w.heap.size + 1) (w.alloc (.cells #[.int .i64 op, .string a, .string b, .int .i64 (K : Int), .int .i64 0] 53)) wr) (fun _ kv _ => K - (intOf kv).toNat)
  case atStart => exact ⟨0, pos + 1, Nat.zero_le _, hp, by go_num, rfl, HH.out, Below.refl _ _⟩
  case round =>
    obtain ⟨k, p, hk, hpM, rfl, rfl, hd, hb⟩ := hrel
    have HD := hide hd
    have HB := hide hb
    have m3 : wr.cell? ⟨w.heap.size, 3, none⟩ = some (.int .i64 (K : Int)) := (hb.cell (p := ⟨w.heap.size, 3, none⟩) (by simp)).trans (by simp)
    have HBW : Hid (Below w.heap.size w wr) := hide ((malloc1 w _).trans (hb.mono (by omega)))
    have hzw := HBW.out.size
    clear hd hb
    by_cases hlt : k < K
    · obtain ⟨d, hdk⟩ : ∃ d, l[k]? = some d := ⟨l[k]'(by rw [HK.out]; exact hlt), List.getElem?_eq_getElem _⟩
      obtain ⟨⟨hnx, hp1⟩, hcall⟩ := HIH.out k p d hdk HD.out
      have HC := hide hcall
      have HNX := hide hnx
      have hle : p + 1 + (rowN n d.p).length ≤ M := by
        have := congrArg List.length HNX.out
        have h0 := congrArg List.length HD.out
        rw [List.length_drop] at this
        rw [List.length_drop] at h0
        have hbd := brs_drop hdk
        simp only [List.length_append, HM.out] at this h0
        omega
      clear hcall hnx hdk
      go_wp2_with (go_at_call 73; refine (HC.out _ HBW.out).mono ?_; rintro e w1 ⟨rfl, hb1⟩; have HB1 := hide hb1; clear hb1)
      go_roundw
      case rel => exact ⟨k + 1, p + 1 + (rowN n d.p).length, hlt, hle, rfl, by go_num, HNX.out, HB.out.trans (HB1.out.mono (by have := HB.out.size; simpa using this))⟩
      case measure => simp [intOf]; omega
    · obtain rfl : k = K := by omega
      have HE := hide (HTL.out p HD.out hpM)
      go_wp2_with fail
      go_ret
      refine ⟨?_, HBW.out⟩
      rw [← HE.out]
      rfl
theorem behind_calls : ∀ n : Nat, BehindCalls n := by
  intro n
  induction n with
  | zero => intro p all post pos v w S hS _ hl h hv; exact behind_leaf p all post pos v w S hS hl h hv
  | succ n ih =>
    intro p
    refine Pn.cases (P := fun p => ∀ (all post : List Nd) (pos : Nat) (v : Value) (w : World) (S : Nat → Prop), (∀ g, S g → g < w.heap.size) → shapeN (n + 1) p → all.length ≤ 1000 → all.drop pos = rowN (n + 1) p ++ post → RdS w S v all → Calls Try.prog 73 #[v, .int .i64 pos] w fun e w' => e = .returned (.int .i64 ((pos + (rowN (n + 1) p).length : Nat) : Int)) ∧ Below w.heap.size w w') (fun x all post pos v w S hS _ hl h hv => behind_leaf x all post pos v w S hS hl h hv) (fun x q all post pos v w S hS hs hl h hv => behind_loop n ih x q hs all post pos v w S hS hl h hv) (fun t l all post pos v w S hS hs hl h hv => ?_) p
    have hs' : tkOk t ∧ l ≠ [] ∧ ∀ b ∈ l, shapeN n b.p := hs
    refine behind_talk n ih t l (fun e => ?_) hs'.2.2 all post pos v w S hS hl h hv
    rcases hs'.1 with h3 | ⟨h5 | h6, _⟩ <;> omega
end Go.Proofs.Ytmlkfnclniamiaa
