import Derived.Test.YtlbcnmcfljaijaaQF26
import Derived.Test.YtlbcnmcfljaijaaQF19
namespace Go.Proofs.Ytlbcnmcfljaijaa
open Go.RowKit

theorem toListEq {a b : ByteArray} (h : (a.toList == b.toList) = true) : a = b := by
  have h := beq_iff_eq.1 h
  rw [Go.ByteArray.toList_eq, Go.ByteArray.toList_eq] at h
  apply ByteArray.ext
  exact Array.ext' h
end Go.Proofs.Ytlbcnmcfljaijaa
namespace Go.Proofs.Ytlbcnmcfljaijaa
open Go.RowKit
attribute [local go_sem ↓] Go.wp_at_zero Go.wp_at_succ

end Go.Proofs.Ytlbcnmcfljaijaa
namespace Go.Proofs.Ytlbcnmcfljaijaa
open Go.RowKit
attribute [local go_sem ↓] Go.wp_at_zero Go.wp_at_succ

end Go.Proofs.Ytlbcnmcfljaijaa
namespace Go.Proofs.Ytlbcnmcfljaijaa
open Go.RowKit

def fourN : (n : Nat) → Pn n → Prop
  | 0, _ => True
  | n + 1, p => p.by (fun _ => True) (fun _ q => fourN n q) (fun _ l => l.length ≤ 4 ∧ ∀ b ∈ l, fourN n b.p)
theorem up_four : ∀ (n : Nat) (p : Pn n), fourN n p → fourN (n + 1) (upN n p) := by
  intro n
  induction n with
  | zero => intro p _; trivial
  | succ n ih =>
    intro p
    refine Pn.cases (P := fun p => fourN (n + 1) p → fourN (n + 2) (upN (n + 1) p)) (fun x _ => trivial) (fun x q hp => ih q hp) (fun t l hp => ?_) p
    have hp' : l.length ≤ 4 ∧ ∀ b ∈ l, fourN n b.p := hp
    refine ⟨by rw [List.length_map]; exact hp'.1, fun b hb => ?_⟩
    obtain ⟨c, hc, rfl⟩ := List.mem_map.1 hb
    exact ih c.p (hp'.2 c hc)
theorem merge_four : ∀ (n : Nat) (x y z : Pn n), fourN n x → fourN n y → mergeN n x y = some z → fourN n z := by
  intro n
  induction n with
  | zero => intro x y z _ _ _; trivial
  | succ n ih =>
    intro x y z hx hy h
    rw [mergeN] at h
    split at h
    · injection h with h; subst h; exact hx
    · split at h
      · rename_i a cs b ds ex ey
        split at h
        · split at h
          · rename_i l hl
            split at h
            · rename_i h4
              injection h with h
              subst h
              obtain ⟨x', rfl⟩ := hear_some ex
              obtain ⟨y', rfl⟩ := hear_some ey
              have hx' : cs.length ≤ 4 ∧ ∀ b ∈ cs, fourN n b.p := hx
              have hy' : ds.length ≤ 4 ∧ ∀ b ∈ ds, fourN n b.p := hy
              exact ⟨h4, mergeBy_all (Q := fourN n) ih ds cs l hx'.2 hy'.2 hl⟩
            · cases h
          · cases h
        · cases h
      · cases h
theorem part_four (role : ByteArray) : ∀ (n : Nat) (p q : Pn n), planN n p → partN role n p = some q → fourN n q := by
  intro n
  induction n with
  | zero => intro p q _ _; trivial
  | succ n ih =>
    intro p
    refine Pn.cases (P := fun p => ∀ q, planN (n + 1) p → partN role (n + 1) p = some q → fourN (n + 1) q) (fun x q _ h => ?_) (fun x p q hp h => ?_) (fun t l q hp h => ?_) p
    · have h' : some (Pn.leaf x) = some q := h
      injection h' with h'; subst h'; trivial
    · have h' : (if idleL role (rowN (n + 1) (.loop x p)) then some (Pn.leaf none) else (partN role n p).map (Pn.loop x)) = some q := h
      have hp' : planN n p := hp
      split at h'
      · injection h' with h'
        subst h'
        trivial
      · cases hq : partN role n p with
        | none => rw [hq] at h'; cases h'
        | some q' =>
          rw [hq] at h'
          simp only [Option.map_some, Option.some.injEq] at h'
          subst h'
          exact ih p q' hp' hq
    · have h' : (match partsBy (partN role n) l with
        | none => none
        | some r => if role.toList == t.a.toList then some (Pn.talk ⟨5, noT, t.b⟩ r) else if role.toList == t.b.toList then some (.talk ⟨6, noT, t.a⟩ r) else
          match r with
          | [] => none
          | c :: r => (mergeAll (mergeN n) c.p r).map (upN n)) = some q := h
      have hp' : t.op = 3 ∧ (t.a.toList == t.b.toList) = false ∧ 1 ≤ l.length ∧ l.length ≤ 4 ∧ ∀ b ∈ l, planN n b.p := hp
      split at h'
      · cases h'
      · rename_i r hr
        have hall := parts_all (Q := planN n) (R := fourN n) (fun x y hx hy => ih x y hx hy) l r hp'.2.2.2.2 hr
        have hrl : r.length ≤ 4 := by have := (parts_sz (f := rowN n) (Q := planN n) (fun x y hx hy => part_sz role n x y hx hy) l r hp'.2.2.2.2 hr).2; omega
        split at h'
        · injection h' with h'
          subst h'
          exact ⟨hrl, hall⟩
        · split at h'
          · injection h' with h'
            subst h'
            exact ⟨hrl, hall⟩
          · split at h'
            · cases h'
            · rename_i c r
              cases hm : mergeAll (mergeN n) c.p r with
              | none => rw [hm] at h'; cases h'
              | some z =>
                rw [hm] at h'
                simp only [Option.map_some, Option.some.injEq] at h'
                subst h'
                exact up_four n z (mergeAll_all (Q := fourN n) (fun x y z hx hy h => merge_four n x y z hx hy h) r c.p z (hall c (by simp)) (fun b hb => hall b (by simp [hb])) hm)
def takeBy {α : Type} (mg : α → α → Option α) (acc : List (Br α)) (d : Br α) : Option (List (Br α)) :=
  match findB d.l acc with
  | none => if acc.length < 4 then some (acc ++ [d]) else none
  | some i => match acc[i]? with
    | none => none
    | some b => match mg b.p d.p with
      | none => none
      | some q => if b.s == d.s then some (acc.set i ⟨b.l, b.s, q⟩) else none
def takesBy {α : Type} (mg : α → α → Option α) : List (Br α) → List (Br α) → Option (List (Br α))
  | acc, [] => some acc
  | acc, d :: ds => match takeBy mg acc d with
    | none => none
    | some l => takesBy mg l ds
def fourO {α : Type} : Option (List α) → Option (List α)
  | none => none
  | some l => if l.length ≤ 4 then some l else none
theorem mergeBy_len {α : Type} {mg : α → α → Option α} : ∀ (ds acc l : List (Br α)), mergeBy mg acc ds = some l → acc.length ≤ l.length
  | [], acc, l, h => by
    rw [mergeBy] at h
    injection h with h
    subst h
    exact Nat.le_refl _
  | d :: ds, acc, l, h => by
    rw [mergeBy] at h
    split at h
    · have := mergeBy_len ds _ l h
      simp at this
      omega
    · split at h
      · cases h
      · split at h
        · cases h
        · split at h
          · have := mergeBy_len ds _ l h
            simpa using this
          · cases h
theorem takes_merge {α : Type} {mg : α → α → Option α} : ∀ (ds acc : List (Br α)), acc.length ≤ 4 → takesBy mg acc ds = fourO (mergeBy mg acc ds)
  | [], acc, h => by rw [takesBy, mergeBy, fourO, if_pos h]
  | d :: ds, acc, h => by
    rw [takesBy, mergeBy, takeBy]
    cases hf : findB d.l acc with
    | none =>
      dsimp only
      by_cases h4 : acc.length < 4
      · rw [if_pos h4]
        exact takes_merge ds (acc ++ [d]) (by simp; omega)
      · rw [if_neg h4]
        dsimp only
        cases hm : mergeBy mg (acc ++ [d]) ds with
        | none => rfl
        | some l =>
          have := mergeBy_len ds _ l hm
          simp at this
          rw [fourO, if_neg (by omega)]
    | some i =>
      dsimp only
      cases acc[i]? with
      | none => rfl
      | some b =>
        dsimp only
        cases mg b.p d.p with
        | none => rfl
        | some q =>
          dsimp only
          cases hs : (b.s == d.s) with
          | false => rfl
          | true =>
            simp only [if_true]
            exact takes_merge ds _ (by rw [List.length_set]; exact h)
theorem takes_hear {n : Nat} (a : ByteArray) (cs ds : List (Br (Pn n))) (h : cs.length ≤ 4) : (takesBy (mergeN n) cs ds).map (Pn.talk ⟨6, noT, a⟩) = hearO n a (mergeBy (mergeN n) cs ds) := by
  rw [takes_merge ds cs h]
  cases mergeBy (mergeN n) cs ds with
  | none => rfl
  | some l =>
    rw [fourO, hearO]
    split <;> rfl
end Go.Proofs.Ytlbcnmcfljaijaa
namespace Go.Proofs.Ytlbcnmcfljaijaa
open Go.RowKit
attribute [local go_sem ↓] Go.wp_at_zero Go.wp_at_succ

def RdW (w : World) (S : Nat → Prop) (v : Value) (l : List Nd) : Prop := ∃ ao cap, v = .slice ao l.length cap ∧ l.length ≤ cap ∧ cap ≤ maxLen ∧ l.length ≤ 2000 ∧ (l ≠ [] → ∃ g o, ao = some ⟨g, o, none⟩ ∧ S g ∧ RowAt w g o l)
theorem RowAt.block {w w' : World} {g : Nat} (hb : w'.heap[g]? = w.heap[g]?) : ∀ {l : List Nd} {o : Nat}, RowAt w g o l → RowAt w' g o l
  | [], _, _ => trivial
  | _ :: _, _, ⟨⟨h0, h1, h2, h3, h4⟩, hr⟩ => ⟨⟨(World.cell?_of_block (a := ⟨g, _, none⟩) hb).trans h0, (World.cell?_of_block (a := ⟨g, _, none⟩) hb).trans h1, (World.cell?_of_block (a := ⟨g, _, none⟩) hb).trans h2, (World.cell?_of_block (a := ⟨g, _, none⟩) hb).trans h3, (World.cell?_of_block (a := ⟨g, _, none⟩) hb).trans h4⟩, RowAt.block hb hr⟩
theorem RdW.carry {w w' : World} {S S' : Nat → Prop} {v : Value} {l : List Nd} (h : RdW w S v l) (hb : ∀ g, S g → w'.heap[g]? = w.heap[g]?) (hS : ∀ g, S g → S' g) : RdW w' S' v l := by
  obtain ⟨ao, cap, e, h1, h2, h3, h4⟩ := h
  refine ⟨ao, cap, e, h1, h2, h3, fun hne => ?_⟩
  obtain ⟨g, o, e1, e2, e3⟩ := h4 hne
  exact ⟨g, o, e1, hS g e2, e3.block (hb g e2)⟩
theorem RdW.up {w : World} {S S' : Nat → Prop} {v : Value} {l : List Nd} (h : RdW w S v l) (hS : ∀ g, S g → S' g) : RdW w S' v l := h.carry (fun _ _ => rfl) hS
theorem RdW.on {w w' : World} {S : Nat → Prop} {v : Value} {l : List Nd} (h : RdW w S v l) (hS : ∀ g, S g → g < w.heap.size) (hb : Below w.heap.size w w') : RdW w' S v l := h.carry (fun g hg => hb.block g (hS g hg)) (fun _ hg => hg)
theorem drop_next {all post : List Nd} {pos : Nat} {x : Nd} {r : List Nd} (h : all.drop pos = x :: r ++ post) : ∃ hp : pos < all.length, all[pos] = x ∧ all.drop (pos + 1) = r ++ post := by
  have hp : pos < all.length := by
    rcases Nat.lt_or_ge pos all.length with h' | h'
    · exact h'
    · rw [List.drop_of_length_le h'] at h; cases h
  rw [List.drop_eq_getElem_cons hp, List.cons_append] at h
  injection h with h1 h2
  exact ⟨hp, h1, h2⟩
theorem drop_len {all mid post : List Nd} {pos : Nat} (h : all.drop pos = mid ++ post) (hm : mid ≠ []) : pos + mid.length + post.length = all.length := by
  have := congrArg List.length h
  rw [List.length_drop, List.length_append] at this
  have : 0 < mid.length := List.length_pos_iff.2 hm
  omega
theorem drop_more {all mid post : List Nd} {pos : Nat} (h : all.drop pos = mid ++ post) : all.drop (pos + mid.length) = post := by
  rw [← List.drop_drop, h, List.drop_left]
def BehindCalls (n : Nat) : Prop := ∀ (p : Pn n) (all post : List Nd) (pos : Nat) (v : Value) (w : World) (S : Nat → Prop), (∀ g, S g → g < w.heap.size) → shapeN n p → all.length ≤ 1000 → all.drop pos = rowN n p ++ post → RdW w S v all → Calls Try.prog 56 #[v, .int .i64 pos] w fun e w' => e = .returned (.int .i64 ((pos + (rowN n p).length : Nat) : Int)) ∧ Below w.heap.size w w'
set_option maxRecDepth 100000 in
set_option maxHeartbeats 1000000 in
theorem behind_leaf (x : Option ByteArray) (all post : List Nd) (pos : Nat) (v : Value) (w : World) (S : Nat → Prop) (hS : ∀ g, S g → g < w.heap.size) (hl : all.length ≤ 1000) (h : all.drop pos = leafRow x ++ post) (hv : RdW w S v all) : Calls Try.prog 56 #[v, .int .i64 pos] w fun e w' => e = .returned (.int .i64 ((pos + (leafRow x).length : Nat) : Int)) ∧ Below w.heap.size w w' := by
  obtain ⟨nd, hr, hop, hmany⟩ : ∃ nd, leafRow x = [nd] ∧ (nd.op = 0 ∨ nd.op = 1) ∧ nd.many = 0 := by
    cases x with
    | none => exact ⟨_, rfl, .inl rfl, rfl⟩
    | some x => exact ⟨_, rfl, .inr rfl, rfl⟩
  rw [hr] at h ⊢
  obtain ⟨hp, hn, -⟩ := drop_next h
  obtain ⟨ao, cap, rfl, hc, hm, -, hrow⟩ := hv
  obtain ⟨g, o, rfl, hg, hrow⟩ := hrow (fun e => by rw [e] at hp; simp at hp)
  have hnode := hrow.get pos hp
  rw [hn] at hnode
  obtain ⟨op, name, peer, many, sort⟩ := nd
  dsimp only at hmany hop
  subst hmany
  obtain ⟨c0, c1, c2, c3, c4⟩ := hnode
  dsimp only at c0 c1 c2 c3 c4
  have HL : Hid (([⟨op, name, peer, 0, sort⟩] : List Nd).length = 1) := hide rfl
  have e2 : (op == 2) = false := by rcases hop with rfl | rfl <;> rfl
  have hgw := hS g hg
  obtain ⟨M, hM⟩ : ∃ M, all.length = M := ⟨_, rfl⟩
  rw [hM] at hp hl hc ⊢
  clear hrow hn hr h hS hM hop
  go_enter Try.func56, Try.ntmps56
  go_wp2_with fail
  go_loopw [1, 6] (fun av kv wr => av = .int .i64 ((pos : Int) + 1) ∧ kv = .int .i64 0 ∧ wr = w.alloc (.cells #[.int .i64 op, .string name, .string peer, .int .i64 0, .int .i64 sort] 87)) (fun _ _ _ => 0)
  case atStart => exact ⟨by go_num, rfl, rfl⟩
  case round =>
    obtain ⟨rfl, rfl, rfl⟩ := hrel
    go_wp2_with fail
    go_ret
    refine ⟨?_, malloc1 w _⟩
    show Ending.returned (.int .i64 ((pos : Int) + 1)) = .returned (.int .i64 ((pos + 1 : Nat) : Int))
    rw [Int.natCast_add]
    rfl
set_option maxRecDepth 100000 in
set_option maxHeartbeats 1000000 in
theorem behind_loop (n : Nat) (ih : BehindCalls n) (x : ByteArray) (q : Pn n) (hq : shapeN n q) (all post : List Nd) (pos : Nat) (v : Value) (w : World) (S : Nat → Prop) (hS : ∀ g, S g → g < w.heap.size) (hl : all.length ≤ 1000) (h : all.drop pos = rowN (n + 1) (.loop x q) ++ post) (hv : RdW w S v all) : Calls Try.prog 56 #[v, .int .i64 pos] w fun e w' => e = .returned (.int .i64 ((pos + (rowN (n + 1) (.loop x q)).length : Nat) : Int)) ∧ Below w.heap.size w w' := by
  rw [row_loop] at h ⊢
  obtain ⟨hp, hn, h1⟩ := drop_next h
  have HIH : Hid (∀ W, Below w.heap.size w W → Calls Try.prog 56 #[v, .int .i64 ((pos + 1 : Nat) : Int)] W fun e w' => e = .returned (.int .i64 ((pos + 1 + (rowN n q).length : Nat) : Int)) ∧ Below W.heap.size W w') := hide (fun W hW => ih q all post (pos + 1) v W S (fun g hg => Nat.lt_of_lt_of_le (hS g hg) hW.size) hq hl h1 (hv.on hS hW))
  obtain ⟨ao, cap, rfl, hc, hm, -, hrow⟩ := hv
  obtain ⟨g, o, rfl, hg, hrow⟩ := hrow (fun e => by rw [e] at hp; simp at hp)
  have hnode := hrow.get pos hp
  rw [hn] at hnode
  obtain ⟨c0, c1, c2, c3, c4⟩ := hnode
  dsimp only at c0 c1 c2 c3 c4
  have hgw := hS g hg
  obtain ⟨M, hM⟩ : ∃ M, all.length = M := ⟨_, rfl⟩
  rw [hM] at hp hl hc HIH ⊢
  clear hrow hn h h1 hS hM ih
  go_enter Try.func56, Try.ntmps56
  go_wp2_with (go_at_call 56; refine (HIH.out _ (malloc1 _ _)).mono ?_; rintro e w1 ⟨rfl, hb1⟩; have HB1 : Hid (Below w.heap.size w w1) := hide ((malloc1 w _).trans (hb1.mono (by simp))); clear hb1)
  go_ret
  refine ⟨?_, HB1.out⟩
  show Ending.returned (.int .i64 ((pos + 1 + (rowN n q).length : Nat) : Int)) = .returned (.int .i64 ((pos + ((rowN n q).length + 1) : Nat) : Int))
  rw [show pos + 1 + (rowN n q).length = pos + ((rowN n q).length + 1) by omega]
set_option maxRecDepth 100000 in
set_option maxHeartbeats 1000000 in
theorem behind_talk (n : Nat) (ih : BehindCalls n) (t : Tk) (l : List (Br (Pn n))) (ht : t.op ≠ 2) (hsh : ∀ b ∈ l, shapeN n b.p) (all post : List Nd) (pos : Nat) (v : Value) (w : World) (S : Nat → Prop) (hS : ∀ g, S g → g < w.heap.size) (hl : all.length ≤ 1000) (h : all.drop pos = rowN (n + 1) (.talk t l) ++ post) (hv : RdW w S v all) : Calls Try.prog 56 #[v, .int .i64 pos] w fun e w' => e = .returned (.int .i64 ((pos + (rowN (n + 1) (.talk t l)).length : Nat) : Int)) ∧ Below w.heap.size w w' := by
  rw [row_talk] at h ⊢
  obtain ⟨hp, hn, h1⟩ := drop_next h
  have HIH : Hid (∀ (k p : Nat) (b : Br (Pn n)), l[k]? = some b → all.drop p = brsBy (rowN n) (l.drop k) ++ post → (all.drop (p + 1 + (rowN n b.p).length) = brsBy (rowN n) (l.drop (k + 1)) ++ post ∧ p + 1 < all.length) ∧ ∀ W, Below w.heap.size w W → Calls Try.prog 56 #[v, .int .i64 ((p : Int) + 1)] W fun e w' => e = .returned (.int .i64 ((p + 1 + (rowN n b.p).length : Nat) : Int)) ∧ Below W.heap.size W w') := hide (fun k p b hb hd => by
    have hlt := (List.getElem?_eq_some_iff.1 hb).1
    have hbe : l[k] = b := (List.getElem?_eq_some_iff.1 hb).2
    rw [List.drop_eq_getElem_cons hlt, hbe, brs_cons, List.cons_append, List.append_assoc] at hd
    obtain ⟨hp1, hn1, h2⟩ := drop_next (r := rowN n b.p ++ brsBy (rowN n) (l.drop (k + 1))) (post := post) (by rw [hd, List.cons_append, List.append_assoc])
    rw [List.append_assoc] at h2
    refine ⟨⟨drop_more h2, ?_⟩, fun W hW => ?_⟩
    · rcases Nat.lt_or_ge (p + 1) all.length with h' | h'
      · exact h'
      · rw [List.drop_of_length_le h'] at h2
        have := congrArg List.length h2
        rw [List.length_append] at this
        have := row_pos n b.p
        simp at *
        omega
    · exact ih b.p all _ (p + 1) v W S (fun g hg => Nat.lt_of_lt_of_le (hS g hg) hW.size) (hsh b (List.mem_of_getElem? hb)) hl h2 (hv.on hS hW))
  obtain ⟨ao, cap, rfl, hc, hm, -, hrow⟩ := hv
  obtain ⟨g, o, rfl, hg, hrow⟩ := hrow (fun e => by rw [e] at hp; simp at hp)
  have hnode := hrow.get pos hp
  rw [hn] at hnode
  obtain ⟨op, a, b⟩ := t
  dsimp only at ht
  obtain ⟨c0, c1, c2, c3, c4⟩ := hnode
  dsimp only at c0 c1 c2 c3 c4
  have hgw := hS g hg
  have e2 : (op == 2) = false := by simpa using ht
  have hbl : l.length ≤ 1000 := by
    have h1' := congrArg List.length h1
    rw [List.length_drop, List.length_append] at h1'
    have := brs_count (rowN n) l
    omega
  have HH := hide h1
  have HTL : Hid (∀ p, all.drop p = brsBy (rowN n) (l.drop l.length) ++ post → p ≤ all.length → p = pos + ((brsBy (rowN n) l).length + 1)) := hide (fun p hd hple => by
    have h1' := congrArg List.length h1
    have h2' := congrArg List.length hd
    rw [List.drop_length] at h2'
    simp only [List.length_drop, List.length_append, brsBy, List.flatMap_nil, List.length_nil] at h1' h2'
    have : pos < all.length := hp
    unfold brsBy
    omega)
  obtain ⟨K, hK⟩ : ∃ K, l.length = K := ⟨_, rfl⟩
  obtain ⟨M, hM⟩ : ∃ M, all.length = M := ⟨_, rfl⟩
  rw [hM] at hp hl hc HIH HTL ⊢
  rw [hK] at c3 hbl HTL
  have HK := hide hK
  have HM := hide hM
  clear hrow hn h h1 hS hM hK ih hsh ht
  go_enter Try.func56, Try.ntmps56
  go_wp2_with fail
  go_loopw [1, 6] (fun av kv wr => ∃ k p : Nat, k ≤ K ∧ p ≤ M ∧ av = .int .i64 p ∧ kv = .int .i64 k ∧ all.drop p = brsBy (rowN n) (l.drop k) ++ post ∧ Below (w.heap.size + 1) (w.alloc (.cells #[.int .i64 op, .string a, .string b, .int .i64 (K : Int), .int .i64 0] 87)) wr) (fun _ kv _ => K - (intOf kv).toNat)
  case atStart => exact ⟨0, pos + 1, Nat.zero_le _, hp, by go_num, rfl, HH.out, Below.refl _ _⟩
  case round =>
    obtain ⟨k, p, hk, hpM, rfl, rfl, hd, hb⟩ := hrel
    have HD := hide hd
    have HB := hide hb
    have m3 : wr.cell? ⟨w.heap.size, 3, none⟩ = some (.int .i64 (K : Int)) := (hb.cell (p := ⟨w.heap.size, 3, none⟩) (by simp)).trans (by simp)
    have HBW : Hid (Below w.heap.size w wr) := hide ((malloc1 w _).trans (hb.mono (by omega)))
    have hzw := HBW.out.size
    clear hd hb
    by_cases hlt : k < K
    · obtain ⟨d, hdk⟩ : ∃ d, l[k]? = some d := ⟨l[k]'(by rw [HK.out]; exact hlt), List.getElem?_eq_getElem _⟩
      obtain ⟨⟨hnx, hp1⟩, hcall⟩ := HIH.out k p d hdk HD.out
      have HC := hide hcall
      have HNX := hide hnx
      have hle : p + 1 + (rowN n d.p).length ≤ M := by
        have := congrArg List.length HNX.out
        have h0 := congrArg List.length HD.out
        rw [List.length_drop] at this
        rw [List.length_drop] at h0
        have hbd := brs_drop hdk
        simp only [List.length_append, HM.out] at this h0
        omega
      clear hcall hnx hdk
      go_wp2_with (go_at_call 56; refine (HC.out _ HBW.out).mono ?_; rintro e w1 ⟨rfl, hb1⟩; have HB1 := hide hb1; clear hb1)
      go_roundw
      case rel => exact ⟨k + 1, p + 1 + (rowN n d.p).length, hlt, hle, rfl, by go_num, HNX.out, HB.out.trans (HB1.out.mono (by have := HB.out.size; simpa using this))⟩
      case measure => simp [intOf]; omega
    · obtain rfl : k = K := by omega
      have HE := hide (HTL.out p HD.out hpM)
      go_wp2_with fail
      go_ret
      refine ⟨?_, HBW.out⟩
      rw [← HE.out]
      rfl
theorem behind_calls : ∀ n : Nat, BehindCalls n := by
  intro n
  induction n with
  | zero => intro p all post pos v w S hS _ hl h hv; exact behind_leaf p all post pos v w S hS hl h hv
  | succ n ih =>
    intro p
    refine Pn.cases (P := fun p => ∀ (all post : List Nd) (pos : Nat) (v : Value) (w : World) (S : Nat → Prop), (∀ g, S g → g < w.heap.size) → shapeN (n + 1) p → all.length ≤ 1000 → all.drop pos = rowN (n + 1) p ++ post → RdW w S v all → Calls Try.prog 56 #[v, .int .i64 pos] w fun e w' => e = .returned (.int .i64 ((pos + (rowN (n + 1) p).length : Nat) : Int)) ∧ Below w.heap.size w w') (fun x all post pos v w S hS _ hl h hv => behind_leaf x all post pos v w S hS hl h hv) (fun x q all post pos v w S hS hs hl h hv => behind_loop n ih x q hs all post pos v w S hS hl h hv) (fun t l all post pos v w S hS hs hl h hv => ?_) p
    have hs' : tkOk t ∧ l ≠ [] ∧ ∀ b ∈ l, shapeN n b.p := hs
    refine behind_talk n ih t l (fun e => ?_) hs'.2.2 all post pos v w S hS hl h hv
    rcases hs'.1 with h3 | ⟨h5 | h6, _⟩ <;> omega
end Go.Proofs.Ytlbcnmcfljaijaa
namespace Go.Proofs.Ytlbcnmcfljaijaa
open Go.RowKit
attribute [local go_sem ↓] Go.wp_at_zero Go.wp_at_succ

def isIn (role : ByteArray) (n : Nd) : Bool := n.op == 3 && (n.name.toList == role.toList || n.peer.toList == role.toList)
theorem has_any (role : ByteArray) (l : List Nd) : hasRole role l = l.any (isIn role) := rfl
theorem mid_get {all mid post : List Nd} {pos k : Nat} (h : all.drop pos = mid ++ post) (hk : k < mid.length) : ∃ hp : pos + k < all.length, all[pos + k] = mid[k] := by
  have h1 := congrArg (fun l => l[k]?) h
  rw [List.getElem?_drop, List.getElem?_append_left hk, List.getElem?_eq_getElem hk] at h1
  exact List.getElem?_eq_some_iff.1 h1
set_option maxRecDepth 100000 in
set_option maxHeartbeats 1000000 in
theorem s_talks (role : ByteArray) (all mid post : List Nd) (pos : Nat) (v : Value) (w : World) (S : Nat → Prop) (hS : ∀ g, S g → g < w.heap.size) (hl : all.length ≤ 1000) (hpl : pos ≤ 1000) (h : all.drop pos = mid ++ post) (hv : RdW w S v all) :
    Calls Try.prog 57 #[v, .int .i64 pos, .int .i64 ((pos + mid.length : Nat) : Int), .string role] w fun e w' => e = .returned (.bool (hasRole role mid)) ∧ Below w.heap.size w w' := by
  obtain ⟨ao, cap, rfl, hc, hm, -, hrow⟩ := hv
  have HR := hide hrow
  have HH := hide h
  have HS := hide hS
  have hlm : mid.length ≤ 1000 := by have := congrArg List.length h; rw [List.length_drop, List.length_append] at this; omega
  obtain ⟨M, hM⟩ : ∃ M, mid.length = M := ⟨_, rfl⟩
  obtain ⟨L, hL⟩ : ∃ L, all.length = L := ⟨_, rfl⟩
  rw [hM] at hlm ⊢
  rw [hL] at hl hc ⊢
  have HM := hide hM
  have HL := hide hL
  clear hrow h hS hM hL
  go_enter Try.func57, Try.ntmps57
  go_wp2_with fail
  go_loopw [9] (fun i wr => ∃ k : Nat, k ≤ M ∧ i = .int .i64 ((pos + k : Nat) : Int) ∧ (∀ j (hj : j < mid.length), j < k → isIn role mid[j] = false) ∧ Below w.heap.size w wr) (fun i _ => pos + M - (intOf i).toNat)
  case atStart => exact ⟨0, Nat.zero_le _, rfl, fun j _ h => absurd h (by omega), Below.refl _ _⟩
  case round =>
    obtain ⟨k, hk, rfl, hall, hb⟩ := hrel
    have HA := hide hall
    have HB := hide hb
    clear hall hb
    by_cases hlt : k < M
    · have hkm : k < mid.length := by rw [HM.out]; exact hlt
      obtain ⟨hpk, hget⟩ := mid_get HH.out hkm
      obtain ⟨g, o, rfl, hg, hrow⟩ := HR.out (fun e => by rw [e] at hpk; simp at hpk)
      have hnode := (hrow.get (pos + k) hpk).carry (HS.out g hg) HB.out
      rw [hget] at hnode
      obtain ⟨x, hx⟩ : ∃ x, mid[k] = x := ⟨_, rfl⟩
      rw [hx] at hnode
      have HX := hide hx
      obtain ⟨op, name, peer, many, sort⟩ := x
      obtain ⟨c0, c1, c2, c3, c4⟩ := hnode
      dsimp only at c0 c1 c2 c3 c4
      rw [HL.out] at hpk
      clear hrow hget hx
      have HNO : Hid (isIn role ⟨op, name, peer, many, sort⟩ = false → ∀ j (hj : j < mid.length), j < k + 1 → isIn role mid[j] = false) := hide (fun h0 j hj hjk => by
        by_cases e : j = k
        · subst e; rw [HX.out]; exact h0
        · exact HA.out j hj (by omega))
      have HYES : Hid (isIn role ⟨op, name, peer, many, sort⟩ = true → hasRole role mid = true) := hide (fun h0 => by
        rw [has_any, List.any_eq_true]
        exact ⟨mid[k], List.getElem_mem hkm, by rw [HX.out]; exact h0⟩)
      have hI : isIn role ⟨op, name, peer, many, sort⟩ = ((op == 3) && (name.toList == role.toList || peer.toList == role.toList)) := rfl
      rw [hI] at HNO HYES
      obtain ⟨q3, h3⟩ : ∃ q, (op == 3) = q := ⟨_, rfl⟩
      obtain ⟨q1, h1⟩ : ∃ q, (name.toList == role.toList) = q := ⟨_, rfl⟩
      obtain ⟨q2, h2⟩ : ∃ q, (peer.toList == role.toList) = q := ⟨_, rfl⟩
      rw [h3, h1, h2] at HNO HYES
      clear hI
      cases q3
      · go_wp2_with fail
        go_roundw
        case rel => exact ⟨k + 1, hlt, by go_num, HNO.out rfl, HB.out⟩
        case measure => simp [intOf]; omega
      · cases q1
        · cases q2
          · go_wp2_with fail
            go_roundw
            case rel => exact ⟨k + 1, hlt, by go_num, HNO.out rfl, HB.out⟩
            case measure => simp [intOf]; omega
          · go_wp2_with fail
            go_ret
            exact ⟨ret_bool (HYES.out rfl), HB.out⟩
        · go_wp2_with fail
          go_ret
          exact ⟨ret_bool (HYES.out (by cases q2 <;> rfl)), HB.out⟩
    · obtain rfl : k = M := by omega
      have HF : Hid (hasRole role mid = false) := hide (by
        rw [has_any, List.any_eq_false]
        intro x hx
        obtain ⟨j, hj, rfl⟩ := List.getElem_of_mem hx
        rw [HA.out j hj (by rw [← HM.out]; exact hj)]
        simp)
      go_wp2_with fail
      go_ret
      exact ⟨ret_bool HF.out, HB.out⟩
set_option maxRecDepth 100000 in
set_option maxHeartbeats 1000000 in
theorem s_same (x y : List Nd) (v u : Value) (w : World) (S : Nat → Prop) (hS : ∀ g, S g → g < w.heap.size) (hx : RdW w S v x) (hy : RdW w S u y) :
    Calls Try.prog 77 #[v, u] w fun e w' => e = .returned (.bool (rowEq x y)) ∧ Below w.heap.size w w' := by
  obtain ⟨ax, cx, rfl, hcx, hmx, hlx, hrx⟩ := hx
  obtain ⟨ay, cy, rfl, hcy, hmy, hly, hry⟩ := hy
  have HRX := hide hrx
  have HRY := hide hry
  have HS := hide hS
  obtain ⟨L, hL⟩ : ∃ L, x.length = L := ⟨_, rfl⟩
  obtain ⟨M, hM⟩ : ∃ M, y.length = M := ⟨_, rfl⟩
  rw [hL] at hlx hcx ⊢
  rw [hM] at hly hcy ⊢
  have HL := hide hL
  have HM := hide hM
  clear hrx hry hL hM hS
  by_cases hne : L = M
  · subst hne
    go_enter Try.func77, Try.ntmps77
    go_wp2_with fail
    go_loopw [5] (fun i wr => ∃ k : Nat, k ≤ L ∧ i = .int .i64 k ∧ (∀ j (h1 : j < x.length) (h2 : j < y.length), j < k → ndEq x[j] y[j] = true) ∧ Below w.heap.size w wr) (fun i _ => L - (intOf i).toNat)
    case atStart => exact ⟨0, Nat.zero_le _, rfl, fun j _ _ h => absurd h (by omega), Below.refl _ _⟩
    case round =>
      obtain ⟨k, hk, rfl, hall, hbel⟩ := hrel
      have HA := hide hall
      have HBEL := hide hbel
      clear hall
      by_cases hlt : k < L
      · have hkx : k < x.length := by rw [HL.out]; exact hlt
        have hky : k < y.length := by rw [HM.out]; exact hlt
        obtain ⟨b, o, rfl, hbB, hrow⟩ := HRX.out (by intro h; rw [h] at hkx; simp at hkx)
        obtain ⟨b', o', rfl, hbB', hrow'⟩ := HRY.out (by intro h; rw [h] at hky; simp at hky)
        have hn1 := (hrow.get k hkx).carry (HS.out b hbB) hbel
        have hn2 := (hrow'.get k hky).carry (HS.out b' hbB') hbel
        obtain ⟨x1, hx1⟩ : ∃ x1, x[k] = x1 := ⟨_, rfl⟩
        obtain ⟨y1, hy1⟩ : ∃ y1, y[k] = y1 := ⟨_, rfl⟩
        rw [hx1] at hn1
        rw [hy1] at hn2
        obtain ⟨c0, c1, c2, c3, c4⟩ := hn1
        obtain ⟨d0, d1, d2, d3, d4⟩ := hn2
        obtain ⟨r, hr⟩ : ∃ r, ndEq x1 y1 = r := ⟨_, rfl⟩
        have heq : ∀ W, (Op.equalIn 10000 87 (.agg #[.int .i64 x1.op, .string x1.name, .string x1.peer, .int .i64 x1.many, .int .i64 x1.sort]) (.agg #[.int .i64 y1.op, .string y1.name, .string y1.peer, .int .i64 y1.many, .int .i64 y1.sort])).run Try.prog W = .ok r W := fun W => by rw [nd_equal, hr]
        have HRR := hide hr
        have HX1 := hide hx1
        have HY1 := hide hy1
        clear hrow hrow' hr hx1 hy1 hbel
        cases r
        · go_wp2_with fail
          go_region
          go_wp2_with fail
          all_goals
            go_ret
            exact ⟨ret_bool (rowEq_no hkx hky (by rw [HX1.out, HY1.out]; exact HRR.out)), by first | exact HBEL.out | exact HBEL.out.drew⟩
        · go_wp2_with fail
          go_region
          go_wp2_with fail
          all_goals
            go_roundw
            case rel =>
              refine ⟨k + 1, hlt, by go_num, fun j h1 h2 hjk => ?_, by first | exact HBEL.out | exact HBEL.out.drew⟩
              by_cases hjk' : j = k
              · subst hjk'; rw [HX1.out, HY1.out]; exact HRR.out
              · exact HA.out j h1 h2 (by omega)
            case measure => simp [intOf]; omega
      · go_wp2_with fail
        go_ret
        exact ⟨ret_bool (rowEq_yes (by rw [HL.out, HM.out]) (fun j h1 h2 => HA.out j h1 h2 (by rw [HL.out] at h1; omega))), HBEL.out⟩
  · have HF : Hid (rowEq x y = false) := hide (rowEq_len (by rw [HL.out, HM.out]; exact hne))
    have hq : ((L : Int) == (M : Int)) = false := beq_eq_false_iff_ne.2 (by omega)
    go_enter Try.func77, Try.ntmps77
    go_wp2_with fail
    go_ret
    exact ⟨ret_bool HF.out, Below.refl _ _⟩
end Go.Proofs.Ytlbcnmcfljaijaa
namespace Go.Proofs.Ytlbcnmcfljaijaa
open Go.RowKit
attribute [local go_sem ↓] Go.wp_at_zero Go.wp_at_succ

structure RoundD (w wr : World) (mid : List Nd) (nv : Value) (k : Nat) (ns : List ByteArray) : Prop where
  same : closedL ns (mid.drop k) = closedL [] mid
  own : wr.ownsRow w.heap.size 9 1 nv ns.length (ns.map Value.string)
  len : ns.length ≤ k
  bel : Below w.heap.size w wr
set_option maxRecDepth 100000 in
set_option maxHeartbeats 2000000 in
theorem s_closed (all mid post : List Nd) (pos : Nat) (v : Value) (w : World) (S : Nat → Prop) (hS : ∀ g, S g → g < w.heap.size) (hl : all.length ≤ 1000) (hpl : pos ≤ 1000) (h : all.drop pos = mid ++ post) (hv : RdW w S v all) :
    Calls Try.prog 58 #[v, .int .i64 pos, .int .i64 ((pos + mid.length : Nat) : Int)] w fun e w' => e = .returned (.bool (closedL [] mid)) ∧ Below w.heap.size w w' := by
  obtain ⟨i0, hi, hz0, hz1, hz2⟩ := info_parts Try.infoStrR
  have HI := hide (And.intro hi (And.intro hz0 (And.intro hz1 hz2)))
  obtain ⟨ao, cap, rfl, hc, hm, -, hrow⟩ := hv
  have HR := hide hrow
  have HH := hide h
  have HS := hide hS
  have hlm : mid.length ≤ 1000 := by have := congrArg List.length h; rw [List.length_drop, List.length_append] at this; omega
  obtain ⟨M, hM⟩ : ∃ M, mid.length = M := ⟨_, rfl⟩
  obtain ⟨L, hL⟩ : ∃ L, all.length = L := ⟨_, rfl⟩
  rw [hM] at hlm ⊢
  obtain ⟨T, hT⟩ : ∃ T, pos + M = T := ⟨_, rfl⟩
  rw [hT]
  rw [hL] at hl hc ⊢
  have HM := hide hM
  have HL := hide hL
  clear hrow h hS hM hL hi hz0 hz1 hz2
  go_enter Try.func58, Try.ntmps58
  go_wp2_with fail
  go_loopw [7, 8] (fun nv i wr => ∃ (k : Nat) (ns : List ByteArray), k ≤ M ∧ i = .int .i64 ((pos + k : Nat) : Int) ∧ RoundD w wr mid nv k ns) (fun _ i _ => pos + M - (intOf i).toNat)
  case atStart => exact ⟨0, [], Nat.zero_le _, rfl, ⟨rfl, owns_empty _ _ _ _ _ (Nat.le_refl _) (mheap_new _ _ _ rfl), Nat.le_refl _, malloc1 _ _⟩⟩
  case round =>
    obtain ⟨k, ns, hk, rfl, hR⟩ := hrel
    have HRR := hide hR
    have hzw := hR.bel.size
    have hnl := hR.len
    obtain ⟨np, nc, hnv⟩ := owns_shape hR.own
    obtain ⟨Q, hQ⟩ : ∃ Q, ns.length = Q := ⟨_, rfl⟩
    rw [hQ] at hnv hnl
    have HQ := hide hQ
    subst hnv
    by_cases hlt : k < M
    · have hkm : k < mid.length := by rw [HM.out]; exact hlt
      obtain ⟨hpk, hget⟩ := mid_get HH.out hkm
      obtain ⟨g, o, rfl, hg, hrow⟩ := HR.out (fun e => by rw [e] at hpk; simp at hpk)
      have hgw := HS.out g hg
      have hnode := (hrow.get (pos + k) hpk).carry hgw hR.bel
      rw [hget] at hnode
      have HST : Hid (∀ x, mid[k] = x → closedL [] mid = if x.op == 2 then closedL (ns ++ [x.name]) (mid.drop (k + 1)) else if x.op == 1 && !hasB ns x.name then false else closedL ns (mid.drop (k + 1))) := hide (fun x hx => by
        rw [← hR.same, List.drop_eq_getElem_cons hkm, hx, closedL])
      obtain ⟨x, hx⟩ : ∃ x, mid[k] = x := ⟨_, rfl⟩
      rw [hx] at hnode
      have HS1 := hide (HST.out x hx)
      have HOWN : Hid (wr.ownsRow w.heap.size 9 1 (.slice np Q nc) Q (ns.map Value.string)) := hide (by have := hR.own; rw [HQ.out] at this; exact this)
      obtain ⟨op, name, peer, many, sort⟩ := x
      obtain ⟨c0, c1, c2, c3, c4⟩ := hnode
      dsimp only at c0 c1 c2 c3 c4
      rw [HL.out] at hpk
      have hbw : g < wr.heap.size := Nat.lt_of_lt_of_le hgw hzw
      clear hrow hget hx hR hQ HST
      by_cases h2 : op = 2
      · subst h2
        go_wp2_with (at_builtin; refine wpList_append_own _ rfl (.tmp 22) (.tmp 28) 68 rfl w.heap.size 9 i0 (.string ByteArray.empty) 1 16 Try.underlying68 HI.out.1 HI.out.2.1 HI.out.2.2.1 HI.out.2.2.2 rfl (by decide) (.slice np Q nc) Q (ns.map Value.string) rfl (owns_below HOWN.out (malloc1 wr _)) ⟨wr.heap.size, 0, none⟩ 1 1 [.string name] rfl rfl (fun j u hj => new_rowq _ _ _ _ (by simp) j u hj) (by intro u hu; simp at hu; subst hu; rfl) (by unfold maxLen; omega) (by omega) (by simp; omega) ?_; intro v4 w4 hown4 hgr4 _; have HO4 := hide hown4; have HA4 : Hid (Apart wr w4 (vblocks (.slice np Q nc))) := hide (by have := (below_apart (malloc1 wr _)).trans (grownBy_apart hgr4); rwa [List.nil_append] at this); have d0 : w4.cell? ⟨g, o + (pos + k) * 5, none⟩ = some (.int .i64 2) := HA4.out.cell' c0 (fun hm => absurd ((owns_fresh HOWN.out).lo _ hm) (by omega)); obtain ⟨p4, c4', rfl⟩ := owns_shape hown4; clear hown4 hgr4)
        go_roundw
        case rel =>
          refine ⟨k + 1, ns ++ [name], hlt, by go_num, ⟨?_, ?_, by rw [List.length_append, HQ.out]; simp; omega, HRR.out.bel.trans (HA4.out.below hzw (owns_fresh HOWN.out).lo)⟩⟩
          · rw [HS1.out]; rfl
          · rw [List.length_append, List.length_singleton, HQ.out, List.map_append]
            exact HO4.out
        case measure => simp [intOf]; omega
      · have e2 : (op == 2) = false := by simpa using h2
        by_cases h1 : op = 1
        · subst h1
          obtain ⟨q, hq⟩ : ∃ q, hasB ns name = q := ⟨_, rfl⟩
          have HQQ := hide hq
          have HCO : Hid (∀ W, Below wr.heap.size wr W → Calls Try.prog 69 #[.slice np Q nc, .string name] W fun e w' => e = .returned (.bool q) ∧ w' = W) := hide (fun W hW => by
            have := s_among ns name (.slice np Q nc) W (texts_own (base := w.heap.size) (e := 9) (by rw [HQ.out]; exact owns_below HOWN.out hW) (by rw [HQ.out]; omega))
            rw [hq] at this
            exact this)
          clear hq
          cases q
          · go_wp2_with (go_at_call 69; refine (HCO.out _ (Below.refl _ _)).mono ?_; rintro e w' ⟨rfl, hw'⟩; subst w')
            go_ret
            refine ⟨ret_bool ?_, HRR.out.bel⟩
            rw [HS1.out]
            simp [HQQ.out]
          · go_wp2_with (go_at_call 69; refine (HCO.out _ (Below.refl _ _)).mono ?_; rintro e w' ⟨rfl, hw'⟩; subst w')
            go_roundw
            case rel =>
              refine ⟨k + 1, ns, hlt, by go_num, ⟨?_, by rw [HQ.out]; exact HOWN.out, by rw [HQ.out]; omega, HRR.out.bel⟩⟩
              rw [HS1.out]
              simp [HQQ.out]
            case measure => simp [intOf]; omega
        · have e1 : (op == 1) = false := by simpa using h1
          go_wp2_with fail
          go_roundw
          case rel =>
            refine ⟨k + 1, ns, hlt, by go_num, ⟨?_, by rw [HQ.out]; exact HOWN.out, by rw [HQ.out]; omega, HRR.out.bel⟩⟩
            rw [HS1.out]
            simp [e1, e2]
          case measure => simp [intOf]; omega
    · have HT : Hid (closedL [] mid = true) := hide (by rw [← HRR.out.same, List.drop_of_length_le (by rw [HM.out]; omega), closedL])
      go_wp2_with fail
      go_ret
      exact ⟨ret_bool HT.out, HRR.out.bel⟩
end Go.Proofs.Ytlbcnmcfljaijaa
namespace Go.Proofs.Ytlbcnmcfljaijaa
open Go.RowKit
attribute [local go_sem ↓] Go.wp_at_zero Go.wp_at_succ

section
variable {n : Nat}
def BV.six (x : BV n) : List Value := [.int .i64 4, .string x.b.l, .string ByteArray.empty, .int .i64 0, .int .i64 x.b.s, x.u]
theorem BV.six_len (x : BV n) : x.six.length = 6 := rfl
theorem six_one {w : World} {S : Nat → Prop} {x : BV n} {r : List Nd} (h : RdW w S x.u r) : ∀ u ∈ x.six, u.oneCell' = true := by
  intro u hu
  obtain ⟨ao, cap, e, -⟩ := h
  simp [BV.six] at hu
  rcases hu with rfl | rfl | rfl | rfl | rfl | rfl
  · rfl
  · rfl
  · rfl
  · rfl
  · rfl
  · rw [e]; rfl
structure CsO (S : Nat → Prop) (a : Nat) (w : World) (base : Nat) (v : Value) (l : List (BV n)) : Prop where
  own : w.ownsRow base 126 6 v l.length (l.flatMap BV.six)
  rds : ∀ x ∈ l, RdW w (but S a w.heap.size v) x.u (rowN n x.b.p)
  low : ∀ g, S g → g < a
  ab : a ≤ base
  siz : a ≤ w.heap.size
variable {S : Nat → Prop} {a : Nat}
theorem CsO.keep {w w' : World} {base : Nat} {v : Value} {l : List (BV n)} (h : CsO S a w base v l) (hb : Below w.heap.size w w') : CsO S a w' base v l :=
  ⟨owns_below h.own hb, fun x hx => (h.rds x hx).carry (fun g hg => hb.block g (plus_lt h.low h.siz hg.1)) (fun _ hg => ⟨plus_up hb.size hg.1, hg.2⟩), h.low, h.ab, Nat.le_trans h.siz hb.size⟩
theorem CsO.get {w : World} {base g c : Nat} {l : List (BV n)} (h : CsO S a w base (.slice (some ⟨g, 0, none⟩) l.length c) l) {i : Nat} {x : BV n} (hi : l[i]? = some x) (j : Nat) (hj : j < 6) (y : Value) (hy : x.six[j]? = some y) : w.cell? ⟨g, i * 6 + j, none⟩ = some y := by
  obtain ⟨hlt, hxe⟩ := List.getElem?_eq_some_iff.1 hi
  exact owns_cell h.own rfl (i * 6 + j) y ((flat_get BV.six 6 BV.six_len l i hlt j hj).trans (by rw [hxe]; exact hy))
theorem cso_push {w w2 : World} {base : Nat} {v v' : Value} {l : List (BV n)} (h : CsO S a w base v l) (x : BV n) (hx : RdW w (but S a w.heap.size v) x.u (rowN n x.b.p)) (o : Obj) (hown : w2.ownsRow base 126 6 v' (l.length + 1) (l.flatMap BV.six ++ x.six)) (hg : (w.alloc o).grownBy w2 v.ownBlock) (hat : v'.ownBlock = v.ownBlock ∨ v'.ownBlock = some (w.alloc o).heap.size) : CsO S a w2 base v' (l ++ [x]) ∧ Apart w w2 (vblocks v) ∧ ∀ b ∈ vblocks v', b ∈ vblocks v ∨ w.heap.size ≤ b := by
  obtain ⟨p, c, hv⟩ := owns_shape h.own
  obtain ⟨p', c', hv'⟩ := owns_shape hown
  have hA : Apart w w2 (vblocks v) := by
    rw [hv] at hg ⊢
    have := (below_apart (malloc1 w o)).trans (grownBy_apart hg)
    rwa [List.nil_append] at this
  have key : ∀ {r : List Nd} {u : Value}, RdW w (but S a w.heap.size v) u r → RdW w2 (but S a w2.heap.size v') u r := fun hq => hq.carry (fun g hg => hA.block g (plus_lt h.low h.siz hg.1) hg.2) (fun g hg => ⟨plus_up hA.size hg.1, fun hm => by
    have hm' := (own_blocks hv').2 hm
    rcases hat with e | e
    · rw [e] at hm'
      exact hg.2 ((own_blocks hv).1 hm')
    · rw [e] at hm'
      have := plus_lt h.low h.siz hg.1
      simp at hm'
      omega⟩)
  refine ⟨⟨?_, fun y hy => ?_, h.low, h.ab, Nat.le_trans h.siz hA.size⟩, hA, fun b hm => ?_⟩
  · rw [List.length_append, List.length_singleton, List.flatMap_append]
    simpa using hown
  · rw [List.mem_append] at hy
    rcases hy with hy | hy
    · exact key (h.rds y hy)
    · simp at hy
      subst hy
      exact key hx
  · have hm' := (own_blocks hv').2 hm
    rcases hat with e | e
    · rw [e] at hm'
      exact .inl ((own_blocks hv).1 hm')
    · rw [e] at hm'
      simp at hm'
      exact .inr (by omega)
theorem six_set : ∀ (l : List (BV n)) (i : Nat) (x : BV n) (u : Value), l[i]? = some x → (l.flatMap BV.six).set (i * 6 + 5) u = (l.set i ⟨x.b, u⟩).flatMap BV.six
  | [], i, x, u, h => by simp at h
  | a :: l, 0, x, u, h => by
    simp at h
    subst h
    rfl
  | a :: l, i + 1, x, u, h => by
    rw [List.getElem?_cons_succ] at h
    rw [List.set_cons_succ, List.flatMap_cons, List.flatMap_cons, ← six_set l i x u h]
    have e : (i + 1) * 6 + 5 = a.six.length + (i * 6 + 5) := by rw [BV.six_len]; omega
    rw [e, List.set_append_right _ _ (by omega), Nat.add_sub_cancel_left]
theorem cso_set {w : World} {base g cap : Nat} {l : List (BV n)} (h : CsO S a w base (.slice (some ⟨g, 0, none⟩) l.length cap) l) {i : Nat} {x : BV n} (hi : l[i]? = some x) (q : Pn n) (u : Value) (hu : RdW w (but S a w.heap.size (.slice (some ⟨g, 0, none⟩) l.length cap)) u (rowN n q)) : CsO S a (w.setCell ⟨g, i * 6 + 5, none⟩ u) base (.slice (some ⟨g, 0, none⟩) l.length cap) (l.set i ⟨⟨x.b.l, x.b.s, q⟩, u⟩) := by
  have hA := setCell_apart w g (i * 6 + 5) u
  have key : ∀ {r : List Nd} {u' : Value}, RdW w (but S a w.heap.size (.slice (some ⟨g, 0, none⟩) l.length cap)) u' r → RdW (w.setCell ⟨g, i * 6 + 5, none⟩ u) (but S a (w.setCell ⟨g, i * 6 + 5, none⟩ u).heap.size (.slice (some ⟨g, 0, none⟩) l.length cap)) u' r := fun hq => hq.carry (fun b hb => hA.block b (plus_lt h.low h.siz hb.1) (fun hm => hb.2 (by simpa [vblocks, cellBlocks] using hm))) (fun b hb => ⟨plus_up hA.size hb.1, hb.2⟩)
  refine ⟨?_, fun y hy => ?_, h.low, h.ab, Nat.le_trans h.siz hA.size⟩
  · have := (World.ownsRow.stored h.own (i * 6 + 5) u).1
    rw [six_set l i x u hi] at this
    rw [List.length_set]
    have e : (l.set i ⟨x.b, u⟩).flatMap BV.six = (l.set i ⟨⟨x.b.l, x.b.s, q⟩, u⟩).flatMap BV.six := by
      clear hi this hu h hA key
      induction l generalizing i with
      | nil => rfl
      | cons a l ih =>
        cases i with
        | zero => rfl
        | succ i => rw [List.set_cons_succ, List.set_cons_succ, List.flatMap_cons, List.flatMap_cons, ih]
    rw [← e]
    exact this
  · rcases mem_setP hy with hy | hy
    · exact key (h.rds y hy)
    · subst hy
      exact key hu
end
theorem row_app {w : World} {g : Nat} : ∀ {l r : List Nd} {o : Nat}, RowAt w g o (l ++ r) → RowAt w g o l
  | [], _, _, _ => trivial
  | _ :: _, _, _, h => ⟨h.1, row_app h.2⟩
theorem Try.infoCs : (Try.prog.info? 126).map (fun i => (i.zero, i.size, i.bytes)) = some (some (.agg #[.int .i64 0, .string ByteArray.empty, .string ByteArray.empty, .int .i64 0, .int .i64 0, .slice none 0 0]), 6, 80) := by kernel_rfl
structure RoundS (n : Nat) (S : Nat → Prop) (w wr : World) (all : List Nd) (cs : List (Br (Pn n))) (cv : Value) (k p : Nat) (acc : List (BV n)) : Prop where
  done : acc.map BV.b = cs.take k
  rest : all.drop p = brsBy (rowN n) (cs.drop k)
  own : wr.ownsRow w.heap.size 126 6 cv acc.length (acc.flatMap BV.six)
  rds : ∀ x ∈ acc, RdW wr S x.u (rowN n x.b.p)
  bel : Below w.heap.size w wr
  le : p ≤ all.length
set_option maxRecDepth 100000 in
set_option maxHeartbeats 2000000 in
theorem s_split (n : Nat) (t : Tk) (cs : List (Br (Pn n))) (hsh : ∀ b ∈ cs, shapeN n b.p) (all : List Nd) (hall : all = rowN (n + 1) (.talk t cs)) (hl : all.length ≤ 1000) (v : Value) (w : World) (S : Nat → Prop) (hS : ∀ g, S g → g < w.heap.size) (hv : RdW w S v all) :
    Calls Try.prog 78 #[v] w fun e w' => ∃ (v' : Value) (L : List (BV n)), e = .returned v' ∧ L.map BV.b = cs ∧ w'.ownsRow w.heap.size 126 6 v' L.length (L.flatMap BV.six) ∧ (∀ x ∈ L, RdW w' S x.u (rowN n x.b.p)) ∧ Below w.heap.size w w' := by
  obtain ⟨i0, hi, hz0, hz1, hz2⟩ := info_parts Try.infoCs
  have HI := hide (And.intro hi (And.intro hz0 (And.intro hz1 hz2)))
  rw [row_talk] at hall
  have hne : all ≠ [] := by rw [hall]; simp
  have h0 : all.drop 0 = ⟨t.op, t.a, t.b, (cs.length : Int), 0⟩ :: brsBy (rowN n) cs ++ [] := by rw [List.append_nil, List.drop_zero]; exact hall
  obtain ⟨hp0, hn0, h1⟩ := drop_next h0
  have HB : Hid (∀ (k p : Nat) (b : Br (Pn n)), cs[k]? = some b → all.drop p = brsBy (rowN n) (cs.drop k) → all[p]? = some ⟨4, b.l, noT, 0, b.s⟩ ∧ all.drop (p + 1) = rowN n b.p ++ brsBy (rowN n) (cs.drop (k + 1)) ∧ all.drop (p + 1 + (rowN n b.p).length) = brsBy (rowN n) (cs.drop (k + 1)) ∧ p + 1 + (rowN n b.p).length ≤ all.length ∧ ∀ W, Below w.heap.size w W → Calls Try.prog 56 #[v, .int .i64 ((p : Int) + 1)] W fun e w' => e = .returned (.int .i64 ((p + 1 + (rowN n b.p).length : Nat) : Int)) ∧ Below W.heap.size W w') := hide (fun k p b hb hd => by
    have hlt := (List.getElem?_eq_some_iff.1 hb).1
    have hbe : cs[k] = b := (List.getElem?_eq_some_iff.1 hb).2
    rw [List.drop_eq_getElem_cons hlt, hbe, brs_cons] at hd
    obtain ⟨hp1, hn1, h2⟩ := drop_next (r := rowN n b.p ++ brsBy (rowN n) (cs.drop (k + 1))) (post := []) (by rw [hd, List.append_nil])
    rw [List.append_nil] at h2
    have hne2 : rowN n b.p ≠ [] := fun e => by have := row_pos n b.p; rw [e] at this; simp at this
    exact ⟨by rw [List.getElem?_eq_getElem hp1, hn1], h2, drop_more h2, by have := drop_len h2 hne2; omega, fun W hW => behind_calls n b.p all _ (p + 1) v W S (fun g hg => Nat.lt_of_lt_of_le (hS g hg) hW.size) (hsh b (List.mem_of_getElem? hb)) hl h2 (hv.on hS hW)⟩)
  have HV := hide hv
  obtain ⟨ao, cap, rfl, hc, hm, -, hrow⟩ := hv
  obtain ⟨g, o, rfl, hg, hrow⟩ := hrow hne
  have hgw := hS g hg
  have hn1 := hrow.get 0 hp0
  rw [hn0] at hn1
  obtain ⟨-, -, -, c3, -⟩ := hn1
  dsimp only at c3
  rw [Nat.zero_mul, Nat.add_zero] at c3
  have hcl : cs.length ≤ 1000 := by have := brs_count (rowN n) cs; have := congrArg List.length hall; rw [List.length_cons] at this; omega
  have HROW := hide hrow
  have HG := hide hg
  have HSS := hide hS
  have H1 : Hid (all.drop 1 = brsBy (rowN n) cs) := hide (by rw [List.append_nil, Nat.zero_add] at h1; exact h1)
  obtain ⟨K, hK⟩ : ∃ K, cs.length = K := ⟨_, rfl⟩
  rw [hK] at c3 hcl
  have HK := hide hK
  obtain ⟨M, hM⟩ : ∃ M, all.length = M := ⟨_, rfl⟩
  rw [hM] at hp0 hl hc HB ⊢
  have HM := hide hM
  clear hi hz0 hz1 hz2 hall hne h0 h1 hn0 hrow hK hM hsh hg
  go_enter Try.func78, Try.ntmps78
  go_wp2_with fail
  go_loopw [3, 4, 5] (fun cv av kv wr => ∃ (k p : Nat) (acc : List (BV n)), k ≤ K ∧ kv = .int .i64 k ∧ av = .int .i64 p ∧ RoundS n S w wr all cs cv k p acc) (fun _ _ kv _ => K - (intOf kv).toNat)
  case atStart => exact ⟨0, 1, [], Nat.zero_le _, rfl, rfl, ⟨rfl, H1.out, owns_empty _ _ _ _ _ (Nat.le_refl _) (mheap_new _ _ _ rfl), (fun x hx => by cases hx), malloc1 _ _, by rw [HM.out]; exact hp0⟩⟩
  case round =>
    obtain ⟨k, p, acc, hk, rfl, rfl, hR⟩ := hrel
    have HR := hide hR
    have hzw := hR.bel.size
    have hple := hR.le
    rw [HM.out] at hple
    have halen : acc.length = k := by have := congrArg List.length hR.done; rw [List.length_map, List.length_take, HK.out] at this; omega
    obtain ⟨cp, cc, hcv⟩ := owns_shape hR.own
    rw [halen] at hcv
    subst hcv
    have HAL := hide halen
    have d3 := (hR.bel.cell (p := ⟨g, o + 3, none⟩) hgw).trans c3
    clear halen
    by_cases hlt : k < K
    · obtain ⟨d, hdk⟩ : ∃ d, cs[k]? = some d := ⟨cs[k]'(by rw [HK.out]; exact hlt), List.getElem?_eq_getElem _⟩
      obtain ⟨hgp, hd1, hd2, hd3, hcall⟩ := HB.out k p d hdk hR.rest
      obtain ⟨hpl, hnp⟩ := List.getElem?_eq_some_iff.1 hgp
      have HC := hide hcall
      have HD2 := hide hd2
      have hnd := (HROW.out.get p hpl).carry hgw hR.bel
      rw [hnp] at hnd
      have hrp := row_pos n d.p
      have HRD : Hid (∀ W, Below w.heap.size w W → RdW W S (.slice (some ⟨g, o + (p + 1) * 5, none⟩) (rowN n d.p).length (cap - (p + 1))) (rowN n d.p)) := hide (fun W hW => by
        refine ⟨_, _, rfl, by omega, by omega, by omega, fun _ => ⟨g, _, rfl, HG.out, ?_⟩⟩
        have := HROW.out.drop (p + 1)
        rw [hd1] at this
        exact (row_app this).block (hW.block g hgw))
      obtain ⟨dl, ds, dp⟩ := d
      obtain ⟨c0, c1, c2, c3', c4⟩ := hnd
      dsimp only at c0 c1 c2 c3' c4 hrp hd3
      have HTK : Hid (acc.map BV.b ++ [⟨dl, ds, dp⟩] = cs.take (k + 1)) := hide (by rw [hR.done, List.take_add_one, hdk]; rfl)
      obtain ⟨N, hN⟩ : ∃ N, (rowN n dp).length = N := ⟨_, rfl⟩
      obtain ⟨T, hT⟩ : ∃ T, p + 1 + N = T := ⟨_, rfl⟩
      dsimp only at HRD HC HD2
      rw [hN] at HRD HC HD2 hrp hd3
      rw [hT] at HC HD2 hd3
      have hcap : p + 1 < cap := by omega
      have hpM : p < M := by omega
      clear hcall hdk hpl hnp hd1 hd2 hR hgp
      go_wp2_with (go_at_call 56; refine (HC.out _ HR.out.bel).mono ?_; rintro e w2 ⟨rfl, hb2⟩; have HB2 := hide hb2; have hgr : g < wr.heap.size := Nat.lt_of_lt_of_le hgw hzw; have x0 := (hb2.cell (p := ⟨g, o + p * 5, none⟩) hgr).trans c0; have x1 := (hb2.cell (p := ⟨g, o + p * 5 + 1, none⟩) hgr).trans c1; have x2 := (hb2.cell (p := ⟨g, o + p * 5 + 2, none⟩) hgr).trans c2; have x3 := (hb2.cell (p := ⟨g, o + p * 5 + 3, none⟩) hgr).trans c3'; have x4 := (hb2.cell (p := ⟨g, o + p * 5 + 4, none⟩) hgr).trans c4; clear hb2)
      have HO2 : Hid (w2.drew.ownsRow w.heap.size 126 6 (.slice cp k cc) k (acc.flatMap BV.six)) := hide (by
        have := owns_below HR.out.own (HB2.out.trans ((Below.refl _ _).drew.mono HB2.out.size))
        rw [HAL.out] at this
        exact this)
      have hTN : T - (p + 1) = N := by omega
      have hwr : IntKind.i64.wrap ((p : Int) + 1) = (p : Int) + 1 := by rw [IntKind.wrap_i64]; omega
      have hw0 : 0 ≤ (p : Int) + 1 := by omega
      have hw1 : (p : Int) + 1 ≤ T := by omega
      have hwc : ¬ cap = p + 1 := by omega
      have hpT : p + 1 ≤ T := by omega
      have hTc : T ≤ cap := by omega
      go_region_law (refine stepM_at rfl (.tmp 20) (.tmp 31) 121 rfl w.heap.size 126 i0 (.agg #[.int .i64 0, .string ByteArray.empty, .string ByteArray.empty, .int .i64 0, .int .i64 0, .slice none 0 0]) 6 80 Try.underlying121 HI.out.1 HI.out.2.1 HI.out.2.2.1 HI.out.2.2.2 rfl (by decide) (.slice cp k cc) k (acc.flatMap BV.six) (by simp [Act.eval]) (owns_below HO2.out (malloc1 _ _)) ⟨w2.heap.size, 0, none⟩ 1 1 (BV.six (n := n) ⟨⟨dl, ds, dp⟩, .slice (some ⟨g, o + (p + 1) * 5, none⟩) N (cap - (p + 1))⟩) (by simp [Act.eval]) rfl (fun j u hj => new_rowq _ _ _ _ (by simp) j u hj) (six_one (HRD.out w (Below.refl _ _))) (by unfold maxLen; omega) (by omega) (by have := HB2.out.size; simp; omega) ?_; intro v4 w4 hown4 hgr4 hat4; have HO4 := hide hown4; have HA4 : Hid (Apart w2.drew w4 (vblocks (.slice cp k cc))) := hide (by have := (below_apart (malloc1 w2.drew _)).trans (grownBy_apart hgr4); rwa [List.nil_append] at this); obtain ⟨p4, c4', rfl⟩ := owns_shape hown4; clear hown4 hgr4 hat4)
      all_goals
        go_wp2_with fail
        go_roundw
        case rel =>
          have hlo := (owns_fresh HO2.out).lo
          have hb4 : Below w.heap.size w2.drew w4 := HA4.out.below (by have := HB2.out.size; simp; omega) hlo
          have hbw : Below w.heap.size w w2.drew := (HR.out.bel.trans (HB2.out.mono hzw)).drew
          have hb5 : Below w.heap.size w w4 := hbw.trans hb4
          refine ⟨k + 1, T, acc ++ [⟨⟨dl, ds, dp⟩, .slice (some ⟨g, o + (p + 1) * 5, none⟩) N (cap - (p + 1))⟩], hlt, by go_num, rfl, ⟨by rw [List.map_append]; exact HTK.out, HD2.out, ?_, fun x hx => ?_, hb5, by rw [HM.out]; exact hd3⟩⟩
          · rw [List.length_append, List.length_singleton, HAL.out, List.flatMap_append]
            simpa using HO4.out
          · rw [List.mem_append] at hx
            rcases hx with hx | hx
            · exact (HR.out.rds x hx).carry (fun b hb => (hb5.block b (HSS.out b hb)).trans (HR.out.bel.block b (HSS.out b hb)).symm) (fun _ h => h)
            · simp at hx
              subst hx
              exact HRD.out w4 hb5
        case measure => simp [intOf]; omega
    · obtain rfl : k = K := by omega
      have HE : Hid (acc.map BV.b = cs) := hide (by rw [hR.done]; exact List.take_of_length_le (by rw [HK.out]; exact Nat.le_refl _))
      clear hR
      go_wp2_with fail
      go_ret
      exact ⟨_, acc, rfl, HE.out, by rw [HAL.out]; have := HR.out.own; rw [HAL.out] at this; exact this, HR.out.rds, HR.out.bel⟩
end Go.Proofs.Ytlbcnmcfljaijaa
