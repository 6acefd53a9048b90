import Derived.Test.YtaaeledleldllaaGreatQB45
import Derived.Test.YtaaeledleldllaaGreatQB28
import Derived.Test.YtaaeledleldllaaGreatQB22
import Derived.Test.YtaaeledleldllaaGreatQB34
import Derived.Test.YtaaeledleldllaaGreatQB46
import Derived.Test.YtaaeledleldllaaGreatQB43
import Derived.Test.YtaaeledleldllaaGreatQB47
import Derived.Test.YtaaeledleldllaaGreatQB08
import Derived.Test.YtaaeledleldllaaGreatQB39
namespace Go.Proofs.YtaaeledleldllaaGreat
open Go.RowKit

def hvL : List Nd → Option ByteArray
  | [] => none
  | n :: l => if n.op == 2 then hvL l else if n.op == 1 then some n.name else none
def spL : List Nd → List ByteArray
  | [] => []
  | n :: l => if n.op == 2 then n.name :: spL l else []
def recsL : List Nd → List ByteArray
  | [] => []
  | n :: l => if n.op == 2 then n.name :: recsL l else recsL l
theorem closed_app : ∀ (l r : List Nd) (ns : List ByteArray), closedL ns (l ++ r) = (closedL ns l && closedL (ns ++ recsL l) r)
  | [], r, ns => by simp [closedL, recsL]
  | n :: l, r, ns => by
    rw [List.cons_append, closedL, closedL, recsL]
    cases h : (n.op == 2)
    · simp only [Bool.false_eq_true, if_false]
      cases h1 : (n.op == 1 && !hasB ns n.name)
      · simp only [Bool.false_eq_true, if_false]; exact closed_app l r ns
      · simp
    · simp only [if_true]
      rw [closed_app l r (ns ++ [n.name]), List.append_assoc]
      rfl
theorem role_app (role : ByteArray) (l r : List Nd) : hasRole role (l ++ r) = (hasRole role l || hasRole role r) := by simp [hasRole]
theorem role_cons (role : ByteArray) (n : Nd) (l : List Nd) : hasRole role (n :: l) = ((n.op == 3 && (n.name.toList == role.toList || n.peer.toList == role.toList)) || hasRole role l) := by rw [hasRole, List.any_cons]; rfl
theorem row_same : ∀ {l r : List Nd}, rowEq l r = true → l = r
  | [], [], _ => rfl
  | [], _ :: _, h => by cases h
  | _ :: _, [], h => by cases h
  | a :: l, b :: r, h => by
    rw [rowEq, Bool.and_eq_true] at h
    obtain ⟨h1, h2⟩ := h
    rw [row_same h2]
    simp only [ndEq, Bool.and_eq_true, beq_iff_eq] at h1
    obtain ⟨⟨⟨⟨e1, e2⟩, e3⟩, e4⟩, e5⟩ := h1
    obtain ⟨o, n, p, m, s⟩ := a
    obtain ⟨o', n', p', m', s'⟩ := b
    dsimp only at e1 e2 e3 e4 e5
    rw [e1, tl_inj e2, tl_inj e3, e4, e5]
theorem merge_hv : ∀ (n : Nat) (u v z : Pn n) (x : ByteArray), mergeN n u v = some z → hvL (rowN n z) = some x → z = u ∧ hvL (rowN n v) = some x := by
  intro n
  cases n with
  | zero =>
    intro u v z x h hx
    rw [mergeN] at h
    split at h
    · rename_i he
      injection h with h
      subst h
      exact ⟨rfl, by rw [← row_same he]; exact hx⟩
    · cases h
  | succ n =>
    intro u v z x h hx
    rw [mergeN] at h
    split at h
    · rename_i he
      injection h with h
      subst h
      exact ⟨rfl, by rw [← row_same he]; exact hx⟩
    · split at h
      · split at h
        · split at h
          · split at h
            · injection h with h
              subst h
              rw [row_talk] at hx
              simp [hvL] at hx
            · cases h
          · cases h
        · cases h
      · cases h
theorem all_hv {n : Nat} {x : ByteArray} : ∀ (r : List (Br (Pn n))) (u z : Pn n), mergeAll (mergeN n) u r = some z → hvL (rowN n z) = some x → z = u ∧ ∀ b ∈ r, hvL (rowN n b.p) = some x
  | [], u, z, h, hx => by
    rw [mergeAll] at h
    injection h with h
    exact ⟨h.symm, fun b hb => (by cases hb)⟩
  | b :: r, u, z, h, hx => by
    rw [mergeAll] at h
    split at h
    · cases h
    · rename_i q hq
      obtain ⟨h1, h2⟩ := all_hv r q z h hx
      subst h1
      obtain ⟨h3, h4⟩ := merge_hv n u b.p z x hq hx
      refine ⟨h3, fun d hd => ?_⟩
      rcases List.mem_cons.1 hd with rfl | hd
      · exact h4
      · exact h2 d hd
theorem parts_like {α : Type} {g : α → Option α} : ∀ (l r : List (Br α)), partsBy g l = some r → r.map (·.l) = l.map (·.l) ∧ (∀ c ∈ r, ∃ b ∈ l, g b.p = some c.p ∧ c.l = b.l ∧ c.s = b.s) ∧ ∀ b ∈ l, ∃ c ∈ r, g b.p = some c.p
  | [], r, h => by
    rw [partsBy] at h
    injection h with h
    subst h
    exact ⟨rfl, fun c hc => (by cases hc), fun c hc => (by cases hc)⟩
  | b :: l, r, h => by
    rw [partsBy] at h
    split at h
    · cases h
    · rename_i q hq
      split at h
      · cases h
      · rename_i r' hr'
        injection h with h
        subst h
        obtain ⟨h1, h2, h3⟩ := parts_like l r' hr'
        refine ⟨by rw [List.map_cons, List.map_cons, h1], fun c hc => ?_, fun d hd => ?_⟩
        · rcases List.mem_cons.1 hc with rfl | hc
          · exact ⟨b, List.mem_cons_self, hq, rfl, rfl⟩
          · obtain ⟨d, hd, e⟩ := h2 c hc
            exact ⟨d, List.mem_cons_of_mem _ hd, e⟩
        · rcases List.mem_cons.1 hd with rfl | hd
          · exact ⟨_, List.mem_cons_self, hq⟩
          · obtain ⟨c, hc, e⟩ := h3 d hd
            exact ⟨c, List.mem_cons_of_mem _ hc, e⟩
theorem closed_brs {n : Nat} {role x : ByteArray} : ∀ (l : List (Br (Pn n))) (ns : List ByteArray), (∀ b ∈ l, hasRole role (rowN n b.p) = false ∧ ∀ ns, x ∈ ns → closedL ns (rowN n b.p) = true) → x ∈ ns → hasRole role (brsBy (rowN n) l) = false ∧ closedL ns (brsBy (rowN n) l) = true
  | [], ns, _, _ => ⟨rfl, rfl⟩
  | b :: l, ns, h, hx => by
    rw [brs_cons]
    obtain ⟨h1, h2⟩ := h b List.mem_cons_self
    obtain ⟨h3, h4⟩ := closed_brs l (ns ++ recsL (rowN n b.p)) (fun d hd => h d (List.mem_cons_of_mem _ hd)) (List.mem_append_left _ hx)
    refine ⟨?_, ?_⟩
    · rw [role_cons, role_app, h1, h3]
      rfl
    · rw [closedL]
      simp only [show ((4 : Int) == 2) = false from rfl, show ((4 : Int) == 1) = false from rfl, Bool.false_and, Bool.false_eq_true, if_false]
      rw [closed_app, h2 ns hx, h4]
      rfl
theorem part_hv (role : ByteArray) : ∀ (n : Nat) (p q : Pn n) (x : ByteArray), planN n p → partN role n p = some q → hvL (rowN n q) = some x → hasRole role (rowN n p) = false ∧ (∀ ns, x ∈ ns → closedL ns (rowN n p) = true) ∧ x ∉ spL (rowN n q) := by
  have leaf : ∀ (y : Option ByteArray) (x : ByteArray), hvL (leafRow y) = some x → hasRole role (leafRow y) = false ∧ (∀ ns, x ∈ ns → closedL ns (leafRow y) = true) ∧ x ∉ spL (leafRow y) := by
    intro y x h
    cases y with
    | none => cases h
    | some y =>
      injection h with h
      dsimp only at h
      subst h
      refine ⟨rfl, fun ns hn => ?_, by simp [leafRow, spL]⟩
      simp [leafRow, closedL, has_iff.2 hn]
  intro n
  induction n with
  | zero =>
    intro p q x _ h hx
    injection h with h
    subst h
    exact leaf p x hx
  | succ n ih =>
    intro p
    refine Pn.cases (P := fun p => ∀ (q : Pn (n + 1)) (x : ByteArray), planN (n + 1) p → partN role (n + 1) p = some q → hvL (rowN (n + 1) q) = some x → hasRole role (rowN (n + 1) p) = false ∧ (∀ ns, x ∈ ns → closedL ns (rowN (n + 1) p) = true) ∧ x ∉ spL (rowN (n + 1) q)) (fun y => ?_) (fun y p' => ?_) (fun t l => ?_) p
    · intro q x _ h hx
      have h' : some (Pn.leaf y) = some q := h
      injection h' with h'
      subst h'
      exact leaf y x hx
    · intro q x hp h hx
      have h' : (if idleL role (rowN (n + 1) (.loop y p')) then some (.leaf none) else (partN role n p').map (Pn.loop y)) = some q := h
      split at h'
      · injection h' with h'
        subst h'
        cases hx
      · rename_i hid
        cases hq : partN role n p' with
        | none => rw [hq] at h'; cases h'
        | some q' =>
          rw [hq] at h'
          injection h' with h'
          subst h'
          rw [row_loop] at hx ⊢
          have hx' : hvL (rowN n q') = some x := by simpa [hvL] using hx
          obtain ⟨h1, h2, h3⟩ := ih p' q' x hp hq hx'
          have hr : hasRole role (rowN (n + 1) (.loop y p')) = false := by
            rw [row_loop]
            rw [role_cons, h1]; rfl
          have hc : ∀ ns, x ∈ ns ++ [y] → closedL ns (rowN (n + 1) (.loop y p')) = true := fun ns hn => by
            rw [row_loop, closedL]
            simp only [show ((2 : Int) == 2) = true from rfl, if_true]
            exact h2 _ hn
          refine ⟨hr, fun ns hn => hc ns (List.mem_append_left _ hn), ?_⟩
          rw [row_loop]
          simp only [spL, show ((2 : Int) == 2) = true from rfl, if_true, List.mem_cons, not_or]
          refine ⟨fun e => hid ?_, h3⟩
          rw [idleL, hr, hc [] (by simp [e])]
          rfl
    · intro q x hp h hx
      obtain ⟨hop, -, -, -, hbs⟩ := hp
      have h' : (match partsBy (partN role n) l with
        | none => none
        | some r => if role.toList == t.a.toList then some (.talk ⟨5, noT, t.b⟩ r) else if role.toList == t.b.toList then some (.talk ⟨6, noT, t.a⟩ r) else
          match r with
          | [] => none
          | c :: r => (mergeAll (mergeN n) c.p r).map (upN n)) = some q := h
      split at h'
      · cases h'
      · rename_i r hr
        split at h'
        · injection h' with h'
          subst h'
          rw [row_talk] at hx
          simp [hvL] at hx
        · rename_i ha
          split at h'
          · injection h' with h'
            subst h'
            rw [row_talk] at hx
            simp [hvL] at hx
          · rename_i hb
            cases r with
            | nil => cases h'
            | cons c r =>
              dsimp only at h'
              cases hz : mergeAll (mergeN n) c.p r with
              | none => rw [hz] at h'; cases h'
              | some z =>
                rw [hz] at h'
                injection h' with h'
                subst h'
                rw [up_row] at hx ⊢
                obtain ⟨hzc, hall⟩ := all_hv r c.p z hz hx
                obtain ⟨-, -, hin⟩ := parts_like l (c :: r) hr
                have each : ∀ b ∈ l, ∃ d : Pn n, partN role n b.p = some d ∧ hvL (rowN n d) = some x := fun b hb => by
                  obtain ⟨d, hd, e⟩ := hin b hb
                  rcases List.mem_cons.1 hd with rfl | hd
                  · exact ⟨d.p, e, by rw [← hzc]; exact hx⟩
                  · exact ⟨d.p, e, hall d hd⟩
                have hk : ∀ b ∈ l, hasRole role (rowN n b.p) = false ∧ ∀ ns, x ∈ ns → closedL ns (rowN n b.p) = true := fun b hb => by
                  obtain ⟨d, e, hd⟩ := each b hb
                  obtain ⟨k1, k2, -⟩ := ih b.p d x (hbs b hb) e hd
                  exact ⟨k1, k2⟩
                rw [row_talk]
                have hra : (t.a.toList == role.toList) = false := by
                  cases e : (t.a.toList == role.toList) with
                  | false => rfl
                  | true => exact absurd (by rw [beq_iff_eq] at e ⊢; exact e.symm) ha
                have hrb : (t.b.toList == role.toList) = false := by
                  cases e : (t.b.toList == role.toList) with
                  | false => rfl
                  | true => exact absurd (by rw [beq_iff_eq] at e ⊢; exact e.symm) hb
                refine ⟨?_, fun ns hn => ?_, ?_⟩
                · rw [role_cons]
                  dsimp only
                  rw [hra, hrb, (closed_brs l [x] hk (by simp)).1]
                  simp
                · rw [closedL]
                  simp only [hop, show ((3 : Int) == 2) = false from rfl, show ((3 : Int) == 1) = false from rfl, Bool.false_and, Bool.false_eq_true, if_false]
                  exact (closed_brs l ns hk hn).2
                · obtain ⟨b, hb, e, -, -⟩ := (parts_like l (c :: r) hr).2.1 c List.mem_cons_self
                  rw [hzc]
                  exact (ih b.p c.p x (hbs b hb) e (by rw [← hzc]; exact hx)).2.2
end Go.Proofs.YtaaeledleldllaaGreat
namespace Go.Proofs.YtaaeledleldllaaGreat
open Go.RowKit

theorem find_no {α : Type} {t : ByteArray} : ∀ {l : List (Br α)}, findB t l = none → ∀ b ∈ l, b.l ≠ t
  | [], _, b, hb => by cases hb
  | a :: l, h, b, hb => by
    rw [findB] at h
    split at h
    · cases h
    · rename_i hn
      rcases List.mem_cons.1 hb with rfl | hb
      · intro e
        exact hn (by rw [e]; simp)
      · cases hf : findB t l with
        | none => exact find_no hf b hb
        | some i => rw [hf] at h; cases h
theorem labs_snoc {α : Type} {l : List (Br α)} {d : Br α} (h : labs l) (hd : wordB d.l = true ∧ sortB d.s = true) (hn : ∀ b ∈ l, b.l ≠ d.l) : labs (l ++ [d]) := by
  refine ⟨?_, fun b hb => ?_⟩
  · rw [List.map_append]
    exact nodup_end h.1 (fun hm => by
      obtain ⟨b, hb, e⟩ := List.mem_map.1 hm
      exact hn b hb e)
  · rcases List.mem_append.1 hb with hb | hb
    · exact h.2 b hb
    · simp at hb; subst hb; exact hd
theorem labs_set {α : Type} {l : List (Br α)} {i : Nat} {b : Br α} (q : α) (h : labs l) (hb : l[i]? = some b) : labs (l.set i ⟨b.l, b.s, q⟩) := by
  have hm : b ∈ l := List.mem_of_getElem? hb
  refine ⟨?_, fun c hc => ?_⟩
  · rw [List.map_set]
    have : (l.map (·.l)).set i b.l = l.map (·.l) := by
      apply List.ext_getElem?
      intro j
      by_cases e : i = j
      · subst e
        have hlt := (List.getElem?_eq_some_iff.1 hb).1
        rw [List.getElem?_set_self (by simpa using hlt), List.getElem?_map, hb]
        rfl
      · rw [List.getElem?_set_ne e]
    dsimp only
    rw [this]
    exact h.1
  · rcases mem_set hc with hc | rfl
    · exact h.2 c hc
    · exact h.2 b hm
theorem mergeBy_labs {α : Type} {mg : α → α → Option α} : ∀ (ds acc l : List (Br α)), labs acc → labs ds → mergeBy mg acc ds = some l → labs l
  | [], acc, l, ha, _, h => by
    rw [mergeBy] at h
    injection h with h
    subst h
    exact ha
  | d :: ds, acc, l, ha, hd, h => by
    have hd0 : wordB d.l = true ∧ sortB d.s = true := hd.2 d List.mem_cons_self
    have hds : labs ds := ⟨(List.nodup_cons.1 hd.1).2, fun b hb => hd.2 b (List.mem_cons_of_mem _ hb)⟩
    rw [mergeBy] at h
    split at h
    · rename_i hf
      exact mergeBy_labs ds _ l (labs_snoc ha hd0 (find_no hf)) hds h
    · split at h
      · cases h
      · rename_i b hb
        split at h
        · cases h
        · split at h
          · exact mergeBy_labs ds _ l (labs_set _ ha hb) hds h
          · cases h
section
variable {B : Tk → Prop}
theorem merge_g (hB : ∀ a b, B ⟨6, b, a⟩ → B ⟨6, noT, a⟩) : ∀ (n : Nat) (sk : Sk) (u v z : Pn n), gP B n sk u → gP B n sk v → mergeN n u v = some z → gP B n sk z := by
  intro n
  induction n with
  | zero =>
    intro sk u v z hu _ h
    rw [mergeN] at h
    split at h
    · injection h with h
      subst h
      exact hu
    · cases h
  | succ n ih =>
    intro sk u v z hu hv h
    rw [mergeN] at h
    split at h
    · injection h with h
      subst h
      exact hu
    · split at h
      · rename_i a cs b ds hx hy
        split at h
        · split at h
          · rename_i l hl
            split at h
            · rename_i h4
              injection h with h
              subst h
              obtain ⟨xb, rfl⟩ := hear_some hx
              obtain ⟨yb, rfl⟩ := hear_some hy
              obtain ⟨u1, u2, u3, u4, u5⟩ := hu
              obtain ⟨v1, v2, v3, v4, v5⟩ := hv
              exact ⟨hB _ _ u1, Nat.le_trans u2 (mergeBy_len ds cs l hl), h4, mergeBy_labs ds cs l u4 v4 hl, mergeBy_all (Q := gP B n (none :: sk)) (fun x y z hx hy hz => ih _ x y z hx hy hz) ds cs l u5 v5 hl⟩
            · cases h
          · cases h
        · cases h
      · cases h
theorem merge_gH (hB : ∀ a b, B ⟨6, b, a⟩ → B ⟨6, noT, a⟩) (n : Nat) (sk : Sk) (u v z : Pn n) (hu : gH B n sk u) (hv : gH B n sk v) (h : mergeN n u v = some z) : gH B n sk z := by
  cases n with
  | zero =>
    rw [mergeN] at h
    split at h
    · injection h with h
      subst h
      exact hu
    · cases h
  | succ n =>
    rw [mergeN] at h
    split at h
    · injection h with h
      subst h
      exact hu
    · split at h
      · rename_i a cs b ds hx hy
        split at h
        · split at h
          · rename_i l hl
            split at h
            · rename_i h4
              injection h with h
              subst h
              obtain ⟨xb, rfl⟩ := hear_some hx
              obtain ⟨yb, rfl⟩ := hear_some hy
              obtain ⟨u1, u2, u3, u4, u5⟩ := hu
              obtain ⟨v1, v2, v3, v4, v5⟩ := hv
              exact ⟨hB _ _ u1, Nat.le_trans u2 (mergeBy_len ds cs l hl), h4, mergeBy_labs ds cs l u4 v4 hl, mergeBy_all (Q := gP B n (none :: sk)) (fun x y z hx hy hz => merge_g hB n _ x y z hx hy hz) ds cs l u5 v5 hl⟩
            · cases h
          · cases h
        · cases h
      · cases h
theorem up_g : ∀ (n : Nat) (sk : Sk) (q : Pn n), gP B n sk q → gP B (n + 1) sk (upN n q) := by
  intro n
  induction n with
  | zero => intro sk q h; exact h
  | succ n ih =>
    intro sk q
    refine Pn.cases (P := fun q => gP B (n + 1) sk q → gP B (n + 1 + 1) sk (upN (n + 1) q)) (fun x h => h) (fun x q h => ?_) (fun t l h => ?_) q
    · exact ⟨h.1, h.2.1, ih _ q h.2.2⟩
    · obtain ⟨h1, h2, h3, h4, h5⟩ := h
      refine ⟨h1, by rw [List.length_map]; exact h2, by rw [List.length_map]; exact h3, ⟨by rw [List.map_map]; exact h4.1, fun b hb => ?_⟩, fun b hb => ?_⟩
      · obtain ⟨c, hc, rfl⟩ := List.mem_map.1 hb
        exact h4.2 c hc
      · obtain ⟨c, hc, rfl⟩ := List.mem_map.1 hb
        exact ih _ c.p (h5 c hc)
theorem up_gH : ∀ (n : Nat) (sk : Sk) (q : Pn n), gH B n sk q → gH B (n + 1) sk (upN n q) := by
  intro n
  induction n with
  | zero => intro sk q h; exact h
  | succ n ih =>
    intro sk q
    refine Pn.cases (P := fun q => gH B (n + 1) sk q → gH B (n + 1 + 1) sk (upN (n + 1) q)) (fun x h => h) (fun x q h => ?_) (fun t l h => ?_) q
    · exact ⟨h.1, h.2.1, ih _ q h.2.2⟩
    · obtain ⟨h1, h2, h3, h4, h5⟩ := h
      refine ⟨h1, by rw [List.length_map]; exact h2, by rw [List.length_map]; exact h3, ⟨by rw [List.map_map]; exact h4.1, fun b hb => ?_⟩, fun b hb => ?_⟩
      · obtain ⟨c, hc, rfl⟩ := List.mem_map.1 hb
        exact h4.2 c hc
      · obtain ⟨c, hc, rfl⟩ := List.mem_map.1 hb
        exact up_g _ _ c.p (h5 c hc)
theorem bB_true : ∀ (sk : Sk) (x : ByteArray), bB true sk x = wB sk x
  | [], _ => rfl
  | some y :: sk, x => by
    rw [bB, bB_true sk x]
    show _ = ((y.toList == x.toList) || wB sk x)
    cases (y.toList == x.toList) <;> rfl
  | none :: sk, x => by
    rw [bB, bB_true sk x]
    show _ = (false || wB sk x)
    rfl
theorem bB_w : ∀ (sk : Sk) (x : ByteArray), bB false sk x = true → wB sk x = true
  | some y :: sk, x, h => by
    rw [bB] at h
    split at h
    · cases h
    · show ((y.toList == x.toList) || wB sk x) = true
      rw [bB_w sk x h, Bool.or_true]
  | none :: sk, x, h => by
    rw [bB, bB_true] at h
    show (false || wB sk x) = true
    rw [h]; rfl
theorem gH_to : ∀ (n : Nat) (sk : Sk) (q : Pn n), gH B n sk q → (∀ x, hvL (rowN n q) = some x → x ∉ spL (rowN n q) ∧ bB false sk x = true) → gP B n sk q := by
  have leaf : ∀ (y : Option ByteArray) (sk : Sk), (∀ x, hvL (leafRow y) = some x → x ∉ spL (leafRow y) ∧ bB false sk x = true) → leafG sk y := by
    intro y sk h
    cases y with
    | none => trivial
    | some y => exact (h y rfl).2
  intro n
  induction n with
  | zero => intro sk q _ h; exact leaf q sk h
  | succ n ih =>
    intro sk q
    refine Pn.cases (P := fun q => gH B (n + 1) sk q → (∀ x, hvL (rowN (n + 1) q) = some x → x ∉ spL (rowN (n + 1) q) ∧ bB false sk x = true) → gP B (n + 1) sk q) (fun y _ h => leaf y sk h) (fun y q h hx => ?_) (fun t l h _ => h) q
    refine ⟨h.1, h.2.1, ih _ q h.2.2 (fun x hv => ?_)⟩
    have h1 := hx x (by rw [row_loop]; simpa [hvL] using hv)
    rw [row_loop] at h1
    simp only [spL, show ((2 : Int) == 2) = true from rfl, if_true, List.mem_cons, not_or] at h1
    refine ⟨h1.1.2, ?_⟩
    rw [bB, if_neg (fun e => h1.1.1 (tl_inj (beq_iff_eq.1 e)).symm)]
    exact h1.2
theorem gH_bound (hop : ∀ t, B t → t.op ≠ 1 ∧ t.op ≠ 2) : ∀ (n : Nat) (sk : Sk) (q : Pn n) (x : ByteArray), gH B n sk q → hvL (rowN n q) = some x → x ∉ spL (rowN n q) → wB sk x = true := by
  have leaf : ∀ (y : Option ByteArray) (sk : Sk) (x : ByteArray), leafH sk y → hvL (leafRow y) = some x → wB sk x = true := by
    intro y sk x h hx
    cases y with
    | none => cases hx
    | some y =>
      injection hx with hx
      dsimp only at hx
      subst hx
      exact h
  intro n
  induction n with
  | zero => intro sk q x h hx _; exact leaf q sk x h hx
  | succ n ih =>
    intro sk q x
    refine Pn.cases (P := fun q => gH B (n + 1) sk q → hvL (rowN (n + 1) q) = some x → x ∉ spL (rowN (n + 1) q) → wB sk x = true) (fun y h hx _ => leaf y sk x h hx) (fun y q h hx hs => ?_) (fun t l h hx _ => ?_) q
    · rw [row_loop] at hx hs
      simp only [spL, show ((2 : Int) == 2) = true from rfl, if_true, List.mem_cons, not_or] at hs
      have := ih _ q x h.2.2 (by simpa [hvL] using hx) hs.2
      have h2 : ((y.toList == x.toList) || wB sk x) = true := this
      rw [Bool.or_eq_true] at h2
      rcases h2 with h2 | h2
      · exact absurd (tl_inj (beq_iff_eq.1 h2)).symm hs.1
      · exact h2
    · obtain ⟨h1, h2⟩ := hop t h.1
      rw [row_talk] at hx
      simp [hvL, h1, h2] at hx
theorem all_gH (hB : ∀ a b, B ⟨6, b, a⟩ → B ⟨6, noT, a⟩) (n : Nat) (sk : Sk) : ∀ (r : List (Br (Pn n))) (u z : Pn n), gH B n sk u → (∀ b ∈ r, gH B n sk b.p) → mergeAll (mergeN n) u r = some z → gH B n sk z := fun r u z hu hr h => mergeAll_all (Q := gH B n sk) (fun x y z hx hy hz => merge_gH hB n sk x y z hx hy hz) r u z hu hr h
theorem part_gH {A : Tk → Prop} (role : ByteArray) (hA : ∀ t, A t → B ⟨5, noT, t.b⟩ ∧ B ⟨6, noT, t.a⟩) (hB : ∀ a b, B ⟨6, b, a⟩ → B ⟨6, noT, a⟩) (hop : ∀ t, B t → t.op ≠ 1 ∧ t.op ≠ 2) :
    ∀ (n : Nat) (sk sk' : Sk) (p q : Pn n), (∀ x, wB sk' x = wB sk x) → gP A n sk p → planN n p → partN role n p = some q → gH B n sk' q := by
  have leaf : ∀ (y : Option ByteArray) (sk sk' : Sk), (∀ x, wB sk' x = wB sk x) → leafG sk y → leafH sk' y := by
    intro y sk sk' hw h
    cases y with
    | none => trivial
    | some y => exact (hw y).trans (bB_w sk y h)
  intro n
  induction n with
  | zero =>
    intro sk sk' p q hw hg _ h
    injection h with h
    subst h
    exact leaf p sk sk' hw hg
  | succ n ih =>
    intro sk sk' p
    refine Pn.cases (P := fun p => ∀ q : Pn (n + 1), (∀ x, wB sk' x = wB sk x) → gP A (n + 1) sk p → planN (n + 1) p → partN role (n + 1) p = some q → gH B (n + 1) sk' q) (fun y => ?_) (fun y p' => ?_) (fun t l => ?_) p
    · intro q hw hg _ h
      have h' : some (Pn.leaf y) = some q := h
      injection h' with h'
      subst h'
      exact leaf y sk sk' hw hg
    · intro q hw hg hp h
      have h' : (if idleL role (rowN (n + 1) (.loop y p')) then some (.leaf none) else (partN role n p').map (Pn.loop y)) = some q := h
      split at h'
      · injection h' with h'
        subst h'
        exact trivial
      · cases hq : partN role n p' with
        | none => rw [hq] at h'; cases h'
        | some q' =>
          rw [hq] at h'
          injection h' with h'
          subst h'
          refine ⟨hg.1, (hw y).trans hg.2.1, ih (some y :: sk) (some y :: sk') p' q' (fun x => ?_) hg.2.2 hp hq⟩
          show ((y.toList == x.toList) || wB sk' x) = ((y.toList == x.toList) || wB sk x)
          rw [hw]
    · intro q hw hg hp h
      obtain ⟨hop3, -, -, -, hbs⟩ := hp
      obtain ⟨g1, g2, g3, g4, g5⟩ := hg
      have h' : (match partsBy (partN role n) l with
        | none => none
        | some r => if role.toList == t.a.toList then some (.talk ⟨5, noT, t.b⟩ r) else if role.toList == t.b.toList then some (.talk ⟨6, noT, t.a⟩ r) else
          match r with
          | [] => none
          | c :: r => (mergeAll (mergeN n) c.p r).map (upN n)) = some q := h
      split at h'
      · cases h'
      · rename_i r hr
        obtain ⟨e1, e2, -⟩ := parts_like l r hr
        have el : r.length = l.length := by have := congrArg List.length e1; simpa using this
        have hlab : labs r := ⟨by rw [e1]; exact g4.1, fun c hc => by
          obtain ⟨b, hb, -, e3, e4⟩ := e2 c hc
          rw [e3, e4]
          exact g4.2 b hb⟩
        have inn : ∀ c ∈ r, gP B n (none :: sk') c.p := fun c hc => by
          obtain ⟨b, hb, e, -, -⟩ := e2 c hc
          have hH := ih (none :: sk) (none :: sk') b.p c.p (fun x => by show (false || wB sk' x) = (false || wB sk x); rw [hw]) (g5 b hb) (hbs b hb) e
          refine gH_to n _ c.p hH (fun x hx => ?_)
          have hs := (part_hv role n b.p c.p x (hbs b hb) e hx).2.2
          refine ⟨hs, ?_⟩
          rw [bB, bB_true]
          have := gH_bound hop n _ c.p x hH hx hs
          exact this
        split at h'
        · injection h' with h'
          subst h'
          exact ⟨(hA t g1).1, by omega, by omega, hlab, inn⟩
        · split at h'
          · injection h' with h'
            subst h'
            exact ⟨(hA t g1).2, by omega, by omega, hlab, inn⟩
          · cases r with
            | nil => cases h'
            | cons c r =>
              dsimp only at h'
              cases hz : mergeAll (mergeN n) c.p r with
              | none => rw [hz] at h'; cases h'
              | some z =>
                rw [hz] at h'
                injection h' with h'
                subst h'
                have out : ∀ d ∈ c :: r, gH B n sk' d.p := fun d hd => by
                  obtain ⟨b, hb, e, -, -⟩ := e2 d hd
                  exact ih (none :: sk) sk' b.p d.p (fun x => (hw x).trans (by show _ = (false || wB sk x); rfl)) (g5 b hb) (hbs b hb) e
                exact up_gH n sk' z (all_gH hB n sk' r c.p z (out c List.mem_cons_self) (fun d hd => out d (List.mem_cons_of_mem _ hd)) hz)
theorem part_g {A : Tk → Prop} (role : ByteArray) (hA : ∀ t, A t → B ⟨5, noT, t.b⟩ ∧ B ⟨6, noT, t.a⟩) (hB : ∀ a b, B ⟨6, b, a⟩ → B ⟨6, noT, a⟩) (hop : ∀ t, B t → t.op ≠ 1 ∧ t.op ≠ 2) (n : Nat) (p q : Pn n) (hg : gP A n [] p) (hp : planN n p) (h : partN role n p = some q) : gP B n [] q := by
  have hH := part_gH role hA hB hop n [] [] p q (fun _ => rfl) hg hp h
  refine gH_to n [] q hH (fun x hx => ?_)
  have hs := (part_hv role n p q x hp h hx).2.2
  have := gH_bound hop n [] q x hH hx hs
  cases this
end
end Go.Proofs.YtaaeledleldllaaGreat
namespace Go.Proofs.YtaaeledleldllaaGreat
open Go.RowKit

theorem add_has {ts : List ByteArray} : ∀ {acc : List ByteArray} {t : ByteArray}, t ∈ acc ∨ t ∈ ts → t ∈ ts.foldl addI acc := by
  induction ts with
  | nil =>
    intro acc t h
    rcases h with h | h
    · exact h
    · cases h
  | cons s ts ih =>
    intro acc t h
    rw [List.foldl_cons]
    apply ih
    rw [addI]
    rcases h with h | h
    · left
      split
      · exact h
      · exact List.mem_append_left _ h
    · rcases List.mem_cons.1 h with rfl | h
      · left
        split
        · rename_i hh; exact has_iff.1 hh
        · simp
      · exact .inr h
theorem put_has {ts : List ByteArray} : ∀ {acc : List ByteArray} {t : ByteArray}, t ∈ ts.foldl putS acc → t ∈ acc ∨ t ∈ ts := by
  induction ts with
  | nil => intro acc t h; exact .inl h
  | cons s ts ih =>
    intro acc t h
    rw [List.foldl_cons] at h
    rcases ih h with h | h
    · rcases put_mem h with h | h
      · exact .inl h
      · exact .inr (by rw [h]; exact List.mem_cons_self)
    · exact .inr (List.mem_cons_of_mem _ h)
theorem roles_has {part : Bool} {ns : List Nd} (h : ∀ n ∈ ns, nodeB (talkS part) n = true) {n : Nd} (hn : n ∈ ns) {t : ByteArray} (ht : t ∈ talkers n) : t ∈ rolesS ns := by
  refine ((roles_perm h).2.mem_iff).1 ?_
  rw [rolesI_eq]
  exact add_has (.inr (List.mem_flatMap.2 ⟨n, hn, ht⟩))
theorem sorted_le : ∀ {l R : List ByteArray}, SortedT l → (∀ x ∈ l, x ∈ R) → l.length ≤ R.length
  | [], _, _, _ => Nat.zero_le _
  | a :: l, R, hs, hm => by
    have ha := hm a List.mem_cons_self
    have hp := List.pairwise_cons.1 hs
    obtain ⟨s, u, rfl⟩ := List.append_of_mem ha
    have h1 : l.length ≤ (s ++ u).length := sorted_le hp.2 (fun x hx => by
      have hne : x ≠ a := fun e => by
        have := hp.1 x hx
        rw [e] at this
        exact less_irr _ this
      rcases List.mem_append.1 (hm x (List.mem_cons_of_mem _ hx)) with h | h
      · exact List.mem_append_left _ h
      · rcases List.mem_cons.1 h with h | h
        · exact absurd h hne
        · exact List.mem_append_right _ h)
    simp only [List.length_append, List.length_cons] at h1 ⊢
    omega
theorem gP_and {A : Tk → Prop} {R : List ByteArray} : ∀ (n : Nat) (sk : Sk) (p : Pn n), gP A n sk p → planN n p → (∀ nd ∈ rowN n p, nd.op = 3 → nd.name ∈ R ∧ nd.peer ∈ R) → gP (fun t => A t ∧ t.a ∈ R ∧ t.b ∈ R) n sk p := by
  intro n
  induction n with
  | zero => intro sk p h _ _; exact h
  | succ n ih =>
    intro sk p
    refine Pn.cases (P := fun p => gP A (n + 1) sk p → planN (n + 1) p → (∀ nd ∈ rowN (n + 1) p, nd.op = 3 → nd.name ∈ R ∧ nd.peer ∈ R) → gP (fun t => A t ∧ t.a ∈ R ∧ t.b ∈ R) (n + 1) sk p) (fun x h _ _ => h) (fun x q h hp hR => ?_) (fun t l h hp hR => ?_) p
    · exact ⟨h.1, h.2.1, ih _ q h.2.2 hp (fun nd hn => hR nd (by rw [row_loop]; exact List.mem_cons_of_mem _ hn))⟩
    · obtain ⟨h1, h2, h3, h4, h5⟩ := h
      rw [row_talk] at hR
      refine ⟨⟨h1, hR _ List.mem_cons_self hp.1⟩, h2, h3, h4, fun b hb => ih _ b.p (h5 b hb) (hp.2.2.2.2 b hb) (fun nd hn => hR nd (List.mem_cons_of_mem _ ?_))⟩
      unfold brsBy
      exact List.mem_flatMap.2 ⟨b, hb, List.mem_cons_of_mem _ hn⟩
theorem gP_peers {R : List ByteArray} : ∀ (n : Nat) (sk : Sk) (q : Pn n), gP (fun t => tkPart t ∧ t.b ∈ R) n sk q → ∀ nd ∈ rowN n q, ∀ t ∈ talkers nd, t ∈ R := by
  have leaf : ∀ (x : Option ByteArray), ∀ nd ∈ leafRow x, ∀ t ∈ talkers nd, t ∈ R := by
    intro x nd hn t ht
    cases x with
    | none => simp [leafRow] at hn; subst hn; simp [talkers] at ht
    | some x => simp [leafRow] at hn; subst hn; simp [talkers] at ht
  intro n
  induction n with
  | zero => intro sk q _; exact leaf q
  | succ n ih =>
    intro sk q
    refine Pn.cases (P := fun q => gP (fun t => tkPart t ∧ t.b ∈ R) (n + 1) sk q → ∀ nd ∈ rowN (n + 1) q, ∀ t ∈ talkers nd, t ∈ R) (fun x _ => leaf x) (fun x q h nd hn t ht => ?_) (fun t l h nd hn u hu => ?_) q
    · rw [row_loop] at hn
      rcases List.mem_cons.1 hn with rfl | hn
      · simp [talkers] at ht
      · exact ih _ q h.2.2 nd hn t ht
    · obtain ⟨⟨⟨h0, -, -⟩, h1⟩, -, -, -, h5⟩ := h
      rw [row_talk] at hn
      rcases List.mem_cons.1 hn with rfl | hn
      · rcases h0 with h0 | h0
        · simp [talkers, h0] at hu; rw [hu]; exact h1
        · simp [talkers, h0] at hu; rw [hu]; exact h1
      · unfold brsBy at hn
        obtain ⟨b, hb, hn⟩ := List.mem_flatMap.1 hn
        rcases List.mem_cons.1 hn with rfl | hn
        · simp [talkers] at hu
        · exact ih _ b.p (h5 b hb) nd hn u hu
theorem gP_mono {A A' : Tk → Prop} (hA : ∀ t, A t → A' t) : ∀ (n : Nat) (sk : Sk) (p : Pn n), gP A n sk p → gP A' n sk p := by
  intro n
  induction n with
  | zero => intro sk p h; exact h
  | succ n ih =>
    intro sk p
    refine Pn.cases (P := fun p => gP A (n + 1) sk p → gP A' (n + 1) sk p) (fun x h => h) (fun x q h => ⟨h.1, h.2.1, ih _ q h.2.2⟩) (fun t l h => ?_) p
    obtain ⟨h1, h2, h3, h4, h5⟩ := h
    exact ⟨hA t h1, h2, h3, h4, fun b hb => ih _ b.p (h5 b hb)⟩
theorem part_is {ns : List Nd} {p z : Pn 10} {role : ByteArray} (hr : rightB false ns = true) (hp : ns = rowN 10 p) (hpl : planN 10 p) (h : partN role 10 p = some z) : rightB true (rowN 10 z) = true ∧ ∀ nd ∈ rowN 10 z, ∀ t ∈ talkers nd, t ∈ rolesS ns := by
  have hr' := hr
  simp only [rightB, Bool.and_eq_true, decide_eq_true_eq] at hr'
  obtain ⟨h40, hah, hro⟩ := hr'
  have hnd := right_nodes hr
  cases ha : ahead (talkS false) 10 [] ns with
  | none => rw [ha] at hah; cases hah
  | some r =>
    rw [ha] at hah
    have hr0 : r = [] := by simpa using hah
    subst hr0
    have ha' : ahead (talkS false) 10 [] (rowN 10 p ++ []) = some [] := by rw [List.append_nil, ← hp]; exact ha
    have hg := (g_of_ahead 10 p [] [] [] hpl ha').1
    have hg2 := gP_and (R := rolesS ns) 10 [] p hg hpl (fun nd hn h3 => by
      rw [← hp] at hn
      exact ⟨roles_has hnd hn (by simp [talkers, h3]), roles_has hnd hn (by simp [talkers, h3])⟩)
    have hz := part_g (A := fun t => tkPlan t ∧ t.a ∈ rolesS ns ∧ t.b ∈ rolesS ns) (B := fun t => tkPart t ∧ t.b ∈ rolesS ns) role (fun t ht => ⟨⟨⟨.inl rfl, rfl, ht.1.2.2.1⟩, ht.2.2⟩, ⟨⟨.inr rfl, rfl, ht.1.2.1⟩, ht.2.1⟩⟩) (fun a b hb => ⟨⟨.inr rfl, rfl, hb.1.2.2⟩, hb.2⟩) (fun t ht => by rcases ht.1.1 with e | e <;> omega) 10 p z hg2 hpl h
    have hpe := gP_peers 10 [] z hz
    have hz2 := ahead_of_g 10 z [] [] (gP_mono (fun t ht => ht.1) 10 [] z hz)
    rw [List.append_nil] at hz2
    have hlen : (rowN 10 z).length ≤ 40 := by
      have := (part_sz role 10 p z hpl h).1
      rw [← hp] at this
      omega
    have hnz : ∀ n ∈ rowN 10 z, nodeB (talkS true) n = true := ahead_all (f := 10) (by rw [hz2]; rfl)
    have hle : (rolesS (rowN 10 z)).length ≤ 4 := by
      refine Nat.le_trans (sorted_le (R := rolesS ns) (roles_perm hnz).1 (fun x hx => ?_)) hro
      rw [rolesS_eq hnz] at hx
      rcases put_has hx with hx | hx
      · cases hx
      · obtain ⟨nd, hn, ht⟩ := List.mem_flatMap.1 hx
        exact hpe nd hn x ht
    refine ⟨?_, hpe⟩
    simp only [rightB, Bool.and_eq_true, decide_eq_true_eq]
    exact ⟨hlen, by rw [hz2]; rfl, hle⟩
end Go.Proofs.YtaaeledleldllaaGreat
namespace Go.Proofs.YtaaeledleldllaaGreat
open Go.RowKit

def machOf (p : Pn 10) (role : ByteArray) : Mach := match partN role 10 p with
  | some z => machP (rowN 10 z)
  | none => noMach
structure SPlan (ns : List Nd) (p : Pn 10) : Prop where
  right : rightB false ns = true
  row : ns = rowN 10 p
  pl : planN 10 p
  len : ns.length ≤ 40
  all : ∀ r ∈ rolesS ns, ∃ z, partN r 10 p = some z
theorem snd_plan {ns : List Nd} (h : Snd ns true) : ∃ p, SPlan ns p := by
  rcases h with ⟨-, h⟩ | ⟨hr, p, hp, hpl, h40, hq⟩
  · cases h
  · refine ⟨p, hr, hp, hpl, h40, fun r hm => ?_⟩
    have := hq.symm
    unfold sndP at this
    rw [List.all_eq_true] at this
    exact Option.isSome_iff_exists.1 (this r hm)
theorem mo_len {ns : List Nd} (h : rightB true ns = true) : (machP ns).states.length ≤ 40 ∧ (machP ns).edges.length ≤ 80 := by
  obtain ⟨h1, h2⟩ := part_ahead h
  have h3 := sv_ok 10 [] ns [] [] [] ([], []) h1
  have h4 := h3.sts
  have h5 := h3.eds
  have h6 : cntL ns ≤ ns.length := List.length_filter_le _ _
  have h7 : cntL ([] : List Nd) = 0 := rfl
  simp only [List.length_nil] at h4 h5
  show (sv 10 [] [] ns ([], [])).2.1.length ≤ 40 ∧ (sv 10 [] [] ns ([], [])).2.2.length ≤ 80
  omega
structure RoleM (p : Pn 10) (role : ByteArray) (z : Pn 10) : Prop where
  part : partN role 10 p = some z
  mach : machOf p role = machP (rowN 10 z)
  right : rightB true (rowN 10 z) = true
  len : (rowN 10 z).length ≤ 40
  moT : moT (rowN 10 z) = machOf p role
  moC : moC (rowN 10 z) = 0
  sts : (machOf p role).states.length ≤ 40
  eds : (machOf p role).edges.length ≤ 80
theorem role_mach {ns : List Nd} {p : Pn 10} (h : SPlan ns p) {r : ByteArray} (hr : r ∈ rolesS ns) : ∃ z, RoleM p r z := by
  obtain ⟨z, hz⟩ := h.all r hr
  have hright := (part_is h.right h.row h.pl hz).1
  have hm : machOf p r = machP (rowN 10 z) := by unfold machOf; rw [hz]
  have hlen := (part_ahead hright).2
  have hml := mo_len hright
  refine ⟨z, hz, hm, hright, hlen, ?_, ?_, by rw [hm]; exact hml.1, by rw [hm]; exact hml.2⟩
  · rw [hm]; unfold moT; rw [if_neg (by omega), if_pos hright]
  · unfold moC; rw [if_neg (by omega), if_pos hright]
theorem spl_names {ns : List Nd} {p : Pn 10} (h : SPlan ns p) {r : ByteArray} (hr : r ∈ rolesS ns) : nameB r = true ∧ r.size ≤ 20 := role_name h.right hr
def timeK (n : Int) : Bool := decide (0 ≤ n) && decide (n ≤ 1000000)
theorem it_time {q : Bool} {n : Int} (hq : timeK n = q) (w : World) :
    Calls Tryz.prog 86 #[.int .i64 n] w fun e w' => e = .returned (.bool q) ∧ w' = w := by
  have HQ := hide hq
  clear hq
  by_cases h : 0 ≤ n
  all_goals
    go_enter Tryz.func86, Tryz.ntmps86
    go_wp2_with fail
    go_ret
    exact ⟨ret_bool (by rw [← HQ.out]; simp [timeK, *]; try omega), rfl⟩
theorem st_time {q : Bool} {n : Int} (hq : timeK n = q) (w : World) :
    Calls Tryz.prog 42 #[.int .i64 n] w fun e w' => e = .returned (.bool q) ∧ w' = w := by
  subst hq
  go_enter Tryz.func42, Tryz.ntmps42
  go_wp2_with (go_at_call 82; refine (ms_is _ _ _ _).mono ?_; rintro e w' ⟨rfl, rfl⟩)
  go_ret
  exact ⟨ret_bool rfl, rfl⟩
def stOk (m : Mach) (s : Int) : Bool := inB s 0 ((m.states.length : Int) - 1)
def stsB (ms : List Mach) (ss : List Int) : Bool := decide (ss.length = ms.length) && (List.range ms.length).all fun i => match ms[i]?, ss[i]? with
  | some m, some s => stOk m s
  | _, _ => false
def amongB (rs : List ByteArray) (l : List RMsg) : Bool := l.all fun m => hasB rs m.frm && hasB rs m.to
def rnB (r : Rn) (p : Pn 10) : Bool := netB r.net && timeK r.steps && stsB ((rolesS r.plan).map (machOf p)) r.states && amongB (rolesS r.plan) r.net
def RnIs (r : Rn) (b : Bool) : Prop := (Snd r.plan false ∧ b = false) ∨ (∃ p, Snd r.plan true ∧ SPlan r.plan p ∧ b = rnB r p)
def RnP (r : Rn) (p : Pn 10) (b : Bool) : Prop := (Snd r.plan false ∧ b = false) ∨ (Snd r.plan true ∧ SPlan r.plan p ∧ b = rnB r p)
theorem rn_p {r : Rn} {b : Bool} (h : RnIs r b) : ∃ p, RnP r p b := by
  rcases h with ⟨h, e⟩ | ⟨p, h1, h2, e⟩
  · exact ⟨Pn.leaf (n := 9) none, .inl ⟨h, e⟩⟩
  · exact ⟨p, .inr ⟨h1, h2, e⟩⟩
theorem rnP_is {r : Rn} {p : Pn 10} {b : Bool} (h : RnP r p b) : RnIs r b := by
  rcases h with ⟨h, e⟩ | ⟨h1, h2, e⟩
  · exact .inl ⟨h, e⟩
  · exact .inr ⟨p, h1, h2, e⟩
theorem rn_ex (r : Rn) : ∃ b, RnIs r b := by
  obtain ⟨q, hq⟩ := snd_ex r.plan
  cases q with
  | false => exact ⟨false, .inl ⟨hq, rfl⟩⟩
  | true =>
    obtain ⟨p, hp⟩ := snd_plan hq
    exact ⟨_, .inr ⟨p, hq, hp, rfl⟩⟩
theorem sts_no {ms : List Mach} {ss : List Int} {k : Nat} {m : Mach} {s : Int} (hm : ms[k]? = some m) (hs : ss[k]? = some s) (h : stOk m s = false) : stsB ms ss = false := by
  unfold stsB
  have hk : k < ms.length := (List.getElem?_eq_some_iff.1 hm).1
  have : ((List.range ms.length).all fun i => match ms[i]?, ss[i]? with
    | some m, some s => stOk m s
    | _, _ => false) = false := by
    rw [List.all_eq_false]
    exact ⟨k, List.mem_range.2 hk, by rw [hm, hs]; simp [h]⟩
  rw [this, Bool.and_false]
theorem sts_len {ms : List Mach} {ss : List Int} (h : ss.length ≠ ms.length) : stsB ms ss = false := by
  unfold stsB
  rw [decide_eq_false h, Bool.false_and]
theorem sts_all {ms : List Mach} {ss : List Int} (hl : ss.length = ms.length) (h : ∀ (k : Nat) (hk : k < ms.length), stOk ms[k] (ss[k]'(by omega)) = true) : stsB ms ss = true := by
  unfold stsB
  rw [decide_eq_true hl, Bool.true_and, List.all_eq_true]
  intro i hi
  have hi' := List.mem_range.1 hi
  rw [List.getElem?_eq_getElem hi', List.getElem?_eq_getElem (by omega)]
  exact h i hi'
theorem sts_get {ms : List Mach} {ss : List Int} (h : stsB ms ss = true) {k : Nat} (hk : k < ms.length) : ∃ hs : k < ss.length, stOk ms[k] ss[k] = true := by
  unfold stsB at h
  rw [Bool.and_eq_true, decide_eq_true_eq, List.all_eq_true] at h
  have := h.2 k (List.mem_range.2 hk)
  have hs : k < ss.length := by omega
  rw [List.getElem?_eq_getElem hk, List.getElem?_eq_getElem hs] at this
  exact ⟨hs, this⟩
theorem among_no {rs : List ByteArray} {l : List RMsg} {k : Nat} (hk : k < l.length) (h : (hasB rs l[k].frm && hasB rs l[k].to) = false) : amongB rs l = false := by
  unfold amongB
  rw [List.all_eq_false]
  exact ⟨l[k], List.getElem_mem hk, by rw [h]; simp⟩
theorem among_all {rs : List ByteArray} {l : List RMsg} (h : ∀ (k : Nat) (hk : k < l.length), (hasB rs l[k].frm && hasB rs l[k].to) = true) : amongB rs l = true := by
  unfold amongB
  rw [List.all_eq_true]
  intro x hx
  obtain ⟨k, hk, rfl⟩ := List.getElem_of_mem hx
  exact h k hk
end Go.Proofs.YtaaeledleldllaaGreat
