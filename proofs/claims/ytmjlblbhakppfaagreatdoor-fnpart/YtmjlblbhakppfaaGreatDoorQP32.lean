import Derived.Test.YtmjlblbhakppfaaGreatDoorQP30
import Derived.Test.YtmjlblbhakppfaaGreatDoorQP31
import Derived.Test.YtmjlblbhakppfaaGreatDoorQP21
import Derived.Test.YtmjlblbhakppfaaGreatDoorQP29
import Derived.Test.YtmjlblbhakppfaaGreatDoorQP15
namespace Go.Proofs.YtmjlblbhakppfaaGreatDoor
open Go.RowKit

def drT0 : ByteArray := ba [97, 62, 98, 123, 104, 105, 40, 105, 110, 116, 41, 46, 98, 62, 97, 123, 121, 101, 115, 40, 116, 101, 120, 116, 41, 46, 101, 110, 100, 44, 110, 111, 40, 110, 111, 110, 101, 41, 46, 101, 110, 100, 125, 125]
def drN0 : List Nd := [⟨3, ba [97], ba [98], 1, 0⟩, ⟨4, ba [104, 105], noT, 0, 1⟩, ⟨3, ba [98], ba [97], 2, 0⟩, ⟨4, ba [121, 101, 115], noT, 0, 2⟩, ⟨0, noT, noT, 0, 0⟩, ⟨4, ba [110, 111], noT, 0, 0⟩, ⟨0, noT, noT, 0, 0⟩]
theorem dr_is0 : IsText false drT0 drN0 := ⟨by kernel_rfl, by kernel_rfl⟩
def drT1 : ByteArray := ba [114, 101, 99, 32, 120, 46, 97, 62, 98, 123, 109, 111, 114, 101, 40, 105, 110, 116, 41, 46, 120, 44, 115, 116, 111, 112, 40, 110, 111, 110, 101, 41, 46, 101, 110, 100, 125]
def drN1 : List Nd := [⟨2, ba [120], noT, 0, 0⟩, ⟨3, ba [97], ba [98], 2, 0⟩, ⟨4, ba [109, 111, 114, 101], noT, 0, 1⟩, ⟨1, ba [120], noT, 0, 0⟩, ⟨4, ba [115, 116, 111, 112], noT, 0, 0⟩, ⟨0, noT, noT, 0, 0⟩]
theorem dr_is1 : IsText false drT1 drN1 := ⟨by kernel_rfl, by kernel_rfl⟩
def drT2 : ByteArray := ba [97, 62, 98, 123, 103, 111, 40, 105, 110, 116, 41, 46, 98, 62, 99, 123, 103, 111, 40, 105, 110, 116, 41, 46, 99, 62, 97, 123, 100, 111, 110, 101, 40, 110, 111, 110, 101, 41, 46, 101, 110, 100, 125, 125, 44, 113, 117, 105, 116, 40, 110, 111, 110, 101, 41, 46, 98, 62, 99, 123, 113, 117, 105, 116, 40, 110, 111, 110, 101, 41, 46, 99, 62, 97, 123, 100, 111, 110, 101, 40, 110, 111, 110, 101, 41, 46, 101, 110, 100, 125, 125, 125]
def drN2 : List Nd := [⟨3, ba [97], ba [98], 2, 0⟩, ⟨4, ba [103, 111], noT, 0, 1⟩, ⟨3, ba [98], ba [99], 1, 0⟩, ⟨4, ba [103, 111], noT, 0, 1⟩, ⟨3, ba [99], ba [97], 1, 0⟩, ⟨4, ba [100, 111, 110, 101], noT, 0, 0⟩, ⟨0, noT, noT, 0, 0⟩, ⟨4, ba [113, 117, 105, 116], noT, 0, 0⟩, ⟨3, ba [98], ba [99], 1, 0⟩, ⟨4, ba [113, 117, 105, 116], noT, 0, 0⟩, ⟨3, ba [99], ba [97], 1, 0⟩, ⟨4, ba [100, 111, 110, 101], noT, 0, 0⟩, ⟨0, noT, noT, 0, 0⟩]
theorem dr_is2 : IsText false drT2 drN2 := ⟨by kernel_rfl, by kernel_rfl⟩
def drT3 : ByteArray := ba [114, 101, 99, 32, 120, 46, 97, 62, 98, 123, 112, 117, 116, 40, 116, 101, 120, 116, 41, 46, 98, 62, 97, 123, 97, 99, 107, 40, 110, 111, 110, 101, 41, 46, 120, 125, 44, 98, 121, 101, 40, 110, 111, 110, 101, 41, 46, 101, 110, 100, 125]
def drN3 : List Nd := [⟨2, ba [120], noT, 0, 0⟩, ⟨3, ba [97], ba [98], 2, 0⟩, ⟨4, ba [112, 117, 116], noT, 0, 2⟩, ⟨3, ba [98], ba [97], 1, 0⟩, ⟨4, ba [97, 99, 107], noT, 0, 0⟩, ⟨1, ba [120], noT, 0, 0⟩, ⟨4, ba [98, 121, 101], noT, 0, 0⟩, ⟨0, noT, noT, 0, 0⟩]
theorem dr_is3 : IsText false drT3 drN3 := ⟨by kernel_rfl, by kernel_rfl⟩
def drT4 : ByteArray := ba [114, 101, 99, 32, 120, 46, 97, 62, 98, 123, 97, 115, 107, 40, 105, 110, 116, 41, 46, 98, 62, 99, 123, 97, 115, 107, 40, 105, 110, 116, 41, 46, 99, 62, 98, 123, 115, 97, 121, 40, 116, 101, 120, 116, 41, 46, 98, 62, 97, 123, 115, 97, 121, 40, 116, 101, 120, 116, 41, 46, 120, 125, 125, 125, 44, 115, 116, 111, 112, 40, 110, 111, 110, 101, 41, 46, 98, 62, 99, 123, 115, 116, 111, 112, 40, 110, 111, 110, 101, 41, 46, 101, 110, 100, 125, 125]
def drN4 : List Nd := [⟨2, ba [120], noT, 0, 0⟩, ⟨3, ba [97], ba [98], 2, 0⟩, ⟨4, ba [97, 115, 107], noT, 0, 1⟩, ⟨3, ba [98], ba [99], 1, 0⟩, ⟨4, ba [97, 115, 107], noT, 0, 1⟩, ⟨3, ba [99], ba [98], 1, 0⟩, ⟨4, ba [115, 97, 121], noT, 0, 2⟩, ⟨3, ba [98], ba [97], 1, 0⟩, ⟨4, ba [115, 97, 121], noT, 0, 2⟩, ⟨1, ba [120], noT, 0, 0⟩, ⟨4, ba [115, 116, 111, 112], noT, 0, 0⟩, ⟨3, ba [98], ba [99], 1, 0⟩, ⟨4, ba [115, 116, 111, 112], noT, 0, 0⟩, ⟨0, noT, noT, 0, 0⟩]
theorem dr_is4 : IsText false drT4 drN4 := ⟨by kernel_rfl, by kernel_rfl⟩
def drT5 : ByteArray := ba [97, 62, 98, 123, 111, 110, 101, 40, 105, 110, 116, 41, 46, 99, 62, 100, 123, 116, 119, 111, 40, 105, 110, 116, 41, 46, 98, 62, 97, 123, 116, 104, 114, 101, 101, 40, 110, 111, 110, 101, 41, 46, 101, 110, 100, 125, 125, 125]
def drN5 : List Nd := [⟨3, ba [97], ba [98], 1, 0⟩, ⟨4, ba [111, 110, 101], noT, 0, 1⟩, ⟨3, ba [99], ba [100], 1, 0⟩, ⟨4, ba [116, 119, 111], noT, 0, 1⟩, ⟨3, ba [98], ba [97], 1, 0⟩, ⟨4, ba [116, 104, 114, 101, 101], noT, 0, 0⟩, ⟨0, noT, noT, 0, 0⟩]
theorem dr_is5 : IsText false drT5 drN5 := ⟨by kernel_rfl, by kernel_rfl⟩
def drT6 : ByteArray := ba [114, 101, 99, 32, 120, 46, 97, 62, 98, 123, 108, 40, 110, 111, 110, 101, 41, 46, 114, 101, 99, 32, 121, 46, 98, 62, 97, 123, 109, 40, 110, 111, 110, 101, 41, 46, 121, 44, 110, 40, 110, 111, 110, 101, 41, 46, 120, 44, 111, 40, 110, 111, 110, 101, 41, 46, 101, 110, 100, 125, 125]
def drN6 : List Nd := [⟨2, ba [120], noT, 0, 0⟩, ⟨3, ba [97], ba [98], 1, 0⟩, ⟨4, ba [108], noT, 0, 0⟩, ⟨2, ba [121], noT, 0, 0⟩, ⟨3, ba [98], ba [97], 3, 0⟩, ⟨4, ba [109], noT, 0, 0⟩, ⟨1, ba [121], noT, 0, 0⟩, ⟨4, ba [110], noT, 0, 0⟩, ⟨1, ba [120], noT, 0, 0⟩, ⟨4, ba [111], noT, 0, 0⟩, ⟨0, noT, noT, 0, 0⟩]
theorem dr_is6 : IsText false drT6 drN6 := ⟨by kernel_rfl, by kernel_rfl⟩
def drT7 : ByteArray := ba [97, 62, 98, 123, 108, 40, 110, 111, 110, 101, 41, 46, 98, 62, 99, 123, 120, 40, 110, 111, 110, 101, 41, 46, 101, 110, 100, 125, 44, 109, 40, 110, 111, 110, 101, 41, 46, 101, 110, 100, 125]
def drN7 : List Nd := [⟨3, ba [97], ba [98], 2, 0⟩, ⟨4, ba [108], noT, 0, 0⟩, ⟨3, ba [98], ba [99], 1, 0⟩, ⟨4, ba [120], noT, 0, 0⟩, ⟨0, noT, noT, 0, 0⟩, ⟨4, ba [109], noT, 0, 0⟩, ⟨0, noT, noT, 0, 0⟩]
theorem dr_is7 : IsText false drT7 drN7 := ⟨by kernel_rfl, by kernel_rfl⟩
def drT8 : ByteArray := ba [114, 101, 99, 32, 120, 46, 97, 62, 98, 123, 108, 40, 110, 111, 110, 101, 41, 46, 120, 44, 109, 40, 110, 111, 110, 101, 41, 46, 99, 62, 97, 123, 107, 40, 110, 111, 110, 101, 41, 46, 101, 110, 100, 125, 125]
def drN8 : List Nd := [⟨2, ba [120], noT, 0, 0⟩, ⟨3, ba [97], ba [98], 2, 0⟩, ⟨4, ba [108], noT, 0, 0⟩, ⟨1, ba [120], noT, 0, 0⟩, ⟨4, ba [109], noT, 0, 0⟩, ⟨3, ba [99], ba [97], 1, 0⟩, ⟨4, ba [107], noT, 0, 0⟩, ⟨0, noT, noT, 0, 0⟩]
theorem dr_is8 : IsText false drT8 drN8 := ⟨by kernel_rfl, by kernel_rfl⟩
end Go.Proofs.YtmjlblbhakppfaaGreatDoor
namespace Go.Proofs.YtmjlblbhakppfaaGreatDoor
open Go.RowKit
set_option linter.unusedSimpArgs false
set_option linter.unusedVariables false

theorem sr_one (part : Bool) (t : ByteArray) (ht : t.size ≤ 8000) : ∀ f, OneC part t f := by
  intro f
  induction f with
  | zero =>
    intro rb base a deep lv l bad w hd hl hs
    exact (sr_one_bad part t rb base a deep lv l bad w (by omega) (.inl (by omega)) hl hs).mono fun e w' h => ⟨h.1, a, lv, l, true, rfl, h.2.1, h.2.2⟩
  | succ f ih =>
    intro rb base a deep lv l bad w hd hl hs
    by_cases hb : bad = true ∨ 40 < l.length
    · refine (sr_one_bad part t rb base a deep lv l bad w (by omega) (.inr hb) hl hs).mono fun e w' h => ⟨h.1, a, lv, l, true, ?_, h.2.1, h.2.2⟩
      rw [oneS, if_pos (by
        simp only [Bool.or_eq_true, decide_eq_true_eq]
        exact hb)]
      rfl
    · obtain ⟨rfl, hl40⟩ : bad = false ∧ l.length ≤ 40 := by
        cases bad
        · exact ⟨rfl, by omega⟩
        · exact absurd (.inl rfl) hb
      have hcs := sr_cases part t f ht ih
      obtain ⟨X, hX⟩ : ∃ x, ba ((t.toList.drop a).takeWhile inW) = x := ⟨_, rfl⟩
      have e1 : wdS (stS t a l false) = X.toList := by rw [← hX, ba_list]; rfl
      have e2 : ba (wdS (stS t a l false)) = X := hX
      rw [oneS, if_neg (show ¬ (((stS t a l false).bad || decide (40 < (stS t a l false).l.length)) = true) from fun h => (by have h1 : (false || decide (40 < l.length)) = true := h; simp at h1; omega))]
      cases w1 : (X.toList == [101, 110, 100])
      · rw [if_neg (by rw [e1]; intro e; rw [e] at w1; simp at w1)]
        cases w2 : (X.toList == [114, 101, 99])
        · rw [if_neg (by rw [e1]; intro e; rw [e] at w2; simp at w2), e2, sk_st]
          simp only [is_st]
          cases part
          · simp only [Bool.false_eq_true, if_false]
            cases q : isQ [62] t (wdA t a) false
            · simp only [Bool.false_eq_true, if_false]
              refine (sr_one_var false t rb base a deep lv l w ht (by omega) hl40 X hX w1 w2 (fun _ => q) (fun h => by cases h) (fun h => by cases h) hs).mono ?_
              rintro e w' ⟨h1, lv', h2, h3⟩
              exact ⟨h1, _, lv', _, _, rfl, h2, h3⟩
            · simp only [if_true]
              exact sr_one_msg t f rb base a deep lv l w ht hcs hd hl40 X hX w1 w2 q hs
          · simp only [if_true]
            cases q : isQ [33, 123] t (wdA t a) false
            · simp only [Bool.false_eq_true, if_false]
              cases q2 : isQ [63, 123] t (wdA t a) false
              · simp only [Bool.false_eq_true, if_false]
                refine (sr_one_var true t rb base a deep lv l w ht (by omega) hl40 X hX w1 w2 (fun h => by cases h) (fun _ => q) (fun _ => q2) hs).mono ?_
                rintro e w' ⟨h1, lv', h2, h3⟩
                exact ⟨h1, _, lv', _, _, rfl, h2, h3⟩
              · simp only [if_true]
                exact sr_one_recv t f rb base a deep lv l w ht hcs hd hl40 X hX w1 w2 q q2 hs
            · simp only [if_true]
              exact sr_one_send t f rb base a deep lv l w ht hcs hd hl40 X hX w1 w2 q hs
        · rw [if_pos (by rw [e1]; exact eq_of_beq w2)]
          exact sr_one_rec part t f rb base a deep lv l w ht ih hd hl40 X hX w1 w2 hs
      · rw [if_pos (by rw [e1]; exact eq_of_beq w1)]
        refine (sr_one_end part t rb base a deep lv l w ht (by omega) hl40 X hX w1 hs).mono ?_
        rintro e w' ⟨h1, lv', h2, h3⟩
        exact ⟨h1, _, lv', _, _, by rw [sk_st]; rfl, h2, h3⟩
end Go.Proofs.YtmjlblbhakppfaaGreatDoor
namespace Go.Proofs.YtmjlblbhakppfaaGreatDoor
open Go.RowKit

def hvL : List Nd → Option ByteArray
  | [] => none
  | n :: l => if n.op == 2 then hvL l else if n.op == 1 then some n.name else none
def spL : List Nd → List ByteArray
  | [] => []
  | n :: l => if n.op == 2 then n.name :: spL l else []
def recsL : List Nd → List ByteArray
  | [] => []
  | n :: l => if n.op == 2 then n.name :: recsL l else recsL l
theorem closed_app : ∀ (l r : List Nd) (ns : List ByteArray), closedL ns (l ++ r) = (closedL ns l && closedL (ns ++ recsL l) r)
  | [], r, ns => by simp [closedL, recsL]
  | n :: l, r, ns => by
    rw [List.cons_append, closedL, closedL, recsL]
    cases h : (n.op == 2)
    · simp only [Bool.false_eq_true, if_false]
      cases h1 : (n.op == 1 && !hasB ns n.name)
      · simp only [Bool.false_eq_true, if_false]; exact closed_app l r ns
      · simp
    · simp only [if_true]
      rw [closed_app l r (ns ++ [n.name]), List.append_assoc]
      rfl
theorem role_app (role : ByteArray) (l r : List Nd) : hasRole role (l ++ r) = (hasRole role l || hasRole role r) := by simp [hasRole]
theorem role_cons (role : ByteArray) (n : Nd) (l : List Nd) : hasRole role (n :: l) = ((n.op == 3 && (n.name.toList == role.toList || n.peer.toList == role.toList)) || hasRole role l) := by rw [hasRole, List.any_cons]; rfl
theorem row_same : ∀ {l r : List Nd}, rowEq l r = true → l = r
  | [], [], _ => rfl
  | [], _ :: _, h => by cases h
  | _ :: _, [], h => by cases h
  | a :: l, b :: r, h => by
    rw [rowEq, Bool.and_eq_true] at h
    obtain ⟨h1, h2⟩ := h
    rw [row_same h2]
    simp only [ndEq, Bool.and_eq_true, beq_iff_eq] at h1
    obtain ⟨⟨⟨⟨e1, e2⟩, e3⟩, e4⟩, e5⟩ := h1
    obtain ⟨o, n, p, m, s⟩ := a
    obtain ⟨o', n', p', m', s'⟩ := b
    dsimp only at e1 e2 e3 e4 e5
    rw [e1, tl_inj e2, tl_inj e3, e4, e5]
theorem merge_hv : ∀ (n : Nat) (u v z : Pn n) (x : ByteArray), mergeN n u v = some z → hvL (rowN n z) = some x → z = u ∧ hvL (rowN n v) = some x := by
  intro n
  cases n with
  | zero =>
    intro u v z x h hx
    rw [mergeN] at h
    split at h
    · rename_i he
      injection h with h
      subst h
      exact ⟨rfl, by rw [← row_same he]; exact hx⟩
    · cases h
  | succ n =>
    intro u v z x h hx
    rw [mergeN] at h
    split at h
    · rename_i he
      injection h with h
      subst h
      exact ⟨rfl, by rw [← row_same he]; exact hx⟩
    · split at h
      · split at h
        · split at h
          · split at h
            · injection h with h
              subst h
              rw [row_talk] at hx
              simp [hvL] at hx
            · cases h
          · cases h
        · cases h
      · cases h
theorem all_hv {n : Nat} {x : ByteArray} : ∀ (r : List (Br (Pn n))) (u z : Pn n), mergeAll (mergeN n) u r = some z → hvL (rowN n z) = some x → z = u ∧ ∀ b ∈ r, hvL (rowN n b.p) = some x
  | [], u, z, h, hx => by
    rw [mergeAll] at h
    injection h with h
    exact ⟨h.symm, fun b hb => (by cases hb)⟩
  | b :: r, u, z, h, hx => by
    rw [mergeAll] at h
    split at h
    · cases h
    · rename_i q hq
      obtain ⟨h1, h2⟩ := all_hv r q z h hx
      subst h1
      obtain ⟨h3, h4⟩ := merge_hv n u b.p z x hq hx
      refine ⟨h3, fun d hd => ?_⟩
      rcases List.mem_cons.1 hd with rfl | hd
      · exact h4
      · exact h2 d hd
theorem parts_like {α : Type} {g : α → Option α} : ∀ (l r : List (Br α)), partsBy g l = some r → r.map (·.l) = l.map (·.l) ∧ (∀ c ∈ r, ∃ b ∈ l, g b.p = some c.p ∧ c.l = b.l ∧ c.s = b.s) ∧ ∀ b ∈ l, ∃ c ∈ r, g b.p = some c.p
  | [], r, h => by
    rw [partsBy] at h
    injection h with h
    subst h
    exact ⟨rfl, fun c hc => (by cases hc), fun c hc => (by cases hc)⟩
  | b :: l, r, h => by
    rw [partsBy] at h
    split at h
    · cases h
    · rename_i q hq
      split at h
      · cases h
      · rename_i r' hr'
        injection h with h
        subst h
        obtain ⟨h1, h2, h3⟩ := parts_like l r' hr'
        refine ⟨by rw [List.map_cons, List.map_cons, h1], fun c hc => ?_, fun d hd => ?_⟩
        · rcases List.mem_cons.1 hc with rfl | hc
          · exact ⟨b, List.mem_cons_self, hq, rfl, rfl⟩
          · obtain ⟨d, hd, e⟩ := h2 c hc
            exact ⟨d, List.mem_cons_of_mem _ hd, e⟩
        · rcases List.mem_cons.1 hd with rfl | hd
          · exact ⟨_, List.mem_cons_self, hq⟩
          · obtain ⟨c, hc, e⟩ := h3 d hd
            exact ⟨c, List.mem_cons_of_mem _ hc, e⟩
theorem closed_brs {n : Nat} {role x : ByteArray} : ∀ (l : List (Br (Pn n))) (ns : List ByteArray), (∀ b ∈ l, hasRole role (rowN n b.p) = false ∧ ∀ ns, x ∈ ns → closedL ns (rowN n b.p) = true) → x ∈ ns → hasRole role (brsBy (rowN n) l) = false ∧ closedL ns (brsBy (rowN n) l) = true
  | [], ns, _, _ => ⟨rfl, rfl⟩
  | b :: l, ns, h, hx => by
    rw [brs_cons]
    obtain ⟨h1, h2⟩ := h b List.mem_cons_self
    obtain ⟨h3, h4⟩ := closed_brs l (ns ++ recsL (rowN n b.p)) (fun d hd => h d (List.mem_cons_of_mem _ hd)) (List.mem_append_left _ hx)
    refine ⟨?_, ?_⟩
    · rw [role_cons, role_app, h1, h3]
      rfl
    · rw [closedL]
      simp only [show ((4 : Int) == 2) = false from rfl, show ((4 : Int) == 1) = false from rfl, Bool.false_and, Bool.false_eq_true, if_false]
      rw [closed_app, h2 ns hx, h4]
      rfl
theorem part_hv (role : ByteArray) : ∀ (n : Nat) (p q : Pn n) (x : ByteArray), planN n p → partN role n p = some q → hvL (rowN n q) = some x → hasRole role (rowN n p) = false ∧ (∀ ns, x ∈ ns → closedL ns (rowN n p) = true) ∧ x ∉ spL (rowN n q) := by
  have leaf : ∀ (y : Option ByteArray) (x : ByteArray), hvL (leafRow y) = some x → hasRole role (leafRow y) = false ∧ (∀ ns, x ∈ ns → closedL ns (leafRow y) = true) ∧ x ∉ spL (leafRow y) := by
    intro y x h
    cases y with
    | none => cases h
    | some y =>
      injection h with h
      dsimp only at h
      subst h
      refine ⟨rfl, fun ns hn => ?_, by simp [leafRow, spL]⟩
      simp [leafRow, closedL, has_iff.2 hn]
  intro n
  induction n with
  | zero =>
    intro p q x _ h hx
    injection h with h
    subst h
    exact leaf p x hx
  | succ n ih =>
    intro p
    refine Pn.cases (P := fun p => ∀ (q : Pn (n + 1)) (x : ByteArray), planN (n + 1) p → partN role (n + 1) p = some q → hvL (rowN (n + 1) q) = some x → hasRole role (rowN (n + 1) p) = false ∧ (∀ ns, x ∈ ns → closedL ns (rowN (n + 1) p) = true) ∧ x ∉ spL (rowN (n + 1) q)) (fun y => ?_) (fun y p' => ?_) (fun t l => ?_) p
    · intro q x _ h hx
      have h' : some (Pn.leaf y) = some q := h
      injection h' with h'
      subst h'
      exact leaf y x hx
    · intro q x hp h hx
      have h' : (if idleL role (rowN (n + 1) (.loop y p')) then some (.leaf none) else (partN role n p').map (Pn.loop y)) = some q := h
      split at h'
      · injection h' with h'
        subst h'
        cases hx
      · rename_i hid
        cases hq : partN role n p' with
        | none => rw [hq] at h'; cases h'
        | some q' =>
          rw [hq] at h'
          injection h' with h'
          subst h'
          rw [row_loop] at hx ⊢
          have hx' : hvL (rowN n q') = some x := by simpa [hvL] using hx
          obtain ⟨h1, h2, h3⟩ := ih p' q' x hp hq hx'
          have hr : hasRole role (rowN (n + 1) (.loop y p')) = false := by
            rw [row_loop]
            rw [role_cons, h1]; rfl
          have hc : ∀ ns, x ∈ ns ++ [y] → closedL ns (rowN (n + 1) (.loop y p')) = true := fun ns hn => by
            rw [row_loop, closedL]
            simp only [show ((2 : Int) == 2) = true from rfl, if_true]
            exact h2 _ hn
          refine ⟨hr, fun ns hn => hc ns (List.mem_append_left _ hn), ?_⟩
          rw [row_loop]
          simp only [spL, show ((2 : Int) == 2) = true from rfl, if_true, List.mem_cons, not_or]
          refine ⟨fun e => hid ?_, h3⟩
          rw [idleL, hr, hc [] (by simp [e])]
          rfl
    · intro q x hp h hx
      obtain ⟨hop, -, -, -, hbs⟩ := hp
      have h' : (match partsBy (partN role n) l with
        | none => none
        | some r => if role.toList == t.a.toList then some (.talk ⟨5, noT, t.b⟩ r) else if role.toList == t.b.toList then some (.talk ⟨6, noT, t.a⟩ r) else
          match r with
          | [] => none
          | c :: r => (mergeAll (mergeN n) c.p r).map (upN n)) = some q := h
      split at h'
      · cases h'
      · rename_i r hr
        split at h'
        · injection h' with h'
          subst h'
          rw [row_talk] at hx
          simp [hvL] at hx
        · rename_i ha
          split at h'
          · injection h' with h'
            subst h'
            rw [row_talk] at hx
            simp [hvL] at hx
          · rename_i hb
            cases r with
            | nil => cases h'
            | cons c r =>
              dsimp only at h'
              cases hz : mergeAll (mergeN n) c.p r with
              | none => rw [hz] at h'; cases h'
              | some z =>
                rw [hz] at h'
                injection h' with h'
                subst h'
                rw [up_row] at hx ⊢
                obtain ⟨hzc, hall⟩ := all_hv r c.p z hz hx
                obtain ⟨-, -, hin⟩ := parts_like l (c :: r) hr
                have each : ∀ b ∈ l, ∃ d : Pn n, partN role n b.p = some d ∧ hvL (rowN n d) = some x := fun b hb => by
                  obtain ⟨d, hd, e⟩ := hin b hb
                  rcases List.mem_cons.1 hd with rfl | hd
                  · exact ⟨d.p, e, by rw [← hzc]; exact hx⟩
                  · exact ⟨d.p, e, hall d hd⟩
                have hk : ∀ b ∈ l, hasRole role (rowN n b.p) = false ∧ ∀ ns, x ∈ ns → closedL ns (rowN n b.p) = true := fun b hb => by
                  obtain ⟨d, e, hd⟩ := each b hb
                  obtain ⟨k1, k2, -⟩ := ih b.p d x (hbs b hb) e hd
                  exact ⟨k1, k2⟩
                rw [row_talk]
                have hra : (t.a.toList == role.toList) = false := by
                  cases e : (t.a.toList == role.toList) with
                  | false => rfl
                  | true => exact absurd (by rw [beq_iff_eq] at e ⊢; exact e.symm) ha
                have hrb : (t.b.toList == role.toList) = false := by
                  cases e : (t.b.toList == role.toList) with
                  | false => rfl
                  | true => exact absurd (by rw [beq_iff_eq] at e ⊢; exact e.symm) hb
                refine ⟨?_, fun ns hn => ?_, ?_⟩
                · rw [role_cons]
                  dsimp only
                  rw [hra, hrb, (closed_brs l [x] hk (by simp)).1]
                  simp
                · rw [closedL]
                  simp only [hop, show ((3 : Int) == 2) = false from rfl, show ((3 : Int) == 1) = false from rfl, Bool.false_and, Bool.false_eq_true, if_false]
                  exact (closed_brs l ns hk hn).2
                · obtain ⟨b, hb, e, -, -⟩ := (parts_like l (c :: r) hr).2.1 c List.mem_cons_self
                  rw [hzc]
                  exact (ih b.p c.p x (hbs b hb) e (by rw [← hzc]; exact hx)).2.2
end Go.Proofs.YtmjlblbhakppfaaGreatDoor
namespace Go.Proofs.YtmjlblbhakppfaaGreatDoor
open Go.RowKit

theorem find_no {α : Type} {t : ByteArray} : ∀ {l : List (Br α)}, findB t l = none → ∀ b ∈ l, b.l ≠ t
  | [], _, b, hb => by cases hb
  | a :: l, h, b, hb => by
    rw [findB] at h
    split at h
    · cases h
    · rename_i hn
      rcases List.mem_cons.1 hb with rfl | hb
      · intro e
        exact hn (by rw [e]; simp)
      · cases hf : findB t l with
        | none => exact find_no hf b hb
        | some i => rw [hf] at h; cases h
theorem labs_snoc {α : Type} {l : List (Br α)} {d : Br α} (h : labs l) (hd : wordB d.l = true ∧ sortB d.s = true) (hn : ∀ b ∈ l, b.l ≠ d.l) : labs (l ++ [d]) := by
  refine ⟨?_, fun b hb => ?_⟩
  · rw [List.map_append]
    exact nodup_end h.1 (fun hm => by
      obtain ⟨b, hb, e⟩ := List.mem_map.1 hm
      exact hn b hb e)
  · rcases List.mem_append.1 hb with hb | hb
    · exact h.2 b hb
    · simp at hb; subst hb; exact hd
theorem labs_set {α : Type} {l : List (Br α)} {i : Nat} {b : Br α} (q : α) (h : labs l) (hb : l[i]? = some b) : labs (l.set i ⟨b.l, b.s, q⟩) := by
  have hm : b ∈ l := List.mem_of_getElem? hb
  refine ⟨?_, fun c hc => ?_⟩
  · rw [List.map_set]
    have : (l.map (·.l)).set i b.l = l.map (·.l) := by
      apply List.ext_getElem?
      intro j
      by_cases e : i = j
      · subst e
        have hlt := (List.getElem?_eq_some_iff.1 hb).1
        rw [List.getElem?_set_self (by simpa using hlt), List.getElem?_map, hb]
        rfl
      · rw [List.getElem?_set_ne e]
    dsimp only
    rw [this]
    exact h.1
  · rcases mem_setP hc with hc | rfl
    · exact h.2 c hc
    · exact h.2 b hm
theorem mergeBy_labs {α : Type} {mg : α → α → Option α} : ∀ (ds acc l : List (Br α)), labs acc → labs ds → mergeBy mg acc ds = some l → labs l
  | [], acc, l, ha, _, h => by
    rw [mergeBy] at h
    injection h with h
    subst h
    exact ha
  | d :: ds, acc, l, ha, hd, h => by
    have hd0 : wordB d.l = true ∧ sortB d.s = true := hd.2 d List.mem_cons_self
    have hds : labs ds := ⟨(List.nodup_cons.1 hd.1).2, fun b hb => hd.2 b (List.mem_cons_of_mem _ hb)⟩
    rw [mergeBy] at h
    split at h
    · rename_i hf
      exact mergeBy_labs ds _ l (labs_snoc ha hd0 (find_no hf)) hds h
    · split at h
      · cases h
      · rename_i b hb
        split at h
        · cases h
        · split at h
          · exact mergeBy_labs ds _ l (labs_set _ ha hb) hds h
          · cases h
section
variable {B : Tk → Prop}
theorem merge_g (hB : ∀ a b, B ⟨6, b, a⟩ → B ⟨6, noT, a⟩) : ∀ (n : Nat) (sk : Sk) (u v z : Pn n), gP B n sk u → gP B n sk v → mergeN n u v = some z → gP B n sk z := by
  intro n
  induction n with
  | zero =>
    intro sk u v z hu _ h
    rw [mergeN] at h
    split at h
    · injection h with h
      subst h
      exact hu
    · cases h
  | succ n ih =>
    intro sk u v z hu hv h
    rw [mergeN] at h
    split at h
    · injection h with h
      subst h
      exact hu
    · split at h
      · rename_i a cs b ds hx hy
        split at h
        · split at h
          · rename_i l hl
            split at h
            · rename_i h4
              injection h with h
              subst h
              obtain ⟨xb, rfl⟩ := hear_some hx
              obtain ⟨yb, rfl⟩ := hear_some hy
              obtain ⟨u1, u2, u3, u4, u5⟩ := hu
              obtain ⟨v1, v2, v3, v4, v5⟩ := hv
              exact ⟨hB _ _ u1, Nat.le_trans u2 (mergeBy_len ds cs l hl), h4, mergeBy_labs ds cs l u4 v4 hl, mergeBy_all (Q := gP B n (none :: sk)) (fun x y z hx hy hz => ih _ x y z hx hy hz) ds cs l u5 v5 hl⟩
            · cases h
          · cases h
        · cases h
      · cases h
theorem merge_gH (hB : ∀ a b, B ⟨6, b, a⟩ → B ⟨6, noT, a⟩) (n : Nat) (sk : Sk) (u v z : Pn n) (hu : gH B n sk u) (hv : gH B n sk v) (h : mergeN n u v = some z) : gH B n sk z := by
  cases n with
  | zero =>
    rw [mergeN] at h
    split at h
    · injection h with h
      subst h
      exact hu
    · cases h
  | succ n =>
    rw [mergeN] at h
    split at h
    · injection h with h
      subst h
      exact hu
    · split at h
      · rename_i a cs b ds hx hy
        split at h
        · split at h
          · rename_i l hl
            split at h
            · rename_i h4
              injection h with h
              subst h
              obtain ⟨xb, rfl⟩ := hear_some hx
              obtain ⟨yb, rfl⟩ := hear_some hy
              obtain ⟨u1, u2, u3, u4, u5⟩ := hu
              obtain ⟨v1, v2, v3, v4, v5⟩ := hv
              exact ⟨hB _ _ u1, Nat.le_trans u2 (mergeBy_len ds cs l hl), h4, mergeBy_labs ds cs l u4 v4 hl, mergeBy_all (Q := gP B n (none :: sk)) (fun x y z hx hy hz => merge_g hB n _ x y z hx hy hz) ds cs l u5 v5 hl⟩
            · cases h
          · cases h
        · cases h
      · cases h
theorem up_g : ∀ (n : Nat) (sk : Sk) (q : Pn n), gP B n sk q → gP B (n + 1) sk (upN n q) := by
  intro n
  induction n with
  | zero => intro sk q h; exact h
  | succ n ih =>
    intro sk q
    refine Pn.cases (P := fun q => gP B (n + 1) sk q → gP B (n + 1 + 1) sk (upN (n + 1) q)) (fun x h => h) (fun x q h => ?_) (fun t l h => ?_) q
    · exact ⟨h.1, h.2.1, ih _ q h.2.2⟩
    · obtain ⟨h1, h2, h3, h4, h5⟩ := h
      refine ⟨h1, by rw [List.length_map]; exact h2, by rw [List.length_map]; exact h3, ⟨by rw [List.map_map]; exact h4.1, fun b hb => ?_⟩, fun b hb => ?_⟩
      · obtain ⟨c, hc, rfl⟩ := List.mem_map.1 hb
        exact h4.2 c hc
      · obtain ⟨c, hc, rfl⟩ := List.mem_map.1 hb
        exact ih _ c.p (h5 c hc)
theorem up_gH : ∀ (n : Nat) (sk : Sk) (q : Pn n), gH B n sk q → gH B (n + 1) sk (upN n q) := by
  intro n
  induction n with
  | zero => intro sk q h; exact h
  | succ n ih =>
    intro sk q
    refine Pn.cases (P := fun q => gH B (n + 1) sk q → gH B (n + 1 + 1) sk (upN (n + 1) q)) (fun x h => h) (fun x q h => ?_) (fun t l h => ?_) q
    · exact ⟨h.1, h.2.1, ih _ q h.2.2⟩
    · obtain ⟨h1, h2, h3, h4, h5⟩ := h
      refine ⟨h1, by rw [List.length_map]; exact h2, by rw [List.length_map]; exact h3, ⟨by rw [List.map_map]; exact h4.1, fun b hb => ?_⟩, fun b hb => ?_⟩
      · obtain ⟨c, hc, rfl⟩ := List.mem_map.1 hb
        exact h4.2 c hc
      · obtain ⟨c, hc, rfl⟩ := List.mem_map.1 hb
        exact up_g _ _ c.p (h5 c hc)
theorem bB_true : ∀ (sk : Sk) (x : ByteArray), bB true sk x = wB sk x
  | [], _ => rfl
  | some y :: sk, x => by
    rw [bB, bB_true sk x]
    show _ = ((y.toList == x.toList) || wB sk x)
    cases (y.toList == x.toList) <;> rfl
  | none :: sk, x => by
    rw [bB, bB_true sk x]
    show _ = (false || wB sk x)
    rfl
theorem bB_w : ∀ (sk : Sk) (x : ByteArray), bB false sk x = true → wB sk x = true
  | some y :: sk, x, h => by
    rw [bB] at h
    split at h
    · cases h
    · show ((y.toList == x.toList) || wB sk x) = true
      rw [bB_w sk x h, Bool.or_true]
  | none :: sk, x, h => by
    rw [bB, bB_true] at h
    show (false || wB sk x) = true
    rw [h]; rfl
theorem gH_to : ∀ (n : Nat) (sk : Sk) (q : Pn n), gH B n sk q → (∀ x, hvL (rowN n q) = some x → x ∉ spL (rowN n q) ∧ bB false sk x = true) → gP B n sk q := by
  have leaf : ∀ (y : Option ByteArray) (sk : Sk), (∀ x, hvL (leafRow y) = some x → x ∉ spL (leafRow y) ∧ bB false sk x = true) → leafG sk y := by
    intro y sk h
    cases y with
    | none => trivial
    | some y => exact (h y rfl).2
  intro n
  induction n with
  | zero => intro sk q _ h; exact leaf q sk h
  | succ n ih =>
    intro sk q
    refine Pn.cases (P := fun q => gH B (n + 1) sk q → (∀ x, hvL (rowN (n + 1) q) = some x → x ∉ spL (rowN (n + 1) q) ∧ bB false sk x = true) → gP B (n + 1) sk q) (fun y _ h => leaf y sk h) (fun y q h hx => ?_) (fun t l h _ => h) q
    refine ⟨h.1, h.2.1, ih _ q h.2.2 (fun x hv => ?_)⟩
    have h1 := hx x (by rw [row_loop]; simpa [hvL] using hv)
    rw [row_loop] at h1
    simp only [spL, show ((2 : Int) == 2) = true from rfl, if_true, List.mem_cons, not_or] at h1
    refine ⟨h1.1.2, ?_⟩
    rw [bB, if_neg (fun e => h1.1.1 (tl_inj (beq_iff_eq.1 e)).symm)]
    exact h1.2
theorem gH_bound (hop : ∀ t, B t → t.op ≠ 1 ∧ t.op ≠ 2) : ∀ (n : Nat) (sk : Sk) (q : Pn n) (x : ByteArray), gH B n sk q → hvL (rowN n q) = some x → x ∉ spL (rowN n q) → wB sk x = true := by
  have leaf : ∀ (y : Option ByteArray) (sk : Sk) (x : ByteArray), leafH sk y → hvL (leafRow y) = some x → wB sk x = true := by
    intro y sk x h hx
    cases y with
    | none => cases hx
    | some y =>
      injection hx with hx
      dsimp only at hx
      subst hx
      exact h
  intro n
  induction n with
  | zero => intro sk q x h hx _; exact leaf q sk x h hx
  | succ n ih =>
    intro sk q x
    refine Pn.cases (P := fun q => gH B (n + 1) sk q → hvL (rowN (n + 1) q) = some x → x ∉ spL (rowN (n + 1) q) → wB sk x = true) (fun y h hx _ => leaf y sk x h hx) (fun y q h hx hs => ?_) (fun t l h hx _ => ?_) q
    · rw [row_loop] at hx hs
      simp only [spL, show ((2 : Int) == 2) = true from rfl, if_true, List.mem_cons, not_or] at hs
      have := ih _ q x h.2.2 (by simpa [hvL] using hx) hs.2
      have h2 : ((y.toList == x.toList) || wB sk x) = true := this
      rw [Bool.or_eq_true] at h2
      rcases h2 with h2 | h2
      · exact absurd (tl_inj (beq_iff_eq.1 h2)).symm hs.1
      · exact h2
    · obtain ⟨h1, h2⟩ := hop t h.1
      rw [row_talk] at hx
      simp [hvL, h1, h2] at hx
theorem all_gH (hB : ∀ a b, B ⟨6, b, a⟩ → B ⟨6, noT, a⟩) (n : Nat) (sk : Sk) : ∀ (r : List (Br (Pn n))) (u z : Pn n), gH B n sk u → (∀ b ∈ r, gH B n sk b.p) → mergeAll (mergeN n) u r = some z → gH B n sk z := fun r u z hu hr h => mergeAll_all (Q := gH B n sk) (fun x y z hx hy hz => merge_gH hB n sk x y z hx hy hz) r u z hu hr h
theorem bytes_of {a b : ByteArray} (h : a.toList = b.toList) : a = b := by
  rw [Go.ByteArray.toList_eq, Go.ByteArray.toList_eq] at h
  cases a; cases b; simpa using h
theorem part_gH {A : Tk → Prop} (role : ByteArray) (hA : ∀ t, A t → (t.a = role → B ⟨5, noT, t.b⟩) ∧ (t.b = role → B ⟨6, noT, t.a⟩)) (hB : ∀ a b, B ⟨6, b, a⟩ → B ⟨6, noT, a⟩) (hop : ∀ t, B t → t.op ≠ 1 ∧ t.op ≠ 2) :
    ∀ (n : Nat) (sk sk' : Sk) (p q : Pn n), (∀ x, wB sk' x = wB sk x) → gP A n sk p → planN n p → partN role n p = some q → gH B n sk' q := by
  have leaf : ∀ (y : Option ByteArray) (sk sk' : Sk), (∀ x, wB sk' x = wB sk x) → leafG sk y → leafH sk' y := by
    intro y sk sk' hw h
    cases y with
    | none => trivial
    | some y => exact (hw y).trans (bB_w sk y h)
  intro n
  induction n with
  | zero =>
    intro sk sk' p q hw hg _ h
    injection h with h
    subst h
    exact leaf p sk sk' hw hg
  | succ n ih =>
    intro sk sk' p
    refine Pn.cases (P := fun p => ∀ q : Pn (n + 1), (∀ x, wB sk' x = wB sk x) → gP A (n + 1) sk p → planN (n + 1) p → partN role (n + 1) p = some q → gH B (n + 1) sk' q) (fun y => ?_) (fun y p' => ?_) (fun t l => ?_) p
    · intro q hw hg _ h
      have h' : some (Pn.leaf y) = some q := h
      injection h' with h'
      subst h'
      exact leaf y sk sk' hw hg
    · intro q hw hg hp h
      have h' : (if idleL role (rowN (n + 1) (.loop y p')) then some (.leaf none) else (partN role n p').map (Pn.loop y)) = some q := h
      split at h'
      · injection h' with h'
        subst h'
        exact trivial
      · cases hq : partN role n p' with
        | none => rw [hq] at h'; cases h'
        | some q' =>
          rw [hq] at h'
          injection h' with h'
          subst h'
          refine ⟨hg.1, (hw y).trans hg.2.1, ih (some y :: sk) (some y :: sk') p' q' (fun x => ?_) hg.2.2 hp hq⟩
          show ((y.toList == x.toList) || wB sk' x) = ((y.toList == x.toList) || wB sk x)
          rw [hw]
    · intro q hw hg hp h
      obtain ⟨hop3, -, -, -, hbs⟩ := hp
      obtain ⟨g1, g2, g3, g4, g5⟩ := hg
      have h' : (match partsBy (partN role n) l with
        | none => none
        | some r => if role.toList == t.a.toList then some (.talk ⟨5, noT, t.b⟩ r) else if role.toList == t.b.toList then some (.talk ⟨6, noT, t.a⟩ r) else
          match r with
          | [] => none
          | c :: r => (mergeAll (mergeN n) c.p r).map (upN n)) = some q := h
      split at h'
      · cases h'
      · rename_i r hr
        obtain ⟨e1, e2, -⟩ := parts_like l r hr
        have el : r.length = l.length := by have := congrArg List.length e1; simpa using this
        have hlab : labs r := ⟨by rw [e1]; exact g4.1, fun c hc => by
          obtain ⟨b, hb, -, e3, e4⟩ := e2 c hc
          rw [e3, e4]
          exact g4.2 b hb⟩
        have inn : ∀ c ∈ r, gP B n (none :: sk') c.p := fun c hc => by
          obtain ⟨b, hb, e, -, -⟩ := e2 c hc
          have hH := ih (none :: sk) (none :: sk') b.p c.p (fun x => by show (false || wB sk' x) = (false || wB sk x); rw [hw]) (g5 b hb) (hbs b hb) e
          refine gH_to n _ c.p hH (fun x hx => ?_)
          have hs := (part_hv role n b.p c.p x (hbs b hb) e hx).2.2
          refine ⟨hs, ?_⟩
          rw [bB, bB_true]
          have := gH_bound hop n _ c.p x hH hx hs
          exact this
        split at h'
        · rename_i hra
          injection h' with h'
          subst h'
          exact ⟨(hA t g1).1 (bytes_of (eq_of_beq hra)).symm, by omega, by omega, hlab, inn⟩
        · split at h'
          · rename_i hrb
            injection h' with h'
            subst h'
            exact ⟨(hA t g1).2 (bytes_of (eq_of_beq hrb)).symm, by omega, by omega, hlab, inn⟩
          · cases r with
            | nil => cases h'
            | cons c r =>
              dsimp only at h'
              cases hz : mergeAll (mergeN n) c.p r with
              | none => rw [hz] at h'; cases h'
              | some z =>
                rw [hz] at h'
                injection h' with h'
                subst h'
                have out : ∀ d ∈ c :: r, gH B n sk' d.p := fun d hd => by
                  obtain ⟨b, hb, e, -, -⟩ := e2 d hd
                  exact ih (none :: sk) sk' b.p d.p (fun x => (hw x).trans (by show _ = (false || wB sk x); rfl)) (g5 b hb) (hbs b hb) e
                exact up_gH n sk' z (all_gH hB n sk' r c.p z (out c List.mem_cons_self) (fun d hd => out d (List.mem_cons_of_mem _ hd)) hz)
theorem part_g {A : Tk → Prop} (role : ByteArray) (hA : ∀ t, A t → (t.a = role → B ⟨5, noT, t.b⟩) ∧ (t.b = role → B ⟨6, noT, t.a⟩)) (hB : ∀ a b, B ⟨6, b, a⟩ → B ⟨6, noT, a⟩) (hop : ∀ t, B t → t.op ≠ 1 ∧ t.op ≠ 2) (n : Nat) (p q : Pn n) (hg : gP A n [] p) (hp : planN n p) (h : partN role n p = some q) : gP B n [] q := by
  have hH := part_gH role hA hB hop n [] [] p q (fun _ => rfl) hg hp h
  refine gH_to n [] q hH (fun x hx => ?_)
  have hs := (part_hv role n p q x hp h hx).2.2
  have := gH_bound hop n [] q x hH hx hs
  cases this
end
end Go.Proofs.YtmjlblbhakppfaaGreatDoor
namespace Go.Proofs.YtmjlblbhakppfaaGreatDoor
open Go.RowKit

theorem add_has {ts : List ByteArray} : ∀ {acc : List ByteArray} {t : ByteArray}, t ∈ acc ∨ t ∈ ts → t ∈ ts.foldl addI acc := by
  induction ts with
  | nil =>
    intro acc t h
    rcases h with h | h
    · exact h
    · cases h
  | cons s ts ih =>
    intro acc t h
    rw [List.foldl_cons]
    apply ih
    rw [addI]
    rcases h with h | h
    · left
      split
      · exact h
      · exact List.mem_append_left _ h
    · rcases List.mem_cons.1 h with rfl | h
      · left
        split
        · rename_i hh; exact has_iff.1 hh
        · simp
      · exact .inr h
theorem put_has {ts : List ByteArray} : ∀ {acc : List ByteArray} {t : ByteArray}, t ∈ ts.foldl putS acc → t ∈ acc ∨ t ∈ ts := by
  induction ts with
  | nil => intro acc t h; exact .inl h
  | cons s ts ih =>
    intro acc t h
    rw [List.foldl_cons] at h
    rcases ih h with h | h
    · rcases put_mem h with h | h
      · exact .inl h
      · exact .inr (by rw [h]; exact List.mem_cons_self)
    · exact .inr (List.mem_cons_of_mem _ h)
theorem roles_has {part : Bool} {ns : List Nd} (h : ∀ n ∈ ns, nodeB (talkS part) n = true) {n : Nd} (hn : n ∈ ns) {t : ByteArray} (ht : t ∈ talkers n) : t ∈ rolesS ns := by
  refine ((roles_perm h).2.mem_iff).1 ?_
  rw [rolesI_eq]
  exact add_has (.inr (List.mem_flatMap.2 ⟨n, hn, ht⟩))
theorem sorted_le : ∀ {l R : List ByteArray}, SortedT l → (∀ x ∈ l, x ∈ R) → l.length ≤ R.length
  | [], _, _, _ => Nat.zero_le _
  | a :: l, R, hs, hm => by
    have ha := hm a List.mem_cons_self
    have hp := List.pairwise_cons.1 hs
    obtain ⟨s, u, rfl⟩ := List.append_of_mem ha
    have h1 : l.length ≤ (s ++ u).length := sorted_le hp.2 (fun x hx => by
      have hne : x ≠ a := fun e => by
        have := hp.1 x hx
        rw [e] at this
        exact less_irr _ this
      rcases List.mem_append.1 (hm x (List.mem_cons_of_mem _ hx)) with h | h
      · exact List.mem_append_left _ h
      · rcases List.mem_cons.1 h with h | h
        · exact absurd h hne
        · exact List.mem_append_right _ h)
    simp only [List.length_append, List.length_cons] at h1 ⊢
    omega
theorem gP_and {A : Tk → Prop} {R : List ByteArray} : ∀ (n : Nat) (sk : Sk) (p : Pn n), gP A n sk p → planN n p → (∀ nd ∈ rowN n p, nd.op = 3 → nd.name ∈ R ∧ nd.peer ∈ R) → gP (fun t => A t ∧ t.a ∈ R ∧ t.b ∈ R) n sk p := by
  intro n
  induction n with
  | zero => intro sk p h _ _; exact h
  | succ n ih =>
    intro sk p
    refine Pn.cases (P := fun p => gP A (n + 1) sk p → planN (n + 1) p → (∀ nd ∈ rowN (n + 1) p, nd.op = 3 → nd.name ∈ R ∧ nd.peer ∈ R) → gP (fun t => A t ∧ t.a ∈ R ∧ t.b ∈ R) (n + 1) sk p) (fun x h _ _ => h) (fun x q h hp hR => ?_) (fun t l h hp hR => ?_) p
    · exact ⟨h.1, h.2.1, ih _ q h.2.2 hp (fun nd hn => hR nd (by rw [row_loop]; exact List.mem_cons_of_mem _ hn))⟩
    · obtain ⟨h1, h2, h3, h4, h5⟩ := h
      rw [row_talk] at hR
      refine ⟨⟨h1, hR _ List.mem_cons_self hp.1⟩, h2, h3, h4, fun b hb => ih _ b.p (h5 b hb) (hp.2.2.2.2 b hb) (fun nd hn => hR nd (List.mem_cons_of_mem _ ?_))⟩
      unfold brsBy
      exact List.mem_flatMap.2 ⟨b, hb, List.mem_cons_of_mem _ hn⟩
theorem gP_peers {R : List ByteArray} : ∀ (n : Nat) (sk : Sk) (q : Pn n), gP (fun t => tkPart t ∧ t.b ∈ R) n sk q → ∀ nd ∈ rowN n q, ∀ t ∈ talkers nd, t ∈ R := by
  have leaf : ∀ (x : Option ByteArray), ∀ nd ∈ leafRow x, ∀ t ∈ talkers nd, t ∈ R := by
    intro x nd hn t ht
    cases x with
    | none => simp [leafRow] at hn; subst hn; simp [talkers] at ht
    | some x => simp [leafRow] at hn; subst hn; simp [talkers] at ht
  intro n
  induction n with
  | zero => intro sk q _; exact leaf q
  | succ n ih =>
    intro sk q
    refine Pn.cases (P := fun q => gP (fun t => tkPart t ∧ t.b ∈ R) (n + 1) sk q → ∀ nd ∈ rowN (n + 1) q, ∀ t ∈ talkers nd, t ∈ R) (fun x _ => leaf x) (fun x q h nd hn t ht => ?_) (fun t l h nd hn u hu => ?_) q
    · rw [row_loop] at hn
      rcases List.mem_cons.1 hn with rfl | hn
      · simp [talkers] at ht
      · exact ih _ q h.2.2 nd hn t ht
    · obtain ⟨⟨⟨h0, -, -⟩, h1⟩, -, -, -, h5⟩ := h
      rw [row_talk] at hn
      rcases List.mem_cons.1 hn with rfl | hn
      · rcases h0 with h0 | h0
        · simp [talkers, h0] at hu; rw [hu]; exact h1
        · simp [talkers, h0] at hu; rw [hu]; exact h1
      · unfold brsBy at hn
        obtain ⟨b, hb, hn⟩ := List.mem_flatMap.1 hn
        rcases List.mem_cons.1 hn with rfl | hn
        · simp [talkers] at hu
        · exact ih _ b.p (h5 b hb) nd hn u hu
theorem gP_mono {A A' : Tk → Prop} (hA : ∀ t, A t → A' t) : ∀ (n : Nat) (sk : Sk) (p : Pn n), gP A n sk p → gP A' n sk p := by
  intro n
  induction n with
  | zero => intro sk p h; exact h
  | succ n ih =>
    intro sk p
    refine Pn.cases (P := fun p => gP A (n + 1) sk p → gP A' (n + 1) sk p) (fun x h => h) (fun x q h => ⟨h.1, h.2.1, ih _ q h.2.2⟩) (fun t l h => ?_) p
    obtain ⟨h1, h2, h3, h4, h5⟩ := h
    exact ⟨hA t h1, h2, h3, h4, fun b hb => ih _ b.p (h5 b hb)⟩
theorem part_is {ns : List Nd} {p z : Pn 10} {role : ByteArray} (hr : rightB false ns = true) (hp : ns = rowN 10 p) (hpl : planN 10 p) (h : partN role 10 p = some z) : rightB true (rowN 10 z) = true ∧ ∀ nd ∈ rowN 10 z, ∀ t ∈ talkers nd, t ∈ rolesS ns := by
  have hr' := hr
  simp only [rightB, Bool.and_eq_true, decide_eq_true_eq] at hr'
  obtain ⟨h40, hah, hro⟩ := hr'
  have hnd := right_nodes hr
  cases ha : ahead (talkS false) 10 [] ns with
  | none => rw [ha] at hah; cases hah
  | some r =>
    rw [ha] at hah
    have hr0 : r = [] := by simpa using hah
    subst hr0
    have ha' : ahead (talkS false) 10 [] (rowN 10 p ++ []) = some [] := by rw [List.append_nil, ← hp]; exact ha
    have hg := (g_of_ahead 10 p [] [] [] hpl ha').1
    have hg2 := gP_and (R := rolesS ns) 10 [] p hg hpl (fun nd hn h3 => by
      rw [← hp] at hn
      exact ⟨roles_has hnd hn (by simp [talkers, h3]), roles_has hnd hn (by simp [talkers, h3])⟩)
    have hz := part_g (A := fun t => tkPlan t ∧ t.a ∈ rolesS ns ∧ t.b ∈ rolesS ns) (B := fun t => tkPart t ∧ t.b ∈ rolesS ns) role (fun t ht => ⟨fun _ => ⟨⟨.inl rfl, rfl, ht.1.2.2.1⟩, ht.2.2⟩, fun _ => ⟨⟨.inr rfl, rfl, ht.1.2.1⟩, ht.2.1⟩⟩) (fun a b hb => ⟨⟨.inr rfl, rfl, hb.1.2.2⟩, hb.2⟩) (fun t ht => by rcases ht.1.1 with e | e <;> omega) 10 p z hg2 hpl h
    have hpe := gP_peers 10 [] z hz
    have hz2 := ahead_of_g 10 z [] [] (gP_mono (fun t ht => ht.1) 10 [] z hz)
    rw [List.append_nil] at hz2
    have hlen : (rowN 10 z).length ≤ 40 := by
      have := (part_sz role 10 p z hpl h).1
      rw [← hp] at this
      omega
    have hnz : ∀ n ∈ rowN 10 z, nodeB (talkS true) n = true := ahead_all (f := 10) (by rw [hz2]; rfl)
    have hle : (rolesS (rowN 10 z)).length ≤ 4 := by
      refine Nat.le_trans (sorted_le (R := rolesS ns) (roles_perm hnz).1 (fun x hx => ?_)) hro
      rw [rolesS_eq hnz] at hx
      rcases put_has hx with hx | hx
      · cases hx
      · obtain ⟨nd, hn, ht⟩ := List.mem_flatMap.1 hx
        exact hpe nd hn x ht
    refine ⟨?_, hpe⟩
    simp only [rightB, Bool.and_eq_true, decide_eq_true_eq]
    exact ⟨hlen, by rw [hz2]; rfl, hle⟩
end Go.Proofs.YtmjlblbhakppfaaGreatDoor
