/- SmallerOf of the program. -/
import Derived.Test.YtehodjfgojcnlaaSmJ
namespace Go.Proofs.Ytehodjfgojcnlaa
open Go.RowKit
attribute [local go_sem ↓] Go.wp_at_zero Go.wp_at_succ

theorem run_store_fn {P : Program} {w : World} {a : Addr} {m : Mode} (f : Fn) : (store a (.func f #[] #[]) m).run P w = stored P w a (.func f #[] #[]) m := run_store P w a _ m rfl
attribute [local go_sem] run_store_fn
def passV : Array Value := #[.int .i64 (-1), .func (.func 23) #[] #[], .int .i64 0, .func (.func 24) #[] #[], .int .i64 1, .func (.func 25) #[] #[], .int .i64 2, .func (.func 26) #[] #[]]
set_option maxRecDepth 100000 in
theorem i_passes (w : World) : Calls Try.prog 17 #[] w fun e w' => e = .returned (.agg passV) ∧ Below w.heap.size w w' := by
  go_enter Try.func17, Try.ntmps17
  go_wp2_with fail
  refine bodyPost_ret (v := .agg passV) (by simp [results, Try.results17, go_sem]; rfl) rfl ?_
  exact ⟨rfl, malloc1 w _⟩
/-- rows of numbers of a call's own, no two of which share memory -/
structure RRO (w : World) (base : Nat) (v : Value) (us : List Value) (ls : List (List Int)) : Prop where
  own : w.ownsRow base 23 1 v us.length us
  len : us.length = ls.length
  rows : ∀ (j : Nat) (u : Value) (l : List Int), us[j]? = some u → ls[j]? = some l → NumOwn w base u l
  off : ∀ (j : Nat) (u : Value), us[j]? = some u → ∀ b ∈ vblocks u, b ∉ vblocks v
  two : ∀ (i j : Nat) (u u' : Value), us[i]? = some u → us[j]? = some u' → i ≠ j → ∀ b ∈ vblocks u, b ∉ vblocks u'
theorem rro_nil (w : World) (base : Nat) : RRO w base (.slice none 0 0) [] [] := ⟨owns_nil _ _ _ _, rfl, (fun j u l h => by simp at h), (fun j u h => by simp at h), (fun i j u u' h => by simp at h)⟩
theorem RRO.row {w : World} {base : Nat} {v : Value} {us : List Value} {ls : List (List Int)} (h : RRO w base v us ls) {j : Nat} {u : Value} (hu : us[j]? = some u) : ∃ l, ls[j]? = some l ∧ NumOwn w base u l := by
  have hj : j < ls.length := by rw [← h.len]; exact (List.getElem?_eq_some_iff.1 hu).1
  exact ⟨ls[j], List.getElem?_eq_getElem hj, h.rows j u _ hu (List.getElem?_eq_getElem hj)⟩
theorem RRO.apart {w w' : World} {base : Nat} {v : Value} {us : List Value} {ls : List (List Int)} {bs : List Nat} (h : RRO w base v us ls) (hA : Apart w w' bs) (hv : ∀ b ∈ vblocks v, b ∉ bs) (hus : ∀ (j : Nat) (u : Value), us[j]? = some u → ∀ b ∈ vblocks u, b ∉ bs) : RRO w' base v us ls :=
  ⟨owns_keep h.own hA hv, h.len, fun j u l hu hl => owns_keep (h.rows j u l hu hl) hA (hus j u hu), h.off, h.two⟩
theorem RRO.keep {w w' : World} {base : Nat} {v : Value} {us : List Value} {ls : List (List Int)} (h : RRO w base v us ls) (hb : Below w.heap.size w w') : RRO w' base v us ls := h.apart (below_apart hb) (by simp) (by simp)
theorem RRO.down {w : World} {base base' : Nat} {v : Value} {us : List Value} {ls : List (List Int)} (h : RRO w base v us ls) (hb : base' ≤ base) : RRO w base' v us ls := ⟨owns_down h.own hb, h.len, fun j u l hu hl => owns_down (h.rows j u l hu hl) hb, h.off, h.two⟩
theorem rro_push {w w2 : World} {base : Nat} {v v' : Value} {us : List Value} {ls : List (List Int)} (h : RRO w base v us ls) {u : Value} {l : List Int} (hu : NumOwn w base u l) (hnew : ∀ b ∈ vblocks u, b ∉ vblocks v ∧ ∀ (j : Nat) (u' : Value), us[j]? = some u' → b ∉ vblocks u') (o : Obj) (hown : w2.ownsRow base 23 1 v' (us.length + 1) (us ++ [u])) (hg : (w.alloc o).grownBy w2 v.ownBlock) (hat : v'.ownBlock = v.ownBlock ∨ v'.ownBlock = some (w.alloc o).heap.size) : RRO w2 base v' (us ++ [u]) (ls ++ [l]) ∧ Apart w w2 (vblocks v) := by
  obtain ⟨p, c, hv⟩ := owns_shape h.own
  obtain ⟨p', c', hv'⟩ := owns_shape hown
  have hA : Apart w w2 (vblocks v) := by
    rw [hv] at hg ⊢
    have := (below_apart (malloc1 w o)).trans (grownBy_apart hg)
    rwa [List.nil_append] at this
  have sub : ∀ {b : Nat}, b < w.heap.size → b ∉ vblocks v → b ∉ vblocks v' := fun {b} hlt hn hm => by
    have hm' := (own_blocks hv').2 hm
    rcases hat with e | e
    · rw [e] at hm'
      exact hn ((own_blocks hv).1 hm')
    · rw [e] at hm'
      simp at hm'
      omega
  have cas : ∀ {j : Nat} {x : Value}, (us ++ [u])[j]? = some x → us[j]? = some x ∨ (j = us.length ∧ x = u) := fun {j x} hx => by
    rcases Nat.lt_trichotomy j us.length with hj | hj | hj
    · rw [List.getElem?_append_left hj] at hx
      exact .inl hx
    · subst hj
      rw [List.getElem?_append_right (Nat.le_refl _), Nat.sub_self] at hx
      simp at hx
      exact .inr ⟨rfl, hx.symm⟩
    · rw [List.getElem?_eq_none (by simp; omega)] at hx
      cases hx
  have hi : ∀ {j : Nat} {x : Value}, us[j]? = some x → ∀ b ∈ vblocks x, b < w.heap.size := fun {j x} hx b hb => by
    obtain ⟨l', _, hr⟩ := h.row hx
    exact (owns_fresh hr).hi b hb
  refine ⟨⟨?_, by rw [List.length_append, List.length_append, h.len]; rfl, fun j x y hx hy => ?_, fun j x hx b hb => ?_, fun i j x x' hx hx' hij b hb => ?_⟩, hA⟩
  · rw [List.length_append]; exact hown
  · rcases cas hx with hx | ⟨rfl, rfl⟩
    · have hj : j < ls.length := by rw [← h.len]; exact (List.getElem?_eq_some_iff.1 hx).1
      rw [List.getElem?_append_left hj] at hy
      exact owns_keep (h.rows j x y hx hy) hA (h.off j x hx)
    · rw [h.len, List.getElem?_append_right (Nat.le_refl _), Nat.sub_self] at hy
      simp at hy
      subst hy
      exact owns_keep hu hA (fun b hb => (hnew b hb).1)
  · rcases cas hx with hx | ⟨rfl, rfl⟩
    · exact sub (hi hx b hb) (h.off j x hx b hb)
    · exact sub ((owns_fresh hu).hi b hb) (hnew b hb).1
  · rcases cas hx with hy | ⟨hy1, hy2⟩
    · rcases cas hx' with hz | ⟨hz1, hz2⟩
      · exact h.two i j x x' hy hz hij b hb
      · rw [hz2]
        exact fun hm => (hnew b hm).2 i x hy hb
    · rcases cas hx' with hz | ⟨hz1, hz2⟩
      · rw [hy2] at hb
        exact (hnew b hb).2 j x' hz
      · exact absurd (hy1.trans hz1.symm) hij
def passF : Nat → Nat
  | 0 => 23
  | 1 => 24
  | 2 => 25
  | _ => 26
def insP : Nat → Int → List Int
  | 0, _ => []
  | 1, _ => [0]
  | 2, x => [x / 2]
  | _, x => [x - 1]
theorem four_of {n : Nat} (h : n < 4) : n = 0 ∨ n = 1 ∨ n = 2 ∨ n = 3 := by omega
theorem pick_if {n : Nat} (h : n < 4) (x : Int) : pickP n x = if (n : Int) - 1 < x then some (insP n x) else none := by
  rcases four_of h with rfl | rfl | rfl | rfl
  · rfl
  · rfl
  · rfl
  · rfl
theorem ins_len (n : Nat) (x : Int) : (insP n x).length ≤ 1 := by
  match n with
  | 0 => simp [insP]
  | 1 => simp [insP]
  | 2 => simp [insP]
  | n + 3 => simp [insP]
theorem one_if {n : Nat} (h : n < 4) {t : List Int} {k : Nat} {x : Int} (hx : t[k]? = some x) : oneP n t k = if (n : Int) - 1 < x then [turnT t k (insP n x)] else [] := by
  rw [oneP, hx]
  dsimp only
  rw [pick_if h]
  by_cases hc : (n : Int) - 1 < x
  · rw [if_pos hc, if_pos hc]
  · rw [if_neg hc, if_neg hc]
theorem put_any {n : Nat} (h : n < 4) (x : Int) (w : World) (h0 : 0 ≤ x) (h1 : x ≤ 399) : Calls Try.prog (passF n) #[.int .i64 x] w fun e w' => PutAns w w' e (insP n x) := by
  rcases four_of h with rfl | rfl | rfl | rfl
  · exact put1 x w
  · exact put2 x w
  · exact put3 x w h0 h1
  · exact put4 x w h0 h1
theorem pass_call {n : Nat} (h : n < 4) (a : Value) (W : World) : (callFunc (passF n) #[a]).run Try.prog W = .ok (.enter (passF n) #[a]) W := by
  rcases four_of h with rfl | rfl | rfl | rfl
  · kernel_rfl
  · kernel_rfl
  · kernel_rfl
  · kernel_rfl
theorem pass_cells {n : Nat} (h : n < 4) : passV[n * 2]? = some (.int .i64 ((n : Int) - 1)) ∧ passV[n * 2 + 1]? = some (.func (.func (passF n)) #[] #[]) := by
  rcases four_of h with rfl | rfl | rfl | rfl
  · exact ⟨rfl, rfl⟩
  · exact ⟨rfl, rfl⟩
  · exact ⟨rfl, rfl⟩
  · exact ⟨rfl, rfl⟩
theorem tape_num {t : List Int} (h : tapeB t = true) {k : Nat} {x : Int} (hx : t[k]? = some x) : 0 ≤ x ∧ x ≤ 399 := by
  unfold tapeB at h
  simp only [Bool.and_eq_true, decide_eq_true_eq, List.all_eq_true] at h
  have := h.2 x (List.mem_of_getElem? hx)
  unfold numB at this
  simp only [Bool.and_eq_true, decide_eq_true_eq] at this
  exact this
end Go.Proofs.Ytehodjfgojcnlaa
