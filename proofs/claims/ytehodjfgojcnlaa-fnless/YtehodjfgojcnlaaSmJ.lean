/- The program: a tape with other numbers in a place; what the passes put there. -/
import Derived.Test.YtehodjfgojcnlaaSmI
namespace Go.Proofs.Ytehodjfgojcnlaa
open Go.RowKit
attribute [local go_sem ↓] Go.wp_at_zero Go.wp_at_succ

theorem three_flat (a b c : List Int) : [a, b, c].flatten = a ++ (b ++ c) := by simp [List.flatten]
theorem Nums.take {w : World} {b o : Nat} {l : List Int} (h : Nums w b o l) (k : Nat) : Nums w b o (l.take k) := fun j hj => by
  have hj' : j < l.length := by rw [List.length_take] at hj; omega
  rw [List.getElem_take]
  exact h j hj'
theorem Nums.drop {w : World} {b o : Nat} {l : List Int} (h : Nums w b o l) (k : Nat) : Nums w b (o + k) (l.drop k) := fun j hj => by
  have hj' : k + j < l.length := by rw [List.length_drop] at hj; omega
  rw [List.getElem_drop, Nat.add_assoc]
  exact h (k + j) hj'
theorem srcs_new {w W : World} {B : Nat} {u1 u2 u3 : Value} {l1 l2 l3 : List Int} (hW : ∀ a, W.cell? a = (w.alloc (.cells #[u1, u2, u3] 23)).cell? a) (hsz : W.heap.size = w.heap.size + 1) (hB : B ≤ w.heap.size) (h1 : SrcAt w B u1 l1) (h2 : SrcAt w B u2 l2) (h3 : SrcAt w B u3 l3) : SrcsAt W W.heap.size w.heap.size [u1, u2, u3] [l1, l2, l3] := by
  have key : ∀ {u : Value} {l : List Int}, SrcAt w B u l → SrcAt W W.heap.size u l := fun {u l} h => by
    rcases h with h | ⟨b, o, c, e, hlt, hn⟩
    · exact .inl h
    · refine .inr ⟨b, o, c, e, by omega, fun j hj => ?_⟩
      rw [hW, (malloc1 w _).cell (p := ⟨b, o + j, none⟩) (by show b < w.heap.size; omega)]
      exact hn j hj
  refine ⟨rfl, by omega, fun j u hu => ?_, fun j u l hu hl => ?_⟩
  · rw [hW]
    match j, hu with
    | 0, hu => simp at hu; subst hu; simp
    | 1, hu => simp at hu; subst hu; simp
    | 2, hu => simp at hu; subst hu; simp
    | j + 3, hu => simp at hu
  · match j, hu, hl with
    | 0, hu, hl => simp at hu hl; subst hu; subst hl; exact key h1
    | 1, hu, hl => simp at hu hl; subst hu; subst hl; exact key h2
    | 2, hu, hl => simp at hu hl; subst hu; subst hl; exact key h3
    | j + 3, hu, hl => simp at hu
set_option maxRecDepth 100000 in
set_option maxHeartbeats 2000000 in
theorem turned_at (t ins : List Int) (k b o c : Nat) (inv : Value) (w : World) (hk : k < t.length) (ht : t.length ≤ 12) (hc : t.length ≤ c) (hb : b < w.heap.size) (hn : Nums w b o t) (hi : SrcAt w w.heap.size inv ins) (hil : ins.length ≤ 1) :
    Calls Try.prog 18 #[.slice (some ⟨b, o, none⟩) t.length c, .int .i64 k, inv] w fun e w' => ∃ v, e = .returned v ∧ NumOwn w' w.heap.size v (turnT t k ins) ∧ Below w.heap.size w w' := by
  have HT : Hid (turnT t k ins = [t.take k, ins, t.drop (k + 1)].flatten) := hide (three_flat _ _ _).symm
  have HS1 : Hid (SrcAt w w.heap.size (.slice (some ⟨b, o, none⟩) k c) (t.take k)) := hide (.inr ⟨b, o, c, by rw [List.length_take, Nat.min_eq_left (by omega)], hb, hn.take k⟩)
  have HS2 := hide hi
  have HFL : Hid ([t.take k, ins, t.drop (k + 1)].flatten.length ≤ 1000) := hide (by rw [three_flat]; simp; omega)
  have hinv : ∃ p l c, inv = .slice p l c := by obtain ⟨p, c, e⟩ := hi.slice; exact ⟨_, _, _, e⟩
  obtain ⟨ip, il, ic, rfl⟩ := hinv
  have hwr : IntKind.i64.wrap ((k : Int) + 1) = (k : Int) + 1 := by rw [IntKind.wrap_i64]; omega
  have hk0 : 0 ≤ (k : Int) + 1 := by omega
  have hk1 : (k : Int) + 1 ≤ (t.length : Int) := by omega
  have hk2 : (k : Int) ≤ (k : Int) + 1 := by omega
  have hkc : (k : Int) ≤ (c : Int) := by omega
  by_cases hcap : c = k + 1
  · have hL : t.length = k + 1 := by omega
    have HS3 : Hid (SrcAt w w.heap.size (.slice (some ⟨b, o, none⟩) 0 0) (t.drop (k + 1))) := hide (.inr ⟨b, o, 0, by rw [List.length_drop, hL, Nat.sub_self], hb, fun j hj => by rw [List.length_drop] at hj; omega⟩)
    rw [hL] at hk1 ⊢
    subst hcap
    have hk3 : (k : Int) + 1 ≤ ((k + 1 : Nat) : Int) := by omega
    clear hi hn hil hL
    go_enter Try.func18, Try.ntmps18
    go_wp2_with fail
    go_region_law (go_simp; go_at_call 27; refine (concat_nums [.slice (some ⟨b, o, none⟩) k (k + 1), .slice ip il ic, .slice (some ⟨b, o, none⟩) 0 0] [t.take k, ins, t.drop (k + 1)] w.heap.size _ _ (srcs_new (w := w) (B := w.heap.size) (by intro a; rfl) (by simp) (Nat.le_refl _) HS1.out HS2.out HS3.out) (by simp) HFL.out).mono ?_; rintro e w2 ⟨v2, rfl, ho2, hb2⟩; have HO2 := hide ho2; have HB2 : Hid (Below w.heap.size w w2) := hide (Below.trans (by first | exact (malloc1 w _).drew | exact (Below.refl _ _).drew.trans ((malloc1 _ _).mono (by simp))) (hb2.mono (by simp))); obtain ⟨p2, c2, hv2⟩ := owns_shape ho2; obtain ⟨N2, hN2⟩ : ∃ N2, ([t.take k, ins, t.drop (k + 1)] : List (List Int)).flatten.length = N2 := ⟨_, rfl⟩; rw [hN2] at hv2; subst hv2; clear ho2 hb2 hN2)
    all_goals
      go_wp2_with fail
      go_ret
      refine ⟨_, rfl, ?_, HB2.out⟩
      rw [HT.out]
      exact owns_down HO2.out (by simp)
  · have HS3 : Hid (SrcAt w w.heap.size (.slice (some ⟨b, o + (k + 1), none⟩) (t.length - (k + 1)) (c - (k + 1))) (t.drop (k + 1))) := hide (.inr ⟨b, o + (k + 1), c - (k + 1), by rw [List.length_drop], hb, hn.drop (k + 1)⟩)
    obtain ⟨L, hL⟩ : ∃ L, t.length = L := ⟨_, rfl⟩
    rw [hL] at hk hk1 ht hc HS3 ⊢
    clear hi hn hil hL
    go_enter Try.func18, Try.ntmps18
    go_wp2_with fail
    go_region_law (go_simp; go_at_call 27; refine (concat_nums [.slice (some ⟨b, o, none⟩) k c, .slice ip il ic, .slice (some ⟨b, o + (k + 1), none⟩) (L - (k + 1)) (c - (k + 1))] [t.take k, ins, t.drop (k + 1)] w.heap.size _ _ (srcs_new (w := w) (B := w.heap.size) (by intro a; rfl) (by simp) (Nat.le_refl _) HS1.out HS2.out HS3.out) (by simp) HFL.out).mono ?_; rintro e w2 ⟨v2, rfl, ho2, hb2⟩; have HO2 := hide ho2; have HB2 : Hid (Below w.heap.size w w2) := hide (Below.trans (by first | exact (malloc1 w _).drew | exact (Below.refl _ _).drew.trans ((malloc1 _ _).mono (by simp))) (hb2.mono (by simp))); obtain ⟨p2, c2, hv2⟩ := owns_shape ho2; obtain ⟨N2, hN2⟩ : ∃ N2, ([t.take k, ins, t.drop (k + 1)] : List (List Int)).flatten.length = N2 := ⟨_, rfl⟩; rw [hN2] at hv2; subst hv2; clear ho2 hb2 hN2)
    all_goals
      go_wp2_with fail
      go_ret
      refine ⟨_, rfl, ?_, HB2.out⟩
      rw [HT.out]
      exact owns_down HO2.out (by simp)
/-- what a pass puts there -/
def PutAns (w w' : World) (e : Ending) (ins : List Int) : Prop := ∃ u, e = .returned u ∧ SrcAt w' w'.heap.size u ins ∧ Below w.heap.size w w'
theorem src_one (w : World) (x : Int) (b : Nat) (hb : b = w.heap.size) : SrcAt (w.alloc (.cells #[.int .i64 x] 2)) (w.alloc (.cells #[.int .i64 x] 2)).heap.size (.slice (some ⟨b, 0, none⟩) 1 1) [x] := by
  subst hb
  refine .inr ⟨w.heap.size, 0, 1, rfl, by simp, fun j hj => ?_⟩
  have : j = 0 := by simp at hj; omega
  subst this
  simp
theorem put1 (x : Int) (w : World) : Calls Try.prog 23 #[.int .i64 x] w fun e w' => PutAns w w' e [] := by
  go_enter Try.func23, Try.ntmps23
  go_wp2_with fail
  go_ret
  exact ⟨_, rfl, .inl ⟨rfl, rfl⟩, Below.refl _ _⟩
theorem put2 (x : Int) (w : World) : Calls Try.prog 24 #[.int .i64 x] w fun e w' => PutAns w w' e [0] := by
  go_enter Try.func24, Try.ntmps24
  go_wp2_with fail
  go_ret
  exact ⟨_, rfl, src_one w 0 _ rfl, malloc1 w _⟩
theorem put3 (x : Int) (w : World) (h0 : 0 ≤ x) (h1 : x ≤ 399) : Calls Try.prog 25 #[.int .i64 x] w fun e w' => PutAns w w' e [x / 2] := by
  have hq : IntKind.i64.wrap (x.tdiv 2) = x / 2 := IntWalk.i64_quo x 2 (by omega)
  go_enter Try.func25, Try.ntmps25
  go_wp2_with fail
  go_ret
  exact ⟨_, rfl, src_one w (x / 2) _ rfl, malloc1 w _⟩
theorem put4 (x : Int) (w : World) (h0 : 0 ≤ x) (h1 : x ≤ 399) : Calls Try.prog 26 #[.int .i64 x] w fun e w' => PutAns w w' e [x - 1] := by
  go_enter Try.func26, Try.ntmps26
  go_wp2_with fail
  go_ret
  exact ⟨_, rfl, src_one w (x - 1) _ rfl, malloc1 w _⟩
end Go.Proofs.Ytehodjfgojcnlaa
