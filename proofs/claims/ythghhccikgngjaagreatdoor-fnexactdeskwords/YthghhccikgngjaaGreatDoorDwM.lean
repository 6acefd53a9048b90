/- DeskWords of the program and of the specification. -/
import Derived.Test.YthghhccikgngjaaGreatDoorDwT
import Derived.Test.YthghhccikgngjaaGreatDoorNeu
import Derived.Laws.Tables
import Derived.Laws.Rows
import Derived.Great.Walk
import Derived.Great.BuildSlice
namespace Go.Proofs.YthghhccikgngjaaGreatDoor
open Go.RowKit Go.Great
set_option linter.unusedSimpArgs false
set_option linter.unusedVariables false

theorem run_store_fn {P : Program} {w : World} {a : Addr} {m : Mode} (f : Fn) : (store a (.func f #[] #[]) m).run P w = stored P w a (.func f #[] #[]) m := run_store P w a _ m rfl
attribute [local go_sem] run_store_fn
/-- the words with which a line may begin -/
def deskW : List ByteArray := [⟨#[99, 97, 110]⟩, ⟨#[100, 111, 110, 101]⟩, ⟨#[112, 97, 114, 116]⟩, ⟨#[112, 105, 99, 107]⟩, ⟨#[112, 108, 97, 110]⟩, ⟨#[112, 108, 97, 121]⟩, ⟨#[115, 104, 114, 105, 110, 107]⟩, ⟨#[116, 117, 114, 110]⟩]
def ordV : Array Value := #[.string ⟨#[99, 97, 110]⟩, .int .i64 1, .func (.func 63) #[] #[], .string ⟨#[100, 111, 110, 101]⟩, .int .i64 1, .func (.func 64) #[] #[], .string ⟨#[112, 97, 114, 116]⟩, .int .i64 2, .func (.func 65) #[] #[], .string ⟨#[112, 105, 99, 107]⟩, .int .i64 3, .func (.func 66) #[] #[], .string ⟨#[112, 108, 97, 110]⟩, .int .i64 2, .func (.func 67) #[] #[], .string ⟨#[112, 108, 97, 121]⟩, .int .i64 2, .func (.func 68) #[] #[], .string ⟨#[115, 104, 114, 105, 110, 107]⟩, .int .i64 2, .func (.func 69) #[] #[], .string ⟨#[116, 117, 114, 110]⟩, .int .i64 4, .func (.func 70) #[] #[]]
def wordO (k : Nat) : ByteArray := deskW.getD k ByteArray.empty
theorem ord_at (k : Nat) (hk : k < 8) : ∃ c f, ∀ W : World, (Instr.index 79 (.agg ordV) (.int .i64 (k : Int))).run Tryz.prog W = .ok (.agg #[.string (wordO k), .int .i64 c, (.func (.func f) #[] #[])]) W := by
  match k, hk with
  | 0, _ => exact ⟨1, 63, fun W => by kernel_rfl⟩
  | 1, _ => exact ⟨1, 64, fun W => by kernel_rfl⟩
  | 2, _ => exact ⟨2, 65, fun W => by kernel_rfl⟩
  | 3, _ => exact ⟨3, 66, fun W => by kernel_rfl⟩
  | 4, _ => exact ⟨2, 67, fun W => by kernel_rfl⟩
  | 5, _ => exact ⟨2, 68, fun W => by kernel_rfl⟩
  | 6, _ => exact ⟨2, 69, fun W => by kernel_rfl⟩
  | 7, _ => exact ⟨4, 70, fun W => by kernel_rfl⟩
def zeroO : Array Value := #[.string ⟨#[]⟩, .int .i64 0, .nilFunc, .string ⟨#[]⟩, .int .i64 0, .nilFunc, .string ⟨#[]⟩, .int .i64 0, .nilFunc, .string ⟨#[]⟩, .int .i64 0, .nilFunc, .string ⟨#[]⟩, .int .i64 0, .nilFunc, .string ⟨#[]⟩, .int .i64 0, .nilFunc, .string ⟨#[]⟩, .int .i64 0, .nilFunc, .string ⟨#[]⟩, .int .i64 0, .nilFunc]
set_option maxRecDepth 100000 in
theorem i_orders (w : World) : Calls Tryz.prog 36 #[] w fun e w' => e = .returned (.agg ordV) ∧ Below w.heap.size w w' := by
  go_enter Tryz.func36, Tryz.ntmps36
  apply wp_seq_k
  intro K0 hK0
  apply wp_region_lit
  refine wpList_allocTo rfl (some 0) rfl (.pointer (some ⟨w.heap.size, 0, none⟩)) (.cells zeroO 79) (by as_aux_lemma => kernel_rfl) ?_
  apply wpList_nil
  refine hK0 _ _ ?_
  clear hK0 K0
  apply wp_seq_k
  intro K1 hK1
  apply wp_region_lit
  refine wpList_buildTo rfl 74 _ rfl (some 1) rfl #[.string ⟨#[99, 97, 110]⟩, .int .i64 1, .func (.func 63) #[] #[]] (by as_aux_lemma => kernel_rfl) ?_
  refine wpList_buildTo rfl 74 _ rfl (some 2) rfl #[.string ⟨#[100, 111, 110, 101]⟩, .int .i64 1, .func (.func 64) #[] #[]] (by as_aux_lemma => kernel_rfl) ?_
  refine wpList_buildTo rfl 74 _ rfl (some 3) rfl #[.string ⟨#[112, 97, 114, 116]⟩, .int .i64 2, .func (.func 65) #[] #[]] (by as_aux_lemma => kernel_rfl) ?_
  refine wpList_buildTo rfl 74 _ rfl (some 4) rfl #[.string ⟨#[112, 105, 99, 107]⟩, .int .i64 3, .func (.func 66) #[] #[]] (by as_aux_lemma => kernel_rfl) ?_
  refine wpList_buildTo rfl 74 _ rfl (some 5) rfl #[.string ⟨#[112, 108, 97, 110]⟩, .int .i64 2, .func (.func 67) #[] #[]] (by as_aux_lemma => kernel_rfl) ?_
  refine wpList_buildTo rfl 74 _ rfl (some 6) rfl #[.string ⟨#[112, 108, 97, 121]⟩, .int .i64 2, .func (.func 68) #[] #[]] (by as_aux_lemma => kernel_rfl) ?_
  refine wpList_buildTo rfl 74 _ rfl (some 7) rfl #[.string ⟨#[115, 104, 114, 105, 110, 107]⟩, .int .i64 2, .func (.func 69) #[] #[]] (by as_aux_lemma => kernel_rfl) ?_
  refine wpList_buildTo rfl 74 _ rfl (some 8) rfl #[.string ⟨#[116, 117, 114, 110]⟩, .int .i64 4, .func (.func 70) #[] #[]] (by as_aux_lemma => kernel_rfl) ?_
  refine wpList_buildTo rfl 79 _ rfl (some 9) rfl ordV (by as_aux_lemma => kernel_rfl) ?_
  refine wpList_store_rowTo rfl 79 _ _ rfl rfl w.heap.size ordV (by as_aux_lemma => kernel_rfl) (by as_aux_lemma => kernel_rfl) 79 zeroO (mheap_new _ _ _ rfl) (by as_aux_lemma => kernel_rfl) rfl (by as_aux_lemma => kernel_rfl) ?_
  apply wpList_nil
  refine hK1 _ _ ?_
  clear hK1 K1
  refine wp_ret ?_
  refine bodyPost_ret (v := .agg ordV) ?_ (by as_aux_lemma => kernel_rfl) ?_
  · exact results_cell_row (p := 0) (ty := 79) rfl _ _ w.heap.size 79 ordV (0, 0) _ (by as_aux_lemma => kernel_rfl) (setRow_heap _ _ zeroO _ _ _ (mheap_new _ _ _ rfl)) Tryz.underlying79 rfl (by as_aux_lemma => kernel_rfl)
  refine ⟨rfl, rfl, rfl, rfl, ?_, fun k hk => (setRow_other _ _ _ _ (by omega)).trans ((malloc1 w _).block k hk)⟩
  simp [World.setRow]
set_option maxRecDepth 100000 in
theorem s_deskWords (w : World) : Calls Tryz.prog 18 #[] w fun e w' => ∃ v, e = .returned v ∧ w'.ownsRow w.heap.size 9 1 v 8 (deskW.map Value.string) ∧ Below w.heap.size w w' := by
  go_enter Tryz.func18, Tryz.ntmps18
  go_wp2_with fail
  go_ret
  have h := World.ownsRow_lit (e := 9) (size := 1) (base := w.heap.size) w (deskW.map Value.string).toArray 8 (Nat.le_refl _) (by simp [maxLen]) rfl
  exact ⟨_, rfl, h, malloc1 _ _⟩
set_option maxRecDepth 100000 in
set_option maxHeartbeats 2000000 in
theorem i_deskWords (w : World) : Calls Tryz.prog 19 #[] w fun e w' => ∃ v, e = .returned v ∧ w'.ownsRow w.heap.size 9 1 v 8 (deskW.map Value.string) ∧ Below w.heap.size w w' := by
  have HO := hide (i_orders w)
  obtain ⟨i0, hi, hz0, hz1, hz2⟩ := info_parts Tryz.infoS
  have HI := hide (And.intro hi (And.intro hz0 (And.intro hz1 hz2)))
  obtain ⟨OV, hOV⟩ : ∃ x, ordV = x := ⟨_, rfl⟩
  have HAT : Hid (∀ k : Nat, k < 8 → ∃ c f, ∀ W : World, (Instr.index 79 (.agg OV) (.int .i64 (k : Int))).run Tryz.prog W = .ok (.agg #[.string (wordO k), .int .i64 c, (.func (.func f) #[] #[])]) W) := hide (fun k hk => by rw [← hOV]; exact ord_at k hk)
  rw [hOV] at HO
  clear hOV hi hz0 hz1 hz2
  go_enter Tryz.func19, Tryz.ntmps19
  go_wp2_with (go_at_call 36; refine HO.out.mono ?_; rintro e w1 ⟨rfl, hb1⟩; have HB1 := hide hb1; clear hb1)
  go_loopw [1, 5] (fun v i wr => ∃ k : Nat, k ≤ 8 ∧ i = .int .i64 (k : Int) ∧ wr.ownsRow w.heap.size 9 1 v k ((deskW.take k).map Value.string) ∧ Below w.heap.size w wr) (fun _ i _ => 8 - (intOf i).toNat)
  case atStart => exact ⟨0, by omega, rfl, owns_nil _ _ _ _, HB1.out⟩
  case round =>
    obtain ⟨k, hk, rfl, hown, hbel⟩ := hrel
    have HOWN := hide hown
    have HBEL := hide hbel
    obtain ⟨p, c, rfl⟩ := owns_shape hown
    clear hown hbel
    by_cases hlt : k < 8
    · obtain ⟨cc, ff, hidx⟩ := HAT.out k hlt
      obtain ⟨X, hX⟩ : ∃ x, wordO k = x := ⟨_, rfl⟩
      rw [hX] at hidx
      have HX : Hid ((deskW.take (k + 1)).map Value.string = (deskW.take k).map Value.string ++ [.string X]) := hide (by
        rw [← hX]
        have hl : k < deskW.length := hlt
        rw [List.take_succ_eq_append_getElem hl, List.map_append]
        unfold wordO
        rw [List.getD_eq_getElem?_getD, List.getElem?_eq_getElem hl]
        rfl)
      clear hX
      go_wp2_with (at_builtin; refine wpList_append_own_at _ rfl (.tmp 8) (.tmp 11) 27 rfl w.heap.size 9 i0 (.string ByteArray.empty) 1 16 Tryz.underlying27 HI.out.1 HI.out.2.1 HI.out.2.2.1 HI.out.2.2.2 rfl (by decide) (.slice p k c) k ((deskW.take k).map Value.string) rfl (owns_below (owns_below HOWN.out (malloc1 _ _)) (malloc1 _ _)) ⟨wr.heap.size + 1, 0, none⟩ 1 1 [.string X] rfl rfl (by intro j u hj; cases j with | zero => simp at hj; subst hj; simp [Addr.add] | succ j => simp at hj) (by simp [Value.oneCell']) (by unfold maxLen; omega) (by omega) (by have := HBEL.out.size; simp; omega) ?_; intro v7 w7 hown7 hgr7 _ hat7; have HO7 := hide hown7; have HG7 := hide hgr7; obtain ⟨p7, c7, rfl⟩ := owns_shape hown7; clear hown7 hgr7 hat7)
      go_roundw
      case rel =>
        refine ⟨k + 1, hlt, by go_num, ?_, ?_⟩
        · rw [HX.out]
          exact HO7.out
        · have h1 : Below w.heap.size w ((wr.alloc (.cells #[.string X, .int .i64 cc, .func (.func ff) #[] #[]] 74)).alloc (.cells #[.string X] 9)) := (HBEL.out.trans ((malloc1 _ _).mono HBEL.out.size)).trans ((malloc1 _ _).mono (by have := HBEL.out.size; simp; omega))
          exact h1.trans ((grownBy_apart HG7.out).below h1.size (owns_fresh HOWN.out).lo)
      case measure => simp [intOf]; omega
    · obtain rfl : k = 8 := by omega
      go_wp2_with fail
      go_ret
      exact ⟨_, rfl, HOWN.out, HBEL.out⟩
end Go.Proofs.YthghhccikgngjaaGreatDoor
