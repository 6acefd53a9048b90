import Derived.Test.YtlbcnmcfljaijaaQF31
import Derived.Test.YtlbcnmcfljaijaaQF04
import Derived.Maps.AppendAt
import Derived.Test.YtlbcnmcfljaijaaQF29
import Derived.Test.YtlbcnmcfljaijaaQF00
import Derived.WalkMore
import Derived.Deep.RegionHeld3
import Derived.Test.YtlbcnmcfljaijaaQF32
import Derived.Deep.QuietTactic
import Derived.BigQuiet
namespace Go.Proofs.Ytlbcnmcfljaijaa
open Go.RowKit

def NnOwn (w : World) (base : Nat) (v : Value) (op : List Nat) : Prop := w.ownsRow base 3 1 v op.length (op.reverse.map fun (k : Nat) => .int .i64 (k : Int))
structure RwM (w0 : World) (mb tb : Nat) (ms : List ByteArray) (l : List Nd) (op : List Nat) (lv ov : Value) (W : World) : Prop where
  ms : MsAt W mb tb ms
  row : NdOwn W (mb + 2) lv l
  opn : NnOwn W (mb + 2) ov op
  off : ∀ b ∈ vblocks lv, b ∉ vblocks ov
  nod : ∃ n : Nd, BoxL W (mb + 1) n.cells
  low : Below w0.heap.size w0 W
  tb : tb < w0.heap.size
  mb : mb = w0.heap.size
theorem RwM.far {w0 : World} {mb tb : Nat} {ms : List ByteArray} {l : List Nd} {op : List Nat} {lv ov : Value} {W W' : World} (h : RwM w0 mb tb ms l op lv ov W) (hb : Below W.heap.size W W') : RwM w0 mb tb ms l op lv ov W' := by
  obtain ⟨n, hn⟩ := h.nod
  exact ⟨h.ms.below hb, owns_below h.row hb, owns_below h.opn hb, h.off, ⟨n, hn.keep (below_apart hb) (by simp)⟩, h.low.trans (hb.mono h.low.size), h.tb, h.mb⟩
theorem row_sub {w w2 : World} {base e size n n2 : Nat} {v v' : Value} {vs vs2 : List Value} (h : w.ownsRow base e size v n vs) (o : Obj) (hown : w2.ownsRow base e size v' n2 vs2) (hg : (w.alloc o).grownBy w2 v.ownBlock) (hat : v'.ownBlock = v.ownBlock ∨ v'.ownBlock = some (w.alloc o).heap.size) :
    Apart w w2 (vblocks v) ∧ ∀ b ∈ vblocks v', b ∈ vblocks v ∨ w.heap.size ≤ b := by
  obtain ⟨p, c, hv⟩ := owns_shape h
  obtain ⟨p', c', hv'⟩ := owns_shape hown
  refine ⟨?_, fun b hm => ?_⟩
  · rw [hv] at hg ⊢
    have := (below_apart (malloc1 w o)).trans (grownBy_apart hg)
    rwa [List.nil_append] at this
  · have hm' := (own_blocks hv').2 hm
    rcases hat with e | e
    · rw [e] at hm'
      exact .inl ((own_blocks hv).1 hm')
    · rw [e] at hm'
      simp at hm'
      exact .inr (by omega)
theorem RwM.push {w0 : World} {mb tb : Nat} {ms : List ByteArray} {l : List Nd} {op : List Nat} {lv ov : Value} {W W2 : World} (h : RwM w0 mb tb ms l op lv ov W) {n : Nd} (o : Obj) {v' : Value} (hown : W2.ownsRow (mb + 2) 87 5 v' (l.length + 1) (l.flatMap Nd.cells ++ n.cells)) (hg : (W.alloc o).grownBy W2 lv.ownBlock) (hat : v'.ownBlock = lv.ownBlock ∨ v'.ownBlock = some (W.alloc o).heap.size) : RwM w0 mb tb ms (l ++ [n]) op v' ov W2 := by
  obtain ⟨hA, hs⟩ := row_sub h.row o hown hg hat
  have h1 := owns_fresh h.row
  have h2 := owns_fresh h.opn
  obtain ⟨m, hn⟩ := h.nod
  have hmb := h.mb
  have htb := h.tb
  refine ⟨h.ms.keep hA (fun hm => by have := h1.lo _ hm; omega) (fun hm => by have := h1.lo _ hm; omega), ?_, owns_keep h.opn hA (fun b hb hm => h.off b hm hb), fun b hb hm => ?_, ⟨m, hn.keep hA (fun hm => by have := h1.lo _ hm; omega)⟩, h.low.trans (hA.below h.low.size (fun b hb => by have := h1.lo b hb; omega)), h.tb, h.mb⟩
  · unfold NdOwn
    rw [List.length_append, List.flatMap_append]
    simpa using hown
  · rcases hs b hb with hb | hb
    · exact h.off b hb hm
    · have := h2.hi b hm; omega
theorem RwM.closed {w0 : World} {mb tb : Nat} {ms : List ByteArray} {l : List Nd} {k : Nat} {op : List Nat} {lv : Value} {p : Option Addr} {c : Nat} {W : World} (h : RwM w0 mb tb ms l (k :: op) lv (.slice p (op.length + 1) c) W) : RwM w0 mb tb ms l op lv (.slice p op.length c) W := by
  refine ⟨h.ms, h.row, ?_, fun b hb hm => h.off b hb (by cases p with | none => simp [vblocks, cellBlocks] at hm | some a => simpa [vblocks, cellBlocks] using hm), h.nod, h.low, h.tb, h.mb⟩
  have ho := h.opn
  unfold NnOwn at ho ⊢
  obtain ⟨h1, h2⟩ := ho
  refine ⟨by simp, ?_⟩
  rcases h2 with ⟨_, h2⟩ | ⟨g, cap, cur, e, hg, hb, hc, hm, hs, ht⟩
  · simp at h2
  · injection e with e1 e2 e3
    subst e1 e3
    refine .inr ⟨g, c, cur, rfl, hg, hb, by simp at hc; omega, hm, hs, ?_⟩
    have := congrArg (List.take op.length) ht
    rw [List.take_take] at this
    simp only [Nat.mul_one, List.length_cons] at this ⊢
    rw [Nat.min_eq_left (by omega)] at this
    rw [this, List.reverse_cons, List.map_append, List.take_left' (by simp)]
theorem cells_len2 (l : List Nd) : (l.flatMap Nd.cells).length = l.length * 5 := by
  induction l with
  | nil => rfl
  | cons a l ih => rw [List.flatMap_cons, List.length_append, ih, Nd.cells_len, List.length_cons]; omega
theorem cells_get {l : List Nd} {i : Nat} (h : i < l.length) (j : Nat) (hj : j < 5) : (l.flatMap Nd.cells)[i * 5 + j]? = l[i].cells[j]? := by
  induction l generalizing i with
  | nil => simp at h
  | cons a l ih =>
    cases i with
    | zero =>
      rw [List.flatMap_cons, Nat.zero_mul, Nat.zero_add, List.getElem?_append_left (by rw [Nd.cells_len]; exact hj)]
      rfl
    | succ i =>
      rw [List.flatMap_cons, List.getElem?_append_right (by rw [Nd.cells_len, Nat.succ_mul]; omega), Nd.cells_len, show (i + 1) * 5 + j - 5 = i * 5 + j by rw [Nat.succ_mul]; omega]
      exact ih (by simpa using h)
theorem cells_bump (l : List Nd) (i : Nat) (h : i < l.length) : (l.flatMap Nd.cells).set (i * 5 + 3) (.int .i64 (l[i].many + 1)) = (bump l i).flatMap Nd.cells := by
  induction l generalizing i with
  | nil => simp at h
  | cons a l ih =>
    cases i with
    | zero => rfl
    | succ i =>
      rw [bump, List.modify_succ_cons, List.flatMap_cons, List.flatMap_cons, List.set_append_right _ _ (by rw [Nd.cells_len]; omega), Nd.cells_len, show (i + 1) * 5 + 3 - 5 = i * 5 + 3 by omega]
      congr 1
      exact ih i (by simpa using h)
theorem RwM.more {w0 : World} {mb tb : Nat} {ms : List ByteArray} {l : List Nd} {op : List Nat} {g c : Nat} {ov : Value} {W : World} (h : RwM w0 mb tb ms l op (.slice (some ⟨g, 0, none⟩) l.length c) ov W) {i : Nat} (hi : i < l.length) : RwM w0 mb tb ms (bump l i) op (.slice (some ⟨g, 0, none⟩) l.length c) ov (W.setCell ⟨g, i * 5 + 3, none⟩ (.int .i64 (l[i].many + 1))) := by
  have hA := setCell_apart W g (i * 5 + 3) (.int .i64 (l[i].many + 1))
  have hg : g ∈ vblocks (.slice (some ⟨g, 0, none⟩) l.length c) := by simp [vblocks, cellBlocks]
  have h1 := (owns_fresh h.row).lo g hg
  have hmb := h.mb
  have htb := h.tb
  obtain ⟨m, hn⟩ := h.nod
  refine ⟨h.ms.keep hA (by simp; omega) (by simp; omega), ?_, owns_keep h.opn hA (fun b hb hm => by simp at hm; subst hm; exact h.off b hg hb), h.off, ⟨m, hn.keep hA (by simp; omega)⟩, h.low.trans (hA.below h.low.size (fun b hb => by simp at hb; omega)), h.tb, h.mb⟩
  have hr := h.row
  unfold NdOwn at hr ⊢
  obtain ⟨h2, h3⟩ := hr
  rw [bump_len]
  refine ⟨by rw [cells_len2, bump_len], ?_⟩
  rcases h3 with ⟨e, _⟩ | ⟨g', cap, cur, e, hg', hb, h4, h5, h6, h7⟩
  · simp at e
  · injection e with e1 e2 e3
    injection e1 with e1
    injection e1 with e1
    subst e1 e3
    refine .inr ⟨g, c, cur.setIfInBounds (i * 5 + 3) (.int .i64 (l[i].many + 1)), rfl, hg', heap_setCell_same _ _ _ _ _ _ hb, h4, h5, by simpa using h6, ?_⟩
    rw [Array.toList_setIfInBounds, List.take_set, h7]
    exact cells_bump l i hi
end Go.Proofs.Ytlbcnmcfljaijaa
namespace Go.Proofs.Ytlbcnmcfljaijaa
open Go.RowKit
set_option linter.unusedSimpArgs false

def SwOwn (w : World) (base : Nat) (v : Value) (l : List ByteArray) : Prop := w.ownsRow base 9 1 v l.length (l.map Value.string)
def ByOwn (w : World) (base : Nat) (v : Value) (l : List UInt8) : Prop := w.ownsRow base 5 1 v l.length (l.map fun c => .int .u8 (c.toNat : Int))
end Go.Proofs.Ytlbcnmcfljaijaa
namespace Go.Proofs.Ytlbcnmcfljaijaa
open Go.RowKit
set_option linter.unusedVariables false
set_option linter.unusedSimpArgs false

end Go.Proofs.Ytlbcnmcfljaijaa
namespace Go.Proofs.Ytlbcnmcfljaijaa
open Go.RowKit
set_option linter.unusedVariables false
set_option linter.unusedSimpArgs false

end Go.Proofs.Ytlbcnmcfljaijaa
namespace Go.Proofs.Ytlbcnmcfljaijaa
open Go.RowKit
set_option linter.unusedVariables false
set_option linter.unusedSimpArgs false

structure RdEnd (w0 : World) (mb : Nat) (R : Option (List Nd)) (v : Value) (b : Bool) (W : World) : Prop where
  sl : ∃ a n c, v = .slice a n c
  is : b = R.isSome
  row : ∀ L, R = some L → NdOwn W (mb + 2) v L ∧ lzB L
  low : Below w0.heap.size w0 W
end Go.Proofs.Ytlbcnmcfljaijaa
namespace Go.Proofs.Ytlbcnmcfljaijaa
open Go.RowKit
set_option linter.unusedSimpArgs false
set_option linter.unusedVariables false

theorem ext_list (t : ByteArray) (a b : Nat) : (t.extract a b).toList = (t.toList.drop a).take (b - a) := by
  simp only [Go.ByteArray.toList_eq, ByteArray.data_extract, Array.toList_extract]
theorem pre_eq (x r : List UInt8) (h : x.length ≤ r.length) : x.isPrefixOf r = decide (r.take x.length = x) := by
  rw [Bool.eq_iff_iff, decide_eq_true_eq, List.isPrefixOf_iff_prefix, List.prefix_iff_eq_take]
  exact eq_comm
theorem apart_drewN (w : World) (n : Nat) : Apart w (w.drewN n) [] := ⟨rfl, rfl, rfl, Nat.le_refl _, fun _ _ _ => rfl⟩
def isQ (x : List UInt8) (t : ByteArray) (at_ : Nat) (bad : Bool) : Bool := !bad && x.isPrefixOf (t.toList.drop at_)
def isA (x : List UInt8) (t : ByteArray) (at_ : Nat) (bad : Bool) : Nat := if isQ x t at_ bad then at_ + x.length else at_
theorem pre_ext {x : List UInt8} {t : ByteArray} {at_ : Nat} (hl : at_ + x.length ≤ t.size) : x.isPrefixOf (t.toList.drop at_) = true ↔ t.extract at_ (at_ + x.length) = ba x := by
  have e : t.toList.length = t.size := by rw [Go.ByteArray.toList_eq]; rfl
  rw [pre_eq _ _ (by rw [List.length_drop]; omega), decide_eq_true_eq]
  have h1 : (t.toList.drop at_).take x.length = (t.extract at_ (at_ + x.length)).toList := by rw [ext_list]; congr 1; omega
  rw [h1]
  constructor
  · intro h
    apply tl_inj
    rw [h, ba_list]
  · intro h
    rw [h, ba_list]
set_option maxRecDepth 100000 in
set_option maxHeartbeats 1000000 in
theorem sr_is (x : List UInt8) (t : ByteArray) (at_ rb : Nat) (lv : Value) (part bad : Bool) (w : World) (hx : x.length ≤ 8000) (ht : t.size ≤ 8000) (hat : at_ ≤ t.size) (hb : BoxL w rb [.string t, .int .i64 (at_ : Int), lv, .bool part, .bool bad]) :
    Calls Try.prog 82 #[.pointer (some ⟨rb, 0, none⟩), .string (ba x)] w fun e w' => e = .returned (.bool (isQ x t at_ bad)) ∧ Apart w w' [rb] ∧ BoxL w' rb [.string t, .int .i64 (isA x t at_ bad : Int), lv, .bool part, .bool bad] := by
  have b0 := hb.cell 0 _ rfl
  have b1 := hb.cell 1 _ rfl
  have b4 := hb.cell 4 _ rfl
  have bz := hb.fz
  have hsz : (ba x).size = x.length := sz_ba x
  obtain ⟨X, hX⟩ : ∃ X, ba x = X := ⟨_, rfl⟩
  have HX := hide hX
  rw [hX] at hsz ⊢
  clear hX
  have HSZ := hide hsz
  have hsx : X.size ≤ 8000 := by omega
  have HA : Hid (isA x t at_ bad = if isQ x t at_ bad then at_ + X.size else at_) := hide (by rw [hsz]; rfl)
  obtain ⟨A, hA⟩ : ∃ A, isA x t at_ bad = A := ⟨_, rfl⟩
  rw [hA] at HA ⊢
  clear hA
  obtain ⟨q, hq⟩ : ∃ q, isQ x t at_ bad = q := ⟨_, rfl⟩
  have HQ := hide hq
  rw [hq] at HA ⊢
  cases bad
  · by_cases hl : at_ + x.length ≤ t.size
    · have hd : decide ((at_ : Int) + (X.size : Int) ≤ (t.size : Int)) = true := by rw [decide_eq_true_eq]; omega
      have hi : (at_ : Int) + (X.size : Int) ≤ (t.size : Int) := by omega
      have hpe := pre_ext hl
      rw [HX.out, ← hsz] at hpe
      by_cases he : t.extract at_ (at_ + X.size) = X
      · have hqt : q = true := by rw [← hq]; unfold isQ; rw [hpe.2 he]; rfl
        subst hqt
        clear hsz hx hl hq hpe
        go_enter Try.func82, Try.ntmps82
        go_wp2_with fail
        go_quiet (fail)
        go_wp2_with fail
        go_ret
        refine ⟨rfl, ((apart_drewN _ _).weak.setCell _ _), ?_⟩
        rw [HA.out]
        exact (hb.keep (apart_drewN w _) (by simp)).set 1 (by simp) _
      · have hqt : q = false := by rw [← hq]; unfold isQ; rw [Bool.eq_false_iff]; intro h; exact he (hpe.1 (by simpa using h))
        subst hqt
        have hdf : decide (t.extract at_ (at_ + X.size) = X) = false := by rw [decide_eq_false_iff_not]; exact he
        clear hsz hx hl hq hpe
        have HE := hide he
        go_enter Try.func82, Try.ntmps82
        go_wp2_with fail
        go_quiet (fail)
        go_wp2_with fail
        all_goals first
          | exact absurd (tl_inj (eq_of_beq ‹((t.extract at_ (at_ + X.size)).toList == X.toList) = true›)) HE.out
          | (go_ret
             refine ⟨rfl, (apart_drewN _ _).weak, ?_⟩
             rw [HA.out]
             exact hb.keep (apart_drewN w _) (by simp))

    · have hd : decide ((at_ : Int) + (X.size : Int) ≤ (t.size : Int)) = false := by rw [decide_eq_false_iff_not]; omega
      have hqt : q = false := by
        rw [← hq]; unfold isQ; rw [Bool.eq_false_iff]; intro h
        simp only [Bool.not_false, Bool.true_and] at h
        have := (List.isPrefixOf_iff_prefix.1 h).length_le
        have e : t.toList.length = t.size := by rw [Go.ByteArray.toList_eq]; rfl
        rw [List.length_drop] at this
        omega
      subst hqt
      clear hsz hx hl hq
      go_enter Try.func82, Try.ntmps82
      go_wp2_with fail
      go_quiet (fail)
      go_wp2_with fail
      go_ret
      refine ⟨rfl, (apart_drewN _ _).weak, ?_⟩
      rw [HA.out]
      exact hb.keep (apart_drewN w _) (by simp)
  · have hqt : q = false := by rw [← hq]; rfl
    subst hqt
    clear hq
    go_enter Try.func82, Try.ntmps82
    go_wp2_with fail
    go_region
    go_wp2_with fail
    go_ret
    refine ⟨rfl, ((Apart.refl _).sub (by simp)).drew, ?_⟩
    rw [HA.out]
    exact hb.keep (Apart.refl w).drew (by simp)
end Go.Proofs.Ytlbcnmcfljaijaa
namespace Go.Proofs.Ytlbcnmcfljaijaa
open Go.RowKit
attribute [local go_sem ↓] Go.wp_at_zero Go.wp_at_succ

theorem take_as {α : Type} {mg : α → α → Option α} {acc l : List (Br α)} {d : Br α} (h : takeBy mg acc d = some l) : mergeBy mg acc [d] = some l ∧ (acc.length ≤ 4 → l.length ≤ 4) := by
  rw [takeBy] at h
  rw [mergeBy]
  split at h
  · rename_i hf
    rw [hf]
    split at h
    · rename_i h4
      injection h with h
      subst h
      exact ⟨by rw [mergeBy], fun _ => by simp; omega⟩
    · cases h
  · rename_i i hf
    rw [hf]
    dsimp only
    split at h
    · cases h
    · rename_i b hb
      rw [hb]
      dsimp only
      split at h
      · cases h
      · rename_i q hq
        rw [hq]
        dsimp only
        split at h
        · rename_i hs
          injection h with h
          subst h
          rw [if_pos hs]
          exact ⟨by rw [mergeBy], fun h4 => by rw [List.length_set]; exact h4⟩
        · cases h
theorem row_cells {w : World} {g : Nat} : ∀ {l : List Nd} {o : Nat}, RowAt w g o l → ∀ j u, (l.flatMap Nd.cells)[j]? = some u → w.cell? ⟨g, o + j, none⟩ = some u
  | [], _, _, j, u, h => by simp at h
  | x :: l, o, hr, j, u, h => by
    obtain ⟨⟨h0, h1, h2, h3, h4⟩, hr⟩ := hr
    rw [List.flatMap_cons] at h
    match j, h with
    | 0, h => simp [Nd.cells] at h; subst h; exact h0
    | 1, h => simp [Nd.cells] at h; subst h; exact h1
    | 2, h => simp [Nd.cells] at h; subst h; exact h2
    | 3, h => simp [Nd.cells] at h; subst h; exact h3
    | 4, h => simp [Nd.cells] at h; subst h; exact h4
    | j + 5, h =>
      rw [List.getElem?_append_right (by rw [Nd.cells_len]; omega), Nd.cells_len, Nat.add_sub_cancel] at h
      rw [show o + (j + 5) = o + 5 + j by omega]
      exact row_cells hr j u h
theorem NdOwn.rdS {w : World} {base : Nat} {v : Value} {l : List Nd} (h : NdOwn w base v l) (hl : l.length ≤ 2000) : RdW w (btF base w) v l := by
  have H := h
  obtain ⟨_, hh⟩ := h
  rcases hh with ⟨rfl, h0⟩ | ⟨gb, cap, cur, rfl, hg, hblk, hc, hm, _⟩
  · have : l = [] := List.length_eq_zero_iff.1 h0
    subst this
    exact ⟨none, 0, rfl, Nat.le_refl _, Nat.zero_le _, hl, fun h => absurd rfl h⟩
  · refine ⟨_, cap, rfl, hc, hm, hl, fun _ => ⟨gb, 0, rfl, ⟨hg, (Array.getElem?_eq_some_iff.1 hblk).1, fun o => (owns_fresh H).free gb (by simp [vblocks, cellBlocks]) o⟩, row_of w gb l 0 (fun j hj => ?_)⟩⟩
    rw [Nat.zero_add]
    have e := fun i (hi : i < 5) (x : Value) (hx : (l[j].cells)[i]? = some x) => owns_cell H rfl (j * 5 + i) x ((flat_get Nd.cells 5 Nd.cells_len l j hj i hi).trans hx)
    exact ⟨e 0 (by omega) _ rfl, e 1 (by omega) _ rfl, e 2 (by omega) _ rfl, e 3 (by omega) _ rfl, e 4 (by omega) _ rfl⟩
set_option maxRecDepth 100000 in
set_option maxHeartbeats 2000000 in
theorem s_merge_no (n : Nat) (S : Nat → Prop) (x y : Pn n) (u v : Value) (w : World) (hS : ∀ g, S g → g < w.heap.size) (hx hy : Nd) (X Y : List Nd) (eX : rowN n x = hx :: X) (eY : rowN n y = hy :: Y) (hsz : (rowN n x).length + (rowN n y).length ≤ 900) (hu : RdW w S u (rowN n x)) (hv : RdW w S v (rowN n y)) (hno : rowEq (rowN n x) (rowN n y) = true ∨ (hx.op == 6 && hy.op == 6 && (hx.peer.toList == hy.peer.toList)) = false) :
    Calls Try.prog 70 #[u, v] w fun e w' => MergedS n S w w' e (if rowEq (rowN n x) (rowN n y) then some x else none) := by
  obtain ⟨r, hr⟩ : ∃ r, rowEq (rowN n x) (rowN n y) = r := ⟨_, rfl⟩
  have HSM : Hid (∀ W, Below w.heap.size w W → Calls Try.prog 77 #[u, v] W fun e w' => e = .returned (.bool r) ∧ Below W.heap.size W w') := hide (fun W hW => by
    rw [← hr]
    exact s_same _ _ u v W S (fun g hg => Nat.lt_of_lt_of_le (hS g hg) hW.size) (hu.on hS hW) (hv.on hS hW))
  have HUR : Hid (∀ W, Below w.heap.size w W → RdW W (plusF S w.heap.size W) u (rowN n x)) := hide (fun W hW => (hu.on hS hW).up (fun g hg => .inl hg))
  have HSZ := hide hsz
  rw [hr] at hno ⊢
  rw [eX] at hu
  rw [eY] at hv
  obtain ⟨ax, cx, rfl, hcx, hmx, -, hrx⟩ := hu
  obtain ⟨ay, cy, rfl, hcy, hmy, -, hry⟩ := hv
  obtain ⟨gx, ox, rfl, hgx, hrx⟩ := hrx (by simp)
  obtain ⟨gy, oy, rfl, hgy, hry⟩ := hry (by simp)
  obtain ⟨⟨x0, -, x2, -, -⟩, -⟩ := hrx
  obtain ⟨⟨y0, -, y2, -, -⟩, -⟩ := hry
  have hgxw := hS gx hgx
  have hgyw := hS gy hgy
  simp only [List.length_cons] at HSM HUR hcx hcy ⊢
  obtain ⟨L, hL⟩ : ∃ L, X.length = L := ⟨_, rfl⟩
  obtain ⟨M, hM⟩ : ∃ M, Y.length = M := ⟨_, rfl⟩
  rw [hL] at HSM HUR hcx ⊢
  rw [hM] at HSM hcy ⊢
  clear hr hL hM hS eX eY hsz
  cases r
  · obtain ⟨op1, n1, p1, m1, s1⟩ := hx
    obtain ⟨op2, n2, p2, m2, s2⟩ := hy
    dsimp only at hno x0 x2 y0 y2
    have hno' : (op1 == 6 && op2 == 6 && (p1.toList == p2.toList)) = false := by rcases hno with h | h; cases h; exact h
    obtain ⟨q1, h1⟩ : ∃ q, (op1 != 6) = q := ⟨_, rfl⟩
    obtain ⟨q2, h2⟩ : ∃ q, (op2 != 6) = q := ⟨_, rfl⟩
    obtain ⟨q3, h3⟩ : ∃ q, (p1.toList == p2.toList) = q := ⟨_, rfl⟩
    have e1 : (op1 == 6) = !q1 := by rw [← h1, bne, Bool.not_not]
    have e2 : (op2 == 6) = !q2 := by rw [← h2, bne, Bool.not_not]
    rw [e1, e2, h3] at hno'
    clear hno e1 e2
    go_enter Try.func70, Try.ntmps70
    go_wp2_with (go_at_call 77; refine (HSM.out _ (Below.refl _ _)).mono ?_; rintro e w1 ⟨rfl, hb1⟩; have HB1 := hide hb1; have c0 := (hb1.cell (p := ⟨gx, ox, none⟩) hgxw).trans x0; have c2 := (hb1.cell (p := ⟨gx, ox + 2, none⟩) hgxw).trans x2; have d0 := (hb1.cell (p := ⟨gy, oy, none⟩) hgyw).trans y0; have d2 := (hb1.cell (p := ⟨gy, oy + 2, none⟩) hgyw).trans y2; clear hb1)
    refine wp_region_grown (by kernel_rfl) (by kernel_rfl) (fun V hV => ?_)
    try simp only [Act.put, List.getElem_toArray, List.getElem_cons_succ, List.getElem_cons_zero, List.setIfInBounds_toArray, List.set_cons_zero, List.set_cons_succ]
    have hne9 := grown_some V
    have g0 := grown_cell (w := V) (by rw [hV]; exact c0)
    have g2 := grown_cell (w := V) (by rw [hV]; exact c2)
    have k0 := grown_cell (w := V) (by rw [hV]; exact d0)
    have k2 := grown_cell (w := V) (by rw [hV]; exact d2)
    have HV := hide hV
    clear hV
    cases q1
    · cases q2
      · cases q3
        · repeat (go_big_quiet_step (fail))
          refine wpQuiet_nil ?_
          intro w4 hw4
          rw [HV.out] at hw4
          have HB4 : Hid (Below w.heap.size w w4) := hide (HB1.out.trans (hw4.mono HB1.out.size))
          clear hw4 hne9 g0 g2 k0 k2 HV
          go_wp2_with fail
          go_ret2
          exact ⟨_, _, rfl, HUR.out w4 HB4.out, (fun z hz => by cases hz), ⟨row_pos _ _, by have := HSZ.out; omega⟩, HB4.out⟩
        · cases hno'
      · repeat (go_big_quiet_step (fail))
        refine wpQuiet_nil ?_
        intro w4 hw4
        rw [HV.out] at hw4
        have HB4 : Hid (Below w.heap.size w w4) := hide (HB1.out.trans (hw4.mono HB1.out.size))
        clear hw4 hne9 g0 g2 k0 k2 HV
        go_wp2_with fail
        go_ret2
        exact ⟨_, _, rfl, HUR.out w4 HB4.out, (fun z hz => by cases hz), ⟨row_pos _ _, by have := HSZ.out; omega⟩, HB4.out⟩
    · repeat (go_big_quiet_step (fail))
      refine wpQuiet_nil ?_
      intro w4 hw4
      rw [HV.out] at hw4
      have HB4 : Hid (Below w.heap.size w w4) := hide (HB1.out.trans (hw4.mono HB1.out.size))
      clear hw4 hne9 g0 g2 k0 k2 HV
      go_wp2_with fail
      go_ret2
      exact ⟨_, _, rfl, HUR.out w4 HB4.out, (fun z hz => by cases hz), ⟨row_pos _ _, by have := HSZ.out; omega⟩, HB4.out⟩
  · go_enter Try.func70, Try.ntmps70
    go_wp2_with (go_at_call 77; refine (HSM.out _ (Below.refl _ _)).mono ?_; rintro e w1 ⟨rfl, hb1⟩; have HB1 := hide hb1; clear hb1)
    go_ret2
    exact ⟨_, _, rfl, HUR.out w1 HB1.out, (fun z hz => by have hz' : some x = some z := hz; injection hz' with hz'; rw [hz']), ⟨row_pos _ _, by have := HSZ.out; omega⟩, HB1.out⟩
end Go.Proofs.Ytlbcnmcfljaijaa
