/- The program's weave: add, at a variable and at a recursion. -/
import Derived.Test.YthaomohoiginnaaQMachineOf30
import Derived.Test.YthaomohoiginnaaQMachineOf40
import Derived.Deep.RegionLaw
namespace Go.Proofs.Ythaomohoiginnaa
open Go.RowKit
attribute [local go_sem ↓] Go.wp_at_zero Go.wp_at_succ

def Short (l : List Nd) : Prop := ∀ n ∈ l, n.name.size ≤ 1048576 ∧ n.peer.size ≤ 1048576
/-- what add answers -/
def Added (w w' : World) (B wb mb base nf : Nat) (e : Ending) (l r : List Nd) (i : Int) (W : Wv) : Prop :=
  ∃ v' sv' ev' nf', e = .returned (.tuple #[.int .i64 i, v']) ∧ SlAt w' B v' r ∧ WeAt w' wb mb base sv' ev' nf' W ∧ nf' + r.length ≤ nf + l.length ∧ Kept w w' base [wb, mb]
structure Fits (l : List Nd) (W : Wv) (nf : Nat) : Prop where
  sts : W.sts.length + l.length ≤ 900
  eds : W.eds.length + l.length ≤ 900
  nfs : nf + l.length ≤ 900
def AddCalls (f : Nat) : Prop := ∀ (st l r : List Nd) (v : Value) (w : World) (B wb mb base nf : Nat) (sv ev : Value) (W : Wv), ahead (talkS true) f st l = some r → Short l → SlAt w B v l → B ≤ base → B ≤ wb → B ≤ mb → WeAt w wb mb base sv ev nf W → Fits l W nf →
  Calls Try.prog 83 #[.pointer (some ⟨wb, 0, none⟩), v] w fun e w' => Added w w' B wb mb base nf e l r (wv f l W).1 (wv f l W).2.2
theorem below_kept {w w' : World} {base : Nat} {l : List Nat} (h : Below w.heap.size w w') (hb : base ≤ w.heap.size) : Kept w w' base l := (below_apart h).kept hb (by simp)
set_option maxRecDepth 100000 in
set_option maxHeartbeats 1000000 in
theorem add_var (name peer : ByteArray) (many sort : Int) (l1 : List Nd) (w : World) (B wb mb base nf b o cap : Nat) (sv ev : Value) (W : Wv)
    (hname : name.size ≤ 1048576) (hbB : b < B) (hB : B ≤ base ∧ B ≤ wb ∧ B ≤ mb) (hc1 : (⟨1, name, peer, many, sort⟩ :: l1 : List Nd).length ≤ cap) (hc2 : cap ≤ 4294967296) (hrow : RowAt w b o (⟨1, name, peer, many, sort⟩ :: l1)) (h : WeAt w wb mb base sv ev nf W) :
    Calls Try.prog 83 #[.pointer (some ⟨wb, 0, none⟩), .slice (some ⟨b, o, none⟩) (⟨1, name, peer, many, sort⟩ :: l1 : List Nd).length cap] w fun e w' => Added w w' B wb mb base nf e (⟨1, name, peer, many, sort⟩ :: l1) l1 (W.fs name) W := by
  have H := hide h
  have HB := hide hB
  have HBS : Hid (B ≤ w.heap.size) := hide (by have := h.sz; omega)
  have HT : Hid (∀ ao, (cap ≠ 1 → ao = some ⟨b, o + 5, none⟩) → SlAt w B (.slice ao l1.length (cap - 1)) l1) := hide (fun ao ha => SlAt.tail hbB hrow hc1 hc2 ao ha)
  have k3 := h.box.cell 3 _ rfl
  have hwb : wb < w.heap.size := h.box.lt
  have hlk : ∀ W' : World, W' = (w.alloc (.cells #[.int .i64 1, .string name, .string peer, .int .i64 many, .int .i64 sort] 79)).drew.drew → (Instr.lookup 112 (.map (some mb)) (.string name) false).run Try.prog W' = .ok (.int .i64 (W.fs name)) W' := fun W' e => by
    rw [e]
    exact fs_look ((h.below ((alloc1 w _).drew.drew)).fs) (by unfold maxLen; omega)
  have hlk2 := hlk _ rfl
  simp only [List.length_cons] at hc1
  obtain ⟨⟨c0, c1, c2, c3, c4⟩, -⟩ := hrow
  dsimp only at c0 c1 c2 c3 c4
  have hbw : b < w.heap.size := World.block_lt_of_cell? w _ c0
  have hz : ((l1.length : Int) + 1 == 0) = false := beq_eq_false_iff_ne.2 (by omega)
  clear h hB hlk
  by_cases hcap : cap = 1
  · subst hcap
    obtain rfl : l1 = [] := List.length_eq_zero_iff.1 (by omega)
    go_enter Try.func83, Try.ntmps83
    go_wp2_with fail
    go_region
    go_wp2_with fail
    go_region
    go_wp2_with fail
    go_ret2
    exact ⟨_, _, _, nf, rfl, (HT.out _ (fun h => absurd rfl h)).carry ((alloc1 w _).drew.drew.mono HBS.out), H.out.below (alloc1 w _).drew.drew, by simp, below_kept (alloc1 w _).drew.drew H.out.sz⟩
  · go_enter Try.func83, Try.ntmps83
    go_wp2_with fail
    go_region
    go_wp2_with fail
    go_region
    go_wp2_with fail
    go_ret2
    exact ⟨_, _, _, nf, rfl, (HT.out _ (fun _ => rfl)).carry ((alloc1 w _).drew.drew.mono HBS.out), H.out.below (alloc1 w _).drew.drew, by simp, below_kept (alloc1 w _).drew.drew H.out.sz⟩
theorem we_put {w w2 : World} {wb mb base nf : Nat} {sv ev : Value} {W : Wv} {fs' : ByteArray → Int} (h : WeAt w wb mb base sv ev nf W) (hf : FsAt w2 mb (nf + 1) fs') (ha : Apart w w2 [mb]) : WeAt w2 wb mb base sv ev (nf + 1) ⟨W.sts, W.eds, fs'⟩ :=
  have hl := h.low
  ⟨h.box.keep ha (by simp; omega), h.st.keep ha (fun b hb hm => by have := h.st.fresh.lo b hb; simp at hm; omega), h.ed.keep ha (fun b hb hm => by have := h.ed.fresh.lo b hb; simp at hm; omega), hf, h.dis, hl, Nat.le_trans h.sz ha.size⟩
theorem added_on {w w2 w' : World} {B wb mb base nf nf2 : Nat} {e : Ending} {l l2 r : List Nd} {i : Int} {W : Wv} (hk : Kept w w2 base [wb, mb]) (hn : nf2 + l2.length ≤ nf + l.length) (h : Added w2 w' B wb mb base nf2 e l2 r i W) : Added w w' B wb mb base nf e l r i W := by
  obtain ⟨v', sv', ev', nf', h1, h2, h3, h4, h5⟩ := h
  exact ⟨v', sv', ev', nf', h1, h2, h3, by omega, hk.trans h5⟩
set_option maxRecDepth 100000 in
set_option maxHeartbeats 2000000 in
theorem add_rec (f : Nat) (hf : AddCalls f) (st : List Nd) (name peer : ByteArray) (many sort : Int) (l1 r : List Nd) (w : World) (B wb mb base nf b o cap : Nat) (sv ev : Value) (W : Wv) (hsh : Short (⟨2, name, peer, many, sort⟩ :: l1)) (ha : ahead (talkS true) f (⟨2, name, peer, many, sort⟩ :: st) l1 = some r)
    (hbB : b < B) (hB : B ≤ base ∧ B ≤ wb ∧ B ≤ mb) (hc1 : (⟨2, name, peer, many, sort⟩ :: l1 : List Nd).length ≤ cap) (hc2 : cap ≤ 4294967296) (hrow : RowAt w b o (⟨2, name, peer, many, sort⟩ :: l1)) (h : WeAt w wb mb base sv ev nf W) (hfit : Fits (⟨2, name, peer, many, sort⟩ :: l1) W nf) :
    Calls Try.prog 83 #[.pointer (some ⟨wb, 0, none⟩), .slice (some ⟨b, o, none⟩) (⟨2, name, peer, many, sort⟩ :: l1 : List Nd).length cap] w fun e w' => Added w w' B wb mb base nf e (⟨2, name, peer, many, sort⟩ :: l1) r (wv f l1 ⟨W.sts, W.eds, fun x => if x = name then (W.sts.length : Int) else W.fs x⟩).1 (wv f l1 ⟨W.sts, W.eds, fun x => if x = name then (W.sts.length : Int) else W.fs x⟩).2.2 := by
  have H := hide h
  have HB := hide hB
  have hne : l1 ≠ [] := by rintro rfl; cases f <;> cases ha
  have hpos : 0 < l1.length := List.length_pos_iff.2 hne
  have hcap : cap ≠ 1 := by simp only [List.length_cons] at hc1; omega
  have HT : Hid (SlAt w B (.slice (some ⟨b, o + 5, none⟩) l1.length (cap - 1)) l1) := hide (SlAt.tail hbB hrow hc1 hc2 _ (fun _ => rfl))
  obtain ⟨ps, cs, rfl⟩ := owns_shape h.st
  have k3 := h.box.cell 3 _ rfl
  have k0 := h.box.cell 0 _ rfl
  have hwb : wb < w.heap.size := h.box.lt
  obtain ⟨V, hV⟩ : ∃ V, V = (w.alloc (.cells #[.int .i64 2, .string name, .string peer, .int .i64 many, .int .i64 sort] 79)).drew.drew := ⟨_, rfl⟩
  have hbV : Below w.heap.size w V := by rw [hV]; exact (alloc1 w _).drew.drew
  have hWV := h.below hbV
  have hn := (hsh _ (List.mem_cons_self)).1
  have hf1 := hfit.sts
  have hf2 := hfit.eds
  have hf3 := hfit.nfs
  simp only [List.length_cons] at hf1 hf2 hf3
  obtain ⟨w2, hrun, hfs2, ha2⟩ := fs_put (t := name) (z := (W.sts.length : Int)) hWV.fs (by dsimp only at hn; unfold maxLen; omega) (by omega) (by omega)
  have hW2 := we_put hWV hfs2 ha2
  have hK2 : Kept w w2 base [wb, mb] := (below_kept hbV h.sz).trans (ha2.kept hWV.sz (by simp))
  have HAD : Hid (Calls Try.prog 83 #[.pointer (some ⟨wb, 0, none⟩), .slice (some ⟨b, o + 5, none⟩) l1.length (cap - 1)] w2 fun e w' => Added w w' B wb mb base nf e (⟨2, name, peer, many, sort⟩ :: l1) r (wv f l1 ⟨W.sts, W.eds, fun x => if x = name then (W.sts.length : Int) else W.fs x⟩).1 (wv f l1 ⟨W.sts, W.eds, fun x => if x = name then (W.sts.length : Int) else W.fs x⟩).2.2) := hide ((hf _ l1 r _ w2 B wb mb base (nf + 1) _ ev _ ha (fun n hn => hsh n (List.mem_cons_of_mem _ hn)) (hK2.sl hB.1 (by intro x hx; simp at hx; rcases hx with rfl | rfl; exact hB.2.1; exact hB.2.2) HT.out) hB.1 hB.2.1 hB.2.2 hW2 ⟨by dsimp only; omega, by dsimp only; omega, by omega⟩).mono fun e w' hA => added_on hK2 (by simp only [List.length_cons]; omega) hA)
  rw [hV] at hrun
  simp only [List.length_cons] at hc1
  obtain ⟨⟨c0, c1, c2, c3, c4⟩, -⟩ := hrow
  dsimp only at c0 c1 c2 c3 c4
  have hbw : b < w.heap.size := World.block_lt_of_cell? w _ c0
  have hz : ((l1.length : Int) + 1 == 0) = false := beq_eq_false_iff_ne.2 (by omega)
  clear h hB hf ha hsh hfit hf1 hf2 hf3 hfs2 ha2 hW2 hK2 hWV hbV hn hV
  go_enter Try.func83, Try.ntmps83
  go_wp2_with fail
  go_region
  go_wp2_with fail
  go_region
  go_wp2_with (go_at_call 83; refine HAD.out.mono ?_; rintro e w' ⟨v', sv', ev', nf', rfl, h2, h3, h4, h5⟩; have H2 := hide h2; have H3 := hide h3; have H4 := hide h4; have H5 := hide h5; clear h2 h3 h4 h5)
  go_ret2
  exact ⟨_, _, _, _, rfl, H2.out, H3.out, H4.out, H5.out⟩
end Go.Proofs.Ythaomohoiginnaa
/- The program's weave: a state. -/
namespace Go.Proofs.Ythaomohoiginnaa
open Go.RowKit
attribute [local go_sem ↓] Go.wp_at_zero Go.wp_at_succ

set_option maxRecDepth 100000 in
set_option maxHeartbeats 4000000 in
theorem add_state (n : Nd) (w : World) (wb mb base nf : Nat) (sv ev : Value) (W : Wv) (hn : n.name.size ≤ 1048576 ∧ n.peer.size ≤ 1048576) (hl : W.sts.length ≤ 1000) (h : WeAt w wb mb base sv ev nf W) :
    Calls Try.prog 129 #[.pointer (some ⟨wb, 0, none⟩), n.val] w fun e w' => ∃ sv', e = .returned (.int .i64 (W.sts.length : Int)) ∧ WeAt w' wb mb base sv' ev nf ⟨W.sts ++ [⟨kindW n.op, n.peer⟩], W.eds, W.fs⟩ ∧ Kept w w' base [wb] ∧ Apart w w' (vblocks sv ++ [wb]) := by
  have H := hide h
  have HN := hide hn
  obtain ⟨i0, hi, hz0, hz1, hz2⟩ := info_parts Try.infoRState
  have HI := hide (And.intro hi (And.intro hz0 (And.intro hz1 hz2)))
  obtain ⟨ps, cs, rfl⟩ := owns_shape h.st
  obtain ⟨pe, ce, rfl⟩ := owns_shape h.ed
  have k0 := h.box.cell 0 _ rfl
  have hlt : wb < w.heap.size := h.box.lt
  have HF := hide (And.intro h.box.fz (And.intro h.low h.sz))
  obtain ⟨op, name, peer, many, sort⟩ := n
  clear h hn hi hz0 hz1 hz2
  unfold Nd.val
  go_enter Try.func129, Try.ntmps129
  go_wp2_with fail
  go_region_law (first
    | (go_simp; go_at_call 169; refine (kind_calls op _).mono ?_; rintro e w2 ⟨rfl, hw2⟩; subst hw2)
    | (go_simp; go_at_call 115; refine (clone_str peer _ HN.out.2).mono ?_; rintro e w3 ⟨rfl, hb3⟩; have HB3 : Hid (Below w.heap.size w w3) := hide ((alloc1 w _).drew.trans (hb3.mono (by simp))); have HW3 := hide (H.out.below HB3.out); have f0 := HW3.out.box.cell 0 _ rfl; have f0a : ∀ o : Obj, (w3.alloc o).cell? ⟨wb, 0, none⟩ = some (.slice ps W.sts.length cs) := (fun o => (HW3.out.box.keep (below_apart (malloc1 w3 o)) (by simp)).cell 0 _ rfl); clear hb3)
    | (refine stepM_at rfl (.tmp 17) (.tmp 25) 42 rfl base 98 i0 (.agg #[.int .i64 0, .string ByteArray.empty]) 2 24 Try.underlying42 HI.out.1 HI.out.2.1 HI.out.2.2.1 HI.out.2.2.2 rfl (by decide) (.slice ps W.sts.length cs) W.sts.length (W.sts.flatMap RState.cells) (by simp [Act.eval]) (HW3.out.st.below (malloc1 w3 (.cells #[.int .i64 (kindW op), .string peer] 98))) ⟨w3.heap.size, 0, none⟩ 1 1 (RState.cells ⟨kindW op, peer⟩) (by simp [Act.eval]) rfl (fun j u hj => new_row1 w3 _ _ j u hj) (RState.cells_one _) (by unfold maxLen; omega) (by omega) (by have := HW3.out.sz; simp; omega) ?_; intro v4 w4 hown4 hgr4 hat4; have HM4 := hide (we_push1 HW3.out ⟨kindW op, peer⟩ _ hown4 hgr4 hat4 HB3.out HF.out.2.2); have HB4 := hide (box_left HW3.out HW3.out.st (Nat.le_refl _) hgr4); have l0 := HB4.out.cell 0 _ rfl; have lz := HB4.out.fz; obtain ⟨p4, c4, rfl⟩ := owns_shape hown4; clear hown4 hgr4 hat4))
  all_goals
    go_wp2_with fail
    go_ret
    exact ⟨_, rfl, HM4.out.1, HM4.out.2.1, HM4.out.2.2⟩
end Go.Proofs.Ythaomohoiginnaa
