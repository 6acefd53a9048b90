import Derived.Test.YtaaeledleldllaaGreatQB42
import Derived.Test.YtaaeledleldllaaGreatQB08
import Derived.Test.YtaaeledleldllaaGreatQB00
import Derived.Deep.RegionLaw
import Derived.Test.YtaaeledleldllaaGreatQB40
import Derived.Deep.DrawnRows
namespace Go.Proofs.YtaaeledleldllaaGreat
open Go.RowKit
attribute [local go_sem ↓] Go.wp_at_zero Go.wp_at_succ

theorem clone_str (s : ByteArray) (w : World) (hs : s.size ≤ 1048576) :
    Calls Tryz.prog 125 #[.string s] w fun e w' => e = .returned (.string s) ∧ Below w.heap.size w w' := by
  have HS := hide hs
  clear hs
  go_enter Tryz.func125, Tryz.ntmps125
  go_wp2_with (go_at_call 166; refine (Tryz.stringslite_Clone s _ (Nat.le_trans HS.out (by omega))).mono ?_; rintro e w1 ⟨rfl, hb1⟩; have HB1 := hide hb1; clear hb1)
  go_ret
  exact ⟨rfl, HB1.out⟩
theorem kind_calls (z : Int) (w : World) : Calls Tryz.prog 214 #[.int .i64 z] w fun e w' => e = .returned (.int .i64 (kindW z)) ∧ w' = w := by
  by_cases h5 : z = 5
  · subst h5
    go_enter Tryz.func214, Tryz.ntmps214
    go_wp2_with fail
    go_ret
    exact ⟨rfl, rfl⟩
  · by_cases h6 : z = 6
    · subst h6
      go_enter Tryz.func214, Tryz.ntmps214
      go_wp2_with fail
      go_ret
      exact ⟨rfl, rfl⟩
    · have e5 : (z == 5) = false := by simpa using h5
      have e6 : (z == 6) = false := by simpa using h6
      have HK : Hid (kindW z = 0) := hide (by simp [kindW, h5, h6])
      clear h5 h6
      go_enter Tryz.func214, Tryz.ntmps214
      go_wp2_with fail
      go_ret
      exact ⟨ret_int HK.out, rfl⟩
theorem box_left {w3 w4 : World} {wb mb base nf : Nat} {sv ev : Value} {W : Wv} {o : Obj} {v : Value} {base' e size n : Nat} {xs : List Value} (h : WeAt w3 wb mb base sv ev nf W) (hv : w3.ownsRow base' e size v n xs) (hb : base ≤ base') (hg : (w3.alloc o).grownBy w4 v.ownBlock) : BoxL w4 wb [sv, ev, .int .i64 0, .map (some mb)] := by
  obtain ⟨p, cp, rfl⟩ := owns_shape hv
  have hA := (below_apart (malloc1 w3 o)).trans (grownBy_apart hg)
  rw [List.nil_append] at hA
  exact h.box.keep hA (fun hm => by have := (owns_fresh hv).lo _ hm; have := h.low; omega)
end Go.Proofs.YtaaeledleldllaaGreat
namespace Go.Proofs.YtaaeledleldllaaGreat
open Go.RowKit
attribute [local go_sem ↓] Go.wp_at_zero Go.wp_at_succ

def Short (l : List Nd) : Prop := ∀ n ∈ l, n.name.size ≤ 1048576 ∧ n.peer.size ≤ 1048576
def Added (w w' : World) (B wb mb base nf : Nat) (e : Ending) (l r : List Nd) (i : Int) (W : Wv) : Prop :=
  ∃ v' sv' ev' nf', e = .returned (.tuple #[.int .i64 i, v']) ∧ SlAt w' B v' r ∧ WeAt w' wb mb base sv' ev' nf' W ∧ nf' + r.length ≤ nf + l.length ∧ Kept w w' base [wb, mb]
structure Fits (l : List Nd) (W : Wv) (nf : Nat) : Prop where
  sts : W.sts.length + l.length ≤ 900
  eds : W.eds.length + l.length ≤ 900
  nfs : nf + l.length ≤ 900
def AddCalls (f : Nat) : Prop := ∀ (st l r : List Nd) (v : Value) (w : World) (B wb mb base nf : Nat) (sv ev : Value) (W : Wv), ahead (talkS true) f st l = some r → Short l → SlAt w B v l → B ≤ base → B ≤ wb → B ≤ mb → WeAt w wb mb base sv ev nf W → Fits l W nf →
  Calls Tryz.prog 204 #[.pointer (some ⟨wb, 0, none⟩), v] w fun e w' => Added w w' B wb mb base nf e l r (wv f l W).1 (wv f l W).2.2
theorem below_kept {w w' : World} {base : Nat} {l : List Nat} (h : Below w.heap.size w w') (hb : base ≤ w.heap.size) : Kept w w' base l := (below_apart h).kept hb (by simp)
set_option maxRecDepth 100000 in
set_option maxHeartbeats 1000000 in
theorem add_var (name peer : ByteArray) (many sort : Int) (l1 : List Nd) (w : World) (B wb mb base nf b o cap : Nat) (sv ev : Value) (W : Wv)
    (hname : name.size ≤ 1048576) (hbB : b < B) (hB : B ≤ base ∧ B ≤ wb ∧ B ≤ mb) (hc1 : (⟨1, name, peer, many, sort⟩ :: l1 : List Nd).length ≤ cap) (hc2 : cap ≤ 9223372036854775807 ∧ l1.length < 4294967296) (hrow : RowAt w b o (⟨1, name, peer, many, sort⟩ :: l1)) (h : WeAt w wb mb base sv ev nf W) :
    Calls Tryz.prog 204 #[.pointer (some ⟨wb, 0, none⟩), .slice (some ⟨b, o, none⟩) (⟨1, name, peer, many, sort⟩ :: l1 : List Nd).length cap] w fun e w' => Added w w' B wb mb base nf e (⟨1, name, peer, many, sort⟩ :: l1) l1 (W.fs name) W := by
  have H := hide h
  have HB := hide hB
  have HBS : Hid (B ≤ w.heap.size) := hide (by have := h.sz; omega)
  have HT : Hid (∀ ao, (cap ≠ 1 → ao = some ⟨b, o + 5, none⟩) → SlAt w B (.slice ao l1.length (cap - 1)) l1) := hide (fun ao ha => SlAt.tail hbB hrow hc1 hc2 ao ha)
  have k3 := h.box.cell 3 _ rfl
  have hwb : wb < w.heap.size := h.box.lt
  have hlk : ∀ W' : World, W' = (w.alloc (.cells #[.int .i64 1, .string name, .string peer, .int .i64 many, .int .i64 sort] 68)).drew.drew → (Instr.lookup 262 (.map (some mb)) (.string name) false).run Tryz.prog W' = .ok (.int .i64 (W.fs name)) W' := fun W' e => by
    rw [e]
    exact fs_look ((h.below ((alloc1 w _).drew.drew)).fs) (by unfold maxLen; omega)
  have hlk2 := hlk _ rfl
  simp only [List.length_cons] at hc1
  obtain ⟨⟨c0, c1, c2, c3, c4⟩, -⟩ := hrow
  dsimp only at c0 c1 c2 c3 c4
  have hbw : b < w.heap.size := World.block_lt_of_cell? w _ c0
  have hz : ((l1.length : Int) + 1 == 0) = false := beq_eq_false_iff_ne.2 (by omega)
  clear h hB hlk
  by_cases hcap : cap = 1
  · subst hcap
    obtain rfl : l1 = [] := List.length_eq_zero_iff.1 (by omega)
    go_enter Tryz.func204, Tryz.ntmps204
    go_wp2_with fail
    go_region
    go_wp2_with fail
    go_region
    go_wp2_with fail
    go_ret2
    exact ⟨_, _, _, nf, rfl, (HT.out _ (fun h => absurd rfl h)).carry ((alloc1 w _).drew.drew.mono HBS.out), H.out.below (alloc1 w _).drew.drew, by simp, below_kept (alloc1 w _).drew.drew H.out.sz⟩
  · go_enter Tryz.func204, Tryz.ntmps204
    go_wp2_with fail
    go_region
    go_wp2_with fail
    go_region
    go_wp2_with fail
    go_ret2
    exact ⟨_, _, _, nf, rfl, (HT.out _ (fun _ => rfl)).carry ((alloc1 w _).drew.drew.mono HBS.out), H.out.below (alloc1 w _).drew.drew, by simp, below_kept (alloc1 w _).drew.drew H.out.sz⟩
theorem we_put {w w2 : World} {wb mb base nf : Nat} {sv ev : Value} {W : Wv} {fs' : ByteArray → Int} (h : WeAt w wb mb base sv ev nf W) (hf : FsAt w2 mb (nf + 1) fs') (ha : Apart w w2 [mb]) : WeAt w2 wb mb base sv ev (nf + 1) ⟨W.sts, W.eds, fs'⟩ :=
  have hl := h.low
  ⟨h.box.keep ha (by simp; omega), h.st.keep ha (fun b hb hm => by have := h.st.fresh.lo b hb; simp at hm; omega), h.ed.keep ha (fun b hb hm => by have := h.ed.fresh.lo b hb; simp at hm; omega), hf, h.dis, hl, Nat.le_trans h.sz ha.size⟩
theorem added_on {w w2 w' : World} {B wb mb base nf nf2 : Nat} {e : Ending} {l l2 r : List Nd} {i : Int} {W : Wv} (hk : Kept w w2 base [wb, mb]) (hn : nf2 + l2.length ≤ nf + l.length) (h : Added w2 w' B wb mb base nf2 e l2 r i W) : Added w w' B wb mb base nf e l r i W := by
  obtain ⟨v', sv', ev', nf', h1, h2, h3, h4, h5⟩ := h
  exact ⟨v', sv', ev', nf', h1, h2, h3, by omega, hk.trans h5⟩
set_option maxRecDepth 100000 in
set_option maxHeartbeats 2000000 in
theorem add_rec (f : Nat) (hf : AddCalls f) (st : List Nd) (name peer : ByteArray) (many sort : Int) (l1 r : List Nd) (w : World) (B wb mb base nf b o cap : Nat) (sv ev : Value) (W : Wv) (hsh : Short (⟨2, name, peer, many, sort⟩ :: l1)) (ha : ahead (talkS true) f (⟨2, name, peer, many, sort⟩ :: st) l1 = some r)
    (hbB : b < B) (hB : B ≤ base ∧ B ≤ wb ∧ B ≤ mb) (hc1 : (⟨2, name, peer, many, sort⟩ :: l1 : List Nd).length ≤ cap) (hc2 : cap ≤ 9223372036854775807 ∧ l1.length < 4294967296) (hrow : RowAt w b o (⟨2, name, peer, many, sort⟩ :: l1)) (h : WeAt w wb mb base sv ev nf W) (hfit : Fits (⟨2, name, peer, many, sort⟩ :: l1) W nf) :
    Calls Tryz.prog 204 #[.pointer (some ⟨wb, 0, none⟩), .slice (some ⟨b, o, none⟩) (⟨2, name, peer, many, sort⟩ :: l1 : List Nd).length cap] w fun e w' => Added w w' B wb mb base nf e (⟨2, name, peer, many, sort⟩ :: l1) r (wv f l1 ⟨W.sts, W.eds, fun x => if x = name then (W.sts.length : Int) else W.fs x⟩).1 (wv f l1 ⟨W.sts, W.eds, fun x => if x = name then (W.sts.length : Int) else W.fs x⟩).2.2 := by
  have H := hide h
  have HB := hide hB
  have hne : l1 ≠ [] := by rintro rfl; cases f <;> cases ha
  have hpos : 0 < l1.length := List.length_pos_iff.2 hne
  have hcap : cap ≠ 1 := by simp only [List.length_cons] at hc1; omega
  have HT : Hid (SlAt w B (.slice (some ⟨b, o + 5, none⟩) l1.length (cap - 1)) l1) := hide (SlAt.tail hbB hrow hc1 hc2 _ (fun _ => rfl))
  obtain ⟨ps, cs, rfl⟩ := owns_shape h.st
  have k3 := h.box.cell 3 _ rfl
  have k0 := h.box.cell 0 _ rfl
  have hwb : wb < w.heap.size := h.box.lt
  obtain ⟨V, hV⟩ : ∃ V, V = (w.alloc (.cells #[.int .i64 2, .string name, .string peer, .int .i64 many, .int .i64 sort] 68)).drew.drew := ⟨_, rfl⟩
  have hbV : Below w.heap.size w V := by rw [hV]; exact (alloc1 w _).drew.drew
  have hWV := h.below hbV
  have hn := (hsh _ (List.mem_cons_self)).1
  have hf1 := hfit.sts
  have hf2 := hfit.eds
  have hf3 := hfit.nfs
  simp only [List.length_cons] at hf1 hf2 hf3
  obtain ⟨w2, hrun, hfs2, ha2⟩ := fs_put (t := name) (z := (W.sts.length : Int)) hWV.fs (by dsimp only at hn; unfold maxLen; omega) (by omega) (by omega)
  have hW2 := we_put hWV hfs2 ha2
  have hK2 : Kept w w2 base [wb, mb] := (below_kept hbV h.sz).trans (ha2.kept hWV.sz (by simp))
  have HAD : Hid (Calls Tryz.prog 204 #[.pointer (some ⟨wb, 0, none⟩), .slice (some ⟨b, o + 5, none⟩) l1.length (cap - 1)] w2 fun e w' => Added w w' B wb mb base nf e (⟨2, name, peer, many, sort⟩ :: l1) r (wv f l1 ⟨W.sts, W.eds, fun x => if x = name then (W.sts.length : Int) else W.fs x⟩).1 (wv f l1 ⟨W.sts, W.eds, fun x => if x = name then (W.sts.length : Int) else W.fs x⟩).2.2) := hide ((hf _ l1 r _ w2 B wb mb base (nf + 1) _ ev _ ha (fun n hn => hsh n (List.mem_cons_of_mem _ hn)) (hK2.sl hB.1 (by intro x hx; simp at hx; rcases hx with rfl | rfl; exact hB.2.1; exact hB.2.2) HT.out) hB.1 hB.2.1 hB.2.2 hW2 ⟨by dsimp only; omega, by dsimp only; omega, by omega⟩).mono fun e w' hA => added_on hK2 (by simp only [List.length_cons]; omega) hA)
  rw [hV] at hrun
  simp only [List.length_cons] at hc1
  obtain ⟨⟨c0, c1, c2, c3, c4⟩, -⟩ := hrow
  dsimp only at c0 c1 c2 c3 c4
  have hbw : b < w.heap.size := World.block_lt_of_cell? w _ c0
  have hz : ((l1.length : Int) + 1 == 0) = false := beq_eq_false_iff_ne.2 (by omega)
  clear h hB hf ha hsh hfit hf1 hf2 hf3 hfs2 ha2 hW2 hK2 hWV hbV hn hV
  go_enter Tryz.func204, Tryz.ntmps204
  go_wp2_with fail
  go_region
  go_wp2_with fail
  go_region
  go_wp2_with (go_at_call 204; refine HAD.out.mono ?_; rintro e w' ⟨v', sv', ev', nf', rfl, h2, h3, h4, h5⟩; have H2 := hide h2; have H3 := hide h3; have H4 := hide h4; have H5 := hide h5; clear h2 h3 h4 h5)
  go_ret2
  exact ⟨_, _, _, _, rfl, H2.out, H3.out, H4.out, H5.out⟩
end Go.Proofs.YtaaeledleldllaaGreat
namespace Go.Proofs.YtaaeledleldllaaGreat
open Go.RowKit
attribute [local go_sem ↓] Go.wp_at_zero Go.wp_at_succ

set_option maxRecDepth 100000 in
set_option maxHeartbeats 4000000 in
theorem add_state (n : Nd) (w : World) (wb mb base nf : Nat) (sv ev : Value) (W : Wv) (hn : n.name.size ≤ 1048576 ∧ n.peer.size ≤ 1048576) (hl : W.sts.length ≤ 1000) (h : WeAt w wb mb base sv ev nf W) :
    Calls Tryz.prog 209 #[.pointer (some ⟨wb, 0, none⟩), n.val] w fun e w' => ∃ sv', e = .returned (.int .i64 (W.sts.length : Int)) ∧ WeAt w' wb mb base sv' ev nf ⟨W.sts ++ [⟨kindW n.op, n.peer⟩], W.eds, W.fs⟩ ∧ Kept w w' base [wb] ∧ Apart w w' (vblocks sv ++ [wb]) := by
  have H := hide h
  have HN := hide hn
  obtain ⟨i0, hi, hz0, hz1, hz2⟩ := info_parts Tryz.infoRState
  have HI := hide (And.intro hi (And.intro hz0 (And.intro hz1 hz2)))
  obtain ⟨ps, cs, rfl⟩ := owns_shape h.st
  obtain ⟨pe, ce, rfl⟩ := owns_shape h.ed
  have k0 := h.box.cell 0 _ rfl
  have hlt : wb < w.heap.size := h.box.lt
  have HF := hide (And.intro h.box.fz (And.intro h.low h.sz))
  obtain ⟨op, name, peer, many, sort⟩ := n
  clear h hn hi hz0 hz1 hz2
  unfold Nd.val
  go_enter Tryz.func209, Tryz.ntmps209
  go_wp2_with fail
  go_region_law (first
    | (go_simp; go_at_call 214; refine (kind_calls op _).mono ?_; rintro e w2 ⟨rfl, hw2⟩; subst hw2)
    | (go_simp; go_at_call 125; refine (clone_str peer _ HN.out.2).mono ?_; rintro e w3 ⟨rfl, hb3⟩; have HB3 : Hid (Below w.heap.size w w3) := hide ((alloc1 w _).drew.trans (hb3.mono (by simp))); have HW3 := hide (H.out.below HB3.out); have f0 := HW3.out.box.cell 0 _ rfl; have f0a : ∀ o : Obj, (w3.alloc o).cell? ⟨wb, 0, none⟩ = some (.slice ps W.sts.length cs) := (fun o => (HW3.out.box.keep (below_apart (malloc1 w3 o)) (by simp)).cell 0 _ rfl); clear hb3)
    | (refine stepM_at rfl (.tmp 17) (.tmp 25) 56 rfl base 103 i0 (.agg #[.int .i64 0, .string ByteArray.empty]) 2 24 Tryz.underlying56 HI.out.1 HI.out.2.1 HI.out.2.2.1 HI.out.2.2.2 rfl (by decide) (.slice ps W.sts.length cs) W.sts.length (W.sts.flatMap RState.cells) (by simp [Act.eval]) (HW3.out.st.below (malloc1 w3 (.cells #[.int .i64 (kindW op), .string peer] 103))) ⟨w3.heap.size, 0, none⟩ 1 1 (RState.cells ⟨kindW op, peer⟩) (by simp [Act.eval]) rfl (fun j u hj => new_row1 w3 _ _ j u hj) (RState.cells_one _) (by unfold maxLen; omega) (by omega) (by have := HW3.out.sz; simp; omega) ?_; intro v4 w4 hown4 hgr4 hat4; have HM4 := hide (we_push1 HW3.out ⟨kindW op, peer⟩ _ hown4 hgr4 hat4 HB3.out HF.out.2.2); have HB4 := hide (box_left HW3.out HW3.out.st (Nat.le_refl _) hgr4); have l0 := HB4.out.cell 0 _ rfl; have lz := HB4.out.fz; obtain ⟨p4, c4, rfl⟩ := owns_shape hown4; clear hown4 hgr4 hat4))
  all_goals
    go_wp2_with fail
    go_ret
    exact ⟨_, rfl, HM4.out.1, HM4.out.2.1, HM4.out.2.2⟩
end Go.Proofs.YtaaeledleldllaaGreat
namespace Go.Proofs.YtaaeledleldllaaGreat
open Go.RowKit
attribute [local go_sem ↓] Go.wp_at_zero Go.wp_at_succ

set_option maxRecDepth 100000 in
set_option maxHeartbeats 4000000 in
theorem add_edge (n : Nd) (from_ to_ : Int) (w : World) (wb mb base nf : Nat) (sv ev : Value) (W : Wv) (hn : n.name.size ≤ 1048576 ∧ n.peer.size ≤ 1048576) (hl : W.eds.length ≤ 1000) (h : WeAt w wb mb base sv ev nf W) :
    Calls Tryz.prog 210 #[.pointer (some ⟨wb, 0, none⟩), .int .i64 from_, n.val, .int .i64 to_] w fun e w' => ∃ ev', e = .returned (.tuple #[]) ∧ WeAt w' wb mb base sv ev' nf ⟨W.sts, W.eds ++ [⟨from_, n.name, n.sort, to_⟩], W.fs⟩ ∧ Kept w w' base [wb] ∧ Apart w w' (vblocks ev ++ [wb]) := by
  have H := hide h
  have HN := hide hn
  obtain ⟨i0, hi, hz0, hz1, hz2⟩ := info_parts Tryz.infoREdge
  have HI := hide (And.intro hi (And.intro hz0 (And.intro hz1 hz2)))
  obtain ⟨ps, cs, rfl⟩ := owns_shape h.st
  obtain ⟨pe, ce, rfl⟩ := owns_shape h.ed
  have k0 := h.box.cell 1 _ rfl
  have hlt : wb < w.heap.size := h.box.lt
  have HF := hide (And.intro h.box.fz (And.intro h.low h.sz))
  obtain ⟨op, name, peer, many, sort⟩ := n
  clear h hn hi hz0 hz1 hz2
  unfold Nd.val
  go_enter Tryz.func210, Tryz.ntmps210
  go_wp2_with fail
  go_region_law (first
    | (go_simp; go_at_call 125; refine (clone_str name _ HN.out.1).mono ?_; rintro e w3 ⟨rfl, hb3⟩; have HB3 : Hid (Below w.heap.size w w3) := hide ((alloc1 w _).drew.trans (hb3.mono (by simp))); have HW3 := hide (H.out.below HB3.out); have f0 := HW3.out.box.cell 1 _ rfl; have f0a : ∀ o : Obj, (w3.alloc o).cell? ⟨wb, 1, none⟩ = some (.slice pe W.eds.length ce) := (fun o => (HW3.out.box.keep (below_apart (malloc1 w3 o)) (by simp)).cell 1 _ rfl); have g4 : w3.cell? ⟨w.heap.size, 4, none⟩ = some (.int .i64 sort) := (hb3.cell (p := ⟨w.heap.size, 4, none⟩) (by simp)).trans (by simp); clear hb3)
    | (refine stepM_at rfl (.tmp 13) (.tmp 22) 57 rfl base 154 i0 (.agg #[.int .i64 0, .string ByteArray.empty, .int .i64 0, .int .i64 0]) 4 40 Tryz.underlying57 HI.out.1 HI.out.2.1 HI.out.2.2.1 HI.out.2.2.2 rfl (by decide) (.slice pe W.eds.length ce) W.eds.length (W.eds.flatMap REdge.cells) (by simp [Act.eval]) (HW3.out.ed.below (malloc1 w3 (.cells #[.int .i64 from_, .string name, .int .i64 sort, .int .i64 to_] 154))) ⟨w3.heap.size, 0, none⟩ 1 1 (REdge.cells ⟨from_, name, sort, to_⟩) (by simp [Act.eval]) rfl (fun j u hj => new_row1 w3 _ _ j u hj) (REdge.cells_one _) (by unfold maxLen; omega) (by omega) (by have := HW3.out.sz; simp; omega) ?_; intro v4 w4 hown4 hgr4 hat4; have HM4 := hide (we_push2 HW3.out ⟨from_, name, sort, to_⟩ _ hown4 hgr4 hat4 HB3.out HF.out.2.2); have HB4 := hide (box_left HW3.out HW3.out.ed (Nat.le_refl _) hgr4); have l0 := HB4.out.cell 1 _ rfl; have lz := HB4.out.fz; obtain ⟨p4, c4, rfl⟩ := owns_shape hown4; clear hown4 hgr4 hat4))
  all_goals
    go_wp2_with fail
    go_end0
    exact ⟨_, rfl, HM4.out.1, HM4.out.2.1, HM4.out.2.2⟩
end Go.Proofs.YtaaeledleldllaaGreat
namespace Go.Proofs.YtaaeledleldllaaGreat
open Go.RowKit
attribute [local go_sem ↓] Go.wp_at_zero Go.wp_at_succ

def isSt (n : Nd) : Bool := n.op == 0 || n.op == 5 || n.op == 6
def cntS (all : List Nd) (pos : Nat) : Nat := ((all.take pos).filter isSt).length
theorem cntS_succ {all : List Nd} {pos : Nat} (h : pos < all.length) : cntS all (pos + 1) = cntS all pos + (if isSt all[pos] then 1 else 0) := by
  unfold cntS
  rw [List.take_succ_eq_append_getElem h, List.filter_append, List.length_append]
  cases hb : isSt all[pos] <;> simp [hb]
theorem cntS_le (all : List Nd) (pos : Nat) : cntS all pos ≤ pos := by
  unfold cntS
  have h1 := List.length_filter_le isSt (all.take pos)
  have h2 : (all.take pos).length ≤ pos := by simp; omega
  omega
structure FirAt (w : World) (xb B : Nat) (all : List Nd) (ns : List ByteArray) (fis : List Int) : Prop where
  c0 : ∃ v, w.cell? ⟨xb, 0, none⟩ = some v ∧ SlAt w B v all
  nm : ∃ g cap, w.cell? ⟨xb, 4, none⟩ = some (.slice g ns.length cap) ∧ ∀ j (h : j < ns.length), ∃ b o, g = some ⟨b, o, none⟩ ∧ b < B ∧ w.cell? ⟨b, o + j, none⟩ = some (.string ns[j])
  fi : ∃ g cap, w.cell? ⟨xb, 5, none⟩ = some (.slice g fis.length cap) ∧ ∀ j (h : j < fis.length), ∃ b o, g = some ⟨b, o, none⟩ ∧ b < B ∧ w.cell? ⟨b, o + j, none⟩ = some (.int .i64 fis[j])
  lx : xb < B
theorem FirAt.below {w w' : World} {xb B : Nat} {all : List Nd} {ns : List ByteArray} {fis : List Int} (h : FirAt w xb B all ns fis) (hb : Below B w w') : FirAt w' xb B all ns fis := by
  obtain ⟨⟨v, h1, h2⟩, ⟨g, cap, h3, h4⟩, ⟨g', cap', h5, h6⟩, h7⟩ := h
  refine ⟨⟨v, (hb.cell (p := ⟨xb, 0, none⟩) h7).trans h1, h2.carry hb⟩, ⟨g, cap, (hb.cell (p := ⟨xb, 4, none⟩) h7).trans h3, fun j hj => ?_⟩, ⟨g', cap', (hb.cell (p := ⟨xb, 5, none⟩) h7).trans h5, fun j hj => ?_⟩, h7⟩
  · obtain ⟨b, o, e1, e2, e3⟩ := h4 j hj
    exact ⟨b, o, e1, e2, (hb.cell (p := ⟨b, o + j, none⟩) e2).trans e3⟩
  · obtain ⟨b, o, e1, e2, e3⟩ := h6 j hj
    exact ⟨b, o, e1, e2, (hb.cell (p := ⟨b, o + j, none⟩) e2).trans e3⟩
theorem look_at : ∀ {ns : List ByteArray} {fis : List Int} {t : ByteArray} {k : Nat}, fis.length = ns.length → (∀ j (h : j < ns.length), j < k → (ns[j].toList == t.toList) = false) → (hk : k < ns.length) → (ns[k].toList == t.toList) = true → ∀ (hf : k < fis.length), lookN ns fis t = fis[k]
  | x :: ns, z :: fis, t, 0, _, _, _, h, _ => by rw [lookN]; simp only [List.getElem_cons_zero] at h ⊢; rw [if_pos h]
  | x :: ns, z :: fis, t, k + 1, hl, hn, hk, h, hf => by
    have h0 := hn 0 (by simp) (by omega)
    simp only [List.getElem_cons_zero] at h0
    rw [lookN, h0]
    simp only [List.getElem_cons_succ] at h ⊢
    exact look_at (by simpa using hl) (fun j hj hjk => by have := hn (j + 1) (by simpa using hj) (by omega); simpa using this) (by simpa using hk) h (by simpa using hf)
theorem look_no {ns : List ByteArray} {fis : List Int} {t : ByteArray} (hn : ∀ j (h : j < ns.length), (ns[j].toList == t.toList) = false) : lookN ns fis t = 0 := by
  refine look_none ?_
  cases h : hasB ns t
  · rfl
  · simp only [hasB, List.any_eq_true] at h
    obtain ⟨x, hx, h2⟩ := h
    obtain ⟨j, hj, rfl⟩ := List.getElem_of_mem hx
    rw [hn j hj] at h2; cases h2
end Go.Proofs.YtaaeledleldllaaGreat
namespace Go.Proofs.YtaaeledleldllaaGreat
open Go.RowKit

def cntL (l : List Nd) : Nat := (l.filter isSt).length
theorem cntL_cons (n : Nd) (l : List Nd) : cntL (n :: l) = cntL l + (if isSt n then 1 else 0) := by
  unfold cntL
  cases h : isSt n <;> simp [h]
theorem cntS_drop (all : List Nd) (pos : Nat) : cntS all pos + cntL (all.drop pos) = cntL all := by
  unfold cntS cntL
  rw [← List.length_append, ← List.filter_append, List.take_append_drop]
structure SvGrows (l r : List Nd) (S : List RState × List REdge) (o : List Nd × List RState × List REdge) : Prop where
  rest : o.1 = r
  sts : o.2.1.length + cntL r = S.1.length + cntL l
  eds : o.2.2.length + r.length ≤ S.2.length + l.length
theorem insE_len (e : REdge) (l : List REdge) : (insE e l).length = l.length + 1 := by
  have := congrArg List.length (List.takeWhile_append_dropWhile (p := fun x => mlessE x e) (l := l))
  simp only [insE, List.length_append, List.length_cons] at *
  omega
def SvOk (f : Nat) : Prop := ∀ (st l r : List Nd) (ns : List ByteArray) (fis : List Int) (S : List RState × List REdge), ahead (talkS true) f st l = some r → SvGrows l r S (sv f ns fis l S)
theorem svKids_ok {f : Nat} (hf : SvOk f) (st : List Nd) (ns : List ByteArray) (fis : List Int) (s : Int) : ∀ (m : Nat) (ls : List ByteArray) (l r : List Nd) (S : List RState × List REdge), kidsBy (ahead (talkS true) f st) m ls l = some r → SvGrows l r S (svKids (sv f ns fis) (fun l k => firstOf ns fis k l) s m l S)
  | 0, ls, l, r, S, h => by
    rw [kidsBy] at h
    injection h with h
    subst h
    exact ⟨rfl, rfl, Nat.le_refl _⟩
  | m + 1, ls, [], r, S, h => by cases h
  | m + 1, ls, c :: l, r, S, h => by
    rw [kidsBy] at h
    split at h
    · rename_i hc
      split at h
      · cases h
      · rename_i r1 hr1
        have g1 := hf st l r1 ns fis (S.1, insE ⟨s, c.name, c.sort, firstOf ns fis S.1.length l⟩ S.2) hr1
        have hc4 : isSt c = false := by
          simp only [caseB, Bool.and_eq_true, beq_iff_eq] at hc
          unfold isSt
          rw [hc.1.1.1.1.1]
          rfl
        have e : svKids (sv f ns fis) (fun l k => firstOf ns fis k l) s (m + 1) (c :: l) S = svKids (sv f ns fis) (fun l k => firstOf ns fis k l) s m (sv f ns fis l (S.1, insE ⟨s, c.name, c.sort, firstOf ns fis S.1.length l⟩ S.2)).1 (sv f ns fis l (S.1, insE ⟨s, c.name, c.sort, firstOf ns fis S.1.length l⟩ S.2)).2 := rfl
        rw [e]
        obtain ⟨X, hX⟩ : ∃ X, sv f ns fis l (S.1, insE ⟨s, c.name, c.sort, firstOf ns fis S.1.length l⟩ S.2) = X := ⟨_, rfl⟩
        rw [hX] at g1 ⊢
        obtain rfl : X.1 = r1 := g1.rest
        have g2 := svKids_ok hf st ns fis s m (ls ++ [c.name]) X.1 r X.2 h
        refine ⟨g2.rest, ?_, ?_⟩
        · have h1 := g1.sts
          have h2 := g2.sts
          rw [cntL_cons, hc4]
          simp only [Bool.false_eq_true, if_false]
          dsimp only at h1
          omega
        · have h1 := g1.eds
          have h2 := g2.eds
          dsimp only at h1
          rw [insE_len] at h1
          simp only [List.length_cons]
          omega
    · cases h
theorem sv_ok : ∀ f : Nat, SvOk f := by
  intro f
  induction f with
  | zero =>
    intro st l r ns fis S h
    cases l with
    | nil => cases h
    | cons n l =>
      rw [sv]
      by_cases h1 : n.op = 1
      · rw [if_pos (by simpa using h1)]
        rw [ahead_1 h1] at h
        split at h
        · injection h with h
          subst h
          exact ⟨rfl, by rw [cntL_cons]; simp [isSt, h1], by simp⟩
        · cases h
      · rw [if_neg (by simpa using h1)]
        by_cases h0 : n.op = 0
        · rw [ahead_0 h0] at h
          split at h
          · injection h with h
            subst h
            exact ⟨rfl, by rw [cntL_cons]; simp [isSt, h0]; omega, by simp⟩
          · cases h
        · rw [ahead_t0 h0 h1] at h; cases h
  | succ f ih =>
    intro st l r ns fis S h
    cases l with
    | nil => cases h
    | cons n l =>
      rw [sv]
      by_cases h1 : n.op = 1
      · rw [if_pos (by simpa using h1)]
        rw [ahead_1 h1] at h
        split at h
        · injection h with h
          subst h
          exact ⟨rfl, by rw [cntL_cons]; simp [isSt, h1], by simp⟩
        · cases h
      · rw [if_neg (by simpa using h1)]
        by_cases h2 : n.op = 2
        · rw [if_pos (by simpa using h2)]
          rw [ahead_2 h2] at h
          split at h
          · have g := ih _ l r (ns ++ [n.name]) (fis ++ [firstOf (ns ++ [n.name]) (fis ++ [0]) S.1.length l]) S h
            exact ⟨g.rest, by have := g.sts; rw [cntL_cons]; simp [isSt, h2]; exact this, by have := g.eds; simp only [List.length_cons]; omega⟩
          · cases h
        · rw [if_neg (by simpa using h2)]
          by_cases h0 : n.op = 0
          · rw [ahead_0 h0] at h
            split at h
            · rename_i he
              injection h with h
              subst h
              have hm : n.many = 0 := by
                simp only [endB, Bool.and_eq_true, beq_iff_eq] at he
                exact he.1.2
              rw [hm]
              exact ⟨rfl, by rw [cntL_cons]; simp [isSt, h0, svKids]; omega, by simp [svKids]⟩
            · cases h
          · rw [ahead_t h0 h1 h2] at h
            split at h
            · rename_i ht
              have g := svKids_ok ih (n :: st) ns fis (S.1.length : Int) n.many.toNat [] l r (S.1 ++ [⟨kindW n.op, n.peer⟩], S.2) h
              have hs : isSt n = true := by
                simp only [talkS, Bool.and_eq_true, Bool.or_eq_true, beq_iff_eq, if_true] at ht
                unfold isSt
                rcases ht.2.2 with e | e <;> rw [e] <;> rfl
              exact ⟨g.rest, by have := g.sts; rw [cntL_cons, hs]; simp only [List.length_append, List.length_cons, List.length_nil, if_true] at *; omega, by have := g.eds; simp only [List.length_cons] at *; omega⟩
            · cases h
theorem left_at {all r : List Nd} {pos : Nat} (h : r <:+ all.drop pos) : r = all.drop (all.length - r.length) ∧ all.length - r.length ≤ all.length ∧ r.length ≤ all.length - pos := by
  have h1 := h.trans (List.drop_suffix pos all)
  have h2 := h.length_le
  rw [List.length_drop] at h2
  exact ⟨List.suffix_iff_eq_drop.1 h1, by omega, h2⟩
end Go.Proofs.YtaaeledleldllaaGreat
namespace Go.Proofs.YtaaeledleldllaaGreat
open Go.RowKit
attribute [local go_sem ↓] Go.wp_at_zero Go.wp_at_succ

def FirstCalls (all : List Nd) (ns : List ByteArray) (fis : List Int) (d : Nat) : Prop := ∀ (pos xb B : Nat) (w : World), all.length - pos = d → ¬ (∀ n ∈ all.drop pos, n.op = 2) → FirAt w xb B all ns fis → B ≤ w.heap.size →
  Calls Tryz.prog 180 #[.pointer (some ⟨xb, 0, none⟩), .int .i64 (pos : Int)] w fun e w' => e = .returned (.int .i64 (firstOf ns fis (cntS all pos) (all.drop pos))) ∧ Below w.heap.size w w'
set_option maxRecDepth 100000 in
set_option maxHeartbeats 2000000 in
theorem first_var (all : List Nd) (ns : List ByteArray) (fis : List Int) (hl : fis.length = ns.length) (hns : ns.length ≤ 1000) (pos xb B : Nat) (w : World) (hpos : pos < all.length) (hall : all.length ≤ 400) (hop : all[pos].op = 1) (h : FirAt w xb B all ns fis) (hB : B ≤ w.heap.size) :
    Calls Tryz.prog 180 #[.pointer (some ⟨xb, 0, none⟩), .int .i64 (pos : Int)] w fun e w' => e = .returned (.int .i64 (lookN ns fis all[pos].name)) ∧ Below w.heap.size w w' := by
  have H := hide h
  obtain ⟨⟨v, c0, hsl⟩, ⟨gn, capn, c4, hnm⟩, ⟨gf, capf, c5, hfi⟩, hx⟩ := h
  obtain ⟨ao, cap, rfl, hc1, hc2, hr⟩ := hsl
  obtain ⟨b, o, rfl, hb, hrow⟩ := hr (by rintro rfl; simp at hpos)
  have hnode := hrow.get pos hpos
  obtain ⟨x1, hx1⟩ : ∃ x, x = all[pos] := ⟨_, rfl⟩
  rw [← hx1] at hnode hop ⊢
  obtain ⟨op, name, peer, many, sort⟩ := x1
  dsimp only at hop
  subst hop
  obtain ⟨d0, d1, d2, d3, d4⟩ := hnode
  dsimp only at d0 d1 d2 d3 d4
  have HNM := hide hnm
  have HFI := hide hfi
  have HBB := hide hB
  have HX := hide hx
  clear hx1 hrow hr
  go_enter Tryz.func180, Tryz.ntmps180
  go_wp2_with fail
  have HB1 : Hid (∀ o : Obj, Below w.heap.size w (w.alloc o)) := hide (malloc1 w)
  go_loopw [6] (fun i wr => ∃ k : Nat, k ≤ ns.length ∧ i = .int .i64 k ∧ (∀ j (h : j < ns.length), j < k → (ns[j].toList == name.toList) = false) ∧ wr.cell? ⟨w.heap.size, 1, none⟩ = some (.string name) ∧ Below w.heap.size w wr) (fun i _ => ns.length - (intOf i).toNat)
  case atStart => exact ⟨0, Nat.zero_le _, rfl, fun j _ h => absurd h (by omega), by simp, malloc1 w _⟩
  case round =>
    obtain ⟨k, hk, rfl, hno, hnc, hbel⟩ := hrel
    have HNO := hide hno
    have HBEL := hide hbel
    have HF := hide (H.out.below (hbel.mono HBB.out))
    have e0 := (hbel.cell (p := ⟨xb, 4, none⟩) (Nat.lt_of_lt_of_le HX.out HBB.out)).trans c4
    have e5 := (hbel.cell (p := ⟨xb, 5, none⟩) (Nat.lt_of_lt_of_le HX.out HBB.out)).trans c5
    clear hno hbel
    by_cases hlt : k < ns.length
    · obtain ⟨bn, on_, rfl, hbn, hcn⟩ := HNM.out k hlt
      have hltf : k < fis.length := by omega
      obtain ⟨bf, of_, rfl, hbf, hcf⟩ := HFI.out k hltf
      have n0 := (HBEL.out.cell (p := ⟨bn, on_ + k, none⟩) (Nat.lt_of_lt_of_le hbn HBB.out)).trans hcn
      have f0 := (HBEL.out.cell (p := ⟨bf, of_ + k, none⟩) (Nat.lt_of_lt_of_le hbf HBB.out)).trans hcf
      obtain ⟨s1, hs1⟩ : ∃ s, ns[k] = s := ⟨_, rfl⟩
      obtain ⟨z1, hz1⟩ : ∃ z, fis[k] = z := ⟨_, rfl⟩
      rw [hs1] at n0
      rw [hz1] at f0
      have HS1 := hide hs1
      have HZ1 := hide hz1
      clear hs1 hz1 hcn hcf
      cases heq : (s1.toList == name.toList)
      · go_wp2_with fail
        go_region
        go_wp2_with fail
        go_roundw
        case rel =>
          refine ⟨k + 1, hlt, by go_num, fun j hj hjk => ?_, hnc, HBEL.out.drew⟩
          by_cases hjk' : j = k
          · subst hjk'; rw [HS1.out]; exact heq
          · exact HNO.out j hj (by omega)
        case measure => simp [intOf]; omega
      · go_wp2_with fail
        go_region
        go_wp2_with fail
        go_ret
        refine ⟨ret_int ?_, HBEL.out.drew⟩
        rw [look_at hl HNO.out hlt (by rw [HS1.out]; exact heq) hltf, HZ1.out]
    · obtain rfl : k = ns.length := by omega
      go_wp2_with fail
      go_ret
      exact ⟨ret_int (look_no (fun j hj => HNO.out j hj hj)), HBEL.out⟩
set_option maxRecDepth 100000 in
set_option maxHeartbeats 2000000 in
theorem first_rec (all : List Nd) (ns : List ByteArray) (fis : List Int) (d : Nat) (hd : FirstCalls all ns fis d) (pos xb B : Nat) (w : World) (hpd : all.length - (pos + 1) = d) (hpos : pos < all.length) (hall : all.length ≤ 400) (hop : all[pos].op = 2) (hch : ¬ (∀ n ∈ all.drop (pos + 1), n.op = 2)) (h : FirAt w xb B all ns fis) (hB : B ≤ w.heap.size) :
    Calls Tryz.prog 180 #[.pointer (some ⟨xb, 0, none⟩), .int .i64 (pos : Int)] w fun e w' => e = .returned (.int .i64 (firstOf ns fis (cntS all (pos + 1)) (all.drop (pos + 1)))) ∧ Below w.heap.size w w' := by
  have H := hide h
  obtain ⟨⟨v, c0, hsl⟩, ⟨gn, capn, c4, hnm⟩, ⟨gf, capf, c5, hfi⟩, hx⟩ := h
  obtain ⟨ao, cap, rfl, hc1, hc2, hr⟩ := hsl
  obtain ⟨b, o, rfl, hb, hrow⟩ := hr (by rintro rfl; simp at hpos)
  have hnode := hrow.get pos hpos
  have HROW := hide hrow
  have HD : Hid (∀ o : Obj, Calls Tryz.prog 180 #[.pointer (some ⟨xb, 0, none⟩), .int .i64 ((pos : Int) + 1)] (w.alloc o) fun e w' => e = .returned (.int .i64 (firstOf ns fis (cntS all (pos + 1)) (all.drop (pos + 1)))) ∧ Below w.heap.size w w') := hide (fun ob => by
    have := hd (pos + 1) xb B (w.alloc ob) hpd hch (H.out.below ((malloc1 w ob).mono hB)) (by simp; omega)
    rw [show (((pos + 1 : Nat)) : Int) = (pos : Int) + 1 by omega] at this
    exact this.mono fun e w' ⟨h1, h2⟩ => ⟨h1, (malloc1 w ob).trans (h2.mono (by simp))⟩)
  obtain ⟨x1, hx1⟩ : ∃ x, x = all[pos] := ⟨_, rfl⟩
  rw [← hx1] at hnode hop
  obtain ⟨op, name, peer, many, sort⟩ := x1
  dsimp only at hop
  subst hop
  obtain ⟨d0, d1, d2, d3, d4⟩ := hnode
  dsimp only at d0 d1 d2 d3 d4
  clear hx1 hrow hr hd hch
  go_enter Tryz.func180, Tryz.ntmps180
  go_wp2_with (go_at_call 180; refine (HD.out _).mono ?_; rintro e w2 ⟨rfl, hb2⟩; have HB2 := hide hb2; clear hb2)
  go_ret
  exact ⟨rfl, HB2.out⟩
set_option maxRecDepth 100000 in
set_option maxHeartbeats 2000000 in
theorem first_st (all : List Nd) (ns : List ByteArray) (fis : List Int) (pos xb B : Nat) (w : World) (hpos : pos < all.length) (hall : all.length ≤ 400) (hop1 : all[pos].op ≠ 1) (hop2 : all[pos].op ≠ 2) (h : FirAt w xb B all ns fis) (hB : B ≤ w.heap.size) :
    Calls Tryz.prog 180 #[.pointer (some ⟨xb, 0, none⟩), .int .i64 (pos : Int)] w fun e w' => e = .returned (.int .i64 (cntS all pos : Int)) ∧ Below w.heap.size w w' := by
  have H := hide h
  obtain ⟨⟨v, c0, hsl⟩, ⟨gn, capn, c4, hnm⟩, ⟨gf, capf, c5, hfi⟩, hx⟩ := h
  obtain ⟨ao, cap, rfl, hc1, hc2, hr⟩ := hsl
  obtain ⟨b, o, rfl, hb, hrow⟩ := hr (by rintro rfl; simp at hpos)
  have hnode := hrow.get pos hpos
  have HROW := hide hrow
  have HX := hide hx
  have HBB := hide hB
  have HBL := hide hb
  obtain ⟨x1, hx1⟩ : ∃ x, x = all[pos] := ⟨_, rfl⟩
  rw [← hx1] at hnode hop1 hop2
  obtain ⟨op, name, peer, many, sort⟩ := x1
  dsimp only at hop1 hop2
  have e1 : (op == 1) = false := by simpa using hop1
  have e2 : (op == 2) = false := by simpa using hop2
  obtain ⟨d0, d1, d2, d3, d4⟩ := hnode
  dsimp only at d0 d1 d2 d3 d4
  clear hx1 hrow hr hop1 hop2
  go_enter Tryz.func180, Tryz.ntmps180
  go_wp2_with fail
  go_loopw [7, 8] (fun kv i wr => ∃ j : Nat, j ≤ pos ∧ i = .int .i64 j ∧ kv = .int .i64 (cntS all j : Int) ∧ Below w.heap.size w wr) (fun _ i _ => pos - (intOf i).toNat)
  case atStart => exact ⟨0, Nat.zero_le _, rfl, by simp [cntS], malloc1 w _⟩
  case round =>
    obtain ⟨j, hj, rfl, rfl, hbel⟩ := hrel
    have HBEL := hide hbel
    have g0 := (hbel.cell (p := ⟨xb, 0, none⟩) (Nat.lt_of_lt_of_le HX.out HBB.out)).trans c0
    have hcle := cntS_le all j
    clear hbel
    by_cases hlt : j < pos
    · have hja : j < all.length := by omega
      have hn2 := (HROW.out.get j hja).1
      have k0 := (HBEL.out.cell (p := ⟨b, o + j * 5, none⟩) (Nat.lt_of_lt_of_le HBL.out HBB.out)).trans hn2
      have HC := hide (cntS_succ hja)
      obtain ⟨op2, hop2⟩ : ∃ z, all[j].op = z := ⟨_, rfl⟩
      have HIS : Hid (isSt all[j] = (op2 == 0 || op2 == 5 || op2 == 6)) := hide (by unfold isSt; rw [hop2])
      rw [hop2] at k0
      clear hop2 hn2
      rw [HIS.out] at HC
      by_cases q0 : op2 = 0
      · subst q0
        go_wp2_with fail
        go_roundw
        case rel => exact ⟨j + 1, hlt, by go_num, by rw [HC.out]; simp, HBEL.out⟩
        case measure => simp [intOf]; omega
      · have r0 : (op2 == 0) = false := by simpa using q0
        by_cases q5 : op2 = 5
        · subst q5
          go_wp2_with fail
          go_roundw
          case rel => exact ⟨j + 1, hlt, by go_num, by rw [HC.out]; simp, HBEL.out⟩
          case measure => simp [intOf]; omega
        · have r5 : (op2 == 5) = false := by simpa using q5
          by_cases q6 : op2 = 6
          · subst q6
            go_wp2_with fail
            go_roundw
            case rel => exact ⟨j + 1, hlt, by go_num, by rw [HC.out]; simp, HBEL.out⟩
            case measure => simp [intOf]; omega
          · have r6 : (op2 == 6) = false := by simpa using q6
            go_wp2_with fail
            go_roundw
            case rel => exact ⟨j + 1, hlt, by go_num, by rw [HC.out, r0, r5, r6]; simp, HBEL.out⟩
            case measure => simp [intOf]; omega
    · obtain rfl : j = pos := by omega
      go_wp2_with fail
      go_ret
      exact ⟨rfl, HBEL.out⟩
theorem first_calls (all : List Nd) (ns : List ByteArray) (fis : List Int) (hl : fis.length = ns.length) (hns : ns.length ≤ 1000) (hall : all.length ≤ 400) : ∀ d, FirstCalls all ns fis d := by
  intro d
  induction d with
  | zero =>
    intro pos xb B w hd hch
    exact absurd (fun n hn => by rw [List.drop_eq_nil_of_le (by omega)] at hn; cases hn) hch
  | succ d ih =>
    intro pos xb B w hd hch h hB
    have hpos : pos < all.length := by omega
    have hdr : all.drop pos = all[pos] :: all.drop (pos + 1) := List.drop_eq_getElem_cons hpos
    by_cases h1 : all[pos].op = 1
    · have := first_var all ns fis hl hns pos xb B w hpos hall h1 h hB
      rw [hdr, firstOf, h1]
      exact this
    · by_cases h2 : all[pos].op = 2
      · have hch' : ¬ (∀ n ∈ all.drop (pos + 1), n.op = 2) := fun hh => hch (fun n hn => by
          rw [hdr] at hn
          rcases List.mem_cons.1 hn with rfl | hn
          · exact h2
          · exact hh n hn)
        have := first_rec all ns fis d ih pos xb B w (by omega) hpos hall h2 hch' h hB
        rw [cntS_succ hpos] at this
        have hs : isSt all[pos] = false := by unfold isSt; rw [h2]; rfl
        rw [hs] at this
        simp only [Bool.false_eq_true, if_false, Nat.add_zero] at this
        rw [hdr, firstOf, h2]
        exact this
      · have := first_st all ns fis pos xb B w hpos hall h1 h2 h hB
        have e1 : (all[pos].op == 1) = false := by simpa using h1
        have e2 : (all[pos].op == 2) = false := by simpa using h2
        rw [hdr, firstOf, e1, e2]
        exact this
end Go.Proofs.YtaaeledleldllaaGreat
