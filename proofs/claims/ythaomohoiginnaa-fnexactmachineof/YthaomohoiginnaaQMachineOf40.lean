/- A machine in the making, in memory: the program's weave. -/
import Derived.Test.YthaomohoiginnaaQMachineOf30
import Derived.Test.YthaomohoiginnaaQMachineOf21
import Derived.Test.YthaomohoiginnaaQMachineOf24
import Derived.Test.YthaomohoiginnaaQMachineOf26
import Derived.Maps.OwnSet
import Derived.Test.YthaomohoiginnaaQMachineOf32
import Derived.Test.YthaomohoiginnaaQMachineOf07
import Derived.Deep.RegionLaw
namespace Go.Proofs.Ythaomohoiginnaa
open Go.RowKit Go.Maps Go.ChangeMaps Go.MapKept

theorem str_keyed : Keyed Try.prog 9 := string_keyed Try.underlying9
theorem str_key {t : ByteArray} (h : t.size ≤ maxLen) : ∃ kl, keyOf Try.prog 9 (.string t) = some kl := by
  refine ⟨.string t.data.toList, ?_⟩
  simp [keyOf, mapKey, Try.underlying9, h]
def FsAt (w : World) (b n : Nat) (fs : ByteArray → Int) : Prop :=
  ∃ D : DataW Unit, w.ownsMap Try.prog 9 (plainElem Try.prog 2) b n D ∧ ∀ t kl, keyOf Try.prog 9 (.string t) = some kl → D.atKey kl (.lit (.int .i64 0)) = .lit (.int .i64 (fs t))
theorem fs_new (w : World) : FsAt (w.alloc (.map #[] 0)) w.heap.size 0 (fun _ => 0) :=
  ⟨.map [], World.ownsMap_made w _ _ _, fun t kl hk => by rfl⟩
theorem FsAt.keep {w w' : World} {fs : ByteArray → Int} {b n : Nat} {l : List Nat} (h : FsAt w b n fs) (ha : Apart w w' l) (hn : b ∉ l) : FsAt w' b n fs := by
  obtain ⟨D, h1, h2⟩ := h
  refine ⟨D, ?_, h2⟩
  obtain ⟨es', clock, he, hr⟩ := h1
  exact ⟨es', clock, (ha.block b (Array.getElem?_eq_some_iff.1 he).1 hn).trans he, hr⟩
theorem FsAt.lt {w : World} {fs : ByteArray → Int} {b n : Nat} (h : FsAt w b n fs) : b < w.heap.size := by
  obtain ⟨D, h1, h2⟩ := h
  exact h1.lt
theorem zero_i64 (w : World) : (zeroValue 2).run Try.prog w = .ok (.int .i64 0) w := Try.zeroValue2 w
set_option maxRecDepth 10000 in
theorem fs_look {w : World} {fs : ByteArray → Int} {b n : Nat} {t : ByteArray} (h : FsAt w b n fs) (ht : t.size ≤ maxLen) :
    (Instr.lookup 112 (.map (some b)) (.string t) false).run Try.prog w = .ok (.int .i64 (fs t)) w := by
  obtain ⟨D, h1, h2⟩ := h
  obtain ⟨kl, hkl⟩ := str_key ht
  obtain ⟨c, hrun, hat, -⟩ := h1.lookup_int str_keyed Try.underlying112 Try.underlying2 (zero_i64 w) hkl
  rw [h2 t kl hkl] at hat
  injection hat with hat
  injection hat with _ hat
  rw [hat]
  exact hrun
set_option maxRecDepth 10000 in
theorem fs_put {w : World} {fs : ByteArray → Int} {b n : Nat} {t : ByteArray} {z : Int} (h : FsAt w b n fs) (ht : t.size ≤ maxLen) (hn : n < 1000) (hz : 0 ≤ z ∧ z ≤ 1000000) :
    ∃ w', (Instr.mapUpdate 112 (.map (some b)) (.string t) (.int .i64 z)).run Try.prog w = .ok () w' ∧ FsAt w' b (n + 1) (fun x => if x = t then z else fs x) ∧ Apart w w' [b] := by
  obtain ⟨D, h1, h2⟩ := h
  obtain ⟨kl, hkl⟩ := str_key ht
  have hwf : (Lit.int .i64 z).wf = true := by simp [Lit.wf, IntKind.min, IntKind.max, IntKind.signed, IntKind.bits]; omega
  obtain ⟨w', hrun, hown', hgr⟩ := h1.update str_keyed Try.underlying112 (by unfold maxLen; omega) hkl (plainElem_int (H := Unit) Try.underlying2 (a := z) hwf)
  refine ⟨w', hrun, ⟨_, hown', fun x k' hk' => ?_⟩, Apart.grown hgr⟩
  by_cases he : k' = kl
  · subst he
    have hx : x = t := by have := str_keyed.inj hk' hkl; injection this
    rw [atKey_put_same h1.isMap (str_keyed.key hkl)]
    simp [hx]
  · rw [atKey_put_other he, h2 x k' hk']
    have hne : ¬ x = t := fun e => by rw [e, hkl] at hk'; exact he (Option.some.inj hk').symm
    simp [hne]
/-- blocks below base are as they were, but for those named -/
structure Kept (w w' : World) (base : Nat) (l : List Nat) : Prop where
  os : w'.os = w.os
  tape : w'.tape = w.tape
  output : w'.output = w.output
  size : w.heap.size ≤ w'.heap.size
  block : ∀ b, b < base → b ∉ l → w'.heap[b]? = w.heap[b]?
theorem Kept.refl (w : World) (base : Nat) (l : List Nat) : Kept w w base l := ⟨rfl, rfl, rfl, Nat.le_refl _, fun _ _ _ => rfl⟩
theorem Kept.trans {a b c : World} {base : Nat} {l : List Nat} (h : Kept a b base l) (h' : Kept b c base l) : Kept a c base l :=
  ⟨h'.os.trans h.os, h'.tape.trans h.tape, h'.output.trans h.output, Nat.le_trans h.size h'.size, fun k hk hn => (h'.block k hk hn).trans (h.block k hk hn)⟩
theorem Apart.kept {w w' : World} {l l' : List Nat} {base : Nat} (h : Apart w w' l') (hb : base ≤ w.heap.size) (hl : ∀ b ∈ l', b ∈ l ∨ base ≤ b) : Kept w w' base l :=
  ⟨h.os, h.tape, h.output, h.size, fun b hlt hn => h.block b (Nat.lt_of_lt_of_le hlt hb) (fun hm => by rcases hl b hm with q | q; exact hn q; omega)⟩
theorem Kept.sl {w w' : World} {base B : Nat} {l : List Nat} {v : Value} {ns : List Nd} (h : Kept w w' base l) (hB : B ≤ base) (hl : ∀ b ∈ l, B ≤ b) (hs : SlAt w B v ns) : SlAt w' B v ns :=
  hs.carry ⟨h.os, h.tape, h.output, h.size, fun k hk => h.block k (by omega) (fun hm => absurd (hl k hm) (by omega))⟩
structure WeAt (w : World) (wb mb base : Nat) (sv ev : Value) (nf : Nat) (W : Wv) : Prop where
  box : BoxL w wb [sv, ev, .int .i64 0, .map (some mb)]
  st : RStateOwn w base sv W.sts
  ed : REdgeOwn w base ev W.eds
  fs : FsAt w mb nf W.fs
  dis : ∀ b ∈ vblocks sv, b ∉ vblocks ev
  low : wb < base ∧ mb < base ∧ wb ≠ mb
  sz : base ≤ w.heap.size
theorem WeAt.keep {w w' : World} {wb mb base nf : Nat} {sv ev : Value} {W : Wv} {l : List Nat} (h : WeAt w wb mb base sv ev nf W) (ha : Apart w w' l) (hl : ∀ b ∈ l, w.heap.size ≤ b) : WeAt w' wb mb base sv ev nf W :=
  have no : ∀ b, b < w.heap.size → b ∉ l := fun b hb hm => absurd (hl b hm) (by omega)
  ⟨h.box.keep ha (no _ h.box.lt), h.st.keep ha (fun b hb => no b (h.st.fresh.hi b hb)), h.ed.keep ha (fun b hb => no b (h.ed.fresh.hi b hb)), h.fs.keep ha (no _ h.fs.lt), h.dis, h.low, Nat.le_trans h.sz ha.size⟩
theorem WeAt.below {w w' : World} {wb mb base nf : Nat} {sv ev : Value} {W : Wv} (h : WeAt w wb mb base sv ev nf W) (hb : Below w.heap.size w w') : WeAt w' wb mb base sv ev nf W := h.keep (below_apart hb) (by simp)
theorem we_push1 {w w3 w4 : World} {wb mb base nf : Nat} {sv ev v4 : Value} {W : Wv} (h : WeAt w3 wb mb base sv ev nf W) (x : RState) (o : Obj)
    (hown : w4.ownsRow base 98 2 v4 (W.sts.length + 1) (W.sts.flatMap RState.cells ++ x.cells)) (hg : (w3.alloc o).grownBy w4 sv.ownBlock) (hat : v4.ownBlock = sv.ownBlock ∨ v4.ownBlock = some (w3.alloc o).heap.size) (hw : Below w.heap.size w w3) (hbw : base ≤ w.heap.size) :
    WeAt (w4.setCell ⟨wb, 0, none⟩ v4) wb mb base v4 ev nf ⟨W.sts ++ [x], W.eds, W.fs⟩ ∧ Kept w (w4.setCell ⟨wb, 0, none⟩ v4) base [wb] ∧ Apart w (w4.setCell ⟨wb, 0, none⟩ v4) (vblocks sv ++ [wb]) := by
  obtain ⟨p, cp, rfl⟩ := owns_shape h.st
  obtain ⟨p4, c4, rfl⟩ := owns_shape hown
  obtain ⟨p5, c5, rfl⟩ := owns_shape h.ed
  have hA : Apart w3 w4 (vblocks (.slice p W.sts.length cp)) := by
    have := (below_apart (malloc1 w3 o)).trans (grownBy_apart hg)
    rwa [List.nil_append] at this
  have lo := h.st.fresh.lo
  have lo5 := h.ed.fresh.lo
  have lo4 := (owns_fresh hown).lo
  have hl := h.low
  have hS := setCell_apart w4 wb 0 (.slice p4 (W.sts.length + 1) c4)
  have hA2 := hA.trans hS
  have hin : ∀ b, (b ∈ vblocks (.slice p W.sts.length cp) ++ [wb]) → b = wb ∨ base ≤ b := fun b hb => by
    rw [List.mem_append] at hb
    rcases hb with hb | hb
    · exact .inr (lo b hb)
    · simp at hb; exact .inl hb
  refine ⟨⟨?_, ?_, ?_, ?_, ?_, hl, ?_⟩, ?_, by have := (below_apart hw).trans hA2; rwa [List.nil_append] at this⟩
  · exact (h.box.keep hA (fun hb => by have := lo _ hb; omega)).set 0 (by simp) _
  · exact RStateOwn.snoc (owns_keep hown hS (fun b hb hm => by have := lo4 b hb; simp at hm; omega))
  · exact h.ed.keep hA2 (fun b hb hm => by
      rw [List.mem_append] at hm
      rcases hm with hm | hm
      · exact h.dis b hm hb
      · have := lo5 b hb; simp at hm; omega)
  · exact h.fs.keep hA2 (fun hm => by rcases hin _ hm with q | q <;> omega)
  · intro b hb hm
    have hb' := (own_blocks rfl).2 hb
    rcases hat with e | e
    · rw [e] at hb'
      exact h.dis b ((own_blocks rfl).1 hb') hm
    · rw [e] at hb'
      have := h.ed.fresh.hi b hm
      simp at hb'
      omega
  · exact Nat.le_trans h.sz hA2.size
  · exact ((below_apart hw).kept hbw (by simp)).trans (hA2.kept h.sz (fun b hb => by rcases hin b hb with q | q; exact .inl (by simp [q]); exact .inr q))
theorem we_push2 {w w3 w4 : World} {wb mb base nf : Nat} {sv ev v4 : Value} {W : Wv} (h : WeAt w3 wb mb base sv ev nf W) (x : REdge) (o : Obj)
    (hown : w4.ownsRow base 100 4 v4 (W.eds.length + 1) (W.eds.flatMap REdge.cells ++ x.cells)) (hg : (w3.alloc o).grownBy w4 ev.ownBlock) (hat : v4.ownBlock = ev.ownBlock ∨ v4.ownBlock = some (w3.alloc o).heap.size) (hw : Below w.heap.size w w3) (hbw : base ≤ w.heap.size) :
    WeAt (w4.setCell ⟨wb, 1, none⟩ v4) wb mb base sv v4 nf ⟨W.sts, W.eds ++ [x], W.fs⟩ ∧ Kept w (w4.setCell ⟨wb, 1, none⟩ v4) base [wb] ∧ Apart w (w4.setCell ⟨wb, 1, none⟩ v4) (vblocks ev ++ [wb]) := by
  obtain ⟨p, cp, rfl⟩ := owns_shape h.ed
  obtain ⟨p4, c4, rfl⟩ := owns_shape hown
  obtain ⟨p5, c5, rfl⟩ := owns_shape h.st
  have hA : Apart w3 w4 (vblocks (.slice p W.eds.length cp)) := by
    have := (below_apart (malloc1 w3 o)).trans (grownBy_apart hg)
    rwa [List.nil_append] at this
  have lo := h.ed.fresh.lo
  have lo5 := h.st.fresh.lo
  have lo4 := (owns_fresh hown).lo
  have hl := h.low
  have hS := setCell_apart w4 wb 1 (.slice p4 (W.eds.length + 1) c4)
  have hA2 := hA.trans hS
  have hin : ∀ b, (b ∈ vblocks (.slice p W.eds.length cp) ++ [wb]) → b = wb ∨ base ≤ b := fun b hb => by
    rw [List.mem_append] at hb
    rcases hb with hb | hb
    · exact .inr (lo b hb)
    · simp at hb; exact .inl hb
  refine ⟨⟨?_, ?_, ?_, ?_, ?_, hl, ?_⟩, ?_, by have := (below_apart hw).trans hA2; rwa [List.nil_append] at this⟩
  · exact (h.box.keep hA (fun hb => by have := lo _ hb; omega)).set 1 (by simp) _
  · exact h.st.keep hA2 (fun b hb hm => by
      rw [List.mem_append] at hm
      rcases hm with hm | hm
      · exact h.dis b hb hm
      · have := lo5 b hb; simp at hm; omega)
  · exact REdgeOwn.snoc (owns_keep hown hS (fun b hb hm => by have := lo4 b hb; simp at hm; omega))
  · exact h.fs.keep hA2 (fun hm => by rcases hin _ hm with q | q <;> omega)
  · intro b hm hb
    have hb' := (own_blocks rfl).2 hb
    rcases hat with e | e
    · rw [e] at hb'
      exact h.dis b hm ((own_blocks rfl).1 hb')
    · rw [e] at hb'
      have := h.st.fresh.hi b hm
      simp at hb'
      omega
  · exact Nat.le_trans h.sz hA2.size
  · exact ((below_apart hw).kept hbw (by simp)).trans (hA2.kept h.sz (fun b hb => by rcases hin b hb with q | q; exact .inl (by simp [q]); exact .inr q))
end Go.Proofs.Ythaomohoiginnaa
/- The program's weave: what its steps call. -/
namespace Go.Proofs.Ythaomohoiginnaa
open Go.RowKit
attribute [local go_sem ↓] Go.wp_at_zero Go.wp_at_succ

theorem clone_str (s : ByteArray) (w : World) (hs : s.size ≤ 1048576) :
    Calls Try.prog 115 #[.string s] w fun e w' => e = .returned (.string s) ∧ Below w.heap.size w w' := by
  have HS := hide hs
  clear hs
  go_enter Try.func115, Try.ntmps115
  go_wp2_with (go_at_call 165; refine (Try.stringslite_Clone s _ (Nat.le_trans HS.out (by omega))).mono ?_; rintro e w1 ⟨rfl, hb1⟩; have HB1 := hide hb1; clear hb1)
  go_ret
  exact ⟨rfl, HB1.out⟩
theorem kind_calls (z : Int) (w : World) : Calls Try.prog 169 #[.int .i64 z] w fun e w' => e = .returned (.int .i64 (kindW z)) ∧ w' = w := by
  by_cases h5 : z = 5
  · subst h5
    go_enter Try.func169, Try.ntmps169
    go_wp2_with fail
    go_ret
    exact ⟨rfl, rfl⟩
  · by_cases h6 : z = 6
    · subst h6
      go_enter Try.func169, Try.ntmps169
      go_wp2_with fail
      go_ret
      exact ⟨rfl, rfl⟩
    · have e5 : (z == 5) = false := by simpa using h5
      have e6 : (z == 6) = false := by simpa using h6
      have HK : Hid (kindW z = 0) := hide (by simp [kindW, h5, h6])
      clear h5 h6
      go_enter Try.func169, Try.ntmps169
      go_wp2_with fail
      go_ret
      exact ⟨ret_int HK.out, rfl⟩
theorem box_left {w3 w4 : World} {wb mb base nf : Nat} {sv ev : Value} {W : Wv} {o : Obj} {v : Value} {base' e size n : Nat} {xs : List Value} (h : WeAt w3 wb mb base sv ev nf W) (hv : w3.ownsRow base' e size v n xs) (hb : base ≤ base') (hg : (w3.alloc o).grownBy w4 v.ownBlock) : BoxL w4 wb [sv, ev, .int .i64 0, .map (some mb)] := by
  obtain ⟨p, cp, rfl⟩ := owns_shape hv
  have hA := (below_apart (malloc1 w3 o)).trans (grownBy_apart hg)
  rw [List.nil_append] at hA
  exact h.box.keep hA (fun hm => by have := (owns_fresh hv).lo _ hm; have := h.low; omega)
end Go.Proofs.Ythaomohoiginnaa
