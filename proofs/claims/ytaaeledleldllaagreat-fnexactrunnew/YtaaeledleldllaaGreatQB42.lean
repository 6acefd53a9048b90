import Derived.Test.YtaaeledleldllaaGreatQB41
import Derived.Test.YtaaeledleldllaaGreatQB08
import Derived.Test.YtaaeledleldllaaGreatQB40
import Derived.Maps.OwnSet
import Derived.Shelf.SlSortCmp.WholeK
import Derived.Shelf.SlSortCmp.NoneTotal
import Derived.Test.YtaaeledleldllaaGreatProg
import Derived.Test.YtaaeledleldllaaGreatQB09
import Derived.Test.YtaaeledleldllaaGreatQB07
import Derived.Test.YtaaeledleldllaaGreatQB35
import Derived.Deep.RegionWith
namespace Go.Proofs.YtaaeledleldllaaGreat
open Go.RowKit

structure Grows (l r : List Nd) (W W' : Wv) : Prop where
  sts : W'.sts.length + r.length ≤ W.sts.length + l.length
  eds : W'.eds.length + r.length ≤ W.eds.length + l.length
def LenOk (f : Nat) : Prop := ∀ (st l r : List Nd) (W : Wv), ahead (talkS true) f st l = some r → (wv f l W).2.1 = r ∧ Grows l r W (wv f l W).2.2
theorem kids_len {f : Nat} (hf : LenOk f) (st : List Nd) (s : Int) : ∀ (m : Nat) (ls : List ByteArray) (l r : List Nd) (W : Wv), kidsBy (ahead (talkS true) f st) m ls l = some r → (wvKids (wv f) s m l W).1 = r ∧ Grows l r W (wvKids (wv f) s m l W).2
  | 0, ls, l, r, W, h => by
    rw [kidsBy] at h
    injection h with h
    subst h
    exact ⟨rfl, by simp [wvKids], by simp [wvKids]⟩
  | m + 1, ls, [], r, W, h => by cases h
  | m + 1, ls, c :: l, r, W, h => by
    rw [kidsBy] at h
    split at h
    · split at h
      · cases h
      · rename_i r1 hr1
        obtain ⟨e1, g1⟩ := hf st l r1 W hr1
        rw [wvKids, e1]
        obtain ⟨e2, g2⟩ := kids_len hf st s m (ls ++ [c.name]) r1 r ⟨(wv f l W).2.2.sts, (wv f l W).2.2.eds ++ [⟨s, c.name, c.sort, (wv f l W).1⟩], (wv f l W).2.2.fs⟩ h
        refine ⟨e2, ?_, ?_⟩
        · have := g1.sts; have := g2.sts; simp only [List.length_cons] at *; omega
        · have := g1.eds; have := g2.eds; simp only [List.length_cons, List.length_append, List.length_nil] at *; omega
    · cases h
theorem len_ok : ∀ f : Nat, LenOk f := by
  intro f
  induction f with
  | zero =>
    intro st l r W h
    cases l with
    | nil => cases h
    | cons n l =>
      rw [wv]
      by_cases h1 : (n.op == 1) = true
      · rw [if_pos h1]
        rw [ahead_1 (by simpa using h1)] at h
        split at h
        · injection h with h
          subst h
          exact ⟨rfl, by simp, by simp⟩
        · cases h
      · rw [if_neg h1]
        by_cases h0 : n.op = 0
        · rw [ahead_0 h0] at h
          split at h
          · injection h with h
            subst h
            exact ⟨rfl, by simp; omega, by simp⟩
          · cases h
        · rw [ahead_t0 h0 (by simpa using h1)] at h; cases h
  | succ f ih =>
    intro st l r W h
    cases l with
    | nil => cases h
    | cons n l =>
      rw [wv]
      by_cases h1 : (n.op == 1) = true
      · rw [if_pos h1]
        rw [ahead_1 (by simpa using h1)] at h
        split at h
        · injection h with h
          subst h
          exact ⟨rfl, by simp, by simp⟩
        · cases h
      · rw [if_neg h1]
        by_cases h2 : (n.op == 2) = true
        · rw [if_pos h2]
          rw [ahead_2 (by simpa using h2)] at h
          split at h
          · obtain ⟨e, g⟩ := ih (n :: st) l r ⟨W.sts, W.eds, fun x => if x = n.name then (W.sts.length : Int) else W.fs x⟩ h
            refine ⟨e, ?_, ?_⟩
            · have := g.sts; simp only [List.length_cons] at *; omega
            · have := g.eds; simp only [List.length_cons] at *; omega
          · cases h
        · rw [if_neg h2]
          by_cases h0 : n.op = 0
          · rw [ahead_0 h0] at h
            split at h
            · rename_i hb
              injection h with h
              subst h
              have hm : n.many.toNat = 0 := by
                simp only [endB, Bool.and_eq_true, beq_iff_eq] at hb
                rw [hb.1.2]; rfl
              rw [hm, wvKids]
              exact ⟨rfl, by simp; omega, by simp⟩
            · cases h
          · rw [ahead_t h0 (by simpa using h1) (by simpa using h2)] at h
            split at h
            · obtain ⟨e, g⟩ := kids_len ih (n :: st) (W.sts.length : Int) n.many.toNat [] l r ⟨W.sts ++ [⟨kindW n.op, n.peer⟩], W.eds, W.fs⟩ h
              refine ⟨e, ?_, ?_⟩
              · have := g.sts; simp only [List.length_cons, List.length_append, List.length_nil] at *; omega
              · have := g.eds; simp only [List.length_cons] at *; omega
            · cases h
end Go.Proofs.YtaaeledleldllaaGreat
namespace Go.Proofs.YtaaeledleldllaaGreat
open Go.RowKit Go.Maps Go.ChangeMaps Go.MapKept

theorem str_keyed : Keyed Tryz.prog 9 := string_keyed Tryz.underlying9
theorem str_key {t : ByteArray} (h : t.size ≤ maxLen) : ∃ kl, keyOf Tryz.prog 9 (.string t) = some kl := by
  refine ⟨.string t.data.toList, ?_⟩
  simp [keyOf, mapKey, Tryz.underlying9, h]
def FsAt (w : World) (b n : Nat) (fs : ByteArray → Int) : Prop :=
  ∃ D : DataW Unit, w.ownsMap Tryz.prog 9 (plainElem Tryz.prog 2) b n D ∧ ∀ t kl, keyOf Tryz.prog 9 (.string t) = some kl → D.atKey kl (.lit (.int .i64 0)) = .lit (.int .i64 (fs t))
theorem fs_new (w : World) : FsAt (w.alloc (.map #[] 0)) w.heap.size 0 (fun _ => 0) :=
  ⟨.map [], World.ownsMap_made w _ _ _, fun t kl hk => by rfl⟩
theorem FsAt.keep {w w' : World} {fs : ByteArray → Int} {b n : Nat} {l : List Nat} (h : FsAt w b n fs) (ha : Apart w w' l) (hn : b ∉ l) : FsAt w' b n fs := by
  obtain ⟨D, h1, h2⟩ := h
  refine ⟨D, ?_, h2⟩
  obtain ⟨es', clock, he, hr⟩ := h1
  exact ⟨es', clock, (ha.block b (Array.getElem?_eq_some_iff.1 he).1 hn).trans he, hr⟩
theorem FsAt.lt {w : World} {fs : ByteArray → Int} {b n : Nat} (h : FsAt w b n fs) : b < w.heap.size := by
  obtain ⟨D, h1, h2⟩ := h
  exact h1.lt
theorem zero_i64 (w : World) : (zeroValue 2).run Tryz.prog w = .ok (.int .i64 0) w := Tryz.zeroValue2 w
set_option maxRecDepth 10000 in
theorem fs_look {w : World} {fs : ByteArray → Int} {b n : Nat} {t : ByteArray} (h : FsAt w b n fs) (ht : t.size ≤ maxLen) :
    (Instr.lookup 262 (.map (some b)) (.string t) false).run Tryz.prog w = .ok (.int .i64 (fs t)) w := by
  obtain ⟨D, h1, h2⟩ := h
  obtain ⟨kl, hkl⟩ := str_key ht
  obtain ⟨c, hrun, hat, -⟩ := h1.lookup_int str_keyed Tryz.underlying262 Tryz.underlying2 (zero_i64 w) hkl
  rw [h2 t kl hkl] at hat
  injection hat with hat
  injection hat with _ hat
  rw [hat]
  exact hrun
set_option maxRecDepth 10000 in
theorem fs_put {w : World} {fs : ByteArray → Int} {b n : Nat} {t : ByteArray} {z : Int} (h : FsAt w b n fs) (ht : t.size ≤ maxLen) (hn : n < 1000) (hz : 0 ≤ z ∧ z ≤ 1000000) :
    ∃ w', (Instr.mapUpdate 262 (.map (some b)) (.string t) (.int .i64 z)).run Tryz.prog w = .ok () w' ∧ FsAt w' b (n + 1) (fun x => if x = t then z else fs x) ∧ Apart w w' [b] := by
  obtain ⟨D, h1, h2⟩ := h
  obtain ⟨kl, hkl⟩ := str_key ht
  have hwf : (Lit.int .i64 z).wf = true := by simp [Lit.wf, IntKind.min, IntKind.max, IntKind.signed, IntKind.bits]; omega
  obtain ⟨w', hrun, hown', hgr⟩ := h1.update str_keyed Tryz.underlying262 (by unfold maxLen; omega) hkl (plainElem_int (H := Unit) Tryz.underlying2 (a := z) hwf)
  refine ⟨w', hrun, ⟨_, hown', fun x k' hk' => ?_⟩, Apart.grown hgr⟩
  by_cases he : k' = kl
  · subst he
    have hx : x = t := by have := str_keyed.inj hk' hkl; injection this
    rw [atKey_put_same h1.isMap (str_keyed.key hkl)]
    simp [hx]
  · rw [atKey_put_other he, h2 x k' hk']
    have hne : ¬ x = t := fun e => by rw [e, hkl] at hk'; exact he (Option.some.inj hk').symm
    simp [hne]
structure Kept (w w' : World) (base : Nat) (l : List Nat) : Prop where
  os : w'.os = w.os
  tape : w'.tape = w.tape
  output : w'.output = w.output
  size : w.heap.size ≤ w'.heap.size
  block : ∀ b, b < base → b ∉ l → w'.heap[b]? = w.heap[b]?
theorem Kept.refl (w : World) (base : Nat) (l : List Nat) : Kept w w base l := ⟨rfl, rfl, rfl, Nat.le_refl _, fun _ _ _ => rfl⟩
theorem Kept.trans {a b c : World} {base : Nat} {l : List Nat} (h : Kept a b base l) (h' : Kept b c base l) : Kept a c base l :=
  ⟨h'.os.trans h.os, h'.tape.trans h.tape, h'.output.trans h.output, Nat.le_trans h.size h'.size, fun k hk hn => (h'.block k hk hn).trans (h.block k hk hn)⟩
theorem Apart.kept {w w' : World} {l l' : List Nat} {base : Nat} (h : Apart w w' l') (hb : base ≤ w.heap.size) (hl : ∀ b ∈ l', b ∈ l ∨ base ≤ b) : Kept w w' base l :=
  ⟨h.os, h.tape, h.output, h.size, fun b hlt hn => h.block b (Nat.lt_of_lt_of_le hlt hb) (fun hm => by rcases hl b hm with q | q; exact hn q; omega)⟩
theorem Kept.sl {w w' : World} {base B : Nat} {l : List Nat} {v : Value} {ns : List Nd} (h : Kept w w' base l) (hB : B ≤ base) (hl : ∀ b ∈ l, B ≤ b) (hs : SlAt w B v ns) : SlAt w' B v ns :=
  hs.carry ⟨h.os, h.tape, h.output, h.size, fun k hk => h.block k (by omega) (fun hm => absurd (hl k hm) (by omega))⟩
structure WeAt (w : World) (wb mb base : Nat) (sv ev : Value) (nf : Nat) (W : Wv) : Prop where
  box : BoxL w wb [sv, ev, .int .i64 0, .map (some mb)]
  st : RStateOwn w base sv W.sts
  ed : REdgeOwn w base ev W.eds
  fs : FsAt w mb nf W.fs
  dis : ∀ b ∈ vblocks sv, b ∉ vblocks ev
  low : wb < base ∧ mb < base ∧ wb ≠ mb
  sz : base ≤ w.heap.size
theorem WeAt.keep {w w' : World} {wb mb base nf : Nat} {sv ev : Value} {W : Wv} {l : List Nat} (h : WeAt w wb mb base sv ev nf W) (ha : Apart w w' l) (hl : ∀ b ∈ l, w.heap.size ≤ b) : WeAt w' wb mb base sv ev nf W :=
  have no : ∀ b, b < w.heap.size → b ∉ l := fun b hb hm => absurd (hl b hm) (by omega)
  ⟨h.box.keep ha (no _ h.box.lt), h.st.keep ha (fun b hb => no b (h.st.fresh.hi b hb)), h.ed.keep ha (fun b hb => no b (h.ed.fresh.hi b hb)), h.fs.keep ha (no _ h.fs.lt), h.dis, h.low, Nat.le_trans h.sz ha.size⟩
theorem WeAt.below {w w' : World} {wb mb base nf : Nat} {sv ev : Value} {W : Wv} (h : WeAt w wb mb base sv ev nf W) (hb : Below w.heap.size w w') : WeAt w' wb mb base sv ev nf W := h.keep (below_apart hb) (by simp)
theorem we_push1 {w w3 w4 : World} {wb mb base nf : Nat} {sv ev v4 : Value} {W : Wv} (h : WeAt w3 wb mb base sv ev nf W) (x : RState) (o : Obj)
    (hown : w4.ownsRow base 103 2 v4 (W.sts.length + 1) (W.sts.flatMap RState.cells ++ x.cells)) (hg : (w3.alloc o).grownBy w4 sv.ownBlock) (hat : v4.ownBlock = sv.ownBlock ∨ v4.ownBlock = some (w3.alloc o).heap.size) (hw : Below w.heap.size w w3) (hbw : base ≤ w.heap.size) :
    WeAt (w4.setCell ⟨wb, 0, none⟩ v4) wb mb base v4 ev nf ⟨W.sts ++ [x], W.eds, W.fs⟩ ∧ Kept w (w4.setCell ⟨wb, 0, none⟩ v4) base [wb] ∧ Apart w (w4.setCell ⟨wb, 0, none⟩ v4) (vblocks sv ++ [wb]) := by
  obtain ⟨p, cp, rfl⟩ := owns_shape h.st
  obtain ⟨p4, c4, rfl⟩ := owns_shape hown
  obtain ⟨p5, c5, rfl⟩ := owns_shape h.ed
  have hA : Apart w3 w4 (vblocks (.slice p W.sts.length cp)) := by
    have := (below_apart (malloc1 w3 o)).trans (grownBy_apart hg)
    rwa [List.nil_append] at this
  have lo := h.st.fresh.lo
  have lo5 := h.ed.fresh.lo
  have lo4 := (owns_fresh hown).lo
  have hl := h.low
  have hS := setCell_apart w4 wb 0 (.slice p4 (W.sts.length + 1) c4)
  have hA2 := hA.trans hS
  have hin : ∀ b, (b ∈ vblocks (.slice p W.sts.length cp) ++ [wb]) → b = wb ∨ base ≤ b := fun b hb => by
    rw [List.mem_append] at hb
    rcases hb with hb | hb
    · exact .inr (lo b hb)
    · simp at hb; exact .inl hb
  refine ⟨⟨?_, ?_, ?_, ?_, ?_, hl, ?_⟩, ?_, by have := (below_apart hw).trans hA2; rwa [List.nil_append] at this⟩
  · exact (h.box.keep hA (fun hb => by have := lo _ hb; omega)).set 0 (by simp) _
  · exact RStateOwn.snoc (owns_keep hown hS (fun b hb hm => by have := lo4 b hb; simp at hm; omega))
  · exact h.ed.keep hA2 (fun b hb hm => by
      rw [List.mem_append] at hm
      rcases hm with hm | hm
      · exact h.dis b hm hb
      · have := lo5 b hb; simp at hm; omega)
  · exact h.fs.keep hA2 (fun hm => by rcases hin _ hm with q | q <;> omega)
  · intro b hb hm
    have hb' := (own_blocks rfl).2 hb
    rcases hat with e | e
    · rw [e] at hb'
      exact h.dis b ((own_blocks rfl).1 hb') hm
    · rw [e] at hb'
      have := h.ed.fresh.hi b hm
      simp at hb'
      omega
  · exact Nat.le_trans h.sz hA2.size
  · exact ((below_apart hw).kept hbw (by simp)).trans (hA2.kept h.sz (fun b hb => by rcases hin b hb with q | q; exact .inl (by simp [q]); exact .inr q))
theorem we_push2 {w w3 w4 : World} {wb mb base nf : Nat} {sv ev v4 : Value} {W : Wv} (h : WeAt w3 wb mb base sv ev nf W) (x : REdge) (o : Obj)
    (hown : w4.ownsRow base 154 4 v4 (W.eds.length + 1) (W.eds.flatMap REdge.cells ++ x.cells)) (hg : (w3.alloc o).grownBy w4 ev.ownBlock) (hat : v4.ownBlock = ev.ownBlock ∨ v4.ownBlock = some (w3.alloc o).heap.size) (hw : Below w.heap.size w w3) (hbw : base ≤ w.heap.size) :
    WeAt (w4.setCell ⟨wb, 1, none⟩ v4) wb mb base sv v4 nf ⟨W.sts, W.eds ++ [x], W.fs⟩ ∧ Kept w (w4.setCell ⟨wb, 1, none⟩ v4) base [wb] ∧ Apart w (w4.setCell ⟨wb, 1, none⟩ v4) (vblocks ev ++ [wb]) := by
  obtain ⟨p, cp, rfl⟩ := owns_shape h.ed
  obtain ⟨p4, c4, rfl⟩ := owns_shape hown
  obtain ⟨p5, c5, rfl⟩ := owns_shape h.st
  have hA : Apart w3 w4 (vblocks (.slice p W.eds.length cp)) := by
    have := (below_apart (malloc1 w3 o)).trans (grownBy_apart hg)
    rwa [List.nil_append] at this
  have lo := h.ed.fresh.lo
  have lo5 := h.st.fresh.lo
  have lo4 := (owns_fresh hown).lo
  have hl := h.low
  have hS := setCell_apart w4 wb 1 (.slice p4 (W.eds.length + 1) c4)
  have hA2 := hA.trans hS
  have hin : ∀ b, (b ∈ vblocks (.slice p W.eds.length cp) ++ [wb]) → b = wb ∨ base ≤ b := fun b hb => by
    rw [List.mem_append] at hb
    rcases hb with hb | hb
    · exact .inr (lo b hb)
    · simp at hb; exact .inl hb
  refine ⟨⟨?_, ?_, ?_, ?_, ?_, hl, ?_⟩, ?_, by have := (below_apart hw).trans hA2; rwa [List.nil_append] at this⟩
  · exact (h.box.keep hA (fun hb => by have := lo _ hb; omega)).set 1 (by simp) _
  · exact h.st.keep hA2 (fun b hb hm => by
      rw [List.mem_append] at hm
      rcases hm with hm | hm
      · exact h.dis b hb hm
      · have := lo5 b hb; simp at hm; omega)
  · exact REdgeOwn.snoc (owns_keep hown hS (fun b hb hm => by have := lo4 b hb; simp at hm; omega))
  · exact h.fs.keep hA2 (fun hm => by rcases hin _ hm with q | q <;> omega)
  · intro b hm hb
    have hb' := (own_blocks rfl).2 hb
    rcases hat with e | e
    · rw [e] at hb'
      exact h.dis b hm ((own_blocks rfl).1 hb')
    · rw [e] at hb'
      have := h.st.fresh.hi b hm
      simp at hb'
      omega
  · exact Nat.le_trans h.sz hA2.size
  · exact ((below_apart hw).kept hbw (by simp)).trans (hA2.kept h.sz (fun b hb => by rcases hin b hb with q | q; exact .inl (by simp [q]); exact .inr q))
end Go.Proofs.YtaaeledleldllaaGreat
namespace Go.Proofs.YtaaeledleldllaaGreat
open Go.Shelf Go.Proofs
def Tryz.sortEd_ren : Go.Shelf.Ren := ⟨fun | 6 => 205 | 15 => 127 | 14 => 211 | 28 => 176 | 29 => 177 | 20 => 215 | 21 => 216 | 22 => 217 | 23 => 218 | 24 => 219 | 25 => 220 | 26 => 221 | 27 => 222 | 46 => 223 | 47 => 195 | 48 => 196 | 49 => 224 | 50 => 225 | 57 => 226 | n => n, fun | 22 => 57 | 24 => 154 | 25 => 159 | 3 => 3 | 39 => 174 | 0 => 0 | 53 => 225 | 55 => 227 | 4 => 4 | 46 => 217 | 45 => 216 | 50 => 222 | 5 => 5 | 9 => 9 | 66 => 254 | 70 => 258 | 76 => 268 | 77 => 269 | n => n, fun | n => n⟩
theorem Tryz.sortEd : Go.Proofs.SlLaysF0.n6 Tryz.prog Tryz.sortEd_ren := {
  mixed := by kernel_rfl
  f6 := ⟨Tryz.f205.name, by decide, Tryz.func205.trans (congrArg some (by kernel_rfl))⟩
  f14 := ⟨Tryz.f211.name, by decide, Tryz.func211.trans (congrArg some (by kernel_rfl))⟩
  f15 := Tryz.func127.trans (congrArg some (by kernel_rfl))
  f20 := ⟨Tryz.f215.name, by decide, Tryz.func215.trans (congrArg some (by kernel_rfl))⟩
  f21 := ⟨Tryz.f216.name, by decide, Tryz.func216.trans (congrArg some (by kernel_rfl))⟩
  f22 := ⟨Tryz.f217.name, by decide, Tryz.func217.trans (congrArg some (by kernel_rfl))⟩
  f23 := ⟨Tryz.f218.name, by decide, Tryz.func218.trans (congrArg some (by kernel_rfl))⟩
  f24 := ⟨Tryz.f219.name, by decide, Tryz.func219.trans (congrArg some (by kernel_rfl))⟩
  f25 := ⟨Tryz.f220.name, by decide, Tryz.func220.trans (congrArg some (by kernel_rfl))⟩
  f26 := ⟨Tryz.f221.name, by decide, Tryz.func221.trans (congrArg some (by kernel_rfl))⟩
  f27 := ⟨Tryz.f222.name, by decide, Tryz.func222.trans (congrArg some (by kernel_rfl))⟩
  f28 := Tryz.func176.trans (congrArg some (by kernel_rfl))
  f29 := Tryz.func177.trans (congrArg some (by kernel_rfl))
  f46 := ⟨Tryz.f223.name, by decide, Tryz.func223.trans (congrArg some (by kernel_rfl))⟩
  f47 := Tryz.func195.trans (congrArg some (by kernel_rfl))
  f48 := Tryz.func196.trans (congrArg some (by kernel_rfl))
  f49 := ⟨Tryz.f224.name, by decide, Tryz.func224.trans (congrArg some (by kernel_rfl))⟩
  f50 := ⟨Tryz.f225.name, by decide, Tryz.func225.trans (congrArg some (by kernel_rfl))⟩
  f57 := ⟨Tryz.f226.name, by decide, Tryz.func226.trans (congrArg some (by kernel_rfl))⟩
  t0 := Tryz.underlying0
  a0 := Tryz.isAgg0
  z0 := Tryz.sizeOf0
  v0 := Tryz.zeroValue0
  t3 := Tryz.underlying3
  a3 := Tryz.isAgg3
  z3 := Tryz.sizeOf3
  v3 := Tryz.zeroValue3
  t4 := Tryz.underlying4
  a4 := Tryz.isAgg4
  z4 := Tryz.sizeOf4
  v4 := Tryz.zeroValue4
  t5 := Tryz.underlying5
  a5 := Tryz.isAgg5
  z5 := Tryz.sizeOf5
  v5 := Tryz.zeroValue5
  t9 := Tryz.underlying9
  a9 := Tryz.isAgg9
  z9 := Tryz.sizeOf9
  v9 := Tryz.zeroValue9
  t22 := Tryz.underlying57
  a22 := Tryz.isAgg57
  z22 := Tryz.sizeOf57
  v22 := Tryz.zeroValue57
  t25 := Tryz.underlying159
  a25 := Tryz.isAgg159
  z25 := Tryz.sizeOf159
  v25 := Tryz.zeroValue159
  t39 := Tryz.underlying174
  a39 := Tryz.isAgg174
  z39 := Tryz.sizeOf174
  v39 := Tryz.zeroValue174
  t45 := Tryz.underlying216
  a45 := Tryz.isAgg216
  z45 := Tryz.sizeOf216
  v45 := Tryz.zeroValue216
  t46 := Tryz.underlying217
  a46 := Tryz.isAgg217
  z46 := Tryz.sizeOf217
  v46 := Tryz.zeroValue217
  t50 := Tryz.underlying222
  a50 := Tryz.isAgg222
  z50 := Tryz.sizeOf222
  v50 := Tryz.zeroValue222
  t53 := Tryz.underlying225
  a53 := Tryz.isAgg225
  z53 := Tryz.sizeOf225
  v53 := Tryz.zeroValue225
  t55 := Tryz.underlying227
  a55 := Tryz.isAgg227
  z55 := Tryz.sizeOf227
  v55 := Tryz.zeroValue227
  t66 := Tryz.underlying254
  a66 := Tryz.isAgg254
  z66 := Tryz.sizeOf254
  v66 := Tryz.zeroValue254
  t70 := Tryz.underlying258
  a70 := Tryz.isAgg258
  z70 := Tryz.sizeOf258
  v70 := Tryz.zeroValue258
  t76 := Tryz.underlying268
  a76 := Tryz.isAgg268
  z76 := Tryz.sizeOf268
  v76 := Tryz.zeroValue268
  t77 := Tryz.underlying269
  a77 := Tryz.isAgg269
  z77 := Tryz.sizeOf269
  v77 := Tryz.zeroValue269 }
open Go.RowKit Go.Lib Go.Sort in
theorem Tryz.sortEd_none (p : Option Addr) (cap : Nat) (fv : Value) (w : World) :
    Calls Tryz.prog 205 #[.slice p 0 cap, fv] w fun e w' => e = .returned (.tuple #[]) ∧ w' = w := AnyF.slices_SortFunc_none { Tryz.sortEd with } p cap fv w
end Go.Proofs.YtaaeledleldllaaGreat
namespace Go.Proofs.YtaaeledleldllaaGreat
open Go.RowKit Go.Shelf Go.Sort Go.Lib Go.Proofs

set_option maxHeartbeats 1000000 in
theorem compare_edges_g (a b : REdge) (w : World) :
    Calls Tryz.prog 113 #[a.val, b.val] w fun e w' => e = .returned (.int .i64 (cmpE a b)) ∧ ∃ q os', w' = grow (w.drewN q) os' := by
  have HE : Hid (cmpE a b = orI (cmpI a.src b.src) (cmpS a.label b.label)) := hide rfl
  unfold REdge.val
  go_enter Tryz.func113, Tryz.ntmps113
  go_wp2_with fail
  go_region_held3 (fun w' => w'.cell? ⟨w.heap.size, 0, none⟩ = some (.int .i64 a.src) ∧ w'.cell? ⟨w.heap.size, 1, none⟩ = some (.string a.label) ∧ w'.cell? ⟨w.heap.size + 1, 0, none⟩ = some (.int .i64 b.src) ∧ w'.cell? ⟨w.heap.size + 1, 1, none⟩ = some (.string b.label)) (go_keep)
    (first | (go_at_call 150; refine (compare_int _ _ _).mono ?_; rintro e w' ⟨rfl, rfl⟩) | (go_at_call 151; refine (compare_str _ _ _).mono ?_; rintro e w' ⟨rfl, rfl⟩) | (go_at_call 149; refine (cmp_or (cmpI a.src b.src) (cmpS a.label b.label) _ _ (by exact c3_2 _ _ _ _ _ _ _ rfl) (by exact c3_2 _ _ _ _ _ _ _ rfl)).mono ?_; rintro e w' ⟨rfl, rfl⟩))
  all_goals
    go_wp2_with fail
    go_ret
    exact ⟨ret_int HE.out, 1, _, by simp only [alloc_eq_grow, drew_grow, grow_grow]; rfl⟩
theorem cmp_lays [Inhabited REdge] (blk off size : Nat) (w : World) : CmpLays Tryz.prog 113 #[] REdge.cells 4 cmpE blk off size w :=
  fun _ _ _ _ x y => compare_edges_g x y _
theorem lt_cmp (x y : REdge) : ltOf cmpE x y = mlessE x y := by
  unfold ltOf cmpE orI cmpI cmpS mlessE
  by_cases h1 : x.src < y.src
  · simp [h1]
  · by_cases h2 : y.src < x.src
    · have : ¬ x.src = y.src := by omega
      simp [h1, h2, this]
    · have : x.src = y.src := by omega
      cases hb : Op.bytesLess x.label.toList y.label.toList
      · by_cases he : (x.label.toList == y.label.toList) = true
        · simp [this, he]
        · simp [this, he]
      · simp [this]
theorem swo_cmp : SWO (ltOf cmpE) where
  irrefl x := by rw [lt_cmp]; exact el_irrefl x
  trans x y z h1 h2 := by rw [lt_cmp] at *; exact el_trans h1 h2
  ntrans x y z h1 h2 := by rw [lt_cmp] at *; exact el_ge h2 h1
theorem Tryz.isAggEd : ∀ w, (isAgg 154).run Tryz.prog w = .ok true w := Tryz.isAgg154
theorem Tryz.sizeEd : ∀ w, (Go.sizeOf 154).run Tryz.prog w = .ok 4 w := Tryz.sizeOf154
theorem flat_flatK [Inhabited REdge] (d : Array REdge) : (flatK REdge.cells 4 d).toList = d.toList.flatMap REdge.cells := by
  apply List.ext_getElem?
  intro j
  by_cases hj : j < d.size * 4
  · have h1 := get_flatK REdge.cells 4 d j hj
    have hd : j / 4 < d.size := by omega
    have h2 := flat_get REdge.cells 4 REdge.cells_len d.toList (j / 4) (by simpa using hd) (j % 4) (by omega)
    rw [show j / 4 * 4 + j % 4 = j by omega] at h2
    rw [h2]
    have hs : j < (flatK REdge.cells 4 d).size := by simpa using hj
    rw [Array.getElem?_toList, Array.getElem?_eq_getElem hs]
    rw [getElem!_pos (flatK REdge.cells 4 d) j hs] at h1
    rw [h1, getElem!_pos d (j / 4) hd]
    have h4 : j % 4 < (REdge.cells d[j / 4]).length := by rw [REdge.cells_len]; omega
    rw [getElem!_pos (REdge.cells d[j / 4]) (j % 4) h4]
    simp
  · rw [List.getElem?_eq_none (by simp; omega), List.getElem?_eq_none (by rw [flat_len REdge.cells 4 REdge.cells_len]; simp; omega)]
theorem take_put (cur F : Array Value) (h : F.size ≤ cur.size) : (putCells id 0 F cur).toList.take F.size = F.toList := by
  apply List.ext_getElem?
  intro j
  by_cases hj : j < F.size
  · rw [List.getElem?_take_of_lt hj, Array.getElem?_toList, Array.getElem?_toList]
    simp [putCells, hj, show j < cur.size by omega]
  · rw [List.getElem?_take_eq_none (by omega), List.getElem?_eq_none (by simp; omega)]
theorem heap_put {w : World} {g n : Nat} {os : Array Obj} {cur : Array Value} {e : TypeId} {fr : Nat × Nat} (F : Array Value) (hb : w.heap[g]? = some (.cells cur e fr)) :
    (grow (putRow id (Sort.ahead w n) g 0 F) os).heap[g]? = some (.cells (putCells id 0 F cur) e fr) := by
  have hg : g < w.heap.size := (Array.getElem?_eq_some_iff.1 hb).1
  rw [heap_grow_old _ _ (by simpa using hg)]
  simp [putRow, mapBlock, Sort.ahead, Array.getElem?_modify, hb, onCells]
theorem apart_put {w : World} {g n : Nat} {os : Array Obj} (F : Array Value) : Apart w (grow (putRow id (Sort.ahead w n) g 0 F) os) [g] := by
  refine ⟨rfl, rfl, rfl, by simp, fun k hk hne => ?_⟩
  rw [heap_grow_old _ _ (by simpa using hk)]
  have : g ≠ k := fun e => hne (by simp [e])
  simp [putRow, mapBlock, Sort.ahead, Array.getElem?_modify, this]
theorem sort_edges (es : List REdge) (base : Nat) (v : Value) (w : World) (hown : REdgeOwn w base v es) (hl : es.length ≤ 1000) :
    Calls Tryz.prog 205 #[v, .func (.func 113) #[] #[]] w fun e w' => e = .returned (.tuple #[]) ∧ ∃ es', es'.Perm es ∧ Up es' ∧ REdgeOwn w' base v es' ∧ Apart w w' (vblocks v) := by
  haveI : Inhabited REdge := ⟨⟨0, ByteArray.empty, 0, 0⟩⟩
  obtain ⟨hlen, hh⟩ := hown
  rcases hh with ⟨rfl, h0⟩ | ⟨g, cap, cur, rfl, hg, hblk, hc, hcm, hcs, hcur⟩
  · have : es = [] := List.length_eq_zero_iff.1 h0
    subst this
    exact (Tryz.sortEd_none none 0 _ w).mono fun e w' ⟨he, hw⟩ => ⟨he, [], List.Perm.refl _, List.Pairwise.nil, by rw [hw]; exact REdgeOwn.nil _ _, by rw [hw]; exact Apart.refl _⟩
  · have hlt : g < w.heap.size := (Array.getElem?_eq_some_iff.1 hblk).1
    have hfl := flat_flatK es.toArray
    have hown0 : REdgeOwn w base (.slice (some ⟨g, 0, none⟩) es.length cap) es := ⟨hlen, .inr ⟨g, cap, cur, rfl, hg, hblk, hc, hcm, hcs, hcur⟩⟩
    have hH : HoldsK REdge.cells 4 w g 0 es.toArray := by
      intro j hj
      refine ⟨?_, by simp [World.frozen?, hblk]⟩
      have hj' : j < (flatK REdge.cells 4 es.toArray).size := hj
      have h1 : (es.flatMap REdge.cells)[j]? = some ((flatK REdge.cells 4 es.toArray)[j]) := by
        have e : es.flatMap REdge.cells = (flatK REdge.cells 4 es.toArray).toList := by simpa using hfl.symm
        rw [e, Array.getElem?_toList]
        exact Array.getElem?_eq_getElem hj'
      rw [Nat.zero_add, getElem!_pos (flatK REdge.cells 4 es.toArray) j hj']
      exact owns_cell hown0 rfl j _ h1
    have eg : ∀ args w, (callFunc 113 args).run Tryz.prog w = .ok (.enter 113 args) w := enters_of Tryz.func113 (by kernel_rfl) rfl
    have hcon := AnyQ.slices_SortFunc Tryz.sortEd 4 Tryz.isAggEd Tryz.sizeEd REdge.cells REdge.cells_len REdge.cells_one cmpE swo_cmp 113 #[] g 0 cap es.toArray w eg (cmp_lays g 0 es.toArray.size w) hH hlt (by simp; omega)
    have hcon' : Calls Tryz.prog 205 #[.slice (some ⟨g, 0, none⟩) es.length cap, .func (.func 113) #[] #[]] w _ := hcon
    refine hcon'.mono ?_
    rintro e w' ⟨he, d', n, os, hp, hs, rfl⟩
    have hsz : d'.size = es.length := by have := hp.1; simpa using this
    refine ⟨he, d'.toList, ?_, ?_, ?_, ?_⟩
    · have h2 := hp.2.2
      have e1 : (d'.extract 0 es.toArray.size).toList = d'.toList := by rw [show es.toArray.size = d'.size by simp [hsz]]; simp
      have e2 : (es.toArray.extract 0 es.toArray.size).toList = es := by simp
      rw [e1, e2] at h2
      exact h2
    · unfold Up
      rw [List.pairwise_iff_getElem]
      intro i j hi hj hij
      have hj' : j < d'.size := by simpa using hj
      have hi' : i < d'.size := by simpa using hi
      have := hs i j (Nat.zero_le _) hij (by simpa [hsz] using hj')
      rw [lt_cmp, getElem!_pos d' _ hj', getElem!_pos d' _ hi'] at this
      simpa using this
    · have hF : (flatK REdge.cells 4 d').size = es.length * 4 := by rw [size_flatK, hsz]
      have hcz : (flatK REdge.cells 4 d').size ≤ cur.size := by rw [hF, hcs]; exact Nat.mul_le_mul_right 4 hc
      have hlen' : d'.toList.length = es.length := by simpa using hsz
      unfold REdgeOwn
      rw [hlen']
      refine ⟨by rw [flat_len REdge.cells 4 REdge.cells_len, hlen'], .inr ⟨g, cap, putCells id 0 (flatK REdge.cells 4 d') cur, rfl, hg, heap_put _ hblk, hc, hcm, by simp [putCells, hcs], ?_⟩⟩
      rw [← hF, take_put _ _ hcz]
      exact flat_flatK d'
    · have h3 : Apart w (sortWorldK REdge.cells 4 w g 0 n d' os) [g] := apart_put (w := w) (g := g) (n := n) (os := os) (flatK REdge.cells 4 d')
      simpa [vblocks, cellBlocks] using h3
end Go.Proofs.YtaaeledleldllaaGreat
namespace Go.Proofs.YtaaeledleldllaaGreat
open Go.RowKit
attribute [local go_sem ↓] Go.wp_at_zero Go.wp_at_succ

set_option maxHeartbeats 400000 in
theorem s_l04state {q : Bool} {m : Mach} {s : Int} (hq : inB s 0 ((m.states.length : Int) - 1) = q) (v : Value) (w : World) (hv : MachAt w v m) :
    Calls Tryz.prog 45 #[v, .int .i64 s] w fun e w' => e = .returned (.bool q) ∧ Below w.heap.size w w' := by
  obtain ⟨sv, ev, rfl, hs, he⟩ := hv
  have hsl := hs.lenm
  obtain ⟨sa, sc, rfl, -⟩ := hs
  obtain ⟨ea, ec, rfl, -⟩ := he
  have HQ := hide hq
  clear hq
  go_enter Tryz.func45, Tryz.ntmps45
  go_wp2_with (go_at_call 82; refine (ms_in_at HQ.out _).mono ?_; rintro e w' ⟨rfl, rfl⟩)
  go_ret
  exact ⟨rfl, malloc1 _ _⟩
end Go.Proofs.YtaaeledleldllaaGreat
namespace Go.Proofs.YtaaeledleldllaaGreat
open Go.RowKit Go.Maps
attribute [local go_sem ↓] Go.wp_at_zero Go.wp_at_succ

set_option maxRecDepth 100000 in
set_option maxHeartbeats 1000000 in
theorem i_net {q : Bool} {l : List RMsg} (hq : netB l = q) (v : Value) (w : World) (hok : ∀ m ∈ l, m.ok) (hv : RMsgSl w w.heap.size v l) :
    Calls Tryz.prog 85 #[v] w fun e w' => e = .returned (.bool q) ∧ Below w.heap.size w w' := by
  have HQ := hide hq
  have HOK := hide hok
  have hlm := hv.lenm
  obtain ⟨ao, cap, rfl, hc, hm, hr⟩ := hv
  have HR := hide hr
  clear hr hq hok
  by_cases h36 : 36 < l.length
  · go_enter Tryz.func85, Tryz.ntmps85
    go_wp2_with fail
    go_ret
    exact ⟨ret_bool (by rw [← HQ.out]; exact net_long h36), Below.refl _ _⟩
  · have hmk : ∀ W : World, (Instr.makeMap 190 none).run Tryz.prog W = .ok (.map (some W.heap.size)) (W.alloc (.map #[] 0)) := fun W => rfl
    go_enter Tryz.func85, Tryz.ntmps85
    go_wp2_with fail
    obtain ⟨W1, hW1⟩ : ∃ W1, W1 = w.alloc (.map #[] 0) := ⟨_, rfl⟩
    have hsz1 : W1.heap.size = w.heap.size + 1 := by rw [hW1]; simp
    have HC0 : Hid (CntAt W1 [] w.heap.size 0) := hide (by rw [hW1]; exact cnt_new w)
    have HB1 : Hid (Below w.heap.size w W1) := hide (by rw [hW1]; exact malloc1 _ _)
    rw [← hW1]
    clear hW1 hmk
    go_loopw [12] (fun i wr => ∃ k : Nat, k ≤ l.length ∧ i = .int .i64 k ∧ CntAt wr (l.take k) w.heap.size k ∧ (∀ j (h : j < l.length), j < k → msgB l[j] = true) ∧ (∀ f t, cntM f t (l.take k) ≤ 3) ∧ Apart W1 wr [w.heap.size]) (fun i _ => l.length - (intOf i).toNat)
    case atStart => exact ⟨0, Nat.zero_le _, rfl, HC0.out, fun j _ h => absurd h (by omega), fun f t => by simp [cntM], (Apart.refl W1).weakN⟩
    case round =>
      obtain ⟨k, hk, rfl, hcnt, hall, hthree, hap⟩ := hrel
      have HCNT := hide hcnt
      have HALL := hide hall
      have H3 := hide hthree
      have HAP := hide hap
      have hsr : w.heap.size + 1 ≤ wr.heap.size := by have := hap.size; omega
      have HW : Hid (Below w.heap.size w wr) := hide (HB1.out.trans (hap.below (by omega) (by simp)))
      clear hcnt hall hthree hap
      by_cases hlt : k < l.length
      · obtain ⟨b, o, rfl, hbB, hrow⟩ := HR.out (by intro h; simp [h] at hlt)
        have hnode := (hrow.get k hlt).carry hbB HW.out
        have hmem : l[k] ∈ l := List.getElem_mem hlt
        have HSU : Hid (∀ f t, cntM f t (l.take (k + 1)) = cntM f t (l.take k) + if isMsg f t l[k] then 1 else 0) := hide (fun f t => cntM_succ f t hlt)
        have HTK : Hid (l.take (k + 1) = l.take k ++ [l[k]]) := hide (List.take_succ_eq_append_getElem hlt)
        obtain ⟨x1, hx1⟩ : ∃ x1, x1 = l[k] := ⟨_, rfl⟩
        have HX1 := hide hx1
        rw [← hx1] at hnode hmem HSU HTK
        have HMEM := hide hmem
        have HOK1 := hide (HOK.out x1 hmem)
        obtain ⟨c0, c1, c2, c3⟩ := hnode
        obtain ⟨p, hp⟩ : ∃ p, msgB x1 = p := ⟨_, rfl⟩
        have HP := hide hp
        obtain ⟨c, hcc⟩ : ∃ c, cntM x1.frm x1.to (l.take k) = c := ⟨_, rfl⟩
        have HCC := hide hcc
        have hcl : c ≤ 3 := by rw [← hcc]; exact H3.out _ _
        clear hx1 hrow hcc hp hmem
        cases p
        · go_wp2_with (go_at_call 134; refine (i_msg (m := x1) HP.out HOK1.out _).mono ?_; rintro e w1 ⟨rfl, hb1⟩; have HB2 : Hid (Below wr.heap.size wr w1) := hide ((malloc1 _ _).trans (hb1.mono (by simp))); clear hb1)
          go_ret
          exact ⟨ret_bool (by rw [← HQ.out]; exact net_msg HMEM.out HP.out), HW.out.trans (HB2.out.mono (by omega))⟩
        · by_cases h3 : c = 3
          all_goals
            go_wp2_with (first
              | (go_at_call 134; refine (i_msg (m := x1) HP.out HOK1.out _).mono ?_; rintro e w1 ⟨rfl, hb1⟩; have HB1' : Hid (Below wr.heap.size wr w1) := hide ((malloc1 _ _).trans (hb1.mono (by simp))); have d0 := (hb1.cell (p := ⟨wr.heap.size, 0, none⟩) (by simp)); have d1 := (hb1.cell (p := ⟨wr.heap.size, 1, none⟩) (by simp)); have d2 := (hb1.cell (p := ⟨wr.heap.size, 2, none⟩) (by simp)); have d3 := (hb1.cell (p := ⟨wr.heap.size, 3, none⟩) (by simp)); simp at d0 d1 d2 d3; have hl1 : wr.heap.size < w1.heap.size := (by have := hb1.size; simp at this; omega); clear hb1)
              | (go_at_call 135; refine (ends_of x1 w1).mono ?_; rintro e w2 ⟨rfl, hb2⟩; have HB2 : Hid (Below wr.heap.size wr w2) := hide (HB1'.out.trans (hb2.mono HB1'.out.size)); have e0 := (hb2.cell (p := ⟨wr.heap.size, 0, none⟩) hl1).trans d0; have e1 := (hb2.cell (p := ⟨wr.heap.size, 1, none⟩) hl1).trans d1; have e2 := (hb2.cell (p := ⟨wr.heap.size, 2, none⟩) hl1).trans d2; have e3 := (hb2.cell (p := ⟨wr.heap.size, 3, none⟩) hl1).trans d3; have hlk := cnt_look (HCNT.out.keep (below_apart HB2.out) (by simp)) HOK1.out.1 HOK1.out.2.1 HCC.out; have hl2 : wr.heap.size < w2.heap.size := Nat.lt_of_lt_of_le hl1 hb2.size; clear hb2)
              | (go_at_call 135; refine (ends_of x1 w2).mono ?_; rintro e w3 ⟨rfl, hb3⟩; have HB3 : Hid (Below wr.heap.size wr w3) := hide (HB2.out.trans (hb3.mono HB2.out.size)); have hlk3 := cnt_look (HCNT.out.keep (below_apart HB3.out) (by simp)) HOK1.out.1 HOK1.out.2.1 HCC.out; clear hb3))
          · go_ret
            exact ⟨ret_bool (by rw [← HQ.out]; exact net_full HMEM.out (by have h1 := HSU.out x1.frm x1.to; have h2 := cntM_take x1.frm x1.to l (k + 1); rw [isMsg_self, HCC.out] at h1; simp at h1; omega)), HW.out.trans (HB2.out.mono (by omega))⟩
          · clear d0 d1 d2 d3 hlk
            go_region_with (go_at_call 135; refine (ends_of x1 _).mono ?_; rintro e w3 ⟨rfl, hb3⟩; have HB3 : Hid (Below wr.heap.size wr w3) := hide (HB2.out.drew.trans (hb3.mono HB2.out.size)); have hlk3 := cnt_look (HCNT.out.keep (below_apart HB3.out) (by simp)) HOK1.out.1 HOK1.out.2.1 HCC.out; obtain ⟨v0, st, W4, W5, hme, hl4, hst, hcn, hap⟩ := cnt_bump (HCNT.out.keep (below_apart HB3.out) (by simp)) HOK1.out (by omega) HCC.out hcl; have HCN := hide hcn; have HAPN := hide hap; clear hb3 hcn hap)
            all_goals
              go_wp2_with fail
              go_roundw
              case rel =>
                refine ⟨k + 1, by omega, by go_num, by rw [HTK.out]; exact HCN.out, fun j hj hjk => ?_, fun f t => ?_, ?_⟩
                · by_cases e : j = k
                  · subst e; rw [← HX1.out]; exact HP.out
                  · exact HALL.out j hj (by omega)
                · have h1 := HSU.out f t
                  have h2 := H3.out f t
                  by_cases e : isMsg f t x1 = true
                  · obtain ⟨rfl, rfl⟩ := isMsg_iff.1 e
                    rw [isMsg_self, HCC.out] at h1
                    simp at h1
                    omega
                  · rw [if_neg e] at h1
                    omega
                · exact ((HAP.out.then HB3.out).trans HAPN.out).sameN
              case measure => simp [intOf]; omega
      · have hkl : k = l.length := by omega
        subst hkl
        go_wp2_with fail
        go_ret
        refine ⟨ret_bool ?_, HW.out⟩
        rw [← HQ.out]
        have h3 := H3.out
        rw [List.take_length] at h3
        refine net_yes (by omega) (fun m hm => ?_) (fun m _ => h3 _ _)
        obtain ⟨j, hj, rfl⟩ := List.getElem_of_mem hm
        exact HALL.out j hj hj
end Go.Proofs.YtaaeledleldllaaGreat
