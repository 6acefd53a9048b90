import Derived.Test.YtlbcnmcfljaijaaQF33
import Derived.Test.YtlbcnmcfljaijaaQF29
import Derived.Lib.OthersKept
import Derived.Lib.DecodeN
import Derived.Lib.TrimU
import Derived.Laws.Runes
import Derived.Deep.LoopGhost
import Derived.Deep.DeepMust
import Derived.Lib.FieldsP
namespace Go.Proofs.Ytlbcnmcfljaijaa
open Go.RowKit
set_option linter.unusedSimpArgs false
set_option linter.unusedVariables false

def bigX (ms : List ByteArray) : Prop := ∃ x ∈ ms, ∃ c ∈ x.toList, 128 ≤ c.toNat
def bigS (s : ByteArray) (ms : List ByteArray) : Prop := (∃ c ∈ s.toList, 128 ≤ c.toNat) ∧ bigX ms
def MkP (s : ByteArray) (pos : Nat) (all : List ByteArray) (wd : List UInt8) : Prop := ((∀ c ∈ s.toList.take pos, c.toNat < 128) ∧ (all, wd) = (s.toList.take pos).foldl mkS ([], [])) ∨ bigS s all
structure LkB (all : List ByteArray) (wd : List UInt8) (pos : Nat) : Prop where
  cnt : all.length + (if wd.isEmpty then 0 else 1) ≤ pos
  len : wd.length ≤ pos
  mz : mzB all
end Go.Proofs.Ytlbcnmcfljaijaa
namespace Go.Proofs.Ytlbcnmcfljaijaa
open Go.RowKit
set_option linter.unusedSimpArgs false
set_option linter.unusedVariables false

structure MkI (w : World) (s : ByteArray) (pos : Nat) (av wv : Value) (all : List ByteArray) (wd : List UInt8) (wx : World) : Prop where
  ao : SwOwn wx (w.heap.size + 1) av all
  wo : ByOwn wx (w.heap.size + 1) wv wd
  dis : ∀ b ∈ vblocks wv, b ∉ vblocks av
  it : wx.heap[w.heap.size]? = some (.stringIter s pos)
  below : Below w.heap.size w wx
  mp : MkP s pos all wd
  lk : LkB all wd pos
  le : pos ≤ s.size
end Go.Proofs.Ytlbcnmcfljaijaa
namespace Go.Proofs.Ytlbcnmcfljaijaa
open Go.RowKit
set_option linter.unusedSimpArgs false
set_option linter.unusedVariables false

theorem sr_must (x : List UInt8) (t : ByteArray) (at_ rb : Nat) (lv : Value) (part bad : Bool) (w : World) (hx : x.length ≤ 8000) (ht : t.size ≤ 8000) (hat : at_ ≤ t.size) (hb : BoxL w rb [.string t, .int .i64 (at_ : Int), lv, .bool part, .bool bad]) :
    Calls Try.prog 81 #[.pointer (some ⟨rb, 0, none⟩), .string (ba x)] w fun e w' => e = .returned (.tuple #[]) ∧ Apart w w' [rb] ∧ BoxL w' rb [.string t, .int .i64 (isA x t at_ bad : Int), lv, .bool part, .bool (!isQ x t at_ bad)] := by
  have CI := hide (sr_is x t at_ rb lv part bad w hx ht hat hb)
  obtain ⟨X, hX⟩ : ∃ X, ba x = X := ⟨_, rfl⟩
  rw [hX] at CI ⊢
  clear hX
  obtain ⟨A, hA⟩ : ∃ A, isA x t at_ bad = A := ⟨_, rfl⟩
  rw [hA] at CI ⊢
  clear hA
  obtain ⟨q, hq⟩ : ∃ q, isQ x t at_ bad = q := ⟨_, rfl⟩
  have HQ := hide hq
  rw [hq] at CI ⊢
  clear hq hb
  cases q
  · go_enter Try.func81, Try.ntmps81
    go_wp2_with (go_at_call 82; refine CI.out.mono ?_; rintro e w1 ⟨rfl, ha1, hb1⟩; have HA1 := hide ha1; have HB1 := hide hb1; have b4 := hb1.cell 4 _ rfl; have bz := hb1.fz; clear ha1 hb1)
    go_end0
    exact ⟨rfl, (HA1.out.setCell _ _), HB1.out.set 4 (by simp) _⟩
  · have hbf : bad = false := by
      have := HQ.out
      unfold isQ at this
      cases bad
      · rfl
      · cases this
    subst hbf
    go_enter Try.func81, Try.ntmps81
    go_wp2_with (go_at_call 82; refine CI.out.mono ?_; rintro e w1 ⟨rfl, ha1, hb1⟩; have HA1 := hide ha1; have HB1 := hide hb1; have b4 := hb1.cell 4 _ rfl; have bz := hb1.fz; clear ha1 hb1)
    go_end0
    exact ⟨rfl, HA1.out, HB1.out⟩
theorem inW_dec (c : UInt8) : (decide (97 ≤ (c.toNat : Int)) && decide ((c.toNat : Int) ≤ 122) || decide (48 ≤ (c.toNat : Int)) && decide ((c.toNat : Int) ≤ 57) || decide ((c.toNat : Int) = 95)) = inW c := by
  unfold inW
  rw [Bool.eq_iff_iff]
  simp only [Bool.or_eq_true, Bool.and_eq_true, decide_eq_true_eq, beq_iff_eq]
  omega
theorem tk_end {r : List UInt8} {k : Nat} (h : ∀ c ∈ r.take k, inW c = true) (he : k = r.length ∨ ∃ c, r[k]? = some c ∧ inW c = false) : r.takeWhile inW = r.take k ∧ (r.takeWhile inW).length = min k r.length := by
  have e : r.takeWhile inW = r.take k := by
    induction r generalizing k with
    | nil => simp
    | cons a r ih =>
      cases k with
      | zero =>
        rcases he with h0 | ⟨c, hc, hw⟩
        · cases h0
        · simp at hc
          subst hc
          rw [List.takeWhile_cons, hw]
          rfl
      | succ k =>
        have h1 := h a (by simp)
        rw [List.takeWhile_cons, h1, List.take_succ_cons]
        simp only [if_true]
        rw [ih (k := k) (fun c hc => h c (by rw [List.take_succ_cons]; exact List.mem_cons_of_mem _ hc)) (by
          rcases he with h0 | ⟨c, hc, hw⟩
          · left; simpa using h0
          · right; exact ⟨c, by simpa using hc, hw⟩)]
  exact ⟨e, by rw [e, List.length_take]⟩
theorem tk_more {r : List UInt8} {k : Nat} {c : UInt8} (h : ∀ c ∈ r.take k, inW c = true) (hc : r[k]? = some c) (hw : inW c = true) : ∀ c ∈ r.take (k + 1), inW c = true := fun d hd => by
  obtain ⟨hk, e⟩ := List.getElem?_eq_some_iff.1 hc
  rw [List.take_succ_eq_append_getElem hk] at hd
  rcases List.mem_append.1 hd with hd | hd
  · exact h d hd
  · simp at hd
    rw [hd, e]
    exact hw
theorem drop_get {t : ByteArray} {at_ k P : Nat} (hP : at_ + k = P) (hlt : P < t.size) {c : UInt8} (h : t[P] = c) : (t.toList.drop at_)[k]? = some c := by
  rw [List.getElem?_drop, hP]
  have e : t.toList.length = t.size := by rw [Go.ByteArray.toList_eq]; rfl
  rw [List.getElem?_eq_getElem (by omega), ← h]
  simp only [Go.ByteArray.toList_eq]
  rfl
theorem wd_out {t : ByteArray} {at_ k P : Nat} (hP : at_ + k = P) (hle : P ≤ t.size) (h : ∀ c ∈ (t.toList.drop at_).take k, inW c = true) (he : P = t.size ∨ ∃ c, (t.toList.drop at_)[k]? = some c ∧ inW c = false) : t.extract at_ P = ba ((t.toList.drop at_).takeWhile inW) ∧ at_ + ((t.toList.drop at_).takeWhile inW).length = P := by
  have e : t.toList.length = t.size := by rw [Go.ByteArray.toList_eq]; rfl
  obtain ⟨h1, h2⟩ := tk_end h (by
    rcases he with he | he
    · left; rw [List.length_drop]; omega
    · exact .inr he)
  refine ⟨?_, by rw [h2, List.length_drop]; omega⟩
  apply tl_inj
  rw [ext_list, ba_list, h1]
  congr 1
  omega
theorem ap_step {w wr : World} {rb : Nat} (h : Apart w wr [rb]) (n : Nat) (y : Value) : Apart w ((wr.drewN n).setCell ⟨rb, 1, none⟩ y) [rb] := Apart.setCell (w' := wr.drewN n) ⟨h.os, h.tape, h.output, h.size, h.block⟩ 1 y
theorem bx_step {wr : World} {rb : Nat} {a b c d e : Value} (h : BoxL wr rb [a, b, c, d, e]) (n : Nat) (y : Value) : BoxL ((wr.drewN n).setCell ⟨rb, 1, none⟩ y) rb [a, y, c, d, e] := BoxL.set (w := wr.drewN n) (vs := [a, b, c, d, e]) ⟨h.cell, h.fz, h.lt⟩ 1 (by simp) y
def wdA (t : ByteArray) (at_ : Nat) : Nat := at_ + ((t.toList.drop at_).takeWhile inW).length
set_option maxRecDepth 100000 in
set_option maxHeartbeats 1000000 in
theorem sr_word (t : ByteArray) (at_ rb : Nat) (lv : Value) (part bad : Bool) (w : World) (ht : t.size ≤ 8000) (hat : at_ ≤ t.size) (hb : BoxL w rb [.string t, .int .i64 (at_ : Int), lv, .bool part, .bool bad]) :
    Calls Try.prog 80 #[.pointer (some ⟨rb, 0, none⟩)] w fun e w' => e = .returned (.string (ba ((t.toList.drop at_).takeWhile inW))) ∧ Apart w w' [rb] ∧ BoxL w' rb [.string t, .int .i64 (wdA t at_ : Int), lv, .bool part, .bool bad] := by
  have b1 := hb.cell 1 _ rfl
  have HB := hide hb
  clear hb
  go_enter Try.func80, Try.ntmps80
  go_wp2_with fail
  go_loopg [] t.size (fun gf wx => ∃ k, Apart w wx [rb] ∧ BoxL wx rb [.string t, .int .i64 ((at_ + k : Nat) : Int), lv, .bool part, .bool bad] ∧ at_ + k ≤ t.size ∧ (∀ c ∈ (t.toList.drop at_).take k, inW c = true) ∧ t.size ≤ at_ + k + gf)
  case atStart => exact ⟨0, (Apart.refl _).weak, HB.out, hat, by simp, by omega⟩
  case round =>
    obtain ⟨k, hA, hB, hk, hal, hfu⟩ := hrel
    obtain ⟨P, hP⟩ : ∃ P, at_ + k = P := ⟨_, rfl⟩
    have HP := hide hP
    rw [hP] at hB hk hfu
    have HAL := hide hal
    have HA := hide hA
    have HB := hide hB
    have c0 := hB.cell 0 _ rfl
    have c1 := hB.cell 1 _ rfl
    have bz := hB.fz
    clear hP hal hA hB
    by_cases hlt : P < t.size
    · obtain ⟨g', rfl⟩ : ∃ g', gk = g' + 1 := ⟨gk - 1, by omega⟩
      go_wp2_with fail
      go_quiet (fail)
      go_wp2_with fail
      go_quiet (fail)
      obtain ⟨cc, hcc⟩ : ∃ cc, t[P] = cc := ⟨_, rfl⟩
      rw [hcc]
      have HCC := hide hcc
      clear hcc
      have hc8 := cc.toNat_lt
      go_wp2_with fail
      all_goals first
        | (have hw : inW cc = true := by
             clear HA HB HAL HP HCC c0 c1 bz
             cases hv : inW cc
             · exfalso
               rw [← inW_dec] at hv
               simp only [Bool.or_eq_false_iff, Bool.and_eq_false_iff, decide_eq_false_iff_not, Bool.not_eq_true', Bool.not_eq_false', decide_eq_true_eq, beq_iff_eq, beq_eq_false_iff_ne, ne_eq] at *
               omega
             · rfl
           go_roundg g'
           case measure => omega
           case rel =>
             have hP := HP.out
             refine ⟨k + 1, ap_step HA.out _ _, ?_, by omega, tk_more HAL.out (drop_get hP hlt HCC.out) hw, by omega⟩
             rw [show ((at_ + (k + 1) : Nat) : Int) = (P : Int) + 1 by omega]
             exact bx_step HB.out _ _)
        | (have hw : inW cc = false := by
             clear HA HB HAL HP HCC c0 c1 bz
             cases hv : inW cc
             · rfl
             · exfalso
               rw [← inW_dec] at hv
               simp only [Bool.or_eq_true, Bool.and_eq_true, decide_eq_false_iff_not, Bool.not_eq_true', Bool.not_eq_false', decide_eq_true_eq, beq_iff_eq, beq_eq_false_iff_ne, ne_eq] at *
               omega
           obtain ⟨w1, w2⟩ := wd_out HP.out hk HAL.out (.inr ⟨cc, drop_get HP.out hlt HCC.out, hw⟩)
           have hP : at_ ≤ P := by have := HP.out; omega
           have HW1 := hide w1
           have HW2 := hide w2
           clear w1 w2
           go_quiet (fail)
           go_wp2_with fail
           go_ret
           refine ⟨ret_str HW1.out.symm, ⟨HA.out.os, HA.out.tape, HA.out.output, HA.out.size, HA.out.block⟩, ?_⟩
           unfold wdA
           rw [HW2.out]
           exact ⟨HB.out.cell, HB.out.fz, HB.out.lt⟩)
    · go_wp2_with fail
      go_quiet (fail)
      go_wp2_with fail
      go_quiet (fail)
      go_wp2_with fail
      obtain ⟨w1, w2⟩ := wd_out HP.out hk HAL.out (.inl (by omega))
      go_ret
      refine ⟨ret_str w1.symm, ⟨HA.out.os, HA.out.tape, HA.out.output, HA.out.size, HA.out.block⟩, ?_⟩
      unfold wdA
      rw [w2]
      exact ⟨HB.out.cell, HB.out.fz, HB.out.lt⟩
end Go.Proofs.Ytlbcnmcfljaijaa
namespace Go.Proofs.Ytlbcnmcfljaijaa
open Go.RowKit
attribute [local go_sem ↓] Go.wp_at_zero Go.wp_at_succ

structure RoundT (n : Nat) (S : Nat → Prop) (w wr : World) (base mg : Nat) (cs ds : List (Br (Pn n))) (L2 : List (BV n)) (cv : Value) (k : Nat) (acc : List (BV n)) : Prop where
  same : takesBy (mergeN n) (acc.map BV.b) (ds.drop k) = takesBy (mergeN n) cs ds
  own : CsO S w.heap.size wr base cv acc
  sz : (brsBy (rowN n) (acc.map BV.b)).length + (brsBy (rowN n) (ds.drop k)).length ≤ 898
  shp : ∀ x ∈ acc, shapeN n x.b.p ∧ fourN n x.b.p
  four : acc.length ≤ 4
  bel : Below w.heap.size w wr
  more : ∀ (i : Nat) (x : BV n), L2[i]? = some x → ∀ (j : Nat) (y : Value), j < 6 → x.six[j]? = some y → wr.cell? ⟨mg, i * 6 + j, none⟩ = some y
  mlt : mg < wr.heap.size
  mno : mg ∉ vblocks cv
  blt : base ≤ wr.heap.size
theorem addr_add (g o j : Nat) : Addr.add ⟨g, o, none⟩ j = ⟨g, o + j, none⟩ := by
  by_cases h : j = 0
  · subst h; rfl
  · simp [Addr.add, h]
theorem takes_step {n k : Nat} {acc cs ds : List (Br (Pn n))} {d : Br (Pn n)} (h : takesBy (mergeN n) acc (ds.drop k) = takesBy (mergeN n) cs ds) (hd : ds[k]? = some d) : takesBy (mergeN n) cs ds = match takeBy (mergeN n) acc d with
    | none => none
    | some l => takesBy (mergeN n) l (ds.drop (k + 1)) := by
  have hlt := (List.getElem?_eq_some_iff.1 hd).1
  have hde : ds[k] = d := (List.getElem?_eq_some_iff.1 hd).2
  rw [← h, List.drop_eq_getElem_cons hlt, hde, takesBy]
  cases takeBy (mergeN n) acc d <;> rfl
theorem split_cso {n : Nat} {S : Nat → Prop} {a base : Nat} {w w' : World} {v : Value} {L : List (BV n)} (hS : ∀ g, S g → g < a) (hab : a ≤ base) (hbw : base ≤ w.heap.size) (hown : w.ownsRow base 126 6 v L.length (L.flatMap BV.six)) (hrd : ∀ x ∈ L, RdW w S x.u (rowN n x.b.p)) (hb : Below w.heap.size w w') : CsO S a w' base v L :=
  ⟨owns_below hown hb, fun x hx => (hrd x hx).carry (fun g hg => hb.block g (by have := hS g hg; omega)) (fun g hg => ⟨.inl hg, fun hm => by have := (owns_fresh hown).lo g hm; have := hS g hg; omega⟩), hS, hab, by have := hb.size; omega⟩
set_option maxRecDepth 100000 in
set_option maxHeartbeats 4000000 in
theorem s_merge_hear (n : Nat) (S : Nat → Prop) (hmg : MergeSCalls n) (a0 a b0 b : ByteArray) (cs ds : List (Br (Pn n))) (hcs : cs ≠ [] ∧ cs.length ≤ 4 ∧ ∀ x ∈ cs, shapeN n x.p ∧ fourN n x.p) (hds : ds ≠ [] ∧ ∀ x ∈ ds, shapeN n x.p ∧ fourN n x.p) (u v : Value) (w : World) (hS : ∀ g, S g → g < w.heap.size) (hsz : (rowN (n + 1) (.talk ⟨6, a0, a⟩ cs)).length + (rowN (n + 1) (.talk ⟨6, b0, b⟩ ds)).length ≤ 900) (hu : RdW w S u (rowN (n + 1) (.talk ⟨6, a0, a⟩ cs))) (hv : RdW w S v (rowN (n + 1) (.talk ⟨6, b0, b⟩ ds))) (hne : rowEq (rowN (n + 1) (.talk ⟨6, a0, a⟩ cs)) (rowN (n + 1) (.talk ⟨6, b0, b⟩ ds)) = false) (hab : (a.toList == b.toList) = true) :
    Calls Try.prog 70 #[u, v] w fun e w' => MergedS (n + 1) S w w' e ((takesBy (mergeN n) cs ds).map (Pn.talk ⟨6, noT, a⟩)) := by
  obtain ⟨i0, hi, hz0, hz1, hz2⟩ := info_parts Try.infoNd
  have HI := hide (And.intro hi (And.intro hz0 (And.intro hz1 hz2)))
  have HSM : Hid (∀ W, Below w.heap.size w W → Calls Try.prog 77 #[u, v] W fun e w' => e = .returned (.bool false) ∧ Below W.heap.size W w') := hide (fun W hW => by
    rw [← hne]
    exact s_same _ _ u v W S (fun g hg => Nat.lt_of_lt_of_le (hS g hg) hW.size) (hu.on hS hW) (hv.on hS hW))
  have HSP1 : Hid (∀ W, Below w.heap.size w W → Calls Try.prog 78 #[u] W fun e w' => ∃ (v' : Value) (L : List (BV n)), e = .returned v' ∧ L.map BV.b = cs ∧ w'.ownsRow W.heap.size 126 6 v' L.length (L.flatMap BV.six) ∧ (∀ x ∈ L, RdW w' S x.u (rowN n x.b.p)) ∧ Below W.heap.size W w') := hide (fun W hW => s_split n _ cs (fun x hx => (hcs.2.2 x hx).1) _ rfl (by omega) u W S (fun g hg => Nat.lt_of_lt_of_le (hS g hg) hW.size) (hu.on hS hW))
  have HSP2 : Hid (∀ W, Below w.heap.size w W → Calls Try.prog 78 #[v] W fun e w' => ∃ (v' : Value) (L : List (BV n)), e = .returned v' ∧ L.map BV.b = ds ∧ w'.ownsRow W.heap.size 126 6 v' L.length (L.flatMap BV.six) ∧ (∀ x ∈ L, RdW w' S x.u (rowN n x.b.p)) ∧ Below W.heap.size W w') := hide (fun W hW => s_split n _ ds (fun x hx => (hds.2 x hx).1) _ rfl (by omega) v W S (fun g hg => Nat.lt_of_lt_of_le (hS g hg) hW.size) (hv.on hS hW))
  have HUR : Hid (∀ W, Below w.heap.size w W → RdW W (plusF S w.heap.size W) u (rowN (n + 1) (.talk ⟨6, a0, a⟩ cs))) := hide (fun W hW => (hu.on hS hW).up (fun g hg => .inl hg))
  have HSZ := hide hsz
  have HSS := hide hS
  have HMG := hide hmg
  have HCS := hide hcs
  have HDS := hide hds
  rw [row_talk] at hu hv
  obtain ⟨ax, cx, rfl, hcx, hmx, -, hrx⟩ := hu
  obtain ⟨ay, cy, rfl, hcy, hmy, -, hry⟩ := hv
  obtain ⟨gx, ox, rfl, hgx, hrx⟩ := hrx (by simp)
  obtain ⟨gy, oy, rfl, hgy, hry⟩ := hry (by simp)
  obtain ⟨⟨x0, -, x2, -, -⟩, -⟩ := hrx
  obtain ⟨⟨y0, -, y2, -, -⟩, -⟩ := hry
  dsimp only at x0 x2 y0 y2
  have hgxw := hS gx hgx
  have hgyw := hS gy hgy
  have HSZ2 : Hid ((brsBy (rowN n) cs).length + (brsBy (rowN n) ds).length ≤ 898) := hide (by rw [row_talk, row_talk] at hsz; simp only [List.length_cons] at hsz; omega)
  simp only [List.length_cons] at HSM HUR HSP1 HSP2 hcx hcy ⊢
  obtain ⟨L, hL⟩ : ∃ L, (brsBy (rowN n) cs).length = L := ⟨_, rfl⟩
  obtain ⟨M, hM⟩ : ∃ M, (brsBy (rowN n) ds).length = M := ⟨_, rfl⟩
  rw [hL] at HSM HUR HSP1 hcx ⊢
  rw [hM] at HSM HSP2 hcy ⊢
  clear hL hM hS hsz hne hmg hcs hds hi hz0 hz1 hz2
  have h1 : ((6 : Int) != 6) = false := rfl
  go_enter Try.func70, Try.ntmps70
  go_wp2_with (go_at_call 77; refine (HSM.out _ (Below.refl _ _)).mono ?_; rintro e w1 ⟨rfl, hb1⟩; have HB1 := hide hb1; have c0 := (hb1.cell (p := ⟨gx, ox, none⟩) hgxw).trans x0; have c2 := (hb1.cell (p := ⟨gx, ox + 2, none⟩) hgxw).trans x2; have d0 := (hb1.cell (p := ⟨gy, oy, none⟩) hgyw).trans y0; have d2 := (hb1.cell (p := ⟨gy, oy + 2, none⟩) hgyw).trans y2; clear hb1)
  refine wp_region_grown (by kernel_rfl) (by kernel_rfl) (fun V hV => ?_)
  try simp only [Act.put, List.getElem_toArray, List.getElem_cons_succ, List.getElem_cons_zero, List.setIfInBounds_toArray, List.set_cons_zero, List.set_cons_succ]
  have hne9 := grown_some V
  have g0 := grown_cell (w := V) (by rw [hV]; exact c0)
  have g2 := grown_cell (w := V) (by rw [hV]; exact c2)
  have k0 := grown_cell (w := V) (by rw [hV]; exact d0)
  have k2 := grown_cell (w := V) (by rw [hV]; exact d2)
  have HV := hide hV
  clear hV
  repeat (go_big_quiet_step (fail))
  refine wpQuiet_nil ?_
  intro w4 hw4
  rw [HV.out] at hw4
  have HB4 : Hid (Below w.heap.size w w4) := hide (HB1.out.trans (hw4.mono HB1.out.size))
  clear hw4 hne9 g0 g2 k0 k2 HV c0 c2 d0 d2
  go_wp2_with (first
    | ((fail_if_success (have := HO5)); go_at_call 78; refine (HSP1.out _ HB4.out).mono ?_; rintro e w5 ⟨v5, L1, rfl, hm5, ho5, hr5, hb5⟩; have HM5 := hide hm5; have HO5 := hide ho5; have HR5 := hide hr5; have HB5 : Hid (Below w.heap.size w w5) := hide (HB4.out.trans (hb5.mono HB4.out.size)); have HZ5 := hide hb5.size; clear hm5 ho5 hr5 hb5)
    | ((fail_if_success (have := HO6)); go_at_call 78; refine (HSP2.out _ HB5.out).mono ?_; rintro e w6 ⟨v6, L2, rfl, hm6, ho6, hr6, hb6⟩; have HM6 := hide hm6; have HO6 := hide ho6; have HR6 := hide hr6; have HB6 : Hid (Below w.heap.size w w6) := hide (HB5.out.trans (hb6.mono HB5.out.size)); have HB56 := hide hb6; clear hm6 ho6 hr6 hb6))
  have hD0 : 0 < ds.length := List.length_pos_iff.2 HDS.out.1
  have hL2 : L2.length = ds.length := by rw [← HM6.out, List.length_map]
  have hD9 : ds.length ≤ 898 := by have := brs_count (rowN n) ds; have := HSZ2.out; omega
  obtain ⟨mg, mc, hv6⟩ : ∃ mg mc, v6 = .slice (some ⟨mg, 0, none⟩) L2.length mc := by
    rcases HO6.out.2 with ⟨h0, h1⟩ | ⟨g', cap', cur', hv', _⟩
    · omega
    · exact ⟨g', cap', hv'⟩
  obtain ⟨D, hD⟩ : ∃ D, ds.length = D := ⟨_, rfl⟩
  rw [hL2, hD] at hv6
  rw [hD] at hD0 hL2 hD9
  subst hv6
  have HD := hide hD
  have HL2 := hide hL2
  have HST : Hid (RoundT n S w w6 w4.heap.size mg cs ds L2 v5 0 L1) := hide ⟨by rw [HM5.out]; rfl, split_cso HSS.out HB4.out.size HZ5.out HO5.out HR5.out HB56.out, by rw [HM5.out]; exact HSZ2.out, fun x hx => HCS.out.2.2 x.b (by rw [← HM5.out]; exact List.mem_map_of_mem hx), by rw [← List.length_map (f := BV.b), HM5.out]; exact HCS.out.2.1, HB6.out, (fun i x hx j y hj hy => by
      obtain ⟨hlt, hxe⟩ := List.getElem?_eq_some_iff.1 hx
      exact owns_cell HO6.out (by rw [HL2.out]) (i * 6 + j) y ((flat_get BV.six 6 BV.six_len L2 i hlt j hj).trans (by rw [hxe]; exact hy))), (owns_fresh HO6.out).hi mg (by simp [vblocks, cellBlocks]), (fun hm => by
      have h1 := (owns_fresh HO5.out).hi mg hm
      have h2 := (owns_fresh HO6.out).lo mg (by simp [vblocks, cellBlocks])
      omega), Nat.le_trans HZ5.out HB56.out.size⟩
  have HR6' : Hid (∀ W, Below w.heap.size w W → ∀ x ∈ L2, RdW W S x.u (rowN n x.b.p)) := hide (fun W hW x hx => (HR6.out x hx).carry (fun g hg => (hW.block g (HSS.out g hg)).trans (HB6.out.block g (HSS.out g hg)).symm) (fun _ h => h))
  obtain ⟨p5, c5, hv5⟩ := owns_shape HO5.out
  subst hv5
  clear hL2 hD
  go_loopw [6, 8] (fun cv i wr => ∃ (k : Nat) (acc : List (BV n)), k ≤ D ∧ i = .int .i64 k ∧ RoundT n S w wr w4.heap.size mg cs ds L2 cv k acc) (fun _ i _ => D - (intOf i).toNat)
  case atStart => exact ⟨0, L1, Nat.zero_le _, rfl, HST.out⟩
  case round =>
    obtain ⟨k, acc, hk, rfl, hR⟩ := hrel
    have HR := hide hR
    have hzw := hR.bel.size
    have hA4 := hR.four
    obtain ⟨cp, cc, hcv⟩ := owns_shape hR.own.own
    obtain ⟨A, hA⟩ : ∃ A, acc.length = A := ⟨_, rfl⟩
    rw [hA] at hcv hA4
    have HA := hide hA
    subst hcv
    by_cases hlt : k < D
    · obtain ⟨x, hx⟩ : ∃ x, L2[k]? = some x := ⟨L2[k]'(by rw [HL2.out]; exact hlt), List.getElem?_eq_getElem _⟩
      have hdk : ds[k]? = some x.b := by rw [← HM6.out, List.getElem?_map, hx]; rfl
      have hxm : x ∈ L2 := List.mem_of_getElem? hx
      have hdm : x.b ∈ ds := List.mem_of_getElem? hdk
      have HBD := hide (brs_drop hdk)
      have HST := hide (takes_step hR.same hdk)
      have HXR := hide (HR6'.out wr hR.bel x hxm)
      have HTC : Hid (Calls Try.prog 79 #[.slice cp A cc, .agg #[.int .i64 4, .string x.b.l, .string ByteArray.empty, .int .i64 0, .int .i64 x.b.s, x.u]] wr fun e w' => TookS n S w.heap.size w4.heap.size (.slice cp A cc) wr w' e (takeBy (mergeN n) (acc.map BV.b) x.b)) := hide (s_take n S w.heap.size w4.heap.size HMG.out acc x (.slice cp A cc) wr hR.own hR.blt (HXR.out.up (fun g hg => ⟨.inl hg, fun hm => by have := (owns_fresh hR.own.own).lo g hm; have := hR.own.ab; have := HSS.out g hg; omega⟩)) hR.shp (HDS.out.2 x.b hdm) (by have := hR.sz; have := HBD.out; omega))
      have m0 := hR.more k x hx 0 _ (by omega) rfl
      have m1 := hR.more k x hx 1 _ (by omega) rfl
      have m2 := hR.more k x hx 2 _ (by omega) rfl
      have m3 := hR.more k x hx 3 _ (by omega) rfl
      have m4 := hR.more k x hx 4 _ (by omega) rfl
      have m5 := hR.more k x hx 5 _ (by omega) rfl
      have hxu : ∃ p l c, x.u = .slice p l c := by obtain ⟨p, c, e, -⟩ := HXR.out; exact ⟨_, _, _, e⟩
      have HSD := hide (HDS.out.2 x.b hdm)
      obtain ⟨⟨xl, xs, xp⟩, xu⟩ := x
      dsimp only at hxu m0 m1 m2 m3 m4 m5 HTC HST HBD HSD
      obtain ⟨xq, xn, xc, rfl⟩ := hxu
      rw [Nat.add_zero] at m0
      obtain ⟨om, hom⟩ : ∃ om, takeBy (mergeN n) (acc.map BV.b) ⟨xl, xs, xp⟩ = om := ⟨_, rfl⟩
      rw [hom] at HTC HST
      have HOM := hide hom
      clear hR hx hdk hxm hdm hom hA
      cases om with
      | none =>
        go_wp2_with (go_at_call 79; refine HTC.out.mono ?_; rintro e w7 ⟨v7, acc7, rfl, h7a, h7b, h7c, p7, l7, c7, rfl⟩; have HB7 : Hid (Below w.heap.size w w7) := hide (HR.out.bel.trans (h7b.below hzw (fun b hb => Nat.le_trans HR.out.own.ab ((owns_fresh HR.out.own.own).lo b hb)))); clear h7a h7b h7c)
        go_ret2
        rw [HST.out]
        exact ⟨_, _, rfl, HUR.out w7 HB7.out, (fun z hz => by cases hz), ⟨row_pos _ _, by have := HSZ.out; omega⟩, HB7.out⟩
      | some l =>
        go_wp2_with (go_at_call 79; refine HTC.out.mono ?_; rintro e w7 ⟨v7, acc7, rfl, h7a, h7b, h7c, p7, l7, c7, rfl⟩; have H7A := hide (h7a l rfl); have H7B := hide h7b; have H7C := hide h7c; have HB7 : Hid (Below w.heap.size w w7) := hide (HR.out.bel.trans (h7b.below hzw (fun b hb => Nat.le_trans HR.out.own.ab ((owns_fresh HR.out.own.own).lo b hb)))); clear h7a h7b h7c)
        go_roundw
        case rel =>
          obtain ⟨e7, o7⟩ := H7A.out
          obtain ⟨hmb, h4⟩ := take_as HOM.out
          have hsz1 := (mergeBy_sz (f := rowN n) (mg := mergeN n) (fun x y z h => merge_sz n x y z h) _ _ _ hmb).1
          have hd1 : (brsBy (rowN n) [(⟨xl, xs, xp⟩ : Br (Pn n))]).length = 1 + (rowN n xp).length := by rw [brs_cons]; simp [brsBy]; omega
          have hbd := HBD.out
          have hsz := HR.out.sz
          have hall := mergeBy_all (Q := fun p => shapeN n p ∧ fourN n p) (mg := mergeN n) (fun x y z hx hy h => ⟨merge_shape n x y z hx.1 hy.1 h, merge_four n x y z hx.2 hy.2 h⟩) _ _ _ (fun b hb => by obtain ⟨y, hy, rfl⟩ := List.mem_map.1 hb; exact HR.out.shp y hy) (fun b hb => by simp at hb; subst hb; exact HSD.out) hmb
          refine ⟨k + 1, acc7, hlt, by go_num, ⟨by rw [e7, HST.out], o7, by rw [e7]; omega, fun y hy => hall y.b (by rw [← e7]; exact List.mem_map_of_mem hy), ?_, HB7.out, fun i y hy j z hj hz => ?_, Nat.lt_of_lt_of_le HR.out.mlt H7B.out.size, fun hm => ?_, Nat.le_trans HR.out.blt H7B.out.size⟩⟩
          · have := h4 (by rw [List.length_map]; exact HR.out.four)
            rw [← e7, List.length_map] at this
            exact this
          · exact H7B.out.cell' (HR.out.more i y hy j z hj hz) HR.out.mno
          · rcases H7C.out mg hm with h | h
            · exact HR.out.mno h
            · have := HR.out.mlt; omega
        case measure => simp [intOf]; omega
    · obtain rfl : k = D := by omega
      have HSMM : Hid (takesBy (mergeN n) cs ds = some (acc.map BV.b)) := hide (by have := hR.same; rw [List.drop_of_length_le (by rw [HD.out]; exact Nat.le_refl _), takesBy] at this; exact this.symm)
      have z2 := (hR.bel.cell (p := ⟨gx, ox + 2, none⟩) hgxw).trans x2
      have HFC : Hid (∀ (i : Nat) (y : BV n), acc[i]? = some y → ∃ cg g o c, cp = some ⟨cg, 0, none⟩ ∧ cg < wr.heap.size ∧ y.u = .slice (some ⟨g, o, none⟩) (rowN n y.b.p).length c ∧ ∀ W, Below wr.heap.size wr W → (∀ (j : Nat) (z : Value), j < 6 → y.six[j]? = some z → W.cell? ⟨cg, i * 6 + j, none⟩ = some z) ∧ RowAt W g o (rowN n y.b.p)) := hide (fun i y hy => by
        obtain ⟨cg, hcg⟩ : ∃ cg, cp = some ⟨cg, 0, none⟩ := by
          rcases HR.out.own.own.2 with ⟨h0, h1⟩ | ⟨g', cap', cur', hv', _⟩
          · have := (List.getElem?_eq_some_iff.1 hy).1; omega
          · injection hv' with hv' _ _; exact ⟨g', hv'⟩
        subst hcg
        obtain ⟨ao, cap, e, -, -, -, hrow⟩ := HR.out.own.rds y (List.mem_of_getElem? hy)
        obtain ⟨g, o, e2, hgs, hrow2⟩ := hrow (fun e => by have := row_pos n y.b.p; rw [e] at this; simp at this)
        refine ⟨cg, g, o, cap, rfl, (owns_fresh HR.out.own.own).hi cg (by simp [vblocks, cellBlocks]), by rw [e, e2], fun W hW => ⟨fun j z hj hz => CsO.get (g := cg) (c := cc) (by rw [HA.out]; exact HR.out.own.keep hW) hy j hj z hz, hrow2.block (hW.block g (plus_lt HR.out.own.low HR.out.own.siz hgs.1))⟩⟩)
      have HZ9 : Hid ((brsBy (rowN n) (acc.map BV.b)).length ≤ 898) := hide (by have := hR.sz; omega)
      have HBL := hide hR.bel
      obtain ⟨Z, hZ⟩ : ∃ Z, wr.heap.size = Z := ⟨_, rfl⟩
      rw [hZ] at HFC hzw
      have HZZ := hide hZ
      have HACC : Hid (acc.length = A) := hide hA
      clear hR hA hZ
      go_wp2_with fail
      go_loopw [11, 12] (fun ov i wr2 => ∃ k2 : Nat, k2 ≤ A ∧ i = .int .i64 k2 ∧ NdOwn wr2 Z ov (⟨6, noT, a, (A : Int), 0⟩ :: brsBy (rowN n) ((acc.map BV.b).take k2)) ∧ Below Z wr wr2) (fun _ i _ => A - (intOf i).toNat)
      case atStart => exact ⟨0, Nat.zero_le _, rfl, nd_lit wr ⟨6, noT, a, (A : Int), 0⟩ _ _ rfl (by rw [HZZ.out]; exact Nat.le_refl _), by rw [← HZZ.out]; exact malloc1 _ _⟩
      case round =>
        obtain ⟨k2, hk2, rfl, hown, hbel⟩ := hrel
        have HOWN := hide hown
        have HBEL := hide hbel
        have hzw2 := hbel.size
        rw [HZZ.out] at hzw2
        obtain ⟨p, c, hp⟩ := owns_shape hown
        obtain ⟨X, hX⟩ : ∃ X, (⟨6, noT, a, (A : Int), 0⟩ :: brsBy (rowN n) ((acc.map BV.b).take k2) : List Nd) = X := ⟨_, rfl⟩
        have HXL : Hid (X.length ≤ 900) := hide (by rw [← hX, List.length_cons]; have := brs_take_len (f := rowN n) (acc.map BV.b) k2; have := HZ9.out; omega)
        rw [hX] at hp HOWN
        obtain ⟨cnt, hcnt⟩ : ∃ c, X.length = c := ⟨_, rfl⟩
        rw [hcnt] at hp
        have HCN := hide hcnt
        have hcl : cnt ≤ 900 := by rw [← hcnt]; exact HXL.out
        subst hp
        have HX := hide hX
        have HOWN2 : Hid (wr.ownsRow Z 87 5 (.slice p cnt c) cnt (X.flatMap Nd.cells)) := hide (by have := HOWN.out; unfold NdOwn at this; rw [HCN.out] at this; exact this)
        clear hown hX hcnt
        by_cases hlt2 : k2 < A
        · obtain ⟨y, hy⟩ : ∃ y, acc[k2]? = some y := ⟨acc[k2]'(by rw [HACC.out]; exact hlt2), List.getElem?_eq_getElem _⟩
          have HB0 : Hid ((acc.map BV.b)[k2]? = some y.b) := hide (by rw [List.getElem?_map, hy]; rfl)
          obtain ⟨cg, g, o, cu, rfl, hcg, hyu, hfw⟩ := HFC.out k2 y hy
          obtain ⟨hsix, -⟩ := hfw wr hbel
          have m0 := hsix 0 _ (by omega) rfl
          have m1 := hsix 1 _ (by omega) rfl
          have m2 := hsix 2 _ (by omega) rfl
          have m3 := hsix 3 _ (by omega) rfl
          have m4 := hsix 4 _ (by omega) rfl
          rw [Nat.add_zero] at m0
          have hrp := row_pos n y.b.p
          have hrl : (rowN n y.b.p).length ≤ 898 := by have := (brs_get (f := rowN n) HB0.out).1; have := HZ9.out; omega
          obtain ⟨⟨yl, ys, yp⟩, yu⟩ := y
          dsimp only at hyu m0 m1 m2 m3 m4 hrp hrl
          subst hyu
          have HFW := hide hfw
          dsimp only at HFW
          obtain ⟨N, hN⟩ : ∃ N, rowN n yp = N := ⟨_, rfl⟩
          rw [hN] at hrl hrp HFW
          have HN := hide hN
          obtain ⟨RL, hRL⟩ : ∃ RL, N.length = RL := ⟨_, rfl⟩
          rw [hRL] at hrl hrp HFW
          have HRL := hide hRL
          clear hsix hfw hN hRL hbel hy
          go_wp2_with (first
            | ((fail_if_success (have := HO8)); at_builtin; refine wpList_append_own _ rfl (.tmp 78) (.tmp 84) 61 rfl Z 87 i0 (.agg #[.int .i64 0, .string ByteArray.empty, .string ByteArray.empty, .int .i64 0, .int .i64 0]) 5 56 Try.underlying61 HI.out.1 HI.out.2.1 HI.out.2.2.1 HI.out.2.2.2 rfl (by decide) (.slice p cnt c) cnt (X.flatMap Nd.cells) rfl (owns_below HOWN2.out (malloc1 wr _)) ⟨wr.heap.size, 0, none⟩ 1 1 (Nd.cells ⟨4, yl, noT, 0, ys⟩) rfl rfl (fun j u hj => new_rowq _ _ _ _ (by simp) j u hj) (Nd.cells_one _) (by unfold maxLen; omega) (by omega) (by simp; omega) ?_; intro v8 w8 hown8 hgr8 _; have HO8 := hide hown8; have HA8 : Hid (Apart wr w8 (vblocks (.slice p cnt c))) := hide (by have := (below_apart (malloc1 wr _)).trans (grownBy_apart hgr8); rwa [List.nil_append] at this); have HB8 := hide (HBEL.out.trans (HA8.out.below hzw2 (owns_fresh HOWN2.out).lo)); have z5 := (HFW.out w8 HB8.out).1 5 _ (by omega) rfl; obtain ⟨p8, c8, rfl⟩ := owns_shape hown8; clear hown8 hgr8)
            | ((fail_if_success (have := HO9)); at_builtin; refine wpList_append_own _ rfl (.tmp 86) (.tmp 91) 61 rfl Z 87 i0 (.agg #[.int .i64 0, .string ByteArray.empty, .string ByteArray.empty, .int .i64 0, .int .i64 0]) 5 56 Try.underlying61 HI.out.1 HI.out.2.1 HI.out.2.2.1 HI.out.2.2.2 rfl (by decide) (.slice p8 (cnt + 1) c8) (cnt + 1) (X.flatMap Nd.cells ++ Nd.cells ⟨4, yl, noT, 0, ys⟩) rfl HO8.out ⟨g, o, none⟩ RL cu (N.flatMap Nd.cells) rfl (by rw [flat_len Nd.cells 5 Nd.cells_len, HRL.out]) (fun j u hj => by rw [addr_add]; exact row_cells (HFW.out w8 HB8.out).2 j u hj) (nds_one N) (by unfold maxLen; omega) (by omega) (by have := HA8.out.size; omega) ?_; intro v9 w9 hown9 hgr9 _; have HO9 := hide hown9; have HB9 := hide (HB8.out.trans ((grownBy_apart hgr9).below (by have := HA8.out.size; omega) (owns_fresh HO8.out).lo)); obtain ⟨p9, c9, rfl⟩ := owns_shape hown9; clear hown9 hgr9))
          go_roundw
          case rel =>
            refine ⟨k2 + 1, hlt2, by go_num, ?_, HB9.out⟩
            have e := brs_take (f := rowN n) HB0.out
            dsimp only at e
            rw [HN.out] at e
            rw [e, ← List.cons_append, ← List.cons_append, HX.out]
            refine NdOwn.snoc ?_
            rw [List.length_append, List.length_singleton, HCN.out, HRL.out, List.flatMap_append]
            simpa using HO9.out
          case measure => simp [intOf]; omega
        · obtain rfl : k2 = A := by omega
          have HE : Hid (X = rowN (n + 1) (.talk ⟨6, noT, a⟩ (acc.map BV.b))) := hide (by rw [← HX.out, row_talk, List.take_of_length_le (by rw [List.length_map, HACC.out]; exact Nat.le_refl _), List.length_map, HACC.out])
          go_wp2_with fail
          go_ret2
          rw [HSMM.out]
          have hbw : Below w.heap.size w wr := HBL.out.trans (HBEL.out.mono hzw)
          refine ⟨_, X, rfl, ?_, (fun z hz => by have hz' : some (Pn.talk ⟨6, noT, a⟩ (acc.map BV.b)) = some z := hz; injection hz' with hz'; rw [← hz']; exact HE.out), ⟨by rw [HE.out]; exact row_pos _ _, HXL.out⟩, hbw⟩
          exact (NdOwn.rdS HOWN.out (by have := HXL.out; omega)).up (fun g hg => .inr ⟨Nat.le_trans hzw hg.1, hg.2⟩)
end Go.Proofs.Ytlbcnmcfljaijaa
