import Derived.Test.YtlbcnmcfljaijaaQF25
import Derived.Test.YtlbcnmcfljaijaaQF04
import Derived.Test.YtlbcnmcfljaijaaQF22
import Derived.Test.YtlbcnmcfljaijaaQF29
import Derived.Test.YtlbcnmcfljaijaaQF21
import Derived.Test.YtlbcnmcfljaijaaQF30
namespace Go.Proofs.Ytlbcnmcfljaijaa
open Go.RowKit

structure MsAt (w : World) (mb tb : Nat) (ms : List ByteArray) : Prop where
  at_ : ∃ ao cap, BoxL w mb [.slice ao ms.length cap] ∧ ms.length ≤ cap ∧ cap ≤ 9223372036854775807 ∧ (ms ≠ [] → ∃ o, ao = some ⟨tb, o, none⟩ ∧ tb < w.heap.size ∧ ∀ i (h : i < ms.length), w.cell? ⟨tb, o + i, none⟩ = some (.string ms[i]))
  ne : tb ≠ mb
theorem MsAt.keep {w w' : World} {mb tb : Nat} {ms : List ByteArray} {l : List Nat} (h : MsAt w mb tb ms) (ha : Apart w w' l) (h1 : mb ∉ l) (h2 : tb ∉ l) : MsAt w' mb tb ms := by
  obtain ⟨ao, cap, hb, hc, hm, hr⟩ := h.at_
  refine ⟨⟨ao, cap, hb.keep ha h1, hc, hm, fun hne => ?_⟩, h.ne⟩
  obtain ⟨o, e, hlt, hcs⟩ := hr hne
  exact ⟨o, e, Nat.lt_of_lt_of_le hlt ha.size, fun i hi => ha.cell' (hcs i hi) h2⟩
theorem MsAt.below {w w' : World} {mb tb : Nat} {ms : List ByteArray} (h : MsAt w mb tb ms) (hb : Below w.heap.size w w') : MsAt w' mb tb ms := h.keep (below_apart hb) (by simp) (by simp)
end Go.Proofs.Ytlbcnmcfljaijaa
namespace Go.Proofs.Ytlbcnmcfljaijaa
open Go.RowKit

end Go.Proofs.Ytlbcnmcfljaijaa
namespace Go.Proofs.Ytlbcnmcfljaijaa
open Go.RowKit

def textV (part : Bool) (ns : List Nd) : ByteArray := if rightB part ns then (textF 10 ns).1 else ByteArray.empty
theorem right_ahead {part : Bool} {ns : List Nd} (h : rightB part ns = true) : ahead (talkS part) 10 [] ns = some [] ∧ ns.length ≤ 40 := by
  rw [rightB] at h
  simp only [Bool.and_eq_true, decide_eq_true_eq, beq_iff_eq] at h
  refine ⟨?_, h.1⟩
  cases hr : ahead (talkS part) 10 [] ns with
  | none => rw [hr] at h; simp at h
  | some r => rw [hr] at h; simp at h; rw [h.2.1]
theorem text_small {part : Bool} {ns : List Nd} (h : rightB part ns = true) : (textF 10 ns).1.size ≤ 1720 := by
  obtain ⟨h1, h2⟩ := right_ahead h
  have := (ahead_text part 10 [] ns [] (fun _ h => by cases h) h1).2
  simp at this
  omega

theorem s_whole (part : Bool) (ns : List Nd) (v : Value) (w : World) (fit : ∀ n ∈ ns, n.fit) (hv : SlAt w w.heap.size v ns) :
    Calls Try.prog 72 #[v, .bool part] w fun e w' => e = .returned (.string (textV part ns)) ∧ Below w.heap.size w w' := by
  have HV := hide hv
  have HF := hide fit
  have hlm := hv.lenm
  obtain ⟨ao, cap, rfl, hc, hm, hr⟩ := hv
  obtain ⟨rb, hrb⟩ : ∃ rb, rightB part ns = rb := ⟨_, rfl⟩
  have HRB := hide hrb
  clear fit hrb
  cases rb
  · have HE : Hid (textV part ns = ⟨#[]⟩) := hide (by rw [textV, HRB.out]; rfl)
    clear hr
    by_cases h400 : ns.length ≤ 400
    · go_enter Try.func72, Try.ntmps72
      go_wp2_with (go_at_call 53; refine (s_right part ns _ _ HF.out HV.out).mono ?_; rintro e w1 ⟨rfl, hb1⟩; rw [HRB.out]; have HB1 := hide hb1; clear hb1)
      go_ret
      exact ⟨ret_str HE.out, HB1.out⟩
    · go_enter Try.func72, Try.ntmps72
      go_wp2_with fail
      go_ret
      exact ⟨ret_str HE.out, Below.refl _ _⟩
  · have HE : Hid (textV part ns = (textF 10 ns).1) := hide (by rw [textV, HRB.out]; rfl)
    obtain ⟨hah, hl40⟩ := right_ahead HRB.out
    have hne : ns ≠ [] := fun h => by rw [h] at hah; cases hah
    obtain ⟨b, o, rfl, hbB, hrow⟩ := hr hne
    have HAR : Hid (ArrAt w (.slice (some ⟨b, o, none⟩) ns.length cap) ns) := hide ⟨b, o, cap, rfl, hc, by omega, hrow, hbB⟩
    have HAH := hide hah
    obtain ⟨t1, ht1⟩ : ∃ t1, (textF 10 ns).1 = t1 := ⟨_, rfl⟩
    have HT1 := hide ht1
    have htz : t1.size ≤ 1720 := by rw [← ht1]; exact text_small HRB.out
    clear hah hrow hne ht1 hr
    go_enter Try.func72, Try.ntmps72
    go_wp2_with (first | (go_at_call 53; refine (s_right part ns _ _ HF.out HV.out).mono ?_; rintro e w1 ⟨rfl, hb1⟩; rw [HRB.out]; have HB1 := hide hb1; clear hb1) | (go_at_call 84; refine (stext_calls part 10 [] ns [] 0 0 _ _ rfl (fun _ h => by cases h) rfl (Nat.zero_le _) hl40 (by rw [List.drop_zero]; exact HAH.out) (HAR.out.carry HB1.out)).mono ?_; rintro e w2 ⟨rfl, hb2⟩; rw [List.drop_zero, HT1.out]; have HB2 := hide hb2; clear hb2))
    go_ret
    exact ⟨ret_str (by rw [HE.out, HT1.out]), HB1.out.trans (HB2.out.mono HB1.out.size)⟩

end Go.Proofs.Ytlbcnmcfljaijaa
namespace Go.Proofs.Ytlbcnmcfljaijaa
open Go.RowKit
attribute [local go_sem ↓] Go.wp_at_zero Go.wp_at_succ

def btF (a : Nat) (w : World) : Nat → Prop := fun g => a ≤ g ∧ g < w.heap.size ∧ ∀ o, w.frozen? ⟨g, o, none⟩ = false
def plusF (S : Nat → Prop) (a : Nat) (w : World) : Nat → Prop := fun g => S g ∨ btF a w g
theorem btF.go {a : Nat} {w w' : World} {g : Nat} (h : btF a w g) (hb : Below w.heap.size w w') : btF a w' g := ⟨h.1, Nat.lt_of_lt_of_le h.2.1 hb.size, fun o => (hb.frozen (p := ⟨g, o, none⟩) h.2.1).trans (h.2.2 o)⟩
def MergedS (n : Nat) (S : Nat → Prop) (w w' : World) (e : Ending) (o : Option (Pn n)) : Prop := ∃ q r, e = .returned (.tuple #[q, .bool o.isSome]) ∧ RdW w' (plusF S w.heap.size w') q r ∧ (∀ z, o = some z → r = rowN n z) ∧ (0 < r.length ∧ r.length ≤ 900) ∧ Below w.heap.size w w'
def MergeSCalls (n : Nat) : Prop := ∀ (S : Nat → Prop) (x y : Pn n) (u v : Value) (w : World), (∀ g, S g → g < w.heap.size) → shapeN n x → shapeN n y → fourN n x → fourN n y → (rowN n x).length + (rowN n y).length ≤ 900 → RdW w S u (rowN n x) → RdW w S v (rowN n y) → Calls Try.prog 70 #[u, v] w fun e w' => MergedS n S w w' e (mergeN n x y)
def TookS (n : Nat) (S : Nat → Prop) (a base : Nat) (lv : Value) (w w' : World) (e : Ending) (o : Option (List (Br (Pn n)))) : Prop := ∃ (v' : Value) (acc' : List (BV n)), e = .returned (.tuple #[v', .bool o.isSome]) ∧ (∀ l, o = some l → acc'.map BV.b = l ∧ CsO S a w' base v' acc') ∧ Apart w w' (vblocks lv) ∧ (∀ b ∈ vblocks v', b ∈ vblocks lv ∨ w.heap.size ≤ b) ∧ ∃ p l c, v' = .slice p l c
theorem take_none {n : Nat} {acc : List (Br (Pn n))} {d : Br (Pn n)} (h : ∀ (j : Nat) (c : Br (Pn n)), acc[j]? = some c → (c.l.toList == d.l.toList) = false) : takeBy (mergeN n) acc d = if acc.length < 4 then some (acc ++ [d]) else none := by
  rw [takeBy, find_none h]
theorem take_some {n k : Nat} {acc : List (Br (Pn n))} {d b : Br (Pn n)} (h : ∀ j c, acc[j]? = some c → j < k → (c.l.toList == d.l.toList) = false) (hk : acc[k]? = some b) (hb : (b.l.toList == d.l.toList) = true) : takeBy (mergeN n) acc d = match mergeN n b.p d.p with
    | none => none
    | some q => if b.s == d.s then some (acc.set k ⟨b.l, b.s, q⟩) else none := by
  rw [takeBy, find_skip h hk hb]
  simp only [hk]
  cases mergeN n b.p d.p <;> rfl
set_option maxRecDepth 100000 in
set_option maxHeartbeats 4000000 in
theorem s_take (n : Nat) (S : Nat → Prop) (a base : Nat) (hmg : MergeSCalls n) (acc : List (BV n)) (x : BV n) (lv : Value) (w : World) (h : CsO S a w base lv acc) (hbw : base ≤ w.heap.size) (hx : RdW w (but S a w.heap.size lv) x.u (rowN n x.b.p)) (hsh : ∀ y ∈ acc, shapeN n y.b.p ∧ fourN n y.b.p) (hsx : shapeN n x.b.p ∧ fourN n x.b.p) (hsz : (brsBy (rowN n) (acc.map BV.b)).length + (rowN n x.b.p).length ≤ 899) :
    Calls Try.prog 79 #[lv, .agg #[.int .i64 4, .string x.b.l, .string ByteArray.empty, .int .i64 0, .int .i64 x.b.s, x.u]] w fun e w' => TookS n S a base lv w w' e (takeBy (mergeN n) (acc.map BV.b) x.b) := by
  obtain ⟨i0, hi, hz0, hz1, hz2⟩ := info_parts Try.infoCs
  have HI := hide (And.intro hi (And.intro hz0 (And.intro hz1 hz2)))
  have HH := hide h
  have HMG := hide hmg
  have HX := hide hx
  have HSH := hide hsh
  have HSX := hide hsx
  have HSZ := hide hsz
  have hal : acc.length ≤ 899 := by have := brs_count (rowN n) (acc.map BV.b); rw [List.length_map] at this; omega
  obtain ⟨cp, cc, hcv⟩ := owns_shape h.own
  obtain ⟨A, hA⟩ : ∃ A, acc.length = A := ⟨_, rfl⟩
  rw [hA] at hcv hal
  have HA := hide hA
  subst hcv
  obtain ⟨⟨xl, xs, xp⟩, xu⟩ := x
  dsimp only at hx hsx hsz HX HSX HSZ ⊢
  have hxu : ∃ p l c, xu = .slice p l c := by obtain ⟨p, c, e, -⟩ := hx; exact ⟨_, _, _, e⟩
  obtain ⟨xq, xn, xc, rfl⟩ := hxu
  clear hi hz0 hz1 hz2 h hmg hx hsh hsx hsz hA
  go_enter Try.func79, Try.ntmps79
  go_wp2_with fail
  go_loopw [6] (fun i wr => ∃ k : Nat, k ≤ A ∧ i = .int .i64 k ∧ (∀ j c, (acc.map BV.b)[j]? = some c → j < k → (c.l.toList == xl.toList) = false) ∧ Below (w.heap.size + 1) (w.alloc (.cells #[.int .i64 4, .string xl, .string ByteArray.empty, .int .i64 0, .int .i64 xs, .slice xq xn xc] 126)) wr) (fun i _ => A - (intOf i).toNat)
  case atStart => exact ⟨0, Nat.zero_le _, rfl, fun j _ _ h => absurd h (by omega), Below.refl _ _⟩
  case round =>
    obtain ⟨k, hk, rfl, hno, hb⟩ := hrel
    have HNO := hide hno
    have HB := hide hb
    have HBW : Hid (Below w.heap.size w wr) := hide ((malloc1 w _).trans (hb.mono (by omega)))
    have hzw := HBW.out.size
    have hzw1 : w.heap.size < wr.heap.size := by have := hb.size; simp at this; omega
    have b1 : wr.cell? ⟨w.heap.size, 1, none⟩ = some (.string xl) := (hb.cell (p := ⟨w.heap.size, 1, none⟩) (by simp)).trans (by simp)
    have b4 : wr.cell? ⟨w.heap.size, 4, none⟩ = some (.int .i64 xs) := (hb.cell (p := ⟨w.heap.size, 4, none⟩) (by simp)).trans (by simp)
    have b0 : wr.cell? ⟨w.heap.size, 0, none⟩ = some (.int .i64 4) := (hb.cell (p := ⟨w.heap.size, 0, none⟩) (by simp)).trans (by simp)
    have b2 : wr.cell? ⟨w.heap.size, 2, none⟩ = some (.string ByteArray.empty) := (hb.cell (p := ⟨w.heap.size, 2, none⟩) (by simp)).trans (by simp)
    have b3 : wr.cell? ⟨w.heap.size, 3, none⟩ = some (.int .i64 0) := (hb.cell (p := ⟨w.heap.size, 3, none⟩) (by simp)).trans (by simp)
    have b5 : wr.cell? ⟨w.heap.size, 5, none⟩ = some (.slice xq xn xc) := (hb.cell (p := ⟨w.heap.size, 5, none⟩) (by simp)).trans (by simp)
    clear hno hb
    by_cases hlt : k < A
    · obtain ⟨y, hy⟩ : ∃ y, acc[k]? = some y := ⟨acc[k]'(by rw [HA.out]; exact hlt), List.getElem?_eq_getElem _⟩
      obtain ⟨cg, hcg⟩ : ∃ cg, cp = some ⟨cg, 0, none⟩ := by
        rcases HH.out.own.2 with ⟨h0, h1⟩ | ⟨g', cap', cur', hv', _⟩
        · rw [HA.out] at h1; omega
        · injection hv' with hv' _ _; exact ⟨g', hv'⟩
      subst hcg
      have HFC : Hid (∀ W, Below w.heap.size w W → W.cell? ⟨cg, k * 6 + 1, none⟩ = some (.string y.b.l) ∧ W.cell? ⟨cg, k * 6 + 4, none⟩ = some (.int .i64 y.b.s) ∧ W.cell? ⟨cg, k * 6 + 5, none⟩ = some y.u) := hide (fun W hW => by
        have hw := HH.out.keep hW
        have e := fun j (hj : j < 6) (z : Value) (hz : y.six[j]? = some z) => CsO.get (g := cg) (c := cc) (by rw [HA.out]; exact hw) hy j hj z hz
        exact ⟨e 1 (by omega) _ rfl, e 4 (by omega) _ rfl, e 5 (by omega) _ rfl⟩)
      have hym : y ∈ acc := List.mem_of_getElem? hy
      have hmy : (acc.map BV.b)[k]? = some y.b := by rw [List.getElem?_map, hy]; rfl
      have HYR := hide (HH.out.rds y hym)
      have hyu : ∃ p l c, y.u = .slice p l c := by obtain ⟨p, c, e, -⟩ := HYR.out; exact ⟨_, _, _, e⟩
      obtain ⟨⟨yl, ys, yp⟩, yu⟩ := y
      dsimp only at hyu HFC HYR
      obtain ⟨yq, yn, yc, rfl⟩ := hyu
      obtain ⟨f1, f4, f5⟩ := HFC.out wr HBW.out
      obtain ⟨q, hq⟩ : ∃ q, (yl.toList == xl.toList) = q := ⟨_, rfl⟩
      have HQ := hide hq
      have HY := hide hy
      have HMY := hide hmy
      cases q
      · clear hy hmy hym
        go_wp2_with fail
        go_region
        go_wp2_with fail
        all_goals
          go_roundw
          case rel =>
            refine ⟨k + 1, hlt, by go_num, fun j c hj hjk => ?_, by first | exact HB.out | exact HB.out.drew⟩
            by_cases e : j = k
            · subst e
              rw [HMY.out] at hj
              injection hj with hj
              subst hj
              exact HQ.out
            · exact HNO.out j c hj (by omega)
          case measure => simp [intOf]; omega
      · have HTK := hide (take_some (d := ⟨xl, xs, xp⟩) HNO.out hmy HQ.out)
        have hcgl : cg < w.heap.size := (owns_fresh HH.out.own).hi cg (by simp [vblocks, cellBlocks])
        have HFZ : Hid (∀ W, Below w.heap.size w W → ∀ j, W.frozen? ⟨cg, j, none⟩ = false) := hide (fun W hW j => (owns_fresh (HH.out.keep hW).own).free cg (by simp [vblocks, cellBlocks]) j)
        have HMC : Hid (∀ W, Below w.heap.size w W → Calls Try.prog 70 #[.slice yq yn yc, .slice xq xn xc] W fun e w' => MergedS n (but S a W.heap.size (.slice (some ⟨cg, 0, none⟩) A cc)) W w' e (mergeN n yp xp)) := hide (fun W hW => by
          have hw := HH.out.keep hW
          have hs1 := (brs_get (f := rowN n) hmy).1
          have hs2 := HSZ.out
          dsimp only at hs1
          exact HMG.out _ yp xp _ _ W (fun g hg => plus_lt hw.low hw.siz hg.1) (HSH.out _ hym).1 HSX.out.1 (HSH.out _ hym).2 HSX.out.2 (by omega) (hw.rds _ hym) (HX.out.carry (fun g hg => hW.block g (plus_lt HH.out.low HH.out.siz hg.1)) (fun g hg => ⟨plus_up hW.size hg.1, hg.2⟩)))
        obtain ⟨om, hom⟩ : ∃ om, mergeN n yp xp = om := ⟨_, rfl⟩
        have HOM := hide hom
        rw [hom] at HMC
        dsimp only at HTK
        rw [hom] at HTK
        clear hy hmy hym hom
        obtain ⟨rq, hrq⟩ : ∃ rq, (ys == xs) = rq := ⟨_, rfl⟩
        have HRQ := hide hrq
        cases om with
        | none =>
          go_wp2_with fail
          go_region
          all_goals
            go_wp2_with fail
            go_region_law (go_simp; go_at_call 70; refine (HMC.out _ (by first | exact HBW.out.drew.drew | exact HBW.out.drew | exact HBW.out)).mono ?_; rintro e w3 ⟨q3, r3, rfl, h3a, h3b, h3c, h3d⟩; have H3A := hide h3a; have H3B := hide h3b; have H3C := hide h3c; have HD3 := hide h3d; have HB3 : Hid (Below w.heap.size w w3) := hide (Below.trans (by first | exact HBW.out.drew.drew | exact HBW.out.drew | exact HBW.out) (h3d.mono (by simpa using hzw))); have t4 := (HFC.out w3 HB3.out).2.1; have t5 := (HFC.out w3 HB3.out).2.2; have y4 : w3.cell? ⟨w.heap.size, 4, none⟩ = some (.int .i64 xs) := (h3d.cell (p := ⟨w.heap.size, 4, none⟩) (by simpa using hzw1)).trans b4; have hf3 := HFZ.out w3 HB3.out; obtain ⟨ao3, cap3, rfl, -⟩ := h3a; clear h3b h3c h3d)
            all_goals
              go_wp2_with fail
              have k4 : (w3.setCell ⟨cg, k * 6 + 5, none⟩ (.slice ao3 r3.length cap3)).cell? ⟨cg, k * 6 + 4, none⟩ = some (.int .i64 ys) := (World.cell?_setCell_other _ _ _ _ (by intro e; injection e with _ e2; omega)).trans t4
              have k5 : (w3.setCell ⟨cg, k * 6 + 5, none⟩ (.slice ao3 r3.length cap3)).cell? ⟨w.heap.size, 4, none⟩ = some (.int .i64 xs) := (World.cell?_setCell_other _ _ _ _ (by intro e; injection e with e1 _; omega)).trans y4
              refine wp_region_grown (by kernel_rfl) (by kernel_rfl) (fun V hV => ?_)
              try simp only [Act.put, List.getElem_toArray, List.getElem_cons_succ, List.getElem_cons_zero, List.setIfInBounds_toArray, List.set_cons_zero, List.set_cons_succ]
              have hne9 := grown_some V
              have g1 := grown_cell (w := V) (by rw [hV]; exact k4)
              have g2 := grown_cell (w := V) (by rw [hV]; exact k5)
              have HV := hide hV
              clear hV
              repeat (go_big_quiet_step (fail))
              refine wpQuiet_nil ?_
              intro w4 hw4
              rw [HV.out] at hw4
              have HB34 := hide hw4
              clear hw4 hne9 g1 g2 HV k4 k5
              go_wp2_with fail
              go_ret2
              have hA4 : Apart w w4 (vblocks (.slice (some ⟨cg, 0, none⟩) A cc)) := by
                have := ((below_apart HB3.out).trans (setCell_apart w3 cg (k * 6 + 5) (.slice ao3 r3.length cap3))).trans (below_apart (HB34.out.mono (by simp)))
                simpa [vblocks, cellBlocks] using this
              rw [HTK.out]
              exact ⟨_, [], rfl, (fun l hl => by cases hl), hA4, (fun b hb => .inl hb), _, _, _, rfl⟩
        | some z =>
          cases rq
          · go_wp2_with fail
            go_region
            all_goals
              go_wp2_with fail
              go_region_law (go_simp; go_at_call 70; refine (HMC.out _ (by first | exact HBW.out.drew.drew | exact HBW.out.drew | exact HBW.out)).mono ?_; rintro e w3 ⟨q3, r3, rfl, h3a, h3b, h3c, h3d⟩; have H3A := hide h3a; have H3B := hide h3b; have H3C := hide h3c; have HD3 := hide h3d; have HB3 : Hid (Below w.heap.size w w3) := hide (Below.trans (by first | exact HBW.out.drew.drew | exact HBW.out.drew | exact HBW.out) (h3d.mono (by simpa using hzw))); have t4 := (HFC.out w3 HB3.out).2.1; have t5 := (HFC.out w3 HB3.out).2.2; have y4 : w3.cell? ⟨w.heap.size, 4, none⟩ = some (.int .i64 xs) := (h3d.cell (p := ⟨w.heap.size, 4, none⟩) (by simpa using hzw1)).trans b4; have hf3 := HFZ.out w3 HB3.out; obtain ⟨ao3, cap3, rfl, -⟩ := h3a; clear h3b h3c h3d)
              all_goals
                go_wp2_with fail
                have k4 : (w3.setCell ⟨cg, k * 6 + 5, none⟩ (.slice ao3 r3.length cap3)).cell? ⟨cg, k * 6 + 4, none⟩ = some (.int .i64 ys) := (World.cell?_setCell_other _ _ _ _ (by intro e; injection e with _ e2; omega)).trans t4
                have k5 : (w3.setCell ⟨cg, k * 6 + 5, none⟩ (.slice ao3 r3.length cap3)).cell? ⟨w.heap.size, 4, none⟩ = some (.int .i64 xs) := (World.cell?_setCell_other _ _ _ _ (by intro e; injection e with e1 _; omega)).trans y4
                refine wp_region_grown (by kernel_rfl) (by kernel_rfl) (fun V hV => ?_)
                try simp only [Act.put, List.getElem_toArray, List.getElem_cons_succ, List.getElem_cons_zero, List.setIfInBounds_toArray, List.set_cons_zero, List.set_cons_succ]
                have hne9 := grown_some V
                have g1 := grown_cell (w := V) (by rw [hV]; exact k4)
                have g2 := grown_cell (w := V) (by rw [hV]; exact k5)
                have HV := hide hV
                clear hV
                repeat (go_big_quiet_step (fail))
                refine wpQuiet_nil ?_
                intro w4 hw4
                rw [HV.out] at hw4
                have HB34 := hide hw4
                clear hw4 hne9 g1 g2 HV k4 k5
                go_wp2_with fail
                go_ret2
                have hA4 : Apart w w4 (vblocks (.slice (some ⟨cg, 0, none⟩) A cc)) := by
                  have := ((below_apart HB3.out).trans (setCell_apart w3 cg (k * 6 + 5) (.slice ao3 r3.length cap3))).trans (below_apart (HB34.out.mono (by simp)))
                  simpa [vblocks, cellBlocks] using this
                rw [HTK.out]
                dsimp only
                rw [HRQ.out]
                exact ⟨_, [], rfl, (fun l hl => by cases hl), hA4, (fun b hb => .inl hb), _, _, _, rfl⟩
          · go_wp2_with fail
            go_region
            all_goals
              go_wp2_with fail
              go_region_law (go_simp; go_at_call 70; refine (HMC.out _ (by first | exact HBW.out.drew.drew | exact HBW.out.drew | exact HBW.out)).mono ?_; rintro e w3 ⟨q3, r3, rfl, h3a, h3b, h3c, h3d⟩; have H3A := hide h3a; have H3B := hide h3b; have H3C := hide h3c; have HD3 := hide h3d; have HB3 : Hid (Below w.heap.size w w3) := hide (Below.trans (by first | exact HBW.out.drew.drew | exact HBW.out.drew | exact HBW.out) (h3d.mono (by simpa using hzw))); have t4 := (HFC.out w3 HB3.out).2.1; have t5 := (HFC.out w3 HB3.out).2.2; have y4 : w3.cell? ⟨w.heap.size, 4, none⟩ = some (.int .i64 xs) := (h3d.cell (p := ⟨w.heap.size, 4, none⟩) (by simpa using hzw1)).trans b4; have hf3 := HFZ.out w3 HB3.out; obtain ⟨ao3, cap3, rfl, -⟩ := h3a; clear h3b h3c h3d)
              all_goals
                go_wp2_with fail
                have k4 : (w3.setCell ⟨cg, k * 6 + 5, none⟩ (.slice ao3 r3.length cap3)).cell? ⟨cg, k * 6 + 4, none⟩ = some (.int .i64 ys) := (World.cell?_setCell_other _ _ _ _ (by intro e; injection e with _ e2; omega)).trans t4
                have k5 : (w3.setCell ⟨cg, k * 6 + 5, none⟩ (.slice ao3 r3.length cap3)).cell? ⟨w.heap.size, 4, none⟩ = some (.int .i64 xs) := (World.cell?_setCell_other _ _ _ _ (by intro e; injection e with e1 _; omega)).trans y4
                refine wp_region_grown (by kernel_rfl) (by kernel_rfl) (fun V hV => ?_)
                try simp only [Act.put, List.getElem_toArray, List.getElem_cons_succ, List.getElem_cons_zero, List.setIfInBounds_toArray, List.set_cons_zero, List.set_cons_succ]
                have hne9 := grown_some V
                have g1 := grown_cell (w := V) (by rw [hV]; exact k4)
                have g2 := grown_cell (w := V) (by rw [hV]; exact k5)
                have HV := hide hV
                clear hV
                repeat (go_big_quiet_step (fail))
                refine wpQuiet_nil ?_
                intro w4 hw4
                rw [HV.out] at hw4
                have HB34 := hide hw4
                clear hw4 hne9 g1 g2 HV k4 k5
                go_wp2_with fail
                go_ret2
                have hA4 : Apart w w4 (vblocks (.slice (some ⟨cg, 0, none⟩) A cc)) := by
                  have := ((below_apart HB3.out).trans (setCell_apart w3 cg (k * 6 + 5) (.slice ao3 r3.length cap3))).trans (below_apart (HB34.out.mono (by simp)))
                  simpa [vblocks, cellBlocks] using this
                have hr3 : r3 = rowN n z := H3B.out z rfl
                have hw3 := HH.out.keep HB3.out
                have hq3 : RdW w3 (but S a w3.heap.size (.slice (some ⟨cg, 0, none⟩) A cc)) (.slice ao3 r3.length cap3) (rowN n z) := by
                  rw [← hr3]
                  refine H3A.out.up (fun g hg => ?_)
                  have hd3 := HD3.out.size
                  simp at hd3
                  rcases hg with hg | hg
                  · exact ⟨plus_up (by simpa using hd3) hg.1, hg.2⟩
                  · have hg1 := hg.1
                    simp at hg1
                    have hsz := HH.out.siz
                    refine ⟨.inr ⟨by omega, hg.2.1⟩, fun hm => ?_⟩
                    simp [vblocks, cellBlocks] at hm
                    omega
                have hset := (cso_set (g := cg) (cap := cc) (by rw [HA.out]; exact hw3) HY.out z (.slice ao3 r3.length cap3) (by rw [HA.out]; exact hq3)).keep HB34.out
                rw [HA.out] at hset
                rw [HTK.out]
                dsimp only
                rw [HRQ.out]
                refine ⟨_, acc.set k ⟨⟨yl, ys, z⟩, .slice ao3 r3.length cap3⟩, rfl, (fun l hl => ?_), hA4, (fun b hb => .inl hb), _, _, _, rfl⟩
                have hl' : some ((acc.map BV.b).set k ⟨yl, ys, z⟩) = some l := hl
                injection hl' with hl'
                subst hl'
                exact ⟨by rw [List.map_set], hset⟩
    · obtain rfl : k = A := by omega
      have HTK : Hid (takeBy (mergeN n) (acc.map BV.b) ⟨xl, xs, xp⟩ = if (acc.map BV.b).length < 4 then some (acc.map BV.b ++ [⟨xl, xs, xp⟩]) else none) := hide (take_none (fun j c hj => HNO.out j c hj (by have := (List.getElem?_eq_some_iff.1 hj).1; rw [List.length_map, HA.out] at this; exact this)))
      have HXW : Hid (RdW wr (but S a wr.heap.size (.slice cp k cc)) (.slice xq xn xc) (rowN n xp)) := hide (HX.out.carry (fun g hg => HBW.out.block g (plus_lt HH.out.low HH.out.siz hg.1)) (fun g hg => ⟨plus_up hzw hg.1, hg.2⟩))
      go_wp2_with (at_builtin; refine wpList_append_own_at _ rfl (.tmp 55) (.tmp 57) 121 rfl base 126 i0 (.agg #[.int .i64 0, .string ByteArray.empty, .string ByteArray.empty, .int .i64 0, .int .i64 0, .slice none 0 0]) 6 80 Try.underlying121 HI.out.1 HI.out.2.1 HI.out.2.2.1 HI.out.2.2.2 rfl (by decide) (.slice cp k cc) k (acc.flatMap BV.six) rfl (by have := (HH.out.keep HBW.out).own; rw [HA.out] at this; exact owns_below this (malloc1 _ _)) ⟨wr.heap.size, 0, none⟩ 1 1 (BV.six (n := n) ⟨⟨xl, xs, xp⟩, .slice xq xn xc⟩) rfl rfl (fun j u hj => new_rowq wr _ _ _ rfl j u hj) (six_one HX.out) (by unfold maxLen; omega) (by omega) (by simp; omega) ?_; intro v4 w4 hown4 hgr4 _ hat4; have HM4 := hide (cso_push (HH.out.keep HBW.out) ⟨⟨xl, xs, xp⟩, .slice xq xn xc⟩ HXW.out _ (by rw [HA.out]; exact hown4) hgr4 hat4); obtain ⟨p4, c4, rfl⟩ := owns_shape hown4; clear hown4 hgr4 hat4)
      go_ret2
      rw [HTK.out]
      refine ⟨_, acc ++ [⟨⟨xl, xs, xp⟩, .slice xq xn xc⟩], ret2_bool ?_, fun l hl => ?_, ?_, fun b hb => ?_, _, _, _, rfl⟩
      · rw [List.length_map, HA.out]
        by_cases h4 : k < 4
        · rw [if_pos h4]; simp; omega
        · rw [if_neg h4]; simp; omega
      · rw [List.length_map, HA.out] at hl
        by_cases h4 : k < 4
        · rw [if_pos h4] at hl
          injection hl with hl
          subst hl
          exact ⟨by rw [List.map_append]; rfl, HM4.out.1⟩
        · rw [if_neg h4] at hl; cases hl
      · have := (below_apart HBW.out).trans HM4.out.2.1
        rwa [List.nil_append] at this
      · rcases HM4.out.2.2 b hb with h | h
        · exact .inl h
        · exact .inr (by omega)
end Go.Proofs.Ytlbcnmcfljaijaa
