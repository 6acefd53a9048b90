import Derived.Test.YtlbcnmcfljaijaaQF22
import Derived.Test.YtlbcnmcfljaijaaQF28
import Derived.Test.YtlbcnmcfljaijaaQF27
namespace Go.Proofs.Ytlbcnmcfljaijaa
open Go.RowKit

def mzB (ms : List ByteArray) : Prop := ∀ m ∈ ms, m.size ≤ 8000
def lzB (l : List Nd) : Prop := ∀ n ∈ l, n.name.size ≤ 8000 ∧ n.peer.size ≤ 8000
structure RwP (s : Rs) : Prop where
  ok : OkR s
  l1 : s.l.length + measR s ≤ 30000
  l2 : s.op.length + measR s ≤ 30000
  mz : mzB s.ms
  lz : lzB s.l
  mn : ∀ n ∈ s.l, 0 ≤ n.many ∧ n.many + (measR s : Int) ≤ 30000
end Go.Proofs.Ytlbcnmcfljaijaa
namespace Go.Proofs.Ytlbcnmcfljaijaa
open Go.RowKit

theorem stext_calls (part : Bool) (f : Nat) : STextCalls part f := by
  induction f with
  | zero =>
    intro st all r pos a v w hlen hst ha hpos h40 hr hx
    subst ha
    have hpl : pos < all.length := by
      rcases Nat.lt_or_ge pos all.length with h | h
      · exact h
      · rw [List.drop_of_length_le h] at hr; cases hr
    cases hn : all[pos] with
    | mk op name peer many sort =>
      by_cases o0 : op = 0
      · subst o0; exact stext0 part 0 st all r pos v w hst hpl h40 many sort name peer hn hr hx
      · by_cases o1 : op = 1
        · subst o1; exact stext1 part 0 st all r pos v w hst hpl h40 many sort name peer hn hr hx
        · rw [drop_cons hpl, hn, ahead_t0 o0 o1] at hr; cases hr
  | succ f ih =>
    intro st all r pos a v w hlen hst ha hpos h40 hr hx
    subst ha
    have hpl : pos < all.length := by
      rcases Nat.lt_or_ge pos all.length with h | h
      · exact h
      · rw [List.drop_of_length_le h] at hr; cases hr
    cases hn : all[pos] with
    | mk op name peer many sort =>
      by_cases o0 : op = 0
      · subst o0; exact stext0 part (f + 1) st all r pos v w hst hpl h40 many sort name peer hn hr hx
      · by_cases o1 : op = 1
        · subst o1; exact stext1 part (f + 1) st all r pos v w hst hpl h40 many sort name peer hn hr hx
        · by_cases o2 : op = 2
          · subst o2; exact stext2 part f ih st all r pos v w hlen hst hpl h40 many sort name peer hn hr hx
          · by_cases o3 : op = 3
            · subst o3; exact stext3 part f ih st all r pos v w hlen hst hpl h40 many sort name peer hn hr hx
            · by_cases o5 : op = 5
              · subst o5; exact stext5 part f ih st all r pos v w hlen hst hpl h40 many sort name peer hn hr hx
              · by_cases o6 : op = 6
                · subst o6; exact stext6 part f ih st all r pos v w hlen hst hpl h40 many sort name peer hn hr hx
                · exfalso
                  rw [drop_cons hpl, hn, ahead_x o0 o1 o2 (by cases part <;> simp [talkS, o3, o5, o6])] at hr
                  cases hr
end Go.Proofs.Ytlbcnmcfljaijaa
namespace Go.Proofs.Ytlbcnmcfljaijaa
open Go.RowKit
attribute [local go_sem ↓] Go.wp_at_zero Go.wp_at_succ

theorem mk_new {w : World} {B : Nat} {v : Value} {all : List Nd} (o : Obj) (hB : B ≤ w.heap.size) (hv : SlAt w B v all) : MkAt ((w.alloc o).alloc (.cells #[v, .slice none 0 0, .slice none 0 0, .int .i64 0, .slice none 0 0, .slice none 0 0] 95)) (w.heap.size + 1) B (w.heap.size + 2) v (.slice none 0 0) (.slice none 0 0) 0 (.slice none 0 0) (.slice none 0 0) all [] [] [] [] := by
  refine ⟨?_, hv.carry (((malloc1 w o).trans ((malloc1 _ _).mono (by simp))).mono hB), RStateOwn.nil _ _, REdgeOwn.nil _ _, owns_nil _ _ _ _, owns_nil _ _ _ _, by constructor <;> simp [vblocks, cellBlocks], ⟨by omega, by omega⟩, by simp⟩
  have := BoxL.new (w.alloc o) [v, .slice none 0 0, .slice none 0 0, .int .i64 0, .slice none 0 0, .slice none 0 0] 95
  simpa using this
theorem mk_start {w : World} {xb B base : Nat} {v sv ev : Value} {z : Int} {nv fv : Value} {all : List Nd} {sts : List RState} {eds : List REdge} {ns : List ByteArray} {fis : List Int} (h : MkAt w xb B base v sv ev z nv fv all sts eds ns fis) (x : Int) : MkAt (w.setCell ⟨xb, 3, none⟩ (.int .i64 x)) xb B base v sv ev x nv fv all sts eds ns fis ∧ Mkept w (w.setCell ⟨xb, 3, none⟩ (.int .i64 x)) base xb := by
  have hl := h.low
  have hA := setCell_apart w xb 3 (.int .i64 x)
  have hK := hA.mkept h.sz (xb := xb) (fun b hb => by simp at hb; exact .inl hb)
  have off : ∀ {u : Value}, Fresh base w u → ∀ b ∈ vblocks u, b ∉ [xb] := fun hd b hb hm => by
    simp at hm
    have := hd.lo b hb
    omega
  exact ⟨⟨h.box.set 3 (by simp) _, hK.sl hl.1 hl.2 h.sl, h.st.keep hA (off h.st.fresh), h.ed.keep hA (off h.ed.fresh), owns_keep h.nm hA (off (owns_fresh h.nm)), owns_keep h.fi hA (off (owns_fresh h.fi)), h.four, hl, Nat.le_trans h.sz hA.size⟩, hK⟩
structure LoAns (w w' : World) (e : Ending) (m : Mach) : Prop where
  ans : ∃ sv ev, e = .returned (.agg #[sv, ev, .int .i64 m.start]) ∧ RStateOwn w' w.heap.size sv m.states ∧ REdgeOwn w' w.heap.size ev m.edges ∧ (∀ b ∈ vblocks sv, b ∉ vblocks ev)
  bel : Below w.heap.size w w'
theorem mkept_low {w w3 : World} {o1 o2 : Obj} (h : Mkept ((w.alloc o1).alloc o2) w3 (w.heap.size + 2) (w.heap.size + 1)) : Below w.heap.size w w3 :=
  have hb : Below w.heap.size w ((w.alloc o1).alloc o2) := (malloc1 _ _).trans ((malloc1 _ _).mono (by simp))
  ⟨h.os, h.tape, h.output, by have := h.size; simp at this; omega, fun b hlt => (h.block b (by omega) (by omega)).trans (hb.block b hlt)⟩
set_option maxRecDepth 100000 in
set_option maxHeartbeats 2000000 in
theorem s_l04Of (ns : List Nd) (v : Value) (w : World) (hah : ahead (talkS true) 10 [] ns = some []) (h40 : ns.length ≤ 40) (hv : SlAt w w.heap.size v ns) :
    Calls Try.prog 40 #[v] w fun e w' => LoAns w w' e (machP ns) := by
  have hpos : 0 < ns.length := by
    cases ns with
    | nil => cases hah
    | cons => simp
  have hch : ¬ (∀ n ∈ ns.drop 0, n.op = 2) := by rw [List.drop_zero]; exact ahead_chain _ _ _ _ hah
  obtain ⟨fst, hfst⟩ : ∃ x, firstOf [] [] 0 ns = x := ⟨_, rfl⟩
  have HMP : Hid (machP ns = ⟨(svO ns).2.1, (svO ns).2.2, fst⟩) := hide (by rw [← hfst]; rfl)
  have HFIR : Hid (∀ (W : World) (xb B base : Nat), MkAt W xb B base v (.slice none 0 0) (.slice none 0 0) 0 (.slice none 0 0) (.slice none 0 0) ns [] [] [] [] → Calls Try.prog 54 #[.pointer (some ⟨xb, 0, none⟩), .int .i64 0] W fun e w' => e = .returned (.int .i64 fst) ∧ Below W.heap.size W w') := hide (fun W xb B base hW => by
    have := first_calls ns [] [] rfl (by simp) (by omega) _ 0 xb W.heap.size W rfl hch hW.firAt (Nat.le_refl _)
    rw [List.drop_zero] at this
    rw [show ((cntS ns 0 : Nat) : Int) = 0 by simp [cntS], hfst] at this
    exact this)
  have HMK : Hid (∀ (W : World) (xb B base : Nat), MkAt W xb B base v (.slice none 0 0) (.slice none 0 0) fst (.slice none 0 0) (.slice none 0 0) ns [] [] [] [] → Calls Try.prog 55 #[.pointer (some ⟨xb, 0, none⟩), .int .i64 0] W fun e w' => Made W w' xb B base v fst (rows4 (.slice none 0 0) (.slice none 0 0) (.slice none 0 0) (.slice none 0 0)) ns [] [] e (svO ns)) := hide (fun W xb B base hW => by
    have := make_calls 10 [] ns [] 0 W xb B base v _ _ fst _ _ [] [] [] [] (by rw [List.drop_zero]; exact hah) h40 hpos rfl (by simp) (by simp [cntS]) (by simp; omega) hW
    rw [List.drop_zero] at this
    exact this)
  have HNEW : Hid (∀ o : Obj, MkAt ((w.alloc o).alloc (.cells #[v, .slice none 0 0, .slice none 0 0, .int .i64 0, .slice none 0 0, .slice none 0 0] 95)) (w.heap.size + 1) w.heap.size (w.heap.size + 2) v (.slice none 0 0) (.slice none 0 0) 0 (.slice none 0 0) (.slice none 0 0) ns [] [] [] []) := hide (fun o => mk_new o (Nat.le_refl _) hv)
  have HBX : Hid (∀ (o2 : Obj) (w4 : World), Mkept ((w.alloc (.cells #[.slice none 0 0, .slice none 0 0, .int .i64 0] 26)).alloc o2) w4 (w.heap.size + 2) (w.heap.size + 1) → BoxL w4 w.heap.size [.slice none 0 0, .slice none 0 0, .int .i64 0]) := hide (fun o2 w4 hk => by
    have h0 : BoxL ((w.alloc (.cells #[.slice none 0 0, .slice none 0 0, .int .i64 0] 26)).alloc o2) w.heap.size [.slice none 0 0, .slice none 0 0, .int .i64 0] := (BoxL.new w [.slice none 0 0, .slice none 0 0, .int .i64 0] 26).keep (below_apart (malloc1 _ _)) (by simp)
    have hb := hk.block w.heap.size (by omega) (by omega)
    exact ⟨fun i v hv => (World.cell?_of_block (a := ⟨w.heap.size, i, none⟩) hb).trans (h0.cell i v hv), fun o => (World.frozen?_of_block (a := ⟨w.heap.size, o, none⟩) hb).trans (h0.fz o), Nat.lt_of_lt_of_le h0.lt hk.size⟩)
  obtain ⟨O, hO⟩ : ∃ O, svO ns = O := ⟨_, rfl⟩
  rw [hO] at HMK HMP
  obtain ⟨ao, cap, rfl, hc, hm, hr⟩ := hv
  clear hr hch hfst hO hah
  go_enter Try.func40, Try.ntmps40
  go_wp2_with (first
    | (go_at_call 55; refine (HMK.out _ _ _ _ HM3.out.1).mono ?_; rintro e w4 ⟨sv4, ev4, nv4, fv4, rfl, hm4, hk4, -⟩; obtain ⟨ps, cs, rfl⟩ := owns_shape hm4.st; obtain ⟨pe, ce, rfl⟩ := owns_shape hm4.ed; have HM4 := hide hm4; have HK4 := hide hk4; have y1 := hm4.box.cell 1 _ rfl; have y2 := hm4.box.cell 2 _ rfl; have y3 := hm4.box.cell 3 _ rfl; have HR4 := hide (show BoxL w4 w.heap.size [.slice none 0 0, .slice none 0 0, .int .i64 0] from HBX.out _ w4 ((HK2.out.trans HM3.out.2).trans hk4)); have r0 := HR4.out.cell 0 _ rfl; have r1 := HR4.out.cell 1 _ rfl; have r2 := HR4.out.cell 2 _ rfl; have rz := HR4.out.fz; clear hm4 hk4)
    | (go_at_call 54; refine (HFIR.out _ _ _ _ (HNEW.out _)).mono ?_; rintro e w2 ⟨rfl, hb2⟩; have HM2 := hide ((HNEW.out _).far (Far.ofBelow hb2)); have HK2 := hide ((Far.ofBelow hb2).ap.mkept (HNEW.out _).sz (xb := w.heap.size + 1) (by simp)); have HM3 := hide (mk_start HM2.out fst); have x3 := HM2.out.box.cell 3 _ rfl; have xz := HM2.out.box.fz; clear hb2))
  refine bodyPost_ret (v := .agg #[.slice ps O.2.1.length cs, .slice pe O.2.2.length ce, .int .i64 fst]) (by simp [results, Try.results40, go_sem, r0, r1, r2]) rfl ?_
  rw [HMP.out]
  have hA : Apart w4 (((w4.setCell ⟨w.heap.size, 0, none⟩ (.slice ps O.2.1.length cs)).setCell ⟨w.heap.size, 1, none⟩ (.slice pe O.2.2.length ce)).setCell ⟨w.heap.size, 2, none⟩ (.int .i64 fst)) [w.heap.size] := ((setCell_apart w4 w.heap.size 0 _).setCell 1 _).setCell 2 (.int .i64 fst)
  have off : ∀ {u : Value}, Fresh (w.heap.size + 2) w4 u → ∀ b ∈ vblocks u, b ∉ [w.heap.size] := fun hd b hb hm => by
    simp at hm
    have := hd.lo b hb
    omega
  exact ⟨⟨_, _, rfl, owns_down (HM4.out.st.keep hA (off HM4.out.st.fresh)) (by omega), owns_down (HM4.out.ed.keep hA (off HM4.out.ed.fresh)) (by omega), HM4.out.four.se⟩, (mkept_low ((HK2.out.trans HM3.out.2).trans HK4.out)).trans (hA.below (mkept_low ((HK2.out.trans HM3.out.2).trans HK4.out)).size (by simp))⟩
theorem mo_out {w w1 w2 : World} {ps pe : Option Addr} {cs ce : Nat} {m : Mach} (hb1 : Below w.heap.size w w1) (hz1 : w.heap.size < w1.heap.size) (h : LoAns w1 w2 (.returned (.agg #[.slice ps m.states.length cs, .slice pe m.edges.length ce, .int .i64 m.start])) m) (y0 y1 y2 y3 : Value) :
    MrAns w ((((w2.setCell ⟨w.heap.size, 0, none⟩ y0).setCell ⟨w.heap.size, 1, none⟩ y1).setCell ⟨w.heap.size, 2, none⟩ y2).setCell ⟨w.heap.size, 3, none⟩ y3) (.returned (.agg #[.slice ps m.states.length cs, .slice pe m.edges.length ce, .int .i64 m.start, .int .i64 0])) m 0 := by
  obtain ⟨⟨sv, ev, he, h1, h2, h3⟩, hb⟩ := h
  injection he with he
  injection he with he
  have e1 : sv = .slice ps m.states.length cs := by have := congrArg (fun a : Array Value => a[0]?) he; simp at this; exact this.symm
  have e2 : ev = .slice pe m.edges.length ce := by have := congrArg (fun a : Array Value => a[1]?) he; simp at this; exact this.symm
  subst e1
  subst e2
  have h4 := ap4 w2 w.heap.size y0 y1 y2 y3
  have off : ∀ {u : Value}, Fresh w1.heap.size w2 u → ∀ b ∈ vblocks u, b ∉ [w.heap.size] := fun hd b hb hm => by
    simp at hm
    have := hd.lo b hb
    omega
  exact ⟨⟨_, _, rfl, owns_down (h1.keep h4 (off h1.fresh)) (by omega), owns_down (h2.keep h4 (off h2.fresh)) (by omega), h3⟩, set4 (hb1.trans (hb.mono hb1.size)) y0 y1 y2 y3⟩
set_option maxRecDepth 100000 in
set_option maxHeartbeats 2000000 in
theorem s_machineOf (ns : List Nd) (v : Value) (w : World) (fit : ∀ n ∈ ns, n.fit) (hv : SlAt w w.heap.size v ns) :
    Calls Try.prog 27 #[v] w fun e w' => MrAns w w' e (moT ns) (moC ns) := by
  have HV := hide hv
  have HFT := hide fit
  have hlm := hv.lenm
  obtain ⟨ao, cap, rfl, hc, hm, hr⟩ := hv
  have HO : Hid (BoxL (w.alloc outM) w.heap.size [.slice none 0 0, .slice none 0 0, .int .i64 0, .int .i64 0]) := hide (BoxL.new w [.slice none 0 0, .slice none 0 0, .int .i64 0, .int .i64 0] 59)
  clear hr fit
  by_cases h4 : 400 < ns.length
  · have HT : Hid (moT ns = noMach ∧ moC ns = 2) := hide ⟨if_pos h4, if_pos h4⟩
    go_enter Try.func27, Try.ntmps27
    go_wp2_with fail
    refine bodyPost_ret (v := .agg #[.slice none 0 0, .slice none 0 0, .int .i64 0, .int .i64 2]) (by simp [results, Try.results27, go_sem]) rfl ?_
    rw [HT.out.1, HT.out.2]
    exact ans_err 2 ((Below.refl _ _).alloc (Nat.le_refl _) _)
  · obtain ⟨q, hq⟩ : ∃ q, rightB true ns = q := ⟨_, rfl⟩
    have HQ := hide hq
    have HPR : Hid (∀ W, Below w.heap.size w W → Calls Try.prog 39 #[.slice ao ns.length cap] W fun e w' => e = .returned (.bool q) ∧ Below W.heap.size W w') := hide (fun W hb => by have := s_partRight ns (.slice ao ns.length cap) W HFT.out ((HV.out.carry hb).up hb.size); rw [hq] at this; exact this)
    have HT : Hid (moT ns = (if q then machP ns else noMach) ∧ moC ns = (if q then 0 else 1)) := hide (by unfold moT moC; rw [if_neg h4, if_neg h4, hq]; exact ⟨rfl, rfl⟩)
    clear hq
    cases q
    · go_enter Try.func27, Try.ntmps27
      go_wp2_with (go_at_call 39; refine (HPR.out _ (malloc1 w _)).mono ?_; rintro e w1 ⟨rfl, hb1⟩; have HB1 : Hid (Below w.heap.size w w1) := hide ((malloc1 w _).trans (hb1.mono (by simp))); have HO1 := hide (HO.out.keep (below_apart hb1) (by simp)); have b0 := HO1.out.cell 0 _ rfl; have b1 := HO1.out.cell 1 _ rfl; have b2 := HO1.out.cell 2 _ rfl; have b3 := HO1.out.cell 3 _ rfl; have bz := HO1.out.fz; clear hb1)
      refine bodyPost_ret (v := .agg #[.slice none 0 0, .slice none 0 0, .int .i64 0, .int .i64 1]) (by simp [results, Try.results27, go_sem, b0, b1, b2, b3]) rfl ?_
      rw [HT.out.1, HT.out.2]
      exact ans_err 1 (set4 HB1.out _ _ _ _)
    · obtain ⟨hah, h40⟩ := part_ahead HQ.out
      have HLO : Hid (∀ W, Below w.heap.size w W → Calls Try.prog 40 #[.slice ao ns.length cap] W fun e w' => LoAns W w' e (machP ns)) := hide (fun W hb => s_l04Of ns _ W hah h40 ((HV.out.carry hb).up hb.size))
      obtain ⟨m, hmm⟩ : ∃ m, machP ns = m := ⟨_, rfl⟩
      rw [hmm] at HLO HT
      clear hah hmm
      go_enter Try.func27, Try.ntmps27
      go_wp2_with (first
        | (go_at_call 39; refine (HPR.out _ (malloc1 w _)).mono ?_; rintro e w1 ⟨rfl, hb1⟩; have HB1 : Hid (Below w.heap.size w w1) := hide ((malloc1 w _).trans (hb1.mono (by simp))); have HO1 := hide (HO.out.keep (below_apart hb1) (by simp)); have HZ1 : Hid (w.heap.size < w1.heap.size) := hide (by have := hb1.size; simp at this; omega); clear hb1)
        | (go_at_call 40; refine (HLO.out _ HB1.out).mono ?_; intro e w2 hl2; obtain ⟨sv2, ev2, rfl, hs2, he2, -⟩ := hl2.ans; obtain ⟨ps, cs, rfl⟩ := owns_shape hs2; obtain ⟨pe, ce, rfl⟩ := owns_shape he2; have HL2 := hide hl2; have HO2 := hide (HO1.out.keep (below_apart hl2.bel) (by simp)); have b0 := HO2.out.cell 0 _ rfl; have b1 := HO2.out.cell 1 _ rfl; have b2 := HO2.out.cell 2 _ rfl; have b3 := HO2.out.cell 3 _ rfl; have bz := HO2.out.fz; clear hl2 hs2 he2))
      refine bodyPost_ret (v := .agg #[.slice ps m.states.length cs, .slice pe m.edges.length ce, .int .i64 m.start, .int .i64 0]) (by simp [results, Try.results27, go_sem, b0, b1, b2, b3]) rfl ?_
      rw [HT.out.1, HT.out.2, if_pos trivial, if_pos trivial]
      exact mo_out HB1.out HZ1.out HL2.out _ _ _ _
end Go.Proofs.Ytlbcnmcfljaijaa
