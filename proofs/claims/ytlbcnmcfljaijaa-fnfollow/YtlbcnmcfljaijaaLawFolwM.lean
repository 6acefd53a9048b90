/- The law of promise 6, walked. -/
import Derived.Test.YtlbcnmcfljaijaaQF44
import Derived.Test.YtlbcnmcfljaijaaQF26
import Derived.Test.YtlbcnmcfljaijaaQF08
import Derived.Deep.RegionHeld3
import Derived.Deep.RegionWith
namespace Go.Proofs.Ytlbcnmcfljaijaa
open Go.RowKit
set_option linter.unusedSimpArgs false
set_option linter.unusedVariables false
attribute [local go_sem ↓] Go.wp_at_zero Go.wp_at_succ

/-- a machine that was drawn, its variable, and what it is to follow -/
structure Lh (W : World) (b : Nat) (ps : Option Addr) (cs : Nat) (pe : Option Addr) (ce : Nat) (m : Mach) (pl : Option Addr) (cl : Nat) (l : List RAct) : Prop where
  ma : MachAt W (.agg #[.slice ps m.states.length cs, .slice pe m.edges.length ce, .int .i64 m.start]) m
  ac : RActSl W W.heap.size (.slice pl l.length cl) l
  bx : BoxL W b [.slice ps m.states.length cs, .slice pe m.edges.length ce, .int .i64 m.start]
theorem Lh.below {W W' : World} {b : Nat} {ps : Option Addr} {cs : Nat} {pe : Option Addr} {ce : Nat} {m : Mach} {pl : Option Addr} {cl : Nat} {l : List RAct} (h : Lh W b ps cs pe ce m pl cl l) (hb : Below W.heap.size W W') : Lh W' b ps cs pe ce m pl cl l :=
  ⟨h.ma.carry hb, (h.ac.carry hb).up hb.size, h.bx.keep (below_apart hb) (by simp)⟩
theorem lh_new {W : World} {base : Nat} {ps : Option Addr} {cs : Nat} {pe : Option Addr} {ce : Nat} {m : Mach} {pl : Option Addr} {cl : Nat} {l : List RAct} (h1 : RStateOwn W base (.slice ps m.states.length cs) m.states) (h2 : REdgeOwn W base (.slice pe m.edges.length ce) m.edges) (h3 : RActOwn W base (.slice pl l.length cl) l) (hs : m.states.length ≤ 40) (he : m.edges.length ≤ 40) (hl : l.length ≤ 61) :
    Lh (W.alloc (.cells #[.slice ps m.states.length cs, .slice pe m.edges.length ce, .int .i64 m.start] 26)) W.heap.size ps cs pe ce m pl cl l :=
  ⟨MachAt.carry ⟨_, _, rfl, RStateOwn.sl h1 (by omega), REdgeOwn.sl h2 (by omega)⟩ (malloc1 _ _), ((RActOwn.sl h3 (by omega)).carry (malloc1 _ _)).up (by simp), BoxL.new W [.slice ps m.states.length cs, .slice pe m.edges.length ce, .int .i64 m.start] 26⟩
theorem fit_ok {l : List RAct} (h : ∀ a ∈ l, a.fit ∧ a.rng) : ∀ a ∈ l, a.rng ∧ a.ok := fun a ha => ⟨(h a ha).2, Nat.le_trans (h a ha).1.1 (by unfold maxLen; omega), Nat.le_trans (h a ha).1.2 (by unfold maxLen; omega)⟩
theorem RActs.take {w : World} {b : Nat} : ∀ {l : List RAct} {o : Nat} (k : Nat), RActs w b o l → RActs w b o (l.take k)
  | [], _, k, _ => by rw [List.take_nil]; trivial
  | _ :: _, _, 0, _ => trivial
  | _ :: _, _, k + 1, h => ⟨h.1, RActs.take k h.2⟩
theorem RActSl.take {w : World} {B L c : Nat} {p : Option Addr} {l : List RAct} (h : RActSl w B (.slice p L c) l) (k : Nat) (hk : k ≤ l.length) : RActSl w B (.slice p k c) (l.take k) := by
  obtain ⟨ao, cap, e, h1, h2, h3⟩ := h
  injection e with e1 e2 e3
  subst e1 e3
  have hl : (l.take k).length = k := by rw [List.length_take]; omega
  refine ⟨p, c, by rw [hl], by omega, by omega, fun hne => ?_⟩
  obtain ⟨b, o, e, hb, hr⟩ := h3 (by intro h; rw [h] at hne; simp at hne)
  exact ⟨b, o, e, hb, hr.take k⟩
set_option maxRecDepth 100000 in
set_option maxHeartbeats 8000000 in
theorem law_Foll (ao : Option Addr) (len cap : Nat) (mo : Option Addr) (mlen mcap : Nat) (w : World) (hlm : len ≤ maxLen) (hmm : mlen ≤ maxLen) (hr : ArgRow w ao len) (hmr : ArgRow w mo mlen) :
    Calls Try.prog 3 #[.slice ao len cap, .slice mo mlen mcap] w fun e w' => e = .returned (.bool true) ∧ Below w.heap.size w w' := by
  have HR := hide hr
  have HMR := hide hmr
  have hl2 : len ≤ 9223372036854775807 := by unfold maxLen at hlm; omega
  have hm2 : mlen ≤ 9223372036854775807 := by unfold maxLen at hmm; omega
  have HL : Hid (∀ (w1 w2 : World), Below w.heap.size w w1 → Below w1.heap.size w1 w2 → Below w.heap.size w w2) := hide (fun w1 w2 h1 h2 => h1.trans (h2.mono h1.size))
  clear hr hmr hlm hmm
  by_cases hb1 : 1048576 < len
  · go_enter Try.func3, Try.ntmps3
    go_wp2_with fail
    go_ret
    exact ⟨rfl, Below.refl _ _⟩
  by_cases hb2 : 1048576 < mlen
  · go_enter Try.func3, Try.ntmps3
    go_wp2_with fail
    go_ret
    exact ⟨rfl, Below.refl _ _⟩
  have hl : len ≤ 1048576 := by omega
  have hml : mlen ≤ 1048576 := by omega
  have hd1 : decide (1048576 < (len : Int)) = false := by simp; omega
  have hd2 : decide (1048576 < (mlen : Int)) = false := by simp; omega
  go_enter Try.func3, Try.ntmps3
  go_wp2_with (first
    | (go_at_call 4; refine (draw_follow ao len cap _ hl HR.out).mono ?_; rintro e w1 ⟨ps, cs, pe, ce, m, lv, l, rfl, hf, hs40, he40, ⟨o1, o2, o3⟩, hok, hl61, hb⟩; obtain ⟨pl, cl, rfl⟩ := owns_shape o3; have HF := hide hf; have HOK := hide (fit_ok hok); have H1 := hide (lh_new o1 o2 o3 hs40 he40 hl61); have HB1 := hide (HL.out _ _ hb (malloc1 w1 (.cells #[.slice ps m.states.length cs, .slice pe m.edges.length ce, .int .i64 m.start] 26))); have x0 := H1.out.bx.cell 0 _ rfl; have x1 := H1.out.bx.cell 1 _ rfl; have x2 := H1.out.bx.cell 2 _ rfl; obtain ⟨n, hn⟩ : ∃ n, followR m l = n := ⟨_, rfl⟩; have HN := hide hn; clear hf o1 o2 o3 hok hb hn)
    | (go_at_call 5; refine (follow_i m l _ _ _ HF.out HOK.out H1.out.ma H1.out.ac).mono ?_; rintro e w2 ⟨rfl, hb⟩; rw [HN.out]; have H1 := hide (H1.out.below hb); have HB2 := hide (HL.out _ _ HB1.out hb); clear hb x0 x1 x2)
    | (go_at_call 6; refine (draw_watch mo mlen mcap _ hml (HMR.out.below HB2.out)).mono ?_; rintro e w3 ⟨ps2, cs2, pe2, ce2, m2, lv2, l2, rfl, hf, hs40', he40', ⟨o1, o2, o3⟩, hok, hl61', hb⟩; obtain ⟨pl2, cl2, rfl⟩ := owns_shape o3; have HF2 := hide hf; have HOK2 := hide (fit_ok hok); have H2 := hide (lh_new o1 o2 o3 hs40' he40' hl61'); have H1 := hide ((H1.out.below hb).below (malloc1 w3 (.cells #[.slice ps2 m2.states.length cs2, .slice pe2 m2.edges.length ce2, .int .i64 m2.start] 26))); have HB3 := hide (HL.out _ _ (HL.out _ _ HB2.out hb) (malloc1 w3 (.cells #[.slice ps2 m2.states.length cs2, .slice pe2 m2.edges.length ce2, .int .i64 m2.start] 26))); have y0 := H2.out.bx.cell 0 _ rfl; have y1 := H2.out.bx.cell 1 _ rfl; have y2 := H2.out.bx.cell 2 _ rfl; obtain ⟨kw, hkw⟩ : ∃ n, watchR m2 l2 = n := ⟨_, rfl⟩; have HKW := hide hkw; clear hf o1 o2 o3 hok hb hkw)
    | (go_at_call 7; (fail_if_success (have := HK)); refine (watch_i m2 l2 _ _ _ HF2.out HOK2.out H2.out.ma H2.out.ac).mono ?_; rintro e w4 ⟨rfl, hb⟩; rw [HKW.out]; have H1 := hide (H1.out.below hb); have H2 := hide (H2.out.below hb); have HB4 := hide (HL.out _ _ HB3.out hb); have HK := hide True.intro; have x0 := H1.out.bx.cell 0 _ rfl; have x1 := H1.out.bx.cell 1 _ rfl; have x2 := H1.out.bx.cell 2 _ rfl; have y0 := H2.out.bx.cell 0 _ rfl; have y1 := H2.out.bx.cell 1 _ rfl; have y2 := H2.out.bx.cell 2 _ rfl; clear hb)
    | fail)
  obtain ⟨q, hq⟩ : ∃ q, machB m = q := ⟨_, rfl⟩
  obtain ⟨P, hP⟩ : ∃ P : World → Prop, P = fun W => Lh W w1.heap.size ps cs pe ce m pl cl l ∧ Lh W w3.heap.size ps2 cs2 pe2 ce2 m2 pl2 cl2 l2 ∧ Below w.heap.size w W := ⟨_, rfl⟩
  have HK : Hid (P w4) := hide (by rw [hP]; exact ⟨H1.out, H2.out, HB4.out⟩)
  have HNX : Hid (∀ W W', P W → Below W.heap.size W W' → P W') := hide (fun W W' h hb => by rw [hP] at h ⊢; exact ⟨h.1.below hb, h.2.1.below hb, HL.out _ _ h.2.2 hb⟩)
  have HCS : Hid (∀ W, P W → W.cell? ⟨w1.heap.size, 0, none⟩ = some (.slice ps m.states.length cs) ∧ W.cell? ⟨w1.heap.size, 1, none⟩ = some (.slice pe m.edges.length ce) ∧ W.cell? ⟨w1.heap.size, 2, none⟩ = some (.int .i64 m.start) ∧ W.cell? ⟨w3.heap.size, 0, none⟩ = some (.slice ps2 m2.states.length cs2) ∧ W.cell? ⟨w3.heap.size, 1, none⟩ = some (.slice pe2 m2.edges.length ce2) ∧ W.cell? ⟨w3.heap.size, 2, none⟩ = some (.int .i64 m2.start)) := hide (fun W h => by rw [hP] at h; exact ⟨h.1.bx.cell 0 _ rfl, h.1.bx.cell 1 _ rfl, h.1.bx.cell 2 _ rfl, h.2.1.bx.cell 0 _ rfl, h.2.1.bx.cell 1 _ rfl, h.2.1.bx.cell 2 _ rfl⟩)
  have HSF : Hid (∀ W, P W → Calls Try.prog 8 #[.agg #[.slice ps m.states.length cs, .slice pe m.edges.length ce, .int .i64 m.start], .slice pl l.length cl] W fun e w' => e = .returned (.int .i64 n) ∧ Below W.heap.size W w') := hide (fun W h => by rw [hP] at h; rw [← HN.out]; exact s_follow m l _ _ W HF.out h.1.ma h.1.ac)
  have HSW : Hid (∀ W, P W → Calls Try.prog 9 #[.agg #[.slice ps2 m2.states.length cs2, .slice pe2 m2.edges.length ce2, .int .i64 m2.start], .slice pl2 l2.length cl2] W fun e w' => e = .returned (.int .i64 kw) ∧ Below W.heap.size W w') := hide (fun W h => by rw [hP] at h; rw [← HKW.out]; exact watch_s m2 l2 _ _ W HF2.out h.2.1.ma h.2.1.ac)
  have HQR : Hid (∀ W, P W → Calls Try.prog 10 #[.agg #[.slice ps m.states.length cs, .slice pe m.edges.length ce, .int .i64 m.start]] W fun e w' => e = .returned (.bool q) ∧ Below W.heap.size W w') := hide (fun W h => by rw [hP] at h; rw [← hq]; exact s_machineRight m _ W HF.out h.1.ma)
  have HIW : Hid (∀ W, P W → Calls Try.prog 7 #[.agg #[.slice ps m.states.length cs, .slice pe m.edges.length ce, .int .i64 m.start], .slice pl l.length cl] W fun e w' => e = .returned (.int .i64 (watchR m l)) ∧ Below W.heap.size W w') := hide (fun W h => by rw [hP] at h; exact watch_i m l _ _ W HF.out HOK.out h.1.ma h.1.ac)
  have HIF : Hid (∀ W u l', P W → (∀ a ∈ l', a.rng ∧ a.ok) → RActSl W W.heap.size u l' → Calls Try.prog 5 #[.agg #[.slice ps m.states.length cs, .slice pe m.edges.length ce, .int .i64 m.start], u] W fun e w' => e = .returned (.int .i64 (followR m l')) ∧ Below W.heap.size W w') := hide (fun W u l' h h1 h2 => by rw [hP] at h; exact follow_i m l' _ u W HF.out h1 h.1.ma h2)
  have HST : Hid (∀ W z a, P W → a ∈ l → Calls Try.prog 11 #[.agg #[.slice ps m.states.length cs, .slice pe m.edges.length ce, .int .i64 m.start], .int .i64 z, a.val] W fun e w' => e = .returned (.int .i64 (stepAc m z a)) ∧ Below W.heap.size W w') := hide (fun W z a h ha => by rw [hP] at h; exact step_of m z a _ W HF.out (HOK.out a ha).1 (HOK.out a ha).2 h.1.ma)
  have HAC : Hid (∀ W, P W → RActSl W W.heap.size (.slice pl l.length cl) l) := hide (fun W h => by rw [hP] at h; exact h.1.ac)
  have HBE : Hid (∀ W, P W → Below w.heap.size w W) := hide (fun W h => by rw [hP] at h; exact h.2.2)
  have HQ := hide hq
  clear hP hq H1 H2 HB1 HB2 HB3 HB4 hd1 hd2
  cases q
  · go_wp2_with (first
      | (go_at_call 8; refine (HSF.out _ HK.out).mono ?_; rintro e wk ⟨rfl, hb⟩; have HK := hide (HNX.out _ _ HK.out hb); obtain ⟨x0, x1, x2, y0, y1, y2⟩ := HCS.out _ HK.out; clear hb)
      | (go_at_call 9; refine (HSW.out _ HK.out).mono ?_; rintro e wk ⟨rfl, hb⟩; have HK := hide (HNX.out _ _ HK.out hb); obtain ⟨x0, x1, x2, y0, y1, y2⟩ := HCS.out _ HK.out; clear hb)
      | (go_at_call 10; refine (HQR.out _ HK.out).mono ?_; rintro e wk ⟨rfl, hb⟩; have HK := hide (HNX.out _ _ HK.out hb); obtain ⟨x0, x1, x2, y0, y1, y2⟩ := HCS.out _ HK.out; clear hb))
    go_ret
    exact ⟨rfl, HBE.out _ HK.out⟩
  · by_cases h60 : 60 < l.length
    · have h60' : decide (60 < (l.length : Int)) = true := decide_eq_true (by omega)
      go_wp2_with (first
        | (go_at_call 8; refine (HSF.out _ HK.out).mono ?_; rintro e wk ⟨rfl, hb⟩; have HK := hide (HNX.out _ _ HK.out hb); obtain ⟨x0, x1, x2, y0, y1, y2⟩ := HCS.out _ HK.out; clear hb)
        | (go_at_call 9; refine (HSW.out _ HK.out).mono ?_; rintro e wk ⟨rfl, hb⟩; have HK := hide (HNX.out _ _ HK.out hb); obtain ⟨x0, x1, x2, y0, y1, y2⟩ := HCS.out _ HK.out; clear hb)
        | (go_at_call 10; refine (HQR.out _ HK.out).mono ?_; rintro e wk ⟨rfl, hb⟩; have HK := hide (HNX.out _ _ HK.out hb); obtain ⟨x0, x1, x2, y0, y1, y2⟩ := HCS.out _ HK.out; clear hb))
      go_ret
      exact ⟨rfl, HBE.out _ HK.out⟩
    · have h60' : decide (60 < (l.length : Int)) = false := decide_eq_false (by omega)
      go_wp2_with (first
        | (go_at_call 8; refine (HSF.out _ HK.out).mono ?_; rintro e wk ⟨rfl, hb⟩; have HK := hide (HNX.out _ _ HK.out hb); obtain ⟨x0, x1, x2, y0, y1, y2⟩ := HCS.out _ HK.out; clear hb)
        | (go_at_call 9; refine (HSW.out _ HK.out).mono ?_; rintro e wk ⟨rfl, hb⟩; have HK := hide (HNX.out _ _ HK.out hb); obtain ⟨x0, x1, x2, y0, y1, y2⟩ := HCS.out _ HK.out; clear hb)
        | (go_at_call 10; refine (HQR.out _ HK.out).mono ?_; rintro e wk ⟨rfl, hb⟩; have HK := hide (HNX.out _ _ HK.out hb); obtain ⟨x0, x1, x2, y0, y1, y2⟩ := HCS.out _ HK.out; clear hb))
      have HM : Hid (machB m = true ∧ l.length ≤ 60 ∧ followR m l = n) := hide ⟨HQ.out, by omega, HN.out⟩
      obtain ⟨L, hL⟩ : ∃ x, l.length = x := ⟨_, rfl⟩
      have HLL := hide hL
      have hL60 : L ≤ 60 := by omega
      have HST0 := hide (fl_start HQ.out (by omega) HN.out)
      have HAC2 : Hid (∀ W, P W → RActSl W W.heap.size (.slice pl L cl) l) := hide (fun W h => by rw [← hL]; exact HAC.out W h)
      have HIW2 : Hid (∀ W, P W → Calls Try.prog 7 #[.agg #[.slice ps m.states.length cs, .slice pe m.edges.length ce, .int .i64 m.start], .slice pl L cl] W fun e w' => e = .returned (.int .i64 (watchR m l)) ∧ Below W.heap.size W w') := hide (fun W h => by rw [← hL]; exact HIW.out W h)
      rw [hL]
      clear HIW h60 h60' hL x0 x1 x2 y0 y1 y2
      go_loopw [11, 12] (fun zv iv wr => ∃ (k : Nat) (z : Int), k ≤ L ∧ iv = .int .i64 k ∧ zv = .int .i64 z ∧ FlAt m l n k z ∧ P wr) (fun _ iv _ => L - (intOf iv).toNat)
      case atStart => exact ⟨0, m.start, Nat.zero_le _, rfl, rfl, HST0.out, HK.out⟩
      case round =>
        obtain ⟨k, z, hk, rfl, rfl, hfl, hp⟩ := hrel
        have HFL := hide hfl
        have HK := hide hp
        obtain ⟨x0, x1, x2, y0, y1, y2⟩ := HCS.out _ hp
        clear hfl hp
        by_cases hlt : k < L
        · have hkl : k < l.length := by rw [HLL.out]; exact hlt
          obtain ⟨a, ha⟩ : ∃ a, l[k] = a := ⟨_, rfl⟩
          have HMEM : Hid (a ∈ l) := hide (by rw [← ha]; exact List.getElem_mem hkl)
          have HSA : Hid (stepAc m z a = stepF m z a) := hide (by rw [← ha]; exact fl_step HM.out.1 HFL.out hkl)
          obtain ⟨nx, hnx⟩ : ∃ x, stepF m z a = x := ⟨_, rfl⟩
          have HNXT : Hid (0 ≤ nx → FlAt m l n (k + 1) nx) := hide (fun h => by
            have := fl_next HM.out.1 HFL.out hkl (by rw [ha, hnx]; exact h)
            rw [ha, hnx] at this
            exact this)
          have HSTOP : Hid (nx < 0 → n = -1 - (k : Int) ∧ watchR m l = (k : Int) ∧ 0 ≤ followR m (l.take k)) := hide (fun h => fl_stop HM.out.1 HM.out.2.1 HM.out.2.2 HFL.out hkl (by rw [ha, hnx]; exact h))
          rw [hnx] at HSA
          obtain ⟨ax, cx, e, hcx, hmx, hrx⟩ := HAC2.out _ HK.out
          obtain ⟨g, o, e6, -, hrow⟩ := hrx (by intro h; rw [h] at hkl; simp at hkl)
          injection e with e1 e2 e3
          rw [e6] at e1
          subst e1 e3
          obtain ⟨d0, d1, d2, d3⟩ := hrow.get k hkl
          rw [ha] at d0 d1 d2 d3
          have hcl : L ≤ cl := by omega
          clear hrow hrx e2 e6 ha hnx hcx hmx
          go_wp2_with fail
          have hgl : g < wr.heap.size := World.block_lt_of_cell? _ _ d0
          have HKD := hide (HNX.out _ _ HK.out ((Below.refl _ wr).drew))
          go_region_held3 (fun w' => w'.cell? ⟨w1.heap.size, 0, none⟩ = some (.slice ps m.states.length cs) ∧ w'.cell? ⟨w1.heap.size, 1, none⟩ = some (.slice pe m.edges.length ce) ∧ w'.cell? ⟨w1.heap.size, 2, none⟩ = some (.int .i64 m.start) ∧ w'.cell? ⟨g, o + k * 4, none⟩ = some (.int .i64 a.kind) ∧ w'.cell? ⟨g, o + k * 4 + 1, none⟩ = some (.string a.peer) ∧ w'.cell? ⟨g, o + k * 4 + 2, none⟩ = some (.string a.label) ∧ w'.cell? ⟨g, o + k * 4 + 3, none⟩ = some (.int .i64 a.sort)) (first | ((fail_if_success (have := f0)); exact ⟨x0, x1, x2, d0, d1, d2, d3⟩) | exact ⟨f0, f1, f2, k0, k1, k2, k3⟩ | go_keep) (first
            | (go_simp; go_at_call 11; refine (HST.out _ z a HKD.out HMEM.out).mono ?_; rintro e wk ⟨rfl, hb⟩; rw [HSA.out]; have HK5 := hide (HNX.out _ _ HKD.out hb); obtain ⟨f0, f1, f2, g0, g1, g2⟩ := HCS.out _ HK5.out; have k0 := (hb.cell (p := ⟨g, _, none⟩) hgl).trans d0; have k1 := (hb.cell (p := ⟨g, _, none⟩) hgl).trans d1; have k2 := (hb.cell (p := ⟨g, _, none⟩) hgl).trans d2; have k3 := (hb.cell (p := ⟨g, _, none⟩) hgl).trans d3; clear hb)
            | fail)
          clear x0 x1 x2 y0 y1 y2 d0 d1 d2 d3 k0 k1 k2 k3 HK HKD
          by_cases hneg : nx < 0
          · obtain ⟨hn, hw, hf0⟩ := HSTOP.out hneg
            have HW := hide hw
            have ht1 : (n == -1 - (k : Int)) = true := by rw [hn]; simp
            obtain ⟨fr, hfr⟩ : ∃ x, followR m (l.take k) = x := ⟨_, rfl⟩
            rw [hfr] at hf0
            have HFR := hide hfr
            have ht3 : decide (0 ≤ fr) = true := decide_eq_true hf0
            have HWK : Hid (∀ W, Below wk.heap.size wk W → Calls Try.prog 7 #[.agg #[.slice ps m.states.length cs, .slice pe m.edges.length ce, .int .i64 m.start], .slice (some ⟨g, o, none⟩) L cl] W fun e w' => e = .returned (.int .i64 (k : Int)) ∧ Below W.heap.size W w') := hide (fun W hb => by rw [← HW.out]; exact HIW2.out W (HNX.out _ _ HK5.out hb))
            have HFK : Hid (∀ W, Below wk.heap.size wk W → Calls Try.prog 5 #[.agg #[.slice ps m.states.length cs, .slice pe m.edges.length ce, .int .i64 m.start], .slice (some ⟨g, o, none⟩) k cl] W fun e w' => e = .returned (.int .i64 fr) ∧ Below W.heap.size W w') := hide (fun W hb => by rw [← HFR.out]; exact HIF.out W _ (l.take k) (HNX.out _ _ HK5.out hb) (fun a ha => HOK.out a (List.mem_of_mem_take ha)) ((HAC2.out _ (HNX.out _ _ HK5.out hb)).take k (by omega)))
            clear hn hw hfr
            go_wp2_with fail
            refine wp_region_grown (by kernel_rfl) (by kernel_rfl) (fun W hW => ?_)
            subst hW
            have hne := grown_some W
            have j0 := grown_cell f0
            have j1 := grown_cell f1
            have j2 := grown_cell f2
            repeat (go_big_quiet_step (first
              | (go_at_call 7; exact grown_more (HWK.out _ (Grown.bel _)))
              | (go_at_call 5; exact grown_more (HFK.out _ (Grown.bel _)))))
            refine wpQuiet_nil ?_
            intro w3' hw3
            have HB3 := hide (HBE.out _ (HNX.out _ _ HK5.out hw3))
            clear hw3 hne j0 j1 j2
            go_wp2_with fail
            go_ret
            exact ⟨rfl, HB3.out⟩
          · have hn0 : decide (nx < 0) = false := decide_eq_false hneg
            go_wp2_with fail
            go_roundw
            case rel => exact ⟨k + 1, nx, hlt, by go_num, rfl, HNXT.out (by omega), HK5.out⟩
            case measure => simp [intOf]; omega
        · obtain rfl : L = k := by omega
          obtain ⟨hn, hw⟩ := fl_end HM.out.1 HM.out.2.1 HM.out.2.2 HFL.out (by rw [HLL.out]; omega)
          subst hn
          have HW := hide hw
          clear hw
          go_wp2_with (go_at_call 7; refine (HIW2.out _ HK.out).mono ?_; rintro e wk2 ⟨rfl, hb⟩; rw [HW.out]; have HK6 := hide (HNX.out _ _ HK.out hb); clear hb)
          go_ret
          exact ⟨rfl, HBE.out _ HK6.out⟩
end Go.Proofs.Ytlbcnmcfljaijaa
