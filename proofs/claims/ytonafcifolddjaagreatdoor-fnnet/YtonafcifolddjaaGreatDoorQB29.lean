/- NetPut of the program. -/
import Derived.Test.YtonafcifolddjaaGreatDoorQB28
namespace Go.Proofs.YtonafcifolddjaaGreatDoor
open Go.RowKit
attribute [local go_sem ↓] Go.wp_at_zero Go.wp_at_succ

def putW (l : List RMsg) (m : RMsg) : Why := match refuseW l (msgB m) with
  | .normal => insW l l.length m
  | y => y
def putR (l : List RMsg) (m : RMsg) : List RMsg := match putW l m with
  | .normal => insL l l.length m
  | _ => []
theorem putW_no {l : List RMsg} {m : RMsg} (h : refuseW l (msgB m) ≠ .normal) : putW l m = refuseW l (msgB m) := by
  unfold putW
  generalize refuseW l (msgB m) = y at *
  cases y <;> first | exact absurd rfl h | rfl
theorem putW_yes {l : List RMsg} {m : RMsg} (h : refuseW l (msgB m) = .normal) : putW l m = insW l l.length m := by
  unfold putW
  rw [h]
theorem putR_no {l : List RMsg} {m : RMsg} (h : putW l m ≠ .normal) : putR l m = [] := by
  unfold putR
  generalize putW l m = y at *
  cases y <;> first | exact absurd rfl h | rfl
theorem putR_yes {l : List RMsg} {m : RMsg} (h : putW l m = .normal) : putR l m = insL l l.length m := by
  unfold putR
  rw [h]
theorem putR_len (l : List RMsg) (m : RMsg) : (putR l m).length ≤ l.length + 1 := by
  by_cases h : putW l m = .normal
  · rw [putR_yes h, insL_len m (Nat.le_refl _)]; exact Nat.le_refl _
  · rw [putR_no h]; simp
/-- a message that is handed in, and the result's cells behind it -/
structure PutBase (w : World) (m : RMsg) (W : World) : Prop where
  z : (W.cell? ⟨w.heap.size + 1, 0, none⟩ = some (.slice none 0 0) ∧ W.cell? ⟨w.heap.size + 1, 1, none⟩ = some (.string ⟨#[]⟩) ∧ W.cell? ⟨w.heap.size + 1, 2, none⟩ = some (.string ⟨#[]⟩) ∧ W.cell? ⟨w.heap.size + 1, 3, none⟩ = some (.string ⟨#[]⟩) ∧ W.cell? ⟨w.heap.size + 1, 4, none⟩ = some (.int .i64 0) ∧ W.cell? ⟨w.heap.size + 1, 5, none⟩ = some (.int .i64 0))
  f : ∀ o, W.frozen? ⟨w.heap.size + 1, o, none⟩ = false
  c : RMsgAt W w.heap.size 0 m
  b : Below w.heap.size w W
theorem put_base {w W : World} {m : RMsg} (h : Below (w.heap.size + 2) ((w.alloc (.cells #[.string m.frm, .string m.to, .string m.label, .int .i64 m.sort] 25)).alloc outZ) W) : PutBase w m W := by
  have hA : (w.alloc (.cells #[.string m.frm, .string m.to, .string m.label, .int .i64 m.sort] 25)).heap.size = w.heap.size + 1 := by simp
  have h' : Below ((w.alloc (.cells #[.string m.frm, .string m.to, .string m.label, .int .i64 m.sort] 25)).heap.size + 1) ((w.alloc (.cells #[.string m.frm, .string m.to, .string m.label, .int .i64 m.sort] 25)).alloc outZ) W := by rw [hA]; exact h
  obtain ⟨h1, h2, h3⟩ := out_cells h'
  rw [hA] at h1 h2
  refine ⟨h1, h2, ?_, (malloc1 _ _).trans (h3.mono (by simp))⟩
  have : RMsgAt (w.alloc (.cells #[.string m.frm, .string m.to, .string m.label, .int .i64 m.sort] 25)) w.heap.size 0 m := ⟨by simp, by simp, by simp, by simp⟩
  exact this.carry (by simp) h3
theorem put_end0 {w wA w3 W : World} {sv : Value} {l : List RMsg} {M : RMsg} {c : Int} {B g : Nat} (hA : wA.heap.size = g) (hg : w.heap.size ≤ g) (hb : Below w.heap.size w wA) (h : Below (g + 1) (wA.alloc outZ) w3) (hB : g < B) (ho : RMsgOwn w3 B sv l) (hW : W = putOut w3 g sv M c) :
    (W.cell? ⟨g, 0, none⟩ = some sv ∧ W.cell? ⟨g, 1, none⟩ = some (.string M.frm) ∧ W.cell? ⟨g, 2, none⟩ = some (.string M.to) ∧ W.cell? ⟨g, 3, none⟩ = some (.string M.label) ∧ W.cell? ⟨g, 4, none⟩ = some (.int .i64 M.sort) ∧ W.cell? ⟨g, 5, none⟩ = some (.int .i64 c)) ∧ RMsgOwn W w.heap.size sv l ∧ Below w.heap.size w W := by
  subst hA
  obtain ⟨h1, h2, h3⟩ := ans_end (w := wA) h hB ho hW
  exact ⟨h1, h2.mono hg, hb.trans (h3.mono hg)⟩
theorem put_end {w w3 W : World} {sv : Value} {l : List RMsg} {m M : RMsg} {c : Int} {B : Nat} (h : Below (w.heap.size + 2) ((w.alloc (.cells #[.string m.frm, .string m.to, .string m.label, .int .i64 m.sort] 25)).alloc outZ) w3) (hB : w.heap.size + 1 < B) (ho : RMsgOwn w3 B sv l) (hW : W = putOut w3 (w.heap.size + 1) sv M c) :
    (W.cell? ⟨w.heap.size + 1, 0, none⟩ = some sv ∧ W.cell? ⟨w.heap.size + 1, 1, none⟩ = some (.string M.frm) ∧ W.cell? ⟨w.heap.size + 1, 2, none⟩ = some (.string M.to) ∧ W.cell? ⟨w.heap.size + 1, 3, none⟩ = some (.string M.label) ∧ W.cell? ⟨w.heap.size + 1, 4, none⟩ = some (.int .i64 M.sort) ∧ W.cell? ⟨w.heap.size + 1, 5, none⟩ = some (.int .i64 c)) ∧ RMsgOwn W w.heap.size sv l ∧ Below w.heap.size w W :=
  put_end0 (by simp) (by omega) (malloc1 _ _) h hB ho hW
theorem put_next {w W W' : World} {m : RMsg} (h : Below (w.heap.size + 2) ((w.alloc (.cells #[.string m.frm, .string m.to, .string m.label, .int .i64 m.sort] 25)).alloc outZ) W) (hb : Below W.heap.size W W') : Below (w.heap.size + 2) ((w.alloc (.cells #[.string m.frm, .string m.to, .string m.label, .int .i64 m.sort] 25)).alloc outZ) W' :=
  h.trans (hb.mono (by have := h.size; simp at this; omega))
theorem put_size {w W : World} {m : RMsg} (h : Below (w.heap.size + 2) ((w.alloc (.cells #[.string m.frm, .string m.to, .string m.label, .int .i64 m.sort] 25)).alloc outZ) W) : w.heap.size + 1 < W.heap.size := by have := h.size; simp at this; omega
set_option maxRecDepth 100000 in
set_option maxHeartbeats 1000000 in
theorem i_netPut {E : Errs} (l : List RMsg) (m : RMsg) (b o cap : Nat) (w : World) (hok : ∀ x ∈ l, x.ok ∧ x.fit) (hm : m.ok ∧ m.fit) (hv : RMsgSl w w.heap.size (.slice (some ⟨b, o, none⟩) l.length cap) l) (hs : SentAt w E) :
    Calls Tryz.prog 5 #[.slice (some ⟨b, o, none⟩) l.length cap, m.val] w fun e w' => NetAns w w' e (putR l m) noMsg (putW l m).code := by
  have HS := hide hs
  have HOK := hide (fun x hx => (hok x hx).1)
  have HFIT := hide (fun x hx => (hok x hx).2)
  have HMO := hide hm.1
  have HMF := hide hm.2
  have HV := hide hv
  obtain ⟨qm, hqm⟩ : ∃ q, msgB m = q := ⟨_, rfl⟩
  have HQM := hide hqm
  obtain ⟨y, hy⟩ : ∃ y, refuseW l qm = y := ⟨_, rfl⟩
  have HY := hide hy
  clear hok hm hs hv
  unfold RMsg.val
  by_cases hyf : y = .normal
  · subst hyf
    obtain ⟨h4, -, hnet⟩ := refuse_net hy
    have h36 := net_len hnet
    have hpw := putW_yes (l := l) (m := m) (by rw [hqm]; exact hy)
    obtain ⟨q, hq⟩ : ∃ q, netB (insL l l.length m) = q := ⟨_, rfl⟩
    have HQ := hide hq
    have HLN : Hid ((insL l l.length m).length ≤ 4096) := hide (by rw [insL_len m (Nat.le_refl _)]; omega)
    have HLF : Hid (∀ x ∈ insL l l.length m, x.fit) := hide (fun x hx => by rcases insL_mem hx with h | rfl; exact HFIT.out x h; exact HMF.out)
    cases q
    · have hpn : putW l m = .early := by rw [hpw, insW, hq]; rfl
      rw [putR_no (by rw [hpn]; intro h; cases h), hpn]
      have HIW : Hid (insW l l.length m = .early) := hide (by rw [insW, hq]; rfl)
      clear hpw hpn hq hy hqm hnet
      go_enter Tryz.func5, Tryz.ntmps5
      go_wp2_with (first
        | (go_at_call 24; refine (i_msg (m := m) HQM.out HMO.out _).mono ?_; rintro e w1 ⟨rfl, hb1⟩; have HB1 : Hid (Below (w.heap.size + 2) ((w.alloc (.cells #[.string m.frm, .string m.to, .string m.label, .int .i64 m.sort] 25)).alloc outZ) w1) := hide (by have := hb1; simpa [outZ] using this); obtain ⟨d0, d1, d2, d3⟩ := (put_base HB1.out).c; simp only [Nat.zero_add] at d0 d1 d2 d3; clear hb1)
        | (go_at_call 30; refine (i_refuse (E := E) HY.out _ _ HOK.out ((HV.out.carry (put_base HB1.out).b).up (put_base HB1.out).b.size) (HS.out.carry (put_base HB1.out).b)).mono ?_; rintro e w2 ⟨he, hb2⟩; rw [show whyV E .normal = Value.nilIface from rfl] at he; subst he; have HB2 := hide (put_next HB1.out hb2); obtain ⟨e0, e1, e2, e3⟩ := (put_base HB2.out).c; simp only [Nat.zero_add] at e0 e1 e2 e3; clear hb2)
        | (go_at_call 32; have hpp := i_put (E := E) l l.length m b o cap w2 (Nat.le_refl _) (by omega) HOK.out HMO.out ((HV.out.carry (put_base HB2.out).b).up (put_base HB2.out).b.size) (HS.out.carry (put_base HB2.out).b); rw [HQ.out, HIW.out] at hpp; refine hpp.mono ?_; rintro e w3 ⟨v3, rfl, hp3, hb3⟩; have HB3 := hide (put_next HB2.out hb3); obtain rfl : v3 = .slice none 0 0 := hp3; rw [show whyV E .early = Value.iface 136 (.pointer (some E.aM)) from rfl]; clear hb3 hpp)
        | (go_at_call 31; have hno := net_out_why (E := E) .early (by intro h; cases h) none 0 0 w3 (HS.out.carry (put_base HB3.out).b); rw [show whyV E .early = Value.iface 136 (.pointer (some E.aM)) from rfl, show Why.code .early = 9 from rfl] at hno; refine hno.mono ?_; rintro e w4 ⟨v4, rfl, ho4, hb4⟩; have HBL := hide (put_next HB3.out hb4); have HOL := hide ho4; obtain ⟨pa, pc, rfl⟩ := owns_shape ho4; obtain ⟨⟨x0, x1, x2, x3, x4, x5⟩, ez, -, -⟩ := put_base HBL.out; have z0 := ez 0; have z1 := ez 1; have z2 := ez 2; have z3 := ez 3; have z4 := ez 4; have z5 := ez 5; clear hb4 ez ho4 hno; unfold netV noMsg))
      rw [show Why.code .early = 9 from rfl]
      obtain ⟨W5, hW5⟩ : ∃ W5, W5 = ((((((w4.setCell ⟨w.heap.size + 1, 0, none⟩ (.slice pa 0 pc)).setCell ⟨w.heap.size + 1, 1, none⟩ (.string ByteArray.empty)).setCell ⟨w.heap.size + 1, 2, none⟩ (.string ByteArray.empty)).setCell ⟨w.heap.size + 1, 3, none⟩ (.string ByteArray.empty)).setCell ⟨w.heap.size + 1, 4, none⟩ (.int .i64 0)).setCell ⟨w.heap.size + 1, 5, none⟩ (.int .i64 9)) := ⟨_, rfl⟩
      rw [← hW5]
      have hE := put_end (M := noMsg) (c := 9) HBL.out (put_size HB3.out) HOL.out hW5
      obtain ⟨⟨r0, r1, r2, r3, r4, r5⟩, hE1, hE2⟩ := hE
      clear hW5 e0 e1 e2 e3 z0 z1 z2 z3 z4 z5
      refine bodyPost_ret_by (v := netV (.slice pa 0 pc) noMsg 9) ?_ rfl ⟨_, rfl, hE1, hE2⟩
      unfold netV noMsg
      unfold noMsg at r1 r2 r3 r4
      simp only [List.length_nil] at r0 r1 r2 r3 r4
      unfold results
      go_simp
    · have hpn : putW l m = .normal := by rw [hpw, insW, hq]; rfl
      rw [putR_yes hpn, hpn]
      have HIW : Hid (insW l l.length m = .normal) := hide (by rw [insW, hq]; rfl)
      clear hpw hpn hq hy hqm hnet
      go_enter Tryz.func5, Tryz.ntmps5
      go_wp2_with (first
        | (go_at_call 24; refine (i_msg (m := m) HQM.out HMO.out _).mono ?_; rintro e w1 ⟨rfl, hb1⟩; have HB1 : Hid (Below (w.heap.size + 2) ((w.alloc (.cells #[.string m.frm, .string m.to, .string m.label, .int .i64 m.sort] 25)).alloc outZ) w1) := hide (by have := hb1; simpa [outZ] using this); obtain ⟨d0, d1, d2, d3⟩ := (put_base HB1.out).c; simp only [Nat.zero_add] at d0 d1 d2 d3; clear hb1)
        | (go_at_call 30; refine (i_refuse (E := E) HY.out _ _ HOK.out ((HV.out.carry (put_base HB1.out).b).up (put_base HB1.out).b.size) (HS.out.carry (put_base HB1.out).b)).mono ?_; rintro e w2 ⟨he, hb2⟩; rw [show whyV E .normal = Value.nilIface from rfl] at he; subst he; have HB2 := hide (put_next HB1.out hb2); obtain ⟨e0, e1, e2, e3⟩ := (put_base HB2.out).c; simp only [Nat.zero_add] at e0 e1 e2 e3; clear hb2)
        | (go_at_call 32; have hpp := i_put (E := E) l l.length m b o cap w2 (Nat.le_refl _) (by omega) HOK.out HMO.out ((HV.out.carry (put_base HB2.out).b).up (put_base HB2.out).b.size) (HS.out.carry (put_base HB2.out).b); rw [HQ.out, HIW.out] at hpp; refine hpp.mono ?_; rintro e w3 ⟨v3, rfl, hp3, hb3⟩; have HB3 := hide (put_next HB2.out hb3); have HP3 : Hid (RMsgSl w3 w3.heap.size v3 (insL l l.length m)) := hide hp3; obtain ⟨p3, c3, rfl⟩ := HP3.out.shape; rw [show whyV E .normal = Value.nilIface from rfl]; clear hp3; clear hb3 hpp)
        | (go_at_call 31; have hno := net_out_fine (insL l l.length m) _ w3 HLN.out HLF.out HP3.out; refine hno.mono ?_; rintro e w4 ⟨v4, rfl, ho4, hb4⟩; have HBL := hide (put_next HB3.out hb4); have HOL := hide ho4; obtain ⟨pa, pc, rfl⟩ := owns_shape ho4; obtain ⟨⟨x0, x1, x2, x3, x4, x5⟩, ez, -, -⟩ := put_base HBL.out; have z0 := ez 0; have z1 := ez 1; have z2 := ez 2; have z3 := ez 3; have z4 := ez 4; have z5 := ez 5; clear hb4 ez ho4 hno; unfold netV noMsg))
      rw [show Why.code .normal = 0 from rfl]
      obtain ⟨W5, hW5⟩ : ∃ W5, W5 = ((((((w4.setCell ⟨w.heap.size + 1, 0, none⟩ (.slice pa (insL l l.length m).length pc)).setCell ⟨w.heap.size + 1, 1, none⟩ (.string ByteArray.empty)).setCell ⟨w.heap.size + 1, 2, none⟩ (.string ByteArray.empty)).setCell ⟨w.heap.size + 1, 3, none⟩ (.string ByteArray.empty)).setCell ⟨w.heap.size + 1, 4, none⟩ (.int .i64 0)).setCell ⟨w.heap.size + 1, 5, none⟩ (.int .i64 0)) := ⟨_, rfl⟩
      rw [← hW5]
      have hE := put_end (M := noMsg) (c := 0) HBL.out (put_size HB3.out) HOL.out hW5
      obtain ⟨⟨r0, r1, r2, r3, r4, r5⟩, hE1, hE2⟩ := hE
      clear hW5 e0 e1 e2 e3 z0 z1 z2 z3 z4 z5
      refine bodyPost_ret_by (v := netV (.slice pa (insL l l.length m).length pc) noMsg 0) ?_ rfl ⟨_, rfl, hE1, hE2⟩
      unfold netV noMsg
      unfold noMsg at r1 r2 r3 r4
      simp only [] at r1 r2 r3 r4
      unfold results
      go_simp
  · have hpw : putW l m = y := by rw [putW_no (by rw [hqm, hy]; exact hyf), hqm, hy]
    rw [putR_no (by rw [hpw]; exact hyf), hpw]
    obtain ⟨a, ha⟩ : ∃ a, whyV E y = .iface 136 (.pointer (some a)) := by cases y <;> first | exact absurd rfl hyf | exact ⟨_, rfl⟩
    have HA := hide ha
    have HYF := hide hyf
    obtain ⟨cd, hcd⟩ : ∃ cd, y.code = cd := ⟨_, rfl⟩
    have HCD := hide hcd
    rw [hcd]
    clear ha hcd hy hyf hpw hqm
    · go_enter Tryz.func5, Tryz.ntmps5
      go_wp2_with (first
        | (go_at_call 24; refine (i_msg (m := m) HQM.out HMO.out _).mono ?_; rintro e w1 ⟨rfl, hb1⟩; have HB1 : Hid (Below (w.heap.size + 2) ((w.alloc (.cells #[.string m.frm, .string m.to, .string m.label, .int .i64 m.sort] 25)).alloc outZ) w1) := hide (by have := hb1; simpa [outZ] using this); obtain ⟨d0, d1, d2, d3⟩ := (put_base HB1.out).c; simp only [Nat.zero_add] at d0 d1 d2 d3; clear hb1)
        | (go_at_call 30; refine (i_refuse (E := E) HY.out _ _ HOK.out ((HV.out.carry (put_base HB1.out).b).up (put_base HB1.out).b.size) (HS.out.carry (put_base HB1.out).b)).mono ?_; rintro e w2 ⟨he, hb2⟩; rw [HA.out] at he; subst he; have HB2 := hide (put_next HB1.out hb2); obtain ⟨e0, e1, e2, e3⟩ := (put_base HB2.out).c; simp only [Nat.zero_add] at e0 e1 e2 e3; clear hb2)
        | (go_at_call 31; have hno := net_out_why (E := E) y HYF.out none 0 0 w2 (HS.out.carry (put_base HB2.out).b); rw [HA.out, HCD.out] at hno; refine hno.mono ?_; rintro e w4 ⟨v4, rfl, ho4, hb4⟩; have HBL := hide (put_next HB2.out hb4); have HOL := hide ho4; obtain ⟨pa, pc, rfl⟩ := owns_shape ho4; obtain ⟨⟨x0, x1, x2, x3, x4, x5⟩, ez, -, -⟩ := put_base HBL.out; have z0 := ez 0; have z1 := ez 1; have z2 := ez 2; have z3 := ez 3; have z4 := ez 4; have z5 := ez 5; clear hb4 ez ho4 hno; unfold netV noMsg))
      obtain ⟨W5, hW5⟩ : ∃ W5, W5 = ((((((w4.setCell ⟨w.heap.size + 1, 0, none⟩ (.slice pa 0 pc)).setCell ⟨w.heap.size + 1, 1, none⟩ (.string ByteArray.empty)).setCell ⟨w.heap.size + 1, 2, none⟩ (.string ByteArray.empty)).setCell ⟨w.heap.size + 1, 3, none⟩ (.string ByteArray.empty)).setCell ⟨w.heap.size + 1, 4, none⟩ (.int .i64 0)).setCell ⟨w.heap.size + 1, 5, none⟩ (.int .i64 cd)) := ⟨_, rfl⟩
      rw [← hW5]
      have hE := put_end (M := noMsg) (c := cd) HBL.out (put_size HB2.out) HOL.out hW5
      obtain ⟨⟨r0, r1, r2, r3, r4, r5⟩, hE1, hE2⟩ := hE
      clear hW5 e0 e1 e2 e3 z0 z1 z2 z3 z4 z5
      refine bodyPost_ret_by (v := netV (.slice pa 0 pc) noMsg cd) ?_ rfl ⟨_, rfl, hE1, hE2⟩
      unfold netV noMsg
      unfold noMsg at r1 r2 r3 r4
      simp only [List.length_nil] at r0 r1 r2 r3 r4
      unfold results
      go_simp
end Go.Proofs.YtonafcifolddjaaGreatDoor
