/- NetFault of the program. -/
import Derived.Test.YtonafcifolddjaaGreatDoorQB31
namespace Go.Proofs.YtonafcifolddjaaGreatDoor
open Go.RowKit
attribute [local go_sem ↓] Go.wp_at_zero Go.wp_at_succ

def timeB (n : Int) : Bool := decide (0 ≤ n) && decide (n ≤ 1000000)
def kindB (n : Int) : Bool := decide (1 ≤ n) && decide (n ≤ 3)
def faultK (l : List RMsg) (n : Int) : Nat := n.toNat % l.length
/-- what becomes of the one of that number -/
def doneW (l : List RMsg) (kind n : Int) : Why :=
  if l.length = 0 then .deferred else if kind = 1 then .normal else if kind = 2 then insW l (faultK l n + 1) (l.getD (faultK l n) noMsg) else swapW l (faultK l n)
def doneR (l : List RMsg) (kind n : Int) : List RMsg :=
  if kind = 1 then l.eraseIdx (faultK l n) else if kind = 2 then insL l (faultK l n + 1) (l.getD (faultK l n) noMsg) else swapR l (faultK l n)
def faultW (l : List RMsg) (kind n : Int) : Why := match refuseW l (kindB kind && timeB n) with
  | .normal => doneW l kind n
  | y => y
def faultR (l : List RMsg) (kind n : Int) : List RMsg := match faultW l kind n with
  | .normal => doneR l kind n
  | _ => []
theorem faultW_no {l : List RMsg} {a n : Int} (h : refuseW l (kindB a && timeB n) ≠ .normal) : faultW l a n = refuseW l (kindB a && timeB n) := by
  unfold faultW
  generalize refuseW l (kindB a && timeB n) = y at *
  cases y <;> first | exact absurd rfl h | rfl
theorem faultW_yes {l : List RMsg} {a n : Int} (h : refuseW l (kindB a && timeB n) = .normal) : faultW l a n = doneW l a n := by
  unfold faultW
  rw [h]
theorem faultR_no {l : List RMsg} {a n : Int} (h : faultW l a n ≠ .normal) : faultR l a n = [] := by
  unfold faultR
  generalize faultW l a n = y at *
  cases y <;> first | exact absurd rfl h | rfl
theorem faultR_yes {l : List RMsg} {a n : Int} (h : faultW l a n = .normal) : faultR l a n = doneR l a n := by
  unfold faultR
  rw [h]
theorem swapR_len (l : List RMsg) (k : Nat) : (swapR l k).length ≤ l.length := by
  unfold swapR
  split
  · rw [swapL_len]; exact Nat.le_refl _
  · exact Nat.zero_le _
theorem swapR_mem {l : List RMsg} {k : Nat} (hk : k < l.length) {x : RMsg} (h : x ∈ swapR l k) : x ∈ l := by
  unfold swapR at h
  split at h
  · rename_i i hi
    have hil := atI_lt hi
    rw [List.length_drop] at hil
    have hj : k + 1 + i < l.length := by omega
    rw [swapL, List.getD_eq_getElem?_getD, List.getElem?_eq_getElem hj, List.getD_eq_getElem?_getD, List.getElem?_eq_getElem hk] at h
    simp only [Option.getD_some] at h
    rcases List.mem_or_eq_of_mem_set h with h | rfl
    · rcases List.mem_or_eq_of_mem_set h with h | rfl
      · exact h
      · exact List.getElem_mem hj
    · exact List.getElem_mem hk
  · cases h
theorem faultR_len (l : List RMsg) (a n : Int) : (faultR l a n).length ≤ l.length + 1 := by
  by_cases h : faultW l a n = .normal
  · rw [faultR_yes h, doneR]
    split
    · rw [List.length_eraseIdx]; split <;> omega
    · split
      · rw [insL, List.length_append, List.length_cons, List.length_take, List.length_drop]; omega
      · have := swapR_len l (faultK l n); omega
  · rw [faultR_no h]; simp
theorem ib_time {q : Bool} {n : Int} (hq : timeB n = q) (w : World) :
    Calls Tryz.prog 41 #[.int .i64 n] w fun e w' => e = .returned (.bool q) ∧ w' = w := by
  have HQ := hide hq
  clear hq
  by_cases h : 0 ≤ n
  all_goals
    go_enter Tryz.func41, Tryz.ntmps41
    go_wp2_with fail
    go_ret
    exact ⟨ret_bool (by rw [← HQ.out]; simp [timeB, *]; try omega), rfl⟩
theorem sb_time {q : Bool} {n : Int} (hq : timeB n = q) (w : World) :
    Calls Tryz.prog 58 #[.int .i64 n] w fun e w' => e = .returned (.bool q) ∧ w' = w := by
  subst hq
  go_enter Tryz.func58, Tryz.ntmps58
  go_wp2_with (go_at_call 57; refine (sb_is _ _ _ _).mono ?_; rintro e w' ⟨rfl, rfl⟩)
  go_ret
  exact ⟨ret_bool rfl, rfl⟩
theorem sb_kind {q : Bool} {n : Int} (hq : kindB n = q) (w : World) :
    Calls Tryz.prog 57 #[.int .i64 n, .int .i64 1, .int .i64 3] w fun e w' => e = .returned (.bool q) ∧ w' = w := by subst hq; exact sb_is n 1 3 w
set_option maxRecDepth 100000 in
set_option maxHeartbeats 1000000 in
theorem i_netFault {E : Errs} (l : List RMsg) (kind n : Int) (b o cap : Nat) (w : World) (hok : ∀ x ∈ l, x.ok ∧ x.fit) (hv : RMsgSl w w.heap.size (.slice (some ⟨b, o, none⟩) l.length cap) l) (hs : SentAt w E) :
    Calls Tryz.prog 10 #[.slice (some ⟨b, o, none⟩) l.length cap, .int .i64 kind, .int .i64 n] w fun e w' => NetAns w w' e (faultR l kind n) noMsg (faultW l kind n).code := by
  have HS := hide hs
  have HOK := hide (fun x hx => (hok x hx).1)
  have HFIT := hide (fun x hx => (hok x hx).2)
  have HV := hide hv
  obtain ⟨qk, hqk⟩ : ∃ q, kindB kind = q := ⟨_, rfl⟩
  obtain ⟨qt, hqt⟩ : ∃ q, timeB n = q := ⟨_, rfl⟩
  have HQT := hide hqt
  obtain ⟨y, hy⟩ : ∃ y, refuseW l (qk && qt) = y := ⟨_, rfl⟩
  have HY := hide hy
  clear hok hs hv
  by_cases hyf : y = .normal
  · subst hyf
    obtain ⟨h4, hqq, hnet⟩ := refuse_net hy
    obtain ⟨rfl, rfl⟩ : qk = true ∧ qt = true := by simpa using hqq
    have h36 := net_len hnet
    have hfw := faultW_yes (l := l) (a := kind) (n := n) (by rw [hqk, hqt]; exact hy)
    have hk1 : 1 ≤ kind := by simp [kindB] at hqk; omega
    have hk3 : kind ≤ 3 := by simp [kindB] at hqk; omega
    have hn0 : 0 ≤ n := by simp [timeB] at hqt; omega
    have hn1 : n ≤ 1000000 := by simp [timeB] at hqt; omega
    clear hqk hqt hqq
    by_cases hl0 : l.length = 0
    · have hpn : faultW l kind n = .deferred := by rw [hfw, doneW, if_pos hl0]
      rw [faultR_no (by rw [hpn]; intro h; cases h), hpn]
      obtain rfl : l = [] := List.length_eq_zero_iff.1 hl0
      have HV0 : Hid (RMsgSl w w.heap.size (.slice (some ⟨b, o, none⟩) 0 cap) []) := hide HV.out
      have HY0 : Hid (refuseW [] true = .normal) := hide HY.out
      simp only [List.length_nil]
      clear hfw hpn hy hnet hl0 HV HY
      go_enter Tryz.func10, Tryz.ntmps10
      go_wp2_with (first
        | (go_at_call 41; refine (ib_time HQT.out _).mono ?_; rintro e w' ⟨rfl, rfl⟩)
        | (go_at_call 30; refine (i_refuse (E := E) (l := []) HY0.out _ _ HOK.out ((HV0.out.carry (malloc1 _ _)).up (malloc1 _ _).size) (HS.out.carry (malloc1 _ _))).mono ?_; rintro e w1 ⟨he, hb1⟩; rw [show whyV E .normal = Value.nilIface from rfl] at he; subst he; have HB1 : Hid (Below (w.heap.size + 1) (w.alloc outZ) w1) := hide (by have := hb1; simpa [outZ] using this); have HBW := hide (out_cells HB1.out).2.2; have gN := (HS.out.carry HBW.out).gN; clear hb1)
        | (go_at_call 31; have hno := net_out_why (E := E) .deferred (by intro h; cases h) none 0 0 w1 (HS.out.carry HBW.out); rw [show whyV E .deferred = Value.iface 136 (.pointer (some E.aN)) from rfl, show Why.code .deferred = 6 from rfl] at hno; refine hno.mono ?_; rintro e w4 ⟨v4, rfl, ho4, hb4⟩; have HB4 : Hid (Below (w.heap.size + 1) (w.alloc outZ) w4) := hide (HB1.out.trans (hb4.mono (by have := HB1.out.size; simp at this; exact this))); have HO4 := hide ho4; obtain ⟨pa, pc, rfl⟩ := owns_shape ho4; obtain ⟨⟨e0, e1, e2, e3, e4, e5⟩, ez, -⟩ := out_cells HB4.out; have z0 := ez 0; have z1 := ez 1; have z2 := ez 2; have z3 := ez 3; have z4 := ez 4; have z5 := ez 5; clear hb4 ez ho4 hno; unfold netV noMsg))
      rw [show Why.code .deferred = 6 from rfl]
      obtain ⟨W4, hW4⟩ : ∃ W4, W4 = ((((((w4.setCell ⟨w.heap.size, 0, none⟩ (.slice pa 0 pc)).setCell ⟨w.heap.size, 1, none⟩ (.string ByteArray.empty)).setCell ⟨w.heap.size, 2, none⟩ (.string ByteArray.empty)).setCell ⟨w.heap.size, 3, none⟩ (.string ByteArray.empty)).setCell ⟨w.heap.size, 4, none⟩ (.int .i64 0)).setCell ⟨w.heap.size, 5, none⟩ (.int .i64 6)) := ⟨_, rfl⟩
      rw [← hW4]
      have hE := ans_end (m := noMsg) (c := 6) HB4.out (show w.heap.size < w1.heap.size by have := HB1.out.size; simp at this; omega) HO4.out hW4
      obtain ⟨⟨r0, r1, r2, r3, r4, r5⟩, hE1, hE2⟩ := hE
      clear hW4 e0 e1 e2 e3 e4 e5 z0 z1 z2 z3 z4 z5
      refine bodyPost_ret_by (v := netV (.slice pa 0 pc) noMsg 6) ?_ rfl ⟨_, rfl, hE1, hE2⟩
      unfold netV noMsg
      unfold noMsg at r1 r2 r3 r4
      simp only [List.length_nil] at r0 r1 r2 r3 r4
      unfold results
      go_simp
    · obtain ⟨k, hkd⟩ : ∃ k, faultK l n = k := ⟨_, rfl⟩
      have hlp : 0 < l.length := by omega
      have hkl : k < l.length := by rw [← hkd]; exact Nat.mod_lt _ hlp
      have hmod : n % (l.length : Int) = (k : Int) := by
        rw [← hkd, faultK, Int.natCast_emod, Int.toNat_of_nonneg hn0]
      have HX : Hid (l.getD k noMsg = l[k]) := hide (by rw [List.getD_eq_getElem?_getD, List.getElem?_eq_getElem hkl]; rfl)
      have hdw : faultW l kind n = if kind = 1 then .normal else if kind = 2 then insW l (k + 1) l[k] else swapW l k := by rw [hfw, doneW, if_neg hl0, hkd, HX.out]
      have hdr : doneR l kind n = if kind = 1 then l.eraseIdx k else if kind = 2 then insL l (k + 1) l[k] else swapR l k := by rw [doneR, hkd, HX.out]
      clear hfw hy hnet
      rcases (show kind = 1 ∨ kind = 2 ∨ kind = 3 by omega) with rfl | rfl | rfl
      · rw [if_pos rfl] at hdw hdr
        rw [faultR_yes hdw, hdr, hdw]
        have HEL : Hid ((l.eraseIdx k).length ≤ 4096) := hide (by rw [List.length_eraseIdx]; split <;> omega)
        have HEF : Hid (∀ m ∈ l.eraseIdx k, m.fit) := hide (fun m hm => HFIT.out m (List.mem_of_mem_eraseIdx hm))
        clear hdw hdr hkd HX
        go_enter Tryz.func10, Tryz.ntmps10
        go_wp2_with (first
          | (go_at_call 41; refine (ib_time HQT.out _).mono ?_; rintro e w' ⟨rfl, rfl⟩)
          | (go_at_call 30; refine (i_refuse (E := E) HY.out _ _ HOK.out ((HV.out.carry (malloc1 _ _)).up (malloc1 _ _).size) (HS.out.carry (malloc1 _ _))).mono ?_; rintro e w1 ⟨he, hb1⟩; rw [show whyV E .normal = Value.nilIface from rfl] at he; subst he; have HB1 : Hid (Below (w.heap.size + 1) (w.alloc outZ) w1) := hide (by have := hb1; simpa [outZ] using this); have HBW := hide (out_cells HB1.out).2.2; clear hb1)
          | (go_at_call 39; refine (i_without l k _ w1 hkl (by omega) ((HV.out.carry HBW.out).up HBW.out.size)).mono ?_; rintro e w2 ⟨v2, rfl, hs2, hb2⟩; have HS2 := hide hs2; have HB2 : Hid (Below (w.heap.size + 1) (w.alloc outZ) w2) := hide (HB1.out.trans (hb2.mono (by have := HB1.out.size; simp at this; exact this))); obtain ⟨p2, c2, rfl⟩ := hs2.shape; clear hs2 hb2)
          | (go_at_call 31; have hno := net_out_fine (l.eraseIdx k) _ w2 HEL.out HEF.out HS2.out; refine hno.mono ?_; rintro e w4 ⟨v4, rfl, ho4, hb4⟩; have HB4 : Hid (Below (w.heap.size + 1) (w.alloc outZ) w4) := hide (HB2.out.trans (hb4.mono (by have := HB2.out.size; simp at this; exact this))); have HO4 := hide ho4; obtain ⟨pa, pc, rfl⟩ := owns_shape ho4; obtain ⟨⟨e0, e1, e2, e3, e4, e5⟩, ez, -⟩ := out_cells HB4.out; have z0 := ez 0; have z1 := ez 1; have z2 := ez 2; have z3 := ez 3; have z4 := ez 4; have z5 := ez 5; clear hb4 ez ho4 hno; unfold netV noMsg))
        rw [show Why.code .normal = 0 from rfl]
        obtain ⟨W4, hW4⟩ : ∃ W4, W4 = ((((((w4.setCell ⟨w.heap.size, 0, none⟩ (.slice pa (l.eraseIdx k).length pc)).setCell ⟨w.heap.size, 1, none⟩ (.string ByteArray.empty)).setCell ⟨w.heap.size, 2, none⟩ (.string ByteArray.empty)).setCell ⟨w.heap.size, 3, none⟩ (.string ByteArray.empty)).setCell ⟨w.heap.size, 4, none⟩ (.int .i64 0)).setCell ⟨w.heap.size, 5, none⟩ (.int .i64 0)) := ⟨_, rfl⟩
        rw [← hW4]
        have hE := ans_end (m := noMsg) (c := 0) HB4.out (show w.heap.size < w2.heap.size by have := HB2.out.size; simp at this; omega) HO4.out hW4
        obtain ⟨⟨r0, r1, r2, r3, r4, r5⟩, hE1, hE2⟩ := hE
        clear hW4 e0 e1 e2 e3 e4 e5 z0 z1 z2 z3 z4 z5
        refine bodyPost_ret_by (v := netV (.slice pa (l.eraseIdx k).length pc) noMsg 0) ?_ rfl ⟨_, rfl, hE1, hE2⟩
        unfold netV noMsg
        unfold noMsg at r1 r2 r3 r4
        simp only [] at r1 r2 r3 r4
        unfold results
        go_simp
      · rw [if_neg (by decide), if_pos rfl] at hdw hdr
        obtain ⟨b', o', hbo, hbB, hrow⟩ : ∃ b' o', (some (⟨b, o, none⟩ : Addr)) = some ⟨b', o', none⟩ ∧ b' < w.heap.size ∧ RMsgs w b' o' l := by
          obtain ⟨a1, c1, e1, -, -, h3⟩ := HV.out
          injection e1 with e1
          obtain ⟨b1, o1, e4, h5, h6⟩ := h3 (by intro e; rw [e] at hlp; simp at hlp)
          exact ⟨b1, o1, e1.trans e4, h5, h6⟩
        injection hbo with hbo
        injection hbo with hbo1 hbo2
        subst hbo1 hbo2
        have hnode := hrow.get k hkl
        obtain ⟨x1, hx1⟩ : ∃ x1, x1 = l[k] := ⟨_, rfl⟩
        have hxm : x1 ∈ l := by rw [hx1]; exact List.getElem_mem hkl
        rw [← hx1] at hdw hdr hnode
        have HND : Hid (∀ W, Below w.heap.size w W → RMsgAt W b (o + k * 4) x1) := hide (fun W hb => hnode.carry hbB hb)
        have HXO := hide (HOK.out x1 hxm)
        have HLN : Hid ((insL l (k + 1) x1).length ≤ 4096) := hide (by rw [insL_len x1 hkl]; omega)
        have HLF : Hid (∀ x ∈ insL l (k + 1) x1, x.fit) := hide (fun x hx => by rcases insL_mem hx with h | rfl; exact HFIT.out x h; exact HFIT.out _ hxm)
        obtain ⟨q, hq⟩ : ∃ q, netB (insL l (k + 1) x1) = q := ⟨_, rfl⟩
        have HQ := hide hq
        cases q
        · have hiw : insW l (k + 1) x1 = .early := by rw [insW, hq]; rfl
          rw [hiw] at hdw
          rw [faultR_no (by rw [hdw]; intro h; cases h), hdw]
          have HIW := hide hiw
          clear hdw hdr hkd HX hx1 hxm hnode hrow hq hiw
          go_enter Tryz.func10, Tryz.ntmps10
          go_wp2_with (first
            | (go_at_call 41; refine (ib_time HQT.out _).mono ?_; rintro e w' ⟨rfl, rfl⟩)
            | (go_at_call 30; refine (i_refuse (E := E) HY.out _ _ HOK.out ((HV.out.carry (malloc1 _ _)).up (malloc1 _ _).size) (HS.out.carry (malloc1 _ _))).mono ?_; rintro e w1 ⟨he, hb1⟩; rw [show whyV E .normal = Value.nilIface from rfl] at he; subst he; have HB1 : Hid (Below (w.heap.size + 1) (w.alloc outZ) w1) := hide (by have := hb1; simpa [outZ] using this); have HBW := hide (out_cells HB1.out).2.2; obtain ⟨d0, d1, d2, d3⟩ := HND.out _ HBW.out; clear hb1)
            | (go_at_call 32; have hpp := i_put (E := E) l (k + 1) x1 b o cap w1 hkl (by omega) HOK.out HXO.out ((HV.out.carry HBW.out).up HBW.out.size) (HS.out.carry HBW.out); rw [HQ.out, HIW.out, show ((k + 1 : Nat) : Int) = (k : Int) + 1 from rfl] at hpp; refine hpp.mono ?_; rintro e w2 ⟨v2, rfl, hp2, hb2⟩; have HB2 : Hid (Below (w.heap.size + 1) (w.alloc outZ) w2) := hide (HB1.out.trans (hb2.mono (by have := HB1.out.size; simp at this; exact this))); obtain rfl : v2 = .slice none 0 0 := hp2; rw [show whyV E .early = Value.iface 136 (.pointer (some E.aM)) from rfl]; clear hb2 hpp)
            | (go_at_call 31; have hno := net_out_why (E := E) .early (by intro h; cases h) none 0 0 w2 (HS.out.carry (out_cells HB2.out).2.2); rw [show whyV E .early = Value.iface 136 (.pointer (some E.aM)) from rfl, show Why.code .early = 9 from rfl] at hno; refine hno.mono ?_; rintro e w4 ⟨v4, rfl, ho4, hb4⟩; have HB4 : Hid (Below (w.heap.size + 1) (w.alloc outZ) w4) := hide (HB2.out.trans (hb4.mono (by have := HB2.out.size; simp at this; exact this))); have HO4 := hide ho4; obtain ⟨pa, pc, rfl⟩ := owns_shape ho4; obtain ⟨⟨e0, e1, e2, e3, e4, e5⟩, ez, -⟩ := out_cells HB4.out; have z0 := ez 0; have z1 := ez 1; have z2 := ez 2; have z3 := ez 3; have z4 := ez 4; have z5 := ez 5; clear hb4 ez ho4 hno; unfold netV noMsg))
          rw [show Why.code .early = 9 from rfl]
          obtain ⟨W4, hW4⟩ : ∃ W4, W4 = ((((((w4.setCell ⟨w.heap.size, 0, none⟩ (.slice pa 0 pc)).setCell ⟨w.heap.size, 1, none⟩ (.string ByteArray.empty)).setCell ⟨w.heap.size, 2, none⟩ (.string ByteArray.empty)).setCell ⟨w.heap.size, 3, none⟩ (.string ByteArray.empty)).setCell ⟨w.heap.size, 4, none⟩ (.int .i64 0)).setCell ⟨w.heap.size, 5, none⟩ (.int .i64 9)) := ⟨_, rfl⟩
          rw [← hW4]
          have hE := ans_end (m := noMsg) (c := 9) HB4.out (show w.heap.size < w2.heap.size by have := HB2.out.size; simp at this; omega) HO4.out hW4
          obtain ⟨⟨r0, r1, r2, r3, r4, r5⟩, hE1, hE2⟩ := hE
          clear hW4 e0 e1 e2 e3 e4 e5 z0 z1 z2 z3 z4 z5
          refine bodyPost_ret_by (v := netV (.slice pa 0 pc) noMsg 9) ?_ rfl ⟨_, rfl, hE1, hE2⟩
          unfold netV noMsg
          unfold noMsg at r1 r2 r3 r4
          simp only [List.length_nil] at r0 r1 r2 r3 r4
          unfold results
          go_simp
        · have hiw : insW l (k + 1) x1 = .normal := by rw [insW, hq]; rfl
          rw [hiw] at hdw
          rw [faultR_yes hdw, hdr, hdw]
          have HIW := hide hiw
          clear hdw hdr hkd HX hx1 hxm hnode hrow hq hiw
          go_enter Tryz.func10, Tryz.ntmps10
          go_wp2_with (first
            | (go_at_call 41; refine (ib_time HQT.out _).mono ?_; rintro e w' ⟨rfl, rfl⟩)
            | (go_at_call 30; refine (i_refuse (E := E) HY.out _ _ HOK.out ((HV.out.carry (malloc1 _ _)).up (malloc1 _ _).size) (HS.out.carry (malloc1 _ _))).mono ?_; rintro e w1 ⟨he, hb1⟩; rw [show whyV E .normal = Value.nilIface from rfl] at he; subst he; have HB1 : Hid (Below (w.heap.size + 1) (w.alloc outZ) w1) := hide (by have := hb1; simpa [outZ] using this); have HBW := hide (out_cells HB1.out).2.2; obtain ⟨d0, d1, d2, d3⟩ := HND.out _ HBW.out; clear hb1)
            | (go_at_call 32; have hpp := i_put (E := E) l (k + 1) x1 b o cap w1 hkl (by omega) HOK.out HXO.out ((HV.out.carry HBW.out).up HBW.out.size) (HS.out.carry HBW.out); rw [HQ.out, HIW.out, show ((k + 1 : Nat) : Int) = (k : Int) + 1 from rfl] at hpp; refine hpp.mono ?_; rintro e w2 ⟨v2, rfl, hp2, hb2⟩; have HB2 : Hid (Below (w.heap.size + 1) (w.alloc outZ) w2) := hide (HB1.out.trans (hb2.mono (by have := HB1.out.size; simp at this; exact this))); have HP2 : Hid (RMsgSl w2 w2.heap.size v2 (insL l (k + 1) x1)) := hide hp2; obtain ⟨p2, c2, rfl⟩ := HP2.out.shape; rw [show whyV E .normal = Value.nilIface from rfl]; clear hp2; clear hb2 hpp)
            | (go_at_call 31; have hno := net_out_fine (insL l (k + 1) x1) _ w2 HLN.out HLF.out HP2.out; refine hno.mono ?_; rintro e w4 ⟨v4, rfl, ho4, hb4⟩; have HB4 : Hid (Below (w.heap.size + 1) (w.alloc outZ) w4) := hide (HB2.out.trans (hb4.mono (by have := HB2.out.size; simp at this; exact this))); have HO4 := hide ho4; obtain ⟨pa, pc, rfl⟩ := owns_shape ho4; obtain ⟨⟨e0, e1, e2, e3, e4, e5⟩, ez, -⟩ := out_cells HB4.out; have z0 := ez 0; have z1 := ez 1; have z2 := ez 2; have z3 := ez 3; have z4 := ez 4; have z5 := ez 5; clear hb4 ez ho4 hno; unfold netV noMsg))
          rw [show Why.code .normal = 0 from rfl]
          obtain ⟨W4, hW4⟩ : ∃ W4, W4 = ((((((w4.setCell ⟨w.heap.size, 0, none⟩ (.slice pa (insL l (k + 1) x1).length pc)).setCell ⟨w.heap.size, 1, none⟩ (.string ByteArray.empty)).setCell ⟨w.heap.size, 2, none⟩ (.string ByteArray.empty)).setCell ⟨w.heap.size, 3, none⟩ (.string ByteArray.empty)).setCell ⟨w.heap.size, 4, none⟩ (.int .i64 0)).setCell ⟨w.heap.size, 5, none⟩ (.int .i64 0)) := ⟨_, rfl⟩
          rw [← hW4]
          have hE := ans_end (m := noMsg) (c := 0) HB4.out (show w.heap.size < w2.heap.size by have := HB2.out.size; simp at this; omega) HO4.out hW4
          obtain ⟨⟨r0, r1, r2, r3, r4, r5⟩, hE1, hE2⟩ := hE
          clear hW4 e0 e1 e2 e3 e4 e5 z0 z1 z2 z3 z4 z5
          refine bodyPost_ret_by (v := netV (.slice pa (insL l (k + 1) x1).length pc) noMsg 0) ?_ rfl ⟨_, rfl, hE1, hE2⟩
          unfold netV noMsg
          unfold noMsg at r1 r2 r3 r4
          simp only [] at r1 r2 r3 r4
          unfold results
          go_simp
      · rw [if_neg (by decide), if_neg (by decide)] at hdw hdr
        have HLN : Hid ((swapR l k).length ≤ 4096) := hide (by have := swapR_len l k; omega)
        have HLF : Hid (∀ x ∈ swapR l k, x.fit) := hide (fun x hx => HFIT.out x (swapR_mem hkl hx))
        obtain ⟨y3, hy3⟩ : ∃ y3, swapW l k = y3 := ⟨_, rfl⟩
        have HIW := hide hy3
        rw [hy3] at hdw
        rcases (show y3 = .normal ∨ y3 = .deferred by rw [← hy3, swapW]; split <;> simp) with rfl | rfl
        · rw [faultR_yes hdw, hdr, hdw]
          clear hdw hdr hkd HX hy3
          go_enter Tryz.func10, Tryz.ntmps10
          go_wp2_with (first
            | (go_at_call 41; refine (ib_time HQT.out _).mono ?_; rintro e w' ⟨rfl, rfl⟩)
            | (go_at_call 30; refine (i_refuse (E := E) HY.out _ _ HOK.out ((HV.out.carry (malloc1 _ _)).up (malloc1 _ _).size) (HS.out.carry (malloc1 _ _))).mono ?_; rintro e w1 ⟨he, hb1⟩; rw [show whyV E .normal = Value.nilIface from rfl] at he; subst he; have HB1 : Hid (Below (w.heap.size + 1) (w.alloc outZ) w1) := hide (by have := hb1; simpa [outZ] using this); have HBW := hide (out_cells HB1.out).2.2; clear hb1)
            | (go_at_call 42; have hpp := i_swapped (E := E) l k b o cap w1 hkl (by omega) ((HV.out.carry HBW.out).up HBW.out.size) (HS.out.carry HBW.out); rw [HIW.out] at hpp; refine hpp.mono ?_; rintro e w2 ⟨v2, rfl, hp2, hb2⟩; have HB2 : Hid (Below (w.heap.size + 1) (w.alloc outZ) w2) := hide (HB1.out.trans (hb2.mono (by have := HB1.out.size; simp at this; exact this))); have HP2 : Hid (RMsgSl w2 w2.heap.size v2 (swapR l k)) := hide hp2; obtain ⟨p2, c2, rfl⟩ := HP2.out.shape; rw [show whyV E .normal = Value.nilIface from rfl]; clear hp2; clear hb2 hpp)
            | (go_at_call 31; have hno := net_out_fine (swapR l k) _ w2 HLN.out HLF.out HP2.out; refine hno.mono ?_; rintro e w4 ⟨v4, rfl, ho4, hb4⟩; have HB4 : Hid (Below (w.heap.size + 1) (w.alloc outZ) w4) := hide (HB2.out.trans (hb4.mono (by have := HB2.out.size; simp at this; exact this))); have HO4 := hide ho4; obtain ⟨pa, pc, rfl⟩ := owns_shape ho4; obtain ⟨⟨e0, e1, e2, e3, e4, e5⟩, ez, -⟩ := out_cells HB4.out; have z0 := ez 0; have z1 := ez 1; have z2 := ez 2; have z3 := ez 3; have z4 := ez 4; have z5 := ez 5; clear hb4 ez ho4 hno; unfold netV noMsg))
          rw [show Why.code .normal = 0 from rfl]
          obtain ⟨W4, hW4⟩ : ∃ W4, W4 = ((((((w4.setCell ⟨w.heap.size, 0, none⟩ (.slice pa (swapR l k).length pc)).setCell ⟨w.heap.size, 1, none⟩ (.string ByteArray.empty)).setCell ⟨w.heap.size, 2, none⟩ (.string ByteArray.empty)).setCell ⟨w.heap.size, 3, none⟩ (.string ByteArray.empty)).setCell ⟨w.heap.size, 4, none⟩ (.int .i64 0)).setCell ⟨w.heap.size, 5, none⟩ (.int .i64 0)) := ⟨_, rfl⟩
          rw [← hW4]
          have hE := ans_end (m := noMsg) (c := 0) HB4.out (show w.heap.size < w2.heap.size by have := HB2.out.size; simp at this; omega) HO4.out hW4
          obtain ⟨⟨r0, r1, r2, r3, r4, r5⟩, hE1, hE2⟩ := hE
          clear hW4 e0 e1 e2 e3 e4 e5 z0 z1 z2 z3 z4 z5
          refine bodyPost_ret_by (v := netV (.slice pa (swapR l k).length pc) noMsg 0) ?_ rfl ⟨_, rfl, hE1, hE2⟩
          unfold netV noMsg
          unfold noMsg at r1 r2 r3 r4
          simp only [] at r1 r2 r3 r4
          unfold results
          go_simp
        · rw [faultR_no (by rw [hdw]; intro h; cases h), hdw]
          clear hdw hdr hkd HX hy3
          go_enter Tryz.func10, Tryz.ntmps10
          go_wp2_with (first
            | (go_at_call 41; refine (ib_time HQT.out _).mono ?_; rintro e w' ⟨rfl, rfl⟩)
            | (go_at_call 30; refine (i_refuse (E := E) HY.out _ _ HOK.out ((HV.out.carry (malloc1 _ _)).up (malloc1 _ _).size) (HS.out.carry (malloc1 _ _))).mono ?_; rintro e w1 ⟨he, hb1⟩; rw [show whyV E .normal = Value.nilIface from rfl] at he; subst he; have HB1 : Hid (Below (w.heap.size + 1) (w.alloc outZ) w1) := hide (by have := hb1; simpa [outZ] using this); have HBW := hide (out_cells HB1.out).2.2; clear hb1)
            | (go_at_call 42; have hpp := i_swapped (E := E) l k b o cap w1 hkl (by omega) ((HV.out.carry HBW.out).up HBW.out.size) (HS.out.carry HBW.out); rw [HIW.out] at hpp; refine hpp.mono ?_; rintro e w2 ⟨v2, rfl, hp2, hb2⟩; have HB2 : Hid (Below (w.heap.size + 1) (w.alloc outZ) w2) := hide (HB1.out.trans (hb2.mono (by have := HB1.out.size; simp at this; exact this))); obtain rfl : v2 = .slice none 0 0 := hp2; rw [show whyV E .deferred = Value.iface 136 (.pointer (some E.aN)) from rfl]; clear hb2 hpp)
            | (go_at_call 31; have hno := net_out_why (E := E) .deferred (by intro h; cases h) none 0 0 w2 (HS.out.carry (out_cells HB2.out).2.2); rw [show whyV E .deferred = Value.iface 136 (.pointer (some E.aN)) from rfl, show Why.code .deferred = 6 from rfl] at hno; refine hno.mono ?_; rintro e w4 ⟨v4, rfl, ho4, hb4⟩; have HB4 : Hid (Below (w.heap.size + 1) (w.alloc outZ) w4) := hide (HB2.out.trans (hb4.mono (by have := HB2.out.size; simp at this; exact this))); have HO4 := hide ho4; obtain ⟨pa, pc, rfl⟩ := owns_shape ho4; obtain ⟨⟨e0, e1, e2, e3, e4, e5⟩, ez, -⟩ := out_cells HB4.out; have z0 := ez 0; have z1 := ez 1; have z2 := ez 2; have z3 := ez 3; have z4 := ez 4; have z5 := ez 5; clear hb4 ez ho4 hno; unfold netV noMsg))
          rw [show Why.code .deferred = 6 from rfl]
          obtain ⟨W4, hW4⟩ : ∃ W4, W4 = ((((((w4.setCell ⟨w.heap.size, 0, none⟩ (.slice pa 0 pc)).setCell ⟨w.heap.size, 1, none⟩ (.string ByteArray.empty)).setCell ⟨w.heap.size, 2, none⟩ (.string ByteArray.empty)).setCell ⟨w.heap.size, 3, none⟩ (.string ByteArray.empty)).setCell ⟨w.heap.size, 4, none⟩ (.int .i64 0)).setCell ⟨w.heap.size, 5, none⟩ (.int .i64 6)) := ⟨_, rfl⟩
          rw [← hW4]
          have hE := ans_end (m := noMsg) (c := 6) HB4.out (show w.heap.size < w2.heap.size by have := HB2.out.size; simp at this; omega) HO4.out hW4
          obtain ⟨⟨r0, r1, r2, r3, r4, r5⟩, hE1, hE2⟩ := hE
          clear hW4 e0 e1 e2 e3 e4 e5 z0 z1 z2 z3 z4 z5
          refine bodyPost_ret_by (v := netV (.slice pa 0 pc) noMsg 6) ?_ rfl ⟨_, rfl, hE1, hE2⟩
          unfold netV noMsg
          unfold noMsg at r1 r2 r3 r4
          simp only [List.length_nil] at r0 r1 r2 r3 r4
          unfold results
          go_simp
  · have hpw : faultW l kind n = y := by rw [faultW_no (by rw [hqk, hqt, hy]; exact hyf), hqk, hqt, hy]
    rw [faultR_no (by rw [hpw]; exact hyf), hpw]
    obtain ⟨a, ha⟩ : ∃ a, whyV E y = .iface 136 (.pointer (some a)) := by cases y <;> first | exact absurd rfl hyf | exact ⟨_, rfl⟩
    have HA := hide ha
    have HYF := hide hyf
    obtain ⟨cd, hcd⟩ : ∃ cd, y.code = cd := ⟨_, rfl⟩
    have HCD := hide hcd
    rw [hcd]
    clear ha hcd hy hyf hpw hqt
    by_cases hk1 : 1 ≤ kind
    · by_cases hk3 : kind ≤ 3
      · obtain rfl : qk = true := by rw [← hqk]; simp [kindB, hk1, hk3]
        have HY' : Hid (refuseW l qt = y) := hide (by have := HY.out; simpa using this)
        clear hqk HY
        go_enter Tryz.func10, Tryz.ntmps10
        go_wp2_with (first
          | (go_at_call 41; refine (ib_time HQT.out _).mono ?_; rintro e w' ⟨rfl, rfl⟩)
          | (go_at_call 30; refine (i_refuse (E := E) HY'.out _ _ HOK.out ((HV.out.carry (malloc1 _ _)).up (malloc1 _ _).size) (HS.out.carry (malloc1 _ _))).mono ?_; rintro e w1 ⟨he, hb1⟩; rw [HA.out] at he; subst he; have HB1 : Hid (Below (w.heap.size + 1) (w.alloc outZ) w1) := hide (by have := hb1; simpa [outZ] using this); have HBW := hide (out_cells HB1.out).2.2; clear hb1)
          | (go_at_call 31; have hno := net_out_why (E := E) y HYF.out none 0 0 w1 (HS.out.carry HBW.out); rw [HA.out, HCD.out] at hno; refine hno.mono ?_; rintro e w4 ⟨v4, rfl, ho4, hb4⟩; have HB4 : Hid (Below (w.heap.size + 1) (w.alloc outZ) w4) := hide (HB1.out.trans (hb4.mono (by have := HB1.out.size; simp at this; exact this))); have HO4 := hide ho4; obtain ⟨pa, pc, rfl⟩ := owns_shape ho4; obtain ⟨⟨e0, e1, e2, e3, e4, e5⟩, ez, -⟩ := out_cells HB4.out; have z0 := ez 0; have z1 := ez 1; have z2 := ez 2; have z3 := ez 3; have z4 := ez 4; have z5 := ez 5; clear hb4 ez ho4 hno; unfold netV noMsg))
        obtain ⟨W4, hW4⟩ : ∃ W4, W4 = ((((((w4.setCell ⟨w.heap.size, 0, none⟩ (.slice pa 0 pc)).setCell ⟨w.heap.size, 1, none⟩ (.string ByteArray.empty)).setCell ⟨w.heap.size, 2, none⟩ (.string ByteArray.empty)).setCell ⟨w.heap.size, 3, none⟩ (.string ByteArray.empty)).setCell ⟨w.heap.size, 4, none⟩ (.int .i64 0)).setCell ⟨w.heap.size, 5, none⟩ (.int .i64 cd)) := ⟨_, rfl⟩
        rw [← hW4]
        have hE := ans_end (m := noMsg) (c := cd) HB4.out (show w.heap.size < w1.heap.size by have := HB1.out.size; simp at this; omega) HO4.out hW4
        obtain ⟨⟨r0, r1, r2, r3, r4, r5⟩, hE1, hE2⟩ := hE
        clear hW4 e0 e1 e2 e3 e4 e5 z0 z1 z2 z3 z4 z5
        refine bodyPost_ret_by (v := netV (.slice pa 0 pc) noMsg cd) ?_ rfl ⟨_, rfl, hE1, hE2⟩
        unfold netV noMsg
        unfold noMsg at r1 r2 r3 r4
        simp only [List.length_nil] at r0 r1 r2 r3 r4
        unfold results
        go_simp
      · obtain rfl : qk = false := by rw [← hqk]; simp [kindB, hk3]
        have HY' : Hid (refuseW l false = y) := hide HY.out
        clear hqk HY
        go_enter Tryz.func10, Tryz.ntmps10
        go_wp2_with (first
          | (go_at_call 30; refine (i_refuse (E := E) HY'.out _ _ HOK.out ((HV.out.carry (malloc1 _ _)).up (malloc1 _ _).size) (HS.out.carry (malloc1 _ _))).mono ?_; rintro e w1 ⟨he, hb1⟩; rw [HA.out] at he; subst he; have HB1 : Hid (Below (w.heap.size + 1) (w.alloc outZ) w1) := hide (by have := hb1; simpa [outZ] using this); have HBW := hide (out_cells HB1.out).2.2; clear hb1)
          | (go_at_call 31; have hno := net_out_why (E := E) y HYF.out none 0 0 w1 (HS.out.carry HBW.out); rw [HA.out, HCD.out] at hno; refine hno.mono ?_; rintro e w4 ⟨v4, rfl, ho4, hb4⟩; have HB4 : Hid (Below (w.heap.size + 1) (w.alloc outZ) w4) := hide (HB1.out.trans (hb4.mono (by have := HB1.out.size; simp at this; exact this))); have HO4 := hide ho4; obtain ⟨pa, pc, rfl⟩ := owns_shape ho4; obtain ⟨⟨e0, e1, e2, e3, e4, e5⟩, ez, -⟩ := out_cells HB4.out; have z0 := ez 0; have z1 := ez 1; have z2 := ez 2; have z3 := ez 3; have z4 := ez 4; have z5 := ez 5; clear hb4 ez ho4 hno; unfold netV noMsg))
        obtain ⟨W4, hW4⟩ : ∃ W4, W4 = ((((((w4.setCell ⟨w.heap.size, 0, none⟩ (.slice pa 0 pc)).setCell ⟨w.heap.size, 1, none⟩ (.string ByteArray.empty)).setCell ⟨w.heap.size, 2, none⟩ (.string ByteArray.empty)).setCell ⟨w.heap.size, 3, none⟩ (.string ByteArray.empty)).setCell ⟨w.heap.size, 4, none⟩ (.int .i64 0)).setCell ⟨w.heap.size, 5, none⟩ (.int .i64 cd)) := ⟨_, rfl⟩
        rw [← hW4]
        have hE := ans_end (m := noMsg) (c := cd) HB4.out (show w.heap.size < w1.heap.size by have := HB1.out.size; simp at this; omega) HO4.out hW4
        obtain ⟨⟨r0, r1, r2, r3, r4, r5⟩, hE1, hE2⟩ := hE
        clear hW4 e0 e1 e2 e3 e4 e5 z0 z1 z2 z3 z4 z5
        refine bodyPost_ret_by (v := netV (.slice pa 0 pc) noMsg cd) ?_ rfl ⟨_, rfl, hE1, hE2⟩
        unfold netV noMsg
        unfold noMsg at r1 r2 r3 r4
        simp only [List.length_nil] at r0 r1 r2 r3 r4
        unfold results
        go_simp
    · obtain rfl : qk = false := by rw [← hqk]; simp [kindB, hk1]
      have HY' : Hid (refuseW l false = y) := hide HY.out
      clear hqk HY
      go_enter Tryz.func10, Tryz.ntmps10
      go_wp2_with (first
        | (go_at_call 30; refine (i_refuse (E := E) HY'.out _ _ HOK.out ((HV.out.carry (malloc1 _ _)).up (malloc1 _ _).size) (HS.out.carry (malloc1 _ _))).mono ?_; rintro e w1 ⟨he, hb1⟩; rw [HA.out] at he; subst he; have HB1 : Hid (Below (w.heap.size + 1) (w.alloc outZ) w1) := hide (by have := hb1; simpa [outZ] using this); have HBW := hide (out_cells HB1.out).2.2; clear hb1)
        | (go_at_call 31; have hno := net_out_why (E := E) y HYF.out none 0 0 w1 (HS.out.carry HBW.out); rw [HA.out, HCD.out] at hno; refine hno.mono ?_; rintro e w4 ⟨v4, rfl, ho4, hb4⟩; have HB4 : Hid (Below (w.heap.size + 1) (w.alloc outZ) w4) := hide (HB1.out.trans (hb4.mono (by have := HB1.out.size; simp at this; exact this))); have HO4 := hide ho4; obtain ⟨pa, pc, rfl⟩ := owns_shape ho4; obtain ⟨⟨e0, e1, e2, e3, e4, e5⟩, ez, -⟩ := out_cells HB4.out; have z0 := ez 0; have z1 := ez 1; have z2 := ez 2; have z3 := ez 3; have z4 := ez 4; have z5 := ez 5; clear hb4 ez ho4 hno; unfold netV noMsg))
      obtain ⟨W4, hW4⟩ : ∃ W4, W4 = ((((((w4.setCell ⟨w.heap.size, 0, none⟩ (.slice pa 0 pc)).setCell ⟨w.heap.size, 1, none⟩ (.string ByteArray.empty)).setCell ⟨w.heap.size, 2, none⟩ (.string ByteArray.empty)).setCell ⟨w.heap.size, 3, none⟩ (.string ByteArray.empty)).setCell ⟨w.heap.size, 4, none⟩ (.int .i64 0)).setCell ⟨w.heap.size, 5, none⟩ (.int .i64 cd)) := ⟨_, rfl⟩
      rw [← hW4]
      have hE := ans_end (m := noMsg) (c := cd) HB4.out (show w.heap.size < w1.heap.size by have := HB1.out.size; simp at this; omega) HO4.out hW4
      obtain ⟨⟨r0, r1, r2, r3, r4, r5⟩, hE1, hE2⟩ := hE
      clear hW4 e0 e1 e2 e3 e4 e5 z0 z1 z2 z3 z4 z5
      refine bodyPost_ret_by (v := netV (.slice pa 0 pc) noMsg cd) ?_ rfl ⟨_, rfl, hE1, hE2⟩
      unfold netV noMsg
      unfold noMsg at r1 r2 r3 r4
      simp only [List.length_nil] at r0 r1 r2 r3 r4
      unfold results
      go_simp
end Go.Proofs.YtonafcifolddjaaGreatDoor
