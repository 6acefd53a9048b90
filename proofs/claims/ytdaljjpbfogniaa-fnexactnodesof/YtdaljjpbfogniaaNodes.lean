/- NodesOf: the messages of a right plan. -/
import Derived.Test.YtdaljjpbfogniaaLw2
namespace Go.Proofs.Ytdaljjpbfogniaa
open Go.RowKit

def msgs (ns : List Nd) : Nat := (ns.filter fun n => n.op == 3).length
def nodesV (ns : List Nd) : Int := if rightB false ns then (msgs ns : Int) else 0
theorem msgs_next {ns : List Nd} {k : Nat} (h : k < ns.length) : msgs (ns.take (k + 1)) = msgs (ns.take k) + (if ns[k].op == 3 then 1 else 0) := by
  rw [msgs, List.take_succ_eq_append_getElem h, List.filter_append, List.length_append]
  cases e : (ns[k].op == 3) <;> simp [msgs, e]
theorem msgs_le (ns : List Nd) : msgs ns ≤ ns.length := List.length_filter_le _ _

set_option maxHeartbeats 400000 in
theorem nodes_of (ns : List Nd) (v : Value) (w : World) (fit : ∀ n ∈ ns, n.fit) (hv : SlAt w w.heap.size v ns) :
    Calls Try.prog 23 #[v] w fun e w' => e = .returned (.int .i64 (nodesV ns)) ∧ Below w.heap.size w w' := by
  have HV := hide hv
  have HF := hide fit
  have hlm := hv.lenm
  obtain ⟨ao, cap, rfl, hc, hm, hr⟩ := hv
  have HR := hide hr
  obtain ⟨rb, hrb⟩ : ∃ rb, rightB false ns = rb := ⟨_, rfl⟩
  have HRB := hide hrb
  clear hr fit hrb
  cases rb
  · go_enter Try.func23, Try.ntmps23
    go_wp2_with (go_at_call 12; refine (plan_right ns _ _ HF.out HV.out).mono ?_; rintro e w1 ⟨rfl, hb1⟩; rw [HRB.out]; have HB1 := hide hb1; clear hb1)
    go_ret
    exact ⟨ret_int (by simp [nodesV, HRB.out]), HB1.out⟩
  · go_enter Try.func23, Try.ntmps23
    go_wp2_with (go_at_call 12; refine (plan_right ns _ _ HF.out HV.out).mono ?_; rintro e w1 ⟨rfl, hb1⟩; rw [HRB.out]; have HB1 := hide hb1; clear hb1)
    go_loopw [3, 11] (fun c i wr => ∃ k : Nat, k ≤ ns.length ∧ i = .int .i64 k ∧ c = .int .i64 (msgs (ns.take k) : Int) ∧ Below w.heap.size w wr)
      (fun _ i _ => ns.length - (intOf i).toNat)
    case atStart => exact ⟨0, Nat.zero_le _, rfl, rfl, HB1.out⟩
    case round =>
      obtain ⟨k, hk, rfl, rfl, hbel⟩ := hrel
      have HBEL := hide hbel
      have hszr := hbel.size
      have hmk : msgs (ns.take k) ≤ 4294967296 := by have := msgs_le (ns.take k); simp at this; omega
      clear hbel
      obtain ⟨m0, hm0⟩ : ∃ m0, msgs (ns.take k) = m0 := ⟨_, rfl⟩
      rw [hm0] at hmk ⊢
      have HM0 := hide hm0
      clear hm0
      by_cases hlt : k < ns.length
      · obtain ⟨b, o, rfl, hbB, hrow⟩ := HR.out (by intro h; simp [h] at hlt)
        have hnode := (hrow.get k hlt).carry hbB HBEL.out
        obtain ⟨n1, hn1⟩ : ∃ n1, n1 = ns[k] := ⟨_, rfl⟩
        rw [← hn1] at hnode
        have HN := hide (show msgs (ns.take (k + 1)) = m0 + (if n1.op == 3 then 1 else 0) by rw [msgs_next hlt, HM0.out, hn1])
        clear hn1 hrow
        have hbw : b < wr.heap.size := hnode.lt
        obtain ⟨c0, c1, c2, c3, c4⟩ := hnode
        obtain ⟨op3, hop3⟩ : ∃ op3, (n1.op == 3) = op3 := ⟨_, rfl⟩
        have HO3 := hide hop3
        cases op3
        · go_wp2_with fail
          go_roundw
          case rel => exact ⟨k + 1, by omega, by go_num, by rw [HN.out, HO3.out]; rfl, HBEL.out.trans ((alloc1 _ _).mono hszr)⟩
          case measure => simp [intOf]; omega
        · go_wp2_with fail
          go_roundw
          case rel => exact ⟨k + 1, by omega, by go_num, by rw [HN.out, HO3.out]; rfl, HBEL.out.trans ((alloc1 _ _).mono hszr)⟩
          case measure => simp [intOf]; omega
      · go_wp2_with fail
        go_ret
        refine ⟨ret_int ?_, HBEL.out⟩
        have := HM0.out
        rw [List.take_of_length_le (by omega)] at this
        simp [nodesV, HRB.out, this]

set_option maxHeartbeats 400000 in
theorem s_nodesOf (ns : List Nd) (v : Value) (w : World) (fit : ∀ n ∈ ns, n.fit) (hv : SlAt w w.heap.size v ns) :
    Calls Try.prog 22 #[v] w fun e w' => e = .returned (.int .i64 (nodesV ns)) ∧ Below w.heap.size w w' := by
  have HV := hide hv
  have HF := hide fit
  have hlm := hv.lenm
  obtain ⟨ao, cap, rfl, hc, hm, hr⟩ := hv
  have HR := hide hr
  obtain ⟨rb, hrb⟩ : ∃ rb, rightB false ns = rb := ⟨_, rfl⟩
  have HRB := hide hrb
  have HR40 := hide (show rb = true → ns.length ≤ 40 from fun h => by rw [h, rightB] at hrb; simp at hrb; exact hrb.1)
  clear hr fit hrb
  go_enter Try.func22, Try.ntmps22
  go_wp2_with fail
  go_loopw [3, 4] (fun c i wr => ∃ k : Nat, k ≤ ns.length ∧ i = .int .i64 k ∧ c = .int .i64 (msgs (ns.take k) : Int) ∧ (0 < k → rb = true) ∧ Below w.heap.size w wr)
    (fun _ i _ => ns.length - (intOf i).toNat)
  case atStart => exact ⟨0, Nat.zero_le _, rfl, rfl, fun h => absurd h (by omega), Below.refl _ _⟩
  case round =>
    obtain ⟨k, hk, rfl, rfl, hpos, hbel⟩ := hrel
    have HPOS := hide hpos
    have HBEL := hide hbel
    have hszr := hbel.size
    have hmk : msgs (ns.take k) ≤ 4294967296 := by have := msgs_le (ns.take k); simp at this; omega
    clear hbel hpos
    obtain ⟨m0, hm0⟩ : ∃ m0, msgs (ns.take k) = m0 := ⟨_, rfl⟩
    rw [hm0] at hmk ⊢
    have HM0 := hide hm0
    clear hm0
    by_cases hlt : k < ns.length
    · by_cases h400 : ns.length ≤ 400
      · cases rb
        · go_wp2_with (go_at_call 10; refine (s_planRight ns _ _ HF.out ((HV.out.carry HBEL.out).up HBEL.out.size)).mono ?_; rintro e w1 ⟨rfl, hb1⟩; rw [HRB.out]; have HB1 := hide hb1; clear hb1)
          go_ret
          refine ⟨ret_int ?_, HBEL.out.trans (HB1.out.mono hszr)⟩
          have hk0 : k = 0 := by
            rcases Nat.eq_zero_or_pos k with h | h
            · exact h
            · exact absurd (HPOS.out h) (by decide)
          have := HM0.out
          rw [hk0] at this
          simp [nodesV, HRB.out, ← this, msgs]
        · obtain ⟨b, o, rfl, hbB, hrow⟩ := HR.out (by intro h; simp [h] at hlt)
          have hnode := (hrow.get k hlt).carry hbB HBEL.out
          obtain ⟨n1, hn1⟩ : ∃ n1, n1 = ns[k] := ⟨_, rfl⟩
          rw [← hn1] at hnode
          have HN := hide (show msgs (ns.take (k + 1)) = m0 + (if n1.op == 3 then 1 else 0) by rw [msgs_next hlt, HM0.out, hn1])
          clear hn1 hrow
          have hbw : b < wr.heap.size := hnode.lt
          have HND := hide hnode
          clear hnode
          obtain ⟨op3, hop3⟩ : ∃ op3, (n1.op == 3) = op3 := ⟨_, rfl⟩
          have HO3 := hide hop3
          cases op3
          all_goals
            go_wp2_with (go_at_call 10; refine (s_planRight ns _ _ HF.out ((HV.out.carry HBEL.out).up HBEL.out.size)).mono ?_; rintro e w1 ⟨rfl, hb1⟩; rw [HRB.out]; obtain ⟨c0, c1, c2, c3, c4⟩ := HND.out.carry hbw hb1; have HB1 := hide hb1; clear hb1)
            go_roundw
            case rel => exact ⟨k + 1, by omega, by go_num, by rw [HN.out, HO3.out]; rfl, by simp, HBEL.out.trans (HB1.out.mono hszr)⟩
            case measure => simp [intOf]; omega
      · go_wp2_with fail
        go_ret
        refine ⟨ret_int ?_, HBEL.out⟩
        have hrf : rb = false := by
          cases hh : rb
          · rfl
          · have := HR40.out hh; omega
        have hk0 : k = 0 := by
          rcases Nat.eq_zero_or_pos k with h | h
          · exact h
          · rw [HPOS.out h] at hrf; cases hrf
        have := HM0.out
        rw [hk0] at this
        rw [nodesV, HRB.out, hrf, ← this]; rfl
    · go_wp2_with fail
      go_ret
      refine ⟨ret_int ?_, HBEL.out⟩
      have h1 := HM0.out
      rw [List.take_of_length_le (by omega)] at h1
      cases hh : rb
      · have hk0 : k = 0 := by
          rcases Nat.eq_zero_or_pos k with h | h
          · exact h
          · rw [HPOS.out h] at hh; cases hh
        have h0 : ns = [] := List.length_eq_zero_iff.1 (by omega)
        rw [nodesV, HRB.out, hh, ← h1, h0]; rfl
      · rw [nodesV, HRB.out, hh, h1]; rfl
end Go.Proofs.Ytdaljjpbfogniaa
