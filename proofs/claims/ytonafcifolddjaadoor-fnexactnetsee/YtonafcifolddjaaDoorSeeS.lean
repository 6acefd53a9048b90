/- NetSee of the specification. -/
import Derived.Test.YtonafcifolddjaaDoorSeeI
namespace Go.Proofs.YtonafcifolddjaaDoor
open Go.RowKit
attribute [local go_sem ↓] Go.wp_at_zero Go.wp_at_succ

/-- the first one from a place on, or -1 -/
def atG (s : Nat) (f t : ByteArray) (l : List RMsg) : Int := match (l.drop s).findIdx? (isMsg f t) with
  | some i => (s : Int) + (i : Int)
  | none => -1
theorem atG_zero (f t : ByteArray) (l : List RMsg) : atG 0 f t l = atN f t l := by
  unfold atG atN atI
  rw [List.drop_zero]
  cases l.findIdx? (isMsg f t) <;> simp
theorem atG_some {s k : Nat} {f t : ByteArray} {l : List RMsg} (hs : s ≤ k) (hk : k < l.length) (h : isMsg f t l[k] = true) (hb : ∀ j (hj : j < l.length), s ≤ j → j < k → isMsg f t l[j] = false) : atG s f t l = (k : Int) := by
  have : (l.drop s).findIdx? (isMsg f t) = some (k - s) := by
    rw [List.findIdx?_eq_some_iff_getElem]
    refine ⟨by simp; omega, ?_, fun j hj => ?_⟩
    · rw [List.getElem_drop]
      have e : s + (k - s) = k := by omega
      simp only [e]
      exact h
    · rw [List.getElem_drop]
      simp [hb (s + j) (by omega) (by omega) (by omega)]
  rw [atG, this]
  simp only []
  omega
theorem atG_none {s : Nat} {f t : ByteArray} {l : List RMsg} (hb : ∀ j (hj : j < l.length), s ≤ j → isMsg f t l[j] = false) : atG s f t l = -1 := by
  have : (l.drop s).findIdx? (isMsg f t) = none := by
    rw [List.findIdx?_eq_none_iff]
    intro x hx
    obtain ⟨j, hj, rfl⟩ := List.getElem_of_mem hx
    rw [List.getElem_drop]
    exact hb (s + j) _ (by omega)
  rw [atG, this]
set_option maxHeartbeats 1000000 in
theorem s_at {z : Int} {s : Nat} {f t : ByteArray} {l : List RMsg} (hz : atG s f t l = z) (v : Value) (w : World) (h4 : l.length ≤ 4096) (hsl : s ≤ l.length) (hv : RMsgSl w w.heap.size v l) :
    Calls Tryd.prog 36 #[v, .int .i64 (s : Int), .string f, .string t] w fun e w' => e = .returned (.int .i64 z) ∧ Below w.heap.size w w' := by
  have HZ := hide hz
  obtain ⟨ao, cap, rfl, hc, hm, hr⟩ := hv
  have HR := hide hr
  clear hr hz
  go_enter Tryd.func36, Tryd.ntmps36
  go_wp2_with fail
  go_loopw [9] (fun i wr => ∃ k : Nat, s ≤ k ∧ k ≤ l.length ∧ i = .int .i64 k ∧ (∀ j (hj : j < l.length), s ≤ j → j < k → isMsg f t l[j] = false) ∧ Below w.heap.size w wr) (fun i _ => l.length - (intOf i).toNat)
  case atStart => exact ⟨s, Nat.le_refl _, hsl, rfl, fun j _ h1 h2 => absurd h1 (by omega), Below.refl _ _⟩
  case round =>
    obtain ⟨k, hsk, hk, rfl, hall, hbel⟩ := hrel
    have HALL := hide hall
    have HBEL := hide hbel
    clear hall hbel
    by_cases hlt : k < l.length
    · obtain ⟨b, o, rfl, hbB, hrow⟩ := HR.out (by intro h; simp [h] at hlt)
      have hnode := (hrow.get k hlt).carry hbB HBEL.out
      obtain ⟨x1, hx1⟩ : ∃ x1, x1 = l[k] := ⟨_, rfl⟩
      have HX1 := hide hx1
      rw [← hx1] at hnode
      obtain ⟨c0, c1, c2, c3⟩ := hnode
      obtain ⟨p, hp⟩ : ∃ p, (x1.frm.toList == f.toList) = p := ⟨_, rfl⟩
      obtain ⟨q, hq⟩ : ∃ q, (x1.to.toList == t.toList) = q := ⟨_, rfl⟩
      have HI : Hid (isMsg f t x1 = (p && q)) := hide (by rw [isMsg, hp, hq])
      clear hx1 hrow
      cases p
      case' true => cases q
      case true.true =>
        go_wp2_with fail
        go_ret
        exact ⟨ret_int (by rw [← HZ.out]; exact atG_some hsk hlt (by rw [← HX1.out, HI.out]; rfl) HALL.out), HBEL.out⟩
      all_goals
        go_wp2_with fail
        go_roundw
        case rel =>
          refine ⟨k + 1, by omega, by omega, by go_num, fun j hj h1 h2 => ?_, HBEL.out⟩
          by_cases e : j = k
          · subst e; rw [← HX1.out, HI.out]; rfl
          · exact HALL.out j hj h1 (by omega)
        case measure => simp [intOf]; omega
    · go_wp2_with fail
      go_ret
      exact ⟨ret_int (by rw [← HZ.out]; exact atG_none (fun j hj h1 => HALL.out j hj h1 (by omega))), HBEL.out⟩
set_option maxRecDepth 100000 in
set_option maxHeartbeats 1000000 in
theorem s_begin {c : Int} {f t : ByteArray} {l : List RMsg} (hc' : (findW l f t).code = c) (v : Value) (w : World) (hf : f.size ≤ maxLen) (ht : t.size ≤ maxLen) (hok : ∀ m ∈ l, m.ok) (hv : RMsgSl w w.heap.size v l) :
    Calls Tryd.prog 35 #[v, .string f, .string t] w fun e w' => e = .returned (.int .i64 c) ∧ Below w.heap.size w w' := by
  have HOK := hide hok
  have HV := hide hv
  have HF := hide hf
  have HT := hide ht
  obtain ⟨ao, cap, rfl, hc, hm, hr⟩ := hv
  have HC := hide hc'
  obtain ⟨q, hq⟩ : ∃ q, netB l = q := ⟨_, rfl⟩
  obtain ⟨qf, hqf⟩ : ∃ q, nameB f = q := ⟨_, rfl⟩
  obtain ⟨qt, hqt⟩ : ∃ q, nameB t = q := ⟨_, rfl⟩
  have HQ := hide hq
  have HQF := hide hqf
  have HQT := hide hqt
  clear hr hok hc'
  unfold maxLen at hf ht
  by_cases h1 : 400 < l.length ∨ 8000 < f.size ∨ 8000 < t.size
  · have HR : Hid (c = 2) := hide (by
      rw [← HC.out]
      by_cases h2 : 8000 < f.size ∨ 8000 < t.size
      · rw [findW, if_pos h2]; rfl
      · rw [findW, if_neg h2, refuseW, if_pos (by omega)]; rfl)
    by_cases h4 : 400 < l.length
    · clear h1
      go_enter Tryd.func35, Tryd.ntmps35
      go_wp2_with fail
      go_ret
      exact ⟨ret_int HR.out, Below.refl _ _⟩
    · by_cases h8 : 8000 < f.size
      · clear h1
        go_enter Tryd.func35, Tryd.ntmps35
        go_wp2_with fail
        go_ret
        exact ⟨ret_int HR.out, Below.refl _ _⟩
      · have h9 : 8000 < t.size := by omega
        clear h1
        go_enter Tryd.func35, Tryd.ntmps35
        go_wp2_with fail
        go_ret
        exact ⟨ret_int HR.out, Below.refl _ _⟩
  · have h4 : ¬ 400 < l.length := by omega
    have h8 : ¬ 8000 < f.size := by omega
    have h9 : ¬ 8000 < t.size := by omega
    have HR : Hid (c = if (qf && qt) && q then (atW f t l).code else 1) := hide (by
      rw [← HC.out, findW, if_neg (by omega), refuseW, if_neg h4, hqf, hqt, hq]
      cases qf <;> cases qt <;> cases q <;> rfl)
    clear h1 hq hqf hqt
    cases q
    case' true => cases qf
    case' true.true => cases qt
    case true.true.true =>
      obtain ⟨z, hz⟩ : ∃ z, atG 0 f t l = z := ⟨_, rfl⟩
      have HZ := hide hz
      have HZN : Hid ((atW f t l).code = if z < 0 then 6 else 0) := hide (by
        rw [← hz, atG_zero, atW, atN]
        cases atI f t l with
        | none => rfl
        | some k => rw [if_neg (by simp only []; omega)]; rfl)
      have h36 := net_len HQ.out
      clear hz
      by_cases hneg : z < 0
      all_goals
        go_enter Tryd.func35, Tryd.ntmps35
        go_wp2_with (first
          | (go_at_call 25; refine (s_net HQ.out _ _ HOK.out HV.out).mono ?_; rintro e w1 ⟨rfl, hb1⟩; have HB1 := hide hb1; clear hb1)
          | (go_at_call_of 48 f; refine (sn_name HQF.out HF.out _).mono ?_; rintro e w' ⟨rfl, rfl⟩)
          | (go_at_call_of 48 t; refine (sn_name HQT.out HT.out _).mono ?_; rintro e w' ⟨rfl, rfl⟩)
          | (go_at_call 36; refine (s_at (s := 0) HZ.out _ _ (by omega) (Nat.zero_le _) ((HV.out.carry HB1.out).up HB1.out.size)).mono ?_; rintro e w2 ⟨rfl, hb2⟩; have HB2 := hide (HB1.out.trans (hb2.mono HB1.out.size)); clear hb2))
        go_ret
        exact ⟨ret_int (by rw [HR.out, HZN.out]; simp [hneg]), HB2.out⟩
    all_goals
      go_enter Tryd.func35, Tryd.ntmps35
      go_wp2_with (first
        | (go_at_call 25; refine (s_net HQ.out _ _ HOK.out HV.out).mono ?_; rintro e w1 ⟨rfl, hb1⟩; have HB1 := hide hb1; clear hb1)
        | (go_at_call_of 48 f; refine (sn_name HQF.out HF.out _).mono ?_; rintro e w' ⟨rfl, rfl⟩)
        | (go_at_call_of 48 t; refine (sn_name HQT.out HT.out _).mono ?_; rintro e w' ⟨rfl, rfl⟩))
      go_ret
      exact ⟨ret_int (by rw [HR.out]; simp), HB1.out⟩
end Go.Proofs.YtonafcifolddjaaDoor
