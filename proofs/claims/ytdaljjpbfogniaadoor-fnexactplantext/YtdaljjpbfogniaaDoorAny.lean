/- hasAny: is one of these ops in the row? slices.Contains at []int64. -/
import Derived.Test.YtdaljjpbfogniaaDoorRin
namespace Go.Proofs.YtdaljjpbfogniaaDoor
open Go.RowKit

/-- a row of numbers in memory -/
def NumsAt (w : World) (v : Value) (ls : List Int) : Prop :=
  ∃ ao cap, v = .slice ao ls.length cap ∧ ls.length ≤ cap ∧ ls.length ≤ 4294967296 ∧ (ls ≠ [] → ∃ b o, ao = some ⟨b, o, none⟩ ∧ ∀ i (h : i < ls.length), w.cell? ⟨b, o + i, none⟩ = some (.int .i64 ls[i]))
theorem NumsAt.carry {w w' : World} {v : Value} {ls : List Int} (h : NumsAt w v ls) (hb : Below w.heap.size w w') : NumsAt w' v ls := by
  obtain ⟨ao, cap, h1, h2, h3, h4⟩ := h
  refine ⟨ao, cap, h1, h2, h3, fun hne => ?_⟩
  obtain ⟨b, o, e, hr⟩ := h4 hne
  refine ⟨b, o, e, fun i hi => ?_⟩
  exact (hb.cell (p := ⟨b, _, none⟩) (World.block_lt_of_cell? w _ (hr i hi))).trans (hr i hi)
def hasN (ls : List Int) (t : Int) : Bool := ls.any fun s => t == s
theorem hasN_take {ls : List Int} {t : Int} {k : Nat} (hk : k < ls.length) (h : hasN (ls.take k) t = false) (he : (t == ls[k]) = false) : hasN (ls.take (k + 1)) t = false := by
  rw [hasN, List.take_succ_eq_append_getElem hk, List.any_append]
  have : (ls.take k).any (fun s => t == s) = false := h
  rw [this]
  simpa using he
theorem hasN_hit {ls : List Int} {t : Int} {k : Nat} (hk : k < ls.length) (he : (t == ls[k]) = true) : hasN ls t = true := by
  rw [hasN, List.any_eq_true]
  exact ⟨ls[k], List.getElem_mem hk, he⟩

set_option maxHeartbeats 400000 in
theorem n_index (ls : List Int) (t : Int) (v : Value) (w : World) (hv : NumsAt w v ls) :
    Calls Tryd.prog 79 #[v, .int .i64 t] w fun e w' => ∃ j : Int, e = .returned (.int .i64 j) ∧ decide (0 ≤ j) = hasN ls t ∧ w' = w := by
  obtain ⟨ao, cap, rfl, hc, hm, hr⟩ := hv
  have HR := hide hr
  clear hr
  go_enter Tryd.func79, Tryd.ntmps79
  go_wp2_with fail
  go_loop [8] (fun i => ∃ k : Nat, k ≤ ls.length ∧ i = .int .i64 k ∧ hasN (ls.take k) t = false) (fun i => ls.length - (intOf i).toNat)
  case atStart => exact ⟨0, Nat.zero_le _, rfl, rfl⟩
  case round =>
    obtain ⟨k, hk, rfl, hall⟩ := hrel
    have HA := hide hall
    clear hall
    by_cases hlt : k < ls.length
    · obtain ⟨b, o, rfl, hcell⟩ := HR.out (by intro h; simp [h] at hlt)
      have hck := hcell k hlt
      obtain ⟨s, hs⟩ : ∃ s, s = ls[k] := ⟨_, rfl⟩
      rw [← hs] at hck
      have HSs := hide hs
      clear hcell hs
      cases heq : (t == s)
      all_goals
        have HE := hide heq
      · go_wp2_with fail
        go_round
        case rel => exact ⟨k + 1, by omega, by go_num, hasN_take hlt HA.out (by rw [← HSs.out]; exact HE.out)⟩
        case measure => simp [intOf]; omega
      · go_wp2_with fail
        go_ret
        exact ⟨_, rfl, by rw [hasN_hit hlt (by rw [← HSs.out]; exact HE.out)]; simp, rfl⟩
    · go_wp2_with fail
      go_ret
      refine ⟨_, rfl, ?_, rfl⟩
      have := HA.out
      rw [List.take_of_length_le (by omega)] at this
      rw [this]; rfl
theorem n_contains (ls : List Int) (t : Int) (v : Value) (w : World) (hv : NumsAt w v ls) :
    Calls Tryd.prog 56 #[v, .int .i64 t] w fun e w' => e = .returned (.bool (hasN ls t)) ∧ w' = w := by
  have HV := hide hv
  obtain ⟨ao, cap, rfl, hc, hm, hr⟩ := hv
  clear hr hc hm
  go_enter Tryd.func56, Tryd.ntmps56
  go_wp2_with (go_at_call 79; refine (n_index ls t _ _ HV.out).mono ?_; rintro e w' ⟨j, rfl, hj, rfl⟩; have HJ := hide hj; clear hj)
  go_ret
  exact ⟨ret_bool HJ.out.symm, rfl⟩

set_option maxHeartbeats 400000 in
theorem i_hasAny (ops : List Int) (ns : List Nd) (v u : Value) (w : World) (hv : SlAt w w.heap.size v ns) (hu : NumsAt w u ops) :
    Calls Tryd.prog 39 #[v, u] w fun e w' => e = .returned (.bool (ns.any fun n => hasN ops n.op)) ∧ Below w.heap.size w w' := by
  obtain ⟨ao, cap, rfl, hc, hm, hr⟩ := hv
  have HR := hide hr
  have HU := hide hu
  obtain ⟨ao', cap', rfl, hc', hm', hr'⟩ := hu
  clear hr hr'
  go_enter Tryd.func39, Tryd.ntmps39
  go_wp2_with fail
  go_loopw [9] (fun i wr => ∃ k : Nat, k ≤ ns.length ∧ i = .int .i64 k ∧ (ns.take k).any (fun n => hasN ops n.op) = false ∧ Below w.heap.size w wr) (fun i _ => ns.length - (intOf i).toNat)
  case atStart => exact ⟨0, Nat.zero_le _, rfl, rfl, Below.refl _ _⟩
  case round =>
    obtain ⟨k, hk, rfl, hall, hbel⟩ := hrel
    have HA := hide hall
    have HBEL := hide hbel
    have hszr := hbel.size
    clear hall hbel
    by_cases hlt : k < ns.length
    · obtain ⟨b, o, rfl, hbB, hrow⟩ := HR.out (by intro h; simp [h] at hlt)
      have hnode := (hrow.get k hlt).carry hbB HBEL.out
      obtain ⟨n1, hn1⟩ : ∃ n1, n1 = ns[k] := ⟨_, rfl⟩
      rw [← hn1] at hnode
      have HN := hide hn1
      clear hn1 hrow
      have hbw : b < wr.heap.size := hnode.lt
      obtain ⟨c0, c1, c2, c3, c4⟩ := hnode
      cases hh : hasN ops n1.op
      · have HH := hide hh
        clear hh
        go_wp2_with (go_at_call 56; refine (n_contains ops n1.op _ _ (HU.out.carry (HBEL.out.trans ((alloc1 _ _).mono hszr)))).mono ?_; rintro e w1 ⟨rfl, rfl⟩; rw [HH.out])
        go_roundw
        case rel => exact ⟨k + 1, by omega, by go_num, by rw [List.take_succ_eq_append_getElem hlt, List.any_append, HA.out, ← HN.out]; simp [HH.out], HBEL.out.trans ((alloc1 _ _).mono hszr)⟩
        case measure => simp [intOf]; omega
      · have HH := hide hh
        clear hh
        go_wp2_with (go_at_call 56; refine (n_contains ops n1.op _ _ (HU.out.carry (HBEL.out.trans ((alloc1 _ _).mono hszr)))).mono ?_; rintro e w1 ⟨rfl, rfl⟩; rw [HH.out])
        go_ret
        refine ⟨ret_bool ?_, HBEL.out.trans ((alloc1 _ _).mono hszr)⟩
        rw [List.any_eq_true]
        exact ⟨n1, by rw [HN.out]; exact List.getElem_mem hlt, HH.out⟩
    · go_wp2_with fail
      go_ret
      refine ⟨ret_bool ?_, HBEL.out⟩
      have := HA.out
      rwa [List.take_of_length_le (by omega)] at this
end Go.Proofs.YtdaljjpbfogniaaDoor
