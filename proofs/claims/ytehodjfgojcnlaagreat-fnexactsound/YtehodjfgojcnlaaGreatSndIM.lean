/- Sound of the program. -/
import Derived.Test.YtehodjfgojcnlaaGreatSndMM
import Derived.Test.YtehodjfgojcnlaaGreatQSound36
namespace Go.Proofs.YtehodjfgojcnlaaGreat
open Go.RowKit

theorem field_code (u : Value) (c : Int) (W : World) : (Instr.field 37 (.agg #[u, .int .i64 c]) 1).run Tryz.prog W = .ok (.int .i64 c) W := by kernel_rfl
theorem i_partIs {ns : List Nd} {p : Pn 10} {role : ByteArray} {b : Bool} (hr : rightB false ns = true) (hp : ns = rowN 10 p) (hpl : planN 10 p) (h40 : ns.length ≤ 40) (hn : nameB role = true) (hz : role.size ≤ 20) (hb : (partN role 10 p).isSome = b) (v : Value) (w : World) (fit : ∀ n ∈ ns, n.fit) (hv : SlAt w w.heap.size v ns) :
    Calls Tryz.prog 15 #[v, .string role] w fun e w' => ∃ u, e = .returned (.agg #[u, .int .i64 (if b then 0 else 11)]) ∧ Below w.heap.size w w' := by
  cases hm : partN role 10 p with
  | none =>
    rw [hm] at hb
    subst hb
    refine (i_partOf ns role [] 11 (.inr ⟨by omega, by omega, .inr ⟨by rw [hr, hn]; rfl, p, hp, hpl, h40, .inl ⟨hm, rfl, rfl⟩⟩⟩) v w fit (by unfold maxLen; omega) hv).mono ?_
    rintro e w' ⟨u, rfl, -, hb⟩
    exact ⟨u, rfl, hb⟩
  | some z =>
    rw [hm] at hb
    subst hb
    refine (i_partOf ns role (rowN 10 z) 0 (.inr ⟨by omega, by omega, .inr ⟨by rw [hr, hn]; rfl, p, hp, hpl, h40, .inr ⟨z, hm, rfl, rfl⟩⟩⟩) v w fit (by unfold maxLen; omega) hv).mono ?_
    rintro e w' ⟨u, rfl, -, hb⟩
    exact ⟨u, rfl, hb⟩

set_option maxRecDepth 100000 in
set_option maxHeartbeats 1000000 in
theorem i_sound (ns : List Nd) (q : Bool) (hq : Snd ns q) (v : Value) (w : World) (fit : ∀ n ∈ ns, n.fit) (hv : SlAt w w.heap.size v ns) :
    Calls Tryz.prog 7 #[v] w fun e w' => e = .returned (.bool q) ∧ Below w.heap.size w w' := by
  have HV := hide hv
  have HF := hide fit
  have hlm := hv.lenm
  obtain ⟨ao, cap, rfl, hc, hm, hr⟩ := hv
  clear hr fit
  rcases hq with ⟨hrb, rfl⟩ | ⟨hrb, p, hp, hpl, h40, rfl⟩
  · have HRB := hide hrb
    clear hrb
    go_enter Tryz.func7, Tryz.ntmps7
    go_wp2_with (go_at_call 13; refine (plan_right ns _ _ HF.out HV.out).mono ?_; rintro e w1 ⟨rfl, hb1⟩; rw [HRB.out]; have HB1 := hide hb1; clear hb1)
    go_ret
    exact ⟨rfl, HB1.out⟩
  · have HRB := hide hrb
    have HRV : Hid (rolesV ns = rolesS ns) := hide (by rw [rolesV, hrb]; rfl)
    have HL4 := hide (right_roles hrb)
    obtain ⟨rs, hrs⟩ : ∃ rs, rolesS ns = rs := ⟨_, rfl⟩
    have HPO : Hid (∀ (k : Nat) (hk : k < rs.length) (b : Bool) (W : World), (partN rs[k] 10 p).isSome = b → Below w.heap.size w W → Calls Tryz.prog 15 #[.slice ao ns.length cap, .string rs[k]] W fun e w' => ∃ u, e = .returned (.agg #[u, .int .i64 (if b then 0 else 11)]) ∧ Below W.heap.size W w') := hide (fun k hk b W hb hw => by
      have hn := role_name hrb (t := rs[k]) (by rw [hrs]; exact List.getElem_mem hk)
      exact i_partIs hrb hp hpl h40 hn.1 hn.2 hb _ W HF.out ((HV.out.carry hw).up hw.size))
    rw [hrs] at HL4 HRV ⊢
    clear hrs hp hrb
    go_enter Tryz.func7, Tryz.ntmps7
    go_wp2_with (first
      | (go_at_call 13; refine (plan_right ns _ _ HF.out HV.out).mono ?_; rintro e w1 ⟨rfl, hb1⟩; rw [HRB.out]; have HB1 := hide hb1; clear hb1)
      | (go_at_call 14; refine (roles_of ns _ _ HF.out ((HV.out.carry HB1.out).up HB1.out.size)).mono ?_; rintro e w2 ⟨v2, rfl, ho2, hb2⟩; rw [HRV.out] at ho2; obtain ⟨ao2, cap2, rfl, hc2, hm2, hr2⟩ := texts_own ho2 (by have := HL4.out; omega); have HR2 := hide hr2; have HB2 : Hid (Below w.heap.size w w2) := hide (HB1.out.trans (hb2.mono HB1.out.size)); clear hb2 ho2 hr2))
    go_loopw [11] (fun i wr => ∃ k : Nat, k ≤ rs.length ∧ i = .int .i64 k ∧ (∀ j (h : j < rs.length), j < k → (partN rs[j] 10 p).isSome = true) ∧ Below w2.heap.size w2 wr) (fun i _ => rs.length - (intOf i).toNat)
    case atStart => exact ⟨0, Nat.zero_le _, rfl, fun j _ h => absurd h (by omega), Below.refl _ _⟩
    case round =>
      obtain ⟨k, hk, rfl, hall, hbel⟩ := hrel
      have HA := hide hall
      have HBEL := hide hbel
      clear hall hbel
      by_cases hlt : k < rs.length
      · obtain ⟨b, o, rfl, hcell⟩ := HR2.out (by intro h; simp [h] at hlt)
        have c0 := (HBEL.out.cell (p := ⟨b, _, none⟩) (World.block_lt_of_cell? w2 _ (hcell k hlt))).trans (hcell k hlt)
        obtain ⟨bb, hbb⟩ : ∃ bb, (partN rs[k] 10 p).isSome = bb := ⟨_, rfl⟩
        have HC : Hid (∀ W : World, Below w.heap.size w W → Calls Tryz.prog 15 #[.slice ao ns.length cap, .string rs[k]] W fun e w' => ∃ u, e = .returned (.agg #[u, .int .i64 (if bb then 0 else 11)]) ∧ Below W.heap.size W w') := hide (fun W hw => HPO.out k hlt bb W hbb hw)
        have HBB := hide hbb
        obtain ⟨x1, hx1⟩ : ∃ x1, x1 = rs[k] := ⟨_, rfl⟩
        rw [← hx1] at c0 HC HBB
        have HX := hide hx1
        clear hx1 hcell hbb
        cases bb
        · replace HC : Hid (∀ W : World, Below w.heap.size w W → Calls Tryz.prog 15 #[.slice ao ns.length cap, .string x1] W fun e w' => ∃ u, e = .returned (.agg #[u, .int .i64 11]) ∧ Below W.heap.size W w') := HC
          have hfd : ∀ (u : Value) (W : World), (Instr.field 37 (.agg #[u, .int .i64 11]) 1).run Tryz.prog W = .ok (.int .i64 11) W := fun u W => field_code u _ W
          go_wp2_with (go_at_call 15; refine (HC.out _ (HB2.out.trans (HBEL.out.mono HB2.out.size))).mono ?_; rintro e w3 ⟨u, rfl, hb3⟩; have HB3 := hide hb3; clear hb3)
          go_ret
          exact ⟨ret_bool (snd_no hlt (by rw [← HX.out]; exact HBB.out)), (HB2.out.trans (HBEL.out.mono HB2.out.size)).trans (HB3.out.mono (Nat.le_trans HB2.out.size HBEL.out.size))⟩
        · replace HC : Hid (∀ W : World, Below w.heap.size w W → Calls Tryz.prog 15 #[.slice ao ns.length cap, .string x1] W fun e w' => ∃ u, e = .returned (.agg #[u, .int .i64 0]) ∧ Below W.heap.size W w') := HC
          have hfd : ∀ (u : Value) (W : World), (Instr.field 37 (.agg #[u, .int .i64 0]) 1).run Tryz.prog W = .ok (.int .i64 0) W := fun u W => field_code u _ W
          go_wp2_with (go_at_call 15; refine (HC.out _ (HB2.out.trans (HBEL.out.mono HB2.out.size))).mono ?_; rintro e w3 ⟨u, rfl, hb3⟩; have HB3 := hide hb3; clear hb3)
          go_roundw
          case rel =>
            refine ⟨k + 1, hlt, by go_num, fun j hj hjk => ?_, HBEL.out.trans (HB3.out.mono HBEL.out.size)⟩
            by_cases hjk' : j = k
            · subst hjk'; rw [← HX.out]; exact HBB.out
            · exact HA.out j hj (by omega)
          case measure => simp [intOf]; omega
      · go_wp2_with fail
        go_ret
        exact ⟨ret_bool (snd_all (fun j hj => HA.out j hj (by omega))), HB2.out.trans (HBEL.out.mono HB2.out.size)⟩
end Go.Proofs.YtehodjfgojcnlaaGreat
