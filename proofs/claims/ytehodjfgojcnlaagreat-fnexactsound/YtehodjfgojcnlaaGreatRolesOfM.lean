/- RolesOf and TalksIn, of the program and of the specification. -/
import Derived.Test.YtehodjfgojcnlaaGreatSortMM
namespace Go.Proofs.YtehodjfgojcnlaaGreat
open Go.RowKit

def rolesV (ns : List Nd) : List ByteArray := if rightB false ns then rolesS ns else []
theorem right_nodes {part : Bool} {ns : List Nd} (h : rightB part ns = true) : ∀ n ∈ ns, nodeB (talkS part) n = true := by
  rw [rightB] at h
  simp only [Bool.and_eq_true] at h
  exact ahead_all h.2.1
theorem right_len {part : Bool} {ns : List Nd} (h : rightB part ns = true) : ns.length ≤ 40 := by
  rw [rightB] at h
  simp only [Bool.and_eq_true, decide_eq_true_eq] at h
  exact h.1
theorem right_roles {part : Bool} {ns : List Nd} (h : rightB part ns = true) : (rolesS ns).length ≤ 4 := by
  rw [rightB] at h
  simp only [Bool.and_eq_true, decide_eq_true_eq] at h
  exact h.2.2

theorem own_down {w : World} {base base' e size : Nat} {v : Value} {n : Nat} {xs : List Value} (h : w.ownsRow base e size v n xs) (hb : base' ≤ base) : w.ownsRow base' e size v n xs := by
  obtain ⟨h1, hv⟩ := h
  refine ⟨h1, ?_⟩
  rcases hv with hv | ⟨g, cap, cur, rfl, hg, r⟩
  · exact .inl hv
  · exact .inr ⟨g, cap, cur, rfl, by omega, r⟩

set_option maxHeartbeats 400000 in
theorem roles_of (ns : List Nd) (v : Value) (w : World) (fit : ∀ n ∈ ns, n.fit) (hv : SlAt w w.heap.size v ns) :
    Calls Tryz.prog 14 #[v] w fun e w' => ∃ v', e = .returned v' ∧ w'.ownsRow w.heap.size 9 1 v' (rolesV ns).length ((rolesV ns).map Value.string) ∧ Below w.heap.size w w' := by
  have HV := hide hv
  have HF := hide fit
  have hlm := hv.lenm
  obtain ⟨ao, cap, rfl, hc, hm, hr⟩ := hv
  obtain ⟨rb, hrb⟩ : ∃ rb, rightB false ns = rb := ⟨_, rfl⟩
  have HRB := hide hrb
  clear hr fit hrb
  cases rb
  · have HE : Hid (rolesV ns = []) := hide (by rw [rolesV, HRB.out]; rfl)
    go_enter Tryz.func14, Tryz.ntmps14
    go_wp2_with (go_at_call 13; refine (plan_right ns _ _ HF.out HV.out).mono ?_; rintro e w1 ⟨rfl, hb1⟩; rw [HRB.out]; have HB1 := hide hb1; clear hb1)
    go_ret
    refine ⟨_, rfl, ?_, HB1.out⟩
    rw [HE.out]
    exact World.ownsRow_nil _ _ _ _
  · have HE : Hid (rolesV ns = rolesS ns) := hide (by rw [rolesV, HRB.out]; rfl)
    have HLE := hide (right_len HRB.out)
    have HSO := hide (sort_roles (right_nodes HRB.out))
    have HLN : Hid ((rolesI ns).length = (rolesS ns).length) := hide (roles_perm (right_nodes HRB.out)).2.length_eq
    go_enter Tryz.func14, Tryz.ntmps14
    go_wp2_with (first | (go_at_call 13; refine (plan_right ns _ _ HF.out HV.out).mono ?_; rintro e w1 ⟨rfl, hb1⟩; rw [HRB.out]; have HB1 := hide hb1; clear hb1) | (go_at_call 22; refine (i_roles clone_calls ns _ _ HF.out ((HV.out.carry HB1.out).up HB1.out.size) HLE.out).mono ?_; rintro e w2 ⟨v2, rfl, ho2, hb2⟩; have HO2 := hide ho2; have HB2 : Hid (Below w.heap.size w w2) := hide (HB1.out.trans (hb2.mono HB1.out.size)); have HZ := hide HB1.out.size; clear ho2 hb2) | (go_at_call 23; refine (sort_own (rolesI ns) (rolesS ns) _ _ _ HO2.out (by have := rolesI_len ns; have := HLE.out; omega) HSO.out).mono ?_; rintro e w3 ⟨rfl, ho3, hg3⟩; have HO3 := hide ho3; have HB3 : Hid (Below w.heap.size w w3) := hide (HB2.out.grown hg3 HB2.out.size (fun k hk => Nat.le_trans HZ.out (own_row HO2.out k hk))); clear ho3 hg3))
    go_ret
    refine ⟨_, rfl, ?_, HB3.out⟩
    rw [HE.out]
    exact own_down HO3.out HZ.out

end Go.Proofs.YtehodjfgojcnlaaGreat
