/- PlayRight of the program and of the specification. -/
import Derived.Test.YtlcafjckaahmaaaGreatQB34
import Derived.Test.YtlcafjckaahmaaaGreatQB35
import Derived.Test.YtlcafjckaahmaaaGreatQB36
import Derived.Test.YtlcafjckaahmaaaGreatQB24
import Derived.Deep.RegionWith
import Derived.Deep.RegionHeld3
namespace Go.Proofs.YtlcafjckaahmaaaGreat
open Go.RowKit

def plaB (p : Pla) (q : Bool) : Bool := q && talksV p.plan p.role && machB p.table
theorem snd_right {ns : List Nd} (h : Snd ns true) : rightB false ns = true := by
  rcases h with ⟨-, h⟩ | ⟨h, -⟩
  · cases h
  · exact h
set_option maxRecDepth 100000 in
set_option maxHeartbeats 2000000 in
theorem i_playRight (p : Pla) (q : Bool) (hq : Snd p.plan q) (v : Value) (w : World) (hf : p.fit) (hv : PlaAt w v p) :
    Calls Tryz.prog 29 #[v] w fun e w' => e = .returned (.bool (plaB p q)) ∧ Below w.heap.size w w' := by
  obtain ⟨pa, pc, sa, sc, ea, ec, rfl, h1, h2⟩ := hv.shape
  have HS := hide (h1.carry (malloc1 w (.cells (plaC (.slice pa p.plan.length pc) p.role (.slice sa p.table.states.length sc) (.slice ea p.table.edges.length ec) p.table.start).toArray 61)))
  have HM := hide (h2.carry (malloc1 w (.cells (plaC (.slice pa p.plan.length pc) p.role (.slice sa p.table.states.length sc) (.slice ea p.table.edges.length ec) p.table.start).toArray 61)))
  have HS2 : Hid (∀ w1, Below (w.heap.size + 1) (w.alloc (.cells (plaC (.slice pa p.plan.length pc) p.role (.slice sa p.table.states.length sc) (.slice ea p.table.edges.length ec) p.table.start).toArray 61)) w1 → SlAt w1 w1.heap.size (.slice pa p.plan.length pc) p.plan ∧ MachAt w1 (.agg #[.slice sa p.table.states.length sc, .slice ea p.table.edges.length ec, .int .i64 p.table.start]) p.table ∧ BoxL w1 w.heap.size (plaC (.slice pa p.plan.length pc) p.role (.slice sa p.table.states.length sc) (.slice ea p.table.edges.length ec) p.table.start) ∧ Below w.heap.size w w1) := hide (fun w1 hb => by
    have hb' : Below (w.alloc (.cells (plaC (.slice pa p.plan.length pc) p.role (.slice sa p.table.states.length sc) (.slice ea p.table.edges.length ec) p.table.start).toArray 61)).heap.size (w.alloc (.cells (plaC (.slice pa p.plan.length pc) p.role (.slice sa p.table.states.length sc) (.slice ea p.table.edges.length ec) p.table.start).toArray 61)) w1 := by simpa using hb
    exact ⟨(h1.carry ((malloc1 _ _).trans (hb'.mono (by simp)))).up (Nat.le_trans (by simp) hb'.size), h2.carry ((malloc1 _ _).trans (hb'.mono (by simp))), (BoxL.new w _ _).keep (below_apart hb') (by simp), (malloc1 _ _).trans (hb'.mono (by simp))⟩)
  have HT : Hid (∀ (w1 w2 : World), Below (w.heap.size + 1) (w.alloc (.cells (plaC (.slice pa p.plan.length pc) p.role (.slice sa p.table.states.length sc) (.slice ea p.table.edges.length ec) p.table.start).toArray 61)) w1 → Below w1.heap.size w1 w2 → Below (w.heap.size + 1) (w.alloc (.cells (plaC (.slice pa p.plan.length pc) p.role (.slice sa p.table.states.length sc) (.slice ea p.table.edges.length ec) p.table.start).toArray 61)) w2) := hide (fun w1 w2 h1 h2 => h1.trans (h2.mono (by have := h1.size; simpa using this)))
  have HQ := hide hq
  have HF := hide hf
  obtain ⟨t, ht⟩ : ∃ t, talksV p.plan p.role = t := ⟨_, rfl⟩
  obtain ⟨b, hb⟩ : ∃ b, machB p.table = b := ⟨_, rfl⟩
  have HA : Hid (plaB p q = (q && t && b)) := hide (by rw [plaB, ht, hb])
  have HTV := hide ht
  have HMB := hide hb
  clear h1 h2 hv hq hf ht hb
  unfold plaV plaC at *
  cases q <;> cases t
  all_goals
    go_enter Tryz.func29, Tryz.ntmps29
    go_wp2_with (first
      | (go_at_call 67; refine (machine_right p.table _ _ HF.out.2.2 (HS2.out _ HW2.out).2.1).mono ?_; rintro e w3 ⟨rfl, hb3⟩; rw [HMB.out]; have HW3 := hide (HT.out _ _ HW2.out hb3); clear hb3)
      | (go_at_call 66; refine (talks_in p.plan p.role _ _ HF.out.1.2 (HS2.out _ HW1.out).1).mono ?_; rintro e w2 ⟨rfl, hb2⟩; rw [HTV.out]; have HW2 := hide (HT.out _ _ HW1.out hb2); have X2 := (HS2.out _ HW2.out).2.2.1; have y2 := X2.cell 2 _ rfl; have y3 := X2.cell 3 _ rfl; have y4 := X2.cell 4 _ rfl; clear hb2 X2)
      | (go_at_call 11; refine (i_sound p.plan _ HQ.out _ _ HF.out.1.2 (HS2.out _ (Below.refl _ _)).1).mono ?_; rintro e w1 ⟨rfl, hb1⟩; have HW1 := hide (HT.out _ _ (Below.refl _ _) hb1); have X1 := (HS2.out _ HW1.out).2.2.1; have x0 := X1.cell 0 _ rfl; have x1 := X1.cell 1 _ rfl; clear hb1 X1))
    go_ret
    first
      | exact ⟨ret_bool HA.out, (HS2.out _ HW3.out).2.2.2⟩
      | exact ⟨ret_bool HA.out, (HS2.out _ HW2.out).2.2.2⟩
      | exact ⟨ret_bool HA.out, (HS2.out _ HW1.out).2.2.2⟩
end Go.Proofs.YtlcafjckaahmaaaGreat
/- PlayRight of the specification. -/
namespace Go.Proofs.YtlcafjckaahmaaaGreat
open Go.RowKit

set_option maxRecDepth 100000 in
set_option maxHeartbeats 4000000 in
theorem s_playRight (p : Pla) (q : Bool) (hq : Snd p.plan q) (v : Value) (w : World) (hf : p.fit) (hv : PlaAt w v p) :
    Calls Tryz.prog 27 #[v] w fun e w' => e = .returned (.bool (plaB p q)) ∧ Below w.heap.size w w' := by
  obtain ⟨pa, pc, sa, sc, ea, ec, rfl, h1, h2⟩ := hv.shape
  have HS2 : Hid (∀ w1, Below (w.heap.size + 1) (w.alloc (.cells (plaC (.slice pa p.plan.length pc) p.role (.slice sa p.table.states.length sc) (.slice ea p.table.edges.length ec) p.table.start).toArray 61)) w1 → SlAt w1 w1.heap.size (.slice pa p.plan.length pc) p.plan ∧ MachAt w1 (.agg #[.slice sa p.table.states.length sc, .slice ea p.table.edges.length ec, .int .i64 p.table.start]) p.table ∧ BoxL w1 w.heap.size (plaC (.slice pa p.plan.length pc) p.role (.slice sa p.table.states.length sc) (.slice ea p.table.edges.length ec) p.table.start) ∧ Below w.heap.size w w1) := hide (fun w1 hb => by
    have hb' : Below (w.alloc (.cells (plaC (.slice pa p.plan.length pc) p.role (.slice sa p.table.states.length sc) (.slice ea p.table.edges.length ec) p.table.start).toArray 61)).heap.size (w.alloc (.cells (plaC (.slice pa p.plan.length pc) p.role (.slice sa p.table.states.length sc) (.slice ea p.table.edges.length ec) p.table.start).toArray 61)) w1 := by simpa using hb
    exact ⟨(h1.carry ((malloc1 _ _).trans (hb'.mono (by simp)))).up (Nat.le_trans (by simp) hb'.size), h2.carry ((malloc1 _ _).trans (hb'.mono (by simp))), (BoxL.new w _ _).keep (below_apart hb') (by simp), (malloc1 _ _).trans (hb'.mono (by simp))⟩)
  have HT : Hid (∀ (w1 w2 : World), Below (w.heap.size + 1) (w.alloc (.cells (plaC (.slice pa p.plan.length pc) p.role (.slice sa p.table.states.length sc) (.slice ea p.table.edges.length ec) p.table.start).toArray 61)) w1 → Below w1.heap.size w1 w2 → Below (w.heap.size + 1) (w.alloc (.cells (plaC (.slice pa p.plan.length pc) p.role (.slice sa p.table.states.length sc) (.slice ea p.table.edges.length ec) p.table.start).toArray 61)) w2) := hide (fun w1 w2 h1 h2 => h1.trans (h2.mono (by have := h1.size; simpa using this)))
  have HQ := hide hq
  have HF := hide hf
  obtain ⟨t, ht⟩ : ∃ t, talksV p.plan p.role = t := ⟨_, rfl⟩
  obtain ⟨b, hb⟩ : ∃ b, machB p.table = b := ⟨_, rfl⟩
  have HA : Hid (plaB p q = (q && t && b)) := hide (by rw [plaB, ht, hb])
  have HTV : Hid (q = true → hasB (rolesS p.plan) p.role = t ∧ p.plan.length ≤ 40 ∧ (rolesS p.plan).length ≤ 4) := hide (fun e => by
    subst e
    have hr := snd_right hq
    exact ⟨by rw [← ht, talksV, rolesV, hr]; rfl, right_len hr, right_roles hr⟩)
  have HMB := hide hb
  have X0 := (HS2.out _ (Below.refl _ _)).2.2.1
  have u0 := X0.cell 0 _ rfl
  clear h1 h2 hv hq hf ht hb X0
  unfold plaV plaC at *
  cases q
  · clear HTV
    go_enter Tryz.func27, Tryz.ntmps27
    go_wp2_with fail
    refine wp_region_grown (by kernel_rfl) (by kernel_rfl) (fun W hW => ?_)
    have hne := grown_some W
    have HBW : Hid (Below (w.heap.size + 1) (w.alloc (.cells #[.slice pa p.plan.length pc, .string p.role, .slice sa p.table.states.length sc, .slice ea p.table.edges.length ec, .int .i64 p.table.start] 61)) W) := hide (by rw [hW]; exact Below.refl _ _)
    have X0 := (HS2.out _ HBW.out).2.2.1
    have f0 := grown_cell (w := W) (X0.cell 0 _ rfl)
    have HG : Hid (∀ g : Grown W, Below (w.heap.size + 1) (w.alloc (.cells #[.slice pa p.plan.length pc, .string p.role, .slice sa p.table.states.length sc, .slice ea p.table.edges.length ec, .int .i64 p.table.start] 61)) g.val) := hide (fun g => HT.out _ _ HBW.out g.bel)
    clear hW X0
    repeat (go_big_quiet_step (first
      | (go_at_call 9; exact grown_more (s_sound p.plan _ HQ.out _ _ HF.out.1.2 (HS2.out _ (HG.out _)).1))))
    refine wpQuiet_nil ?_
    intro w1 hw1
    have HW1 := hide (HT.out _ _ HBW.out hw1)
    clear hw1
    go_wp2_with fail
    go_ret
    exact ⟨ret_bool HA.out, (HS2.out _ HW1.out).2.2.2⟩
  · replace HTV := hide (HTV.out rfl)
    cases t
    · go_enter Tryz.func27, Tryz.ntmps27
      go_wp2_with fail
      first
        | (go_region_with (first
        | (go_at_call 64; refine (s_machineRight p.table _ _ HF.out.2.2 (HS2.out _ HW2.out).2.1).mono ?_; rintro e w3 ⟨rfl, hb3⟩; rw [HMB.out]; have HW3 := hide (HT.out _ _ HW2.out hb3); have X3 := (HS2.out _ HW3.out).2.2.1; have z0 := X3.cell 0 _ rfl; have z1 := X3.cell 1 _ rfl; have z2 := X3.cell 2 _ rfl; have z3 := X3.cell 3 _ rfl; have z4 := X3.cell 4 _ rfl; clear hb3 X3)
        | (go_at_call 62; refine (s_among (rolesS p.plan) p.role _ _ (HR2.out.texts (by have := HTV.out.2.2; omega))).mono ?_; rintro e w4 ⟨rfl, rfl⟩; rw [HTV.out.1])
        | (go_at_call 63; refine (s_roles p.plan _ _ (HS2.out _ HW1.out).1 HTV.out.2.1).mono ?_; rintro e w2 ⟨v2, rfl, hs2, hb2⟩; have HR2 := hide hs2; have HW2 := hide (HT.out _ _ HW1.out hb2); have X2 := (HS2.out _ HW2.out).2.2.1; have y0 := X2.cell 0 _ rfl; have y1 := X2.cell 1 _ rfl; have y2 := X2.cell 2 _ rfl; have y3 := X2.cell 3 _ rfl; have y4 := X2.cell 4 _ rfl; clear hb2 X2 hs2)
        | (go_at_call 9; refine (s_sound p.plan _ HQ.out _ _ HF.out.1.2 (HS2.out _ (Below.refl _ _).drew).1).mono ?_; rintro e w1 ⟨rfl, hb1⟩; have HW1 := hide (HT.out _ _ (Below.refl _ _).drew hb1); have X1 := (HS2.out _ HW1.out).2.2.1; have x0 := X1.cell 0 _ rfl; have x1 := X1.cell 1 _ rfl; have x2 := X1.cell 2 _ rfl; have x3 := X1.cell 3 _ rfl; have x4 := X1.cell 4 _ rfl; clear hb1 X1)))
        | fail
      all_goals
        go_wp2_with fail
        go_ret
        exact ⟨ret_bool HA.out, (HS2.out _ HW2.out).2.2.2⟩
    · go_enter Tryz.func27, Tryz.ntmps27
      go_wp2_with fail
      go_region_held3 (fun w' => w'.cell? ⟨w.heap.size, 0, none⟩ = some (.slice pa p.plan.length pc) ∧ w'.cell? ⟨w.heap.size, 1, none⟩ = some (.string p.role) ∧ w'.cell? ⟨w.heap.size, 2, none⟩ = some (.slice sa p.table.states.length sc) ∧ w'.cell? ⟨w.heap.size, 3, none⟩ = some (.slice ea p.table.edges.length ec) ∧ w'.cell? ⟨w.heap.size, 4, none⟩ = some (.int .i64 p.table.start)) (go_keep)
      (first
        | (go_at_call 64; refine (s_machineRight p.table _ _ HF.out.2.2 (HS2.out _ HW2.out).2.1).mono ?_; rintro e w3 ⟨rfl, hb3⟩; rw [HMB.out]; have HW3 := hide (HT.out _ _ HW2.out hb3); have X3 := (HS2.out _ HW3.out).2.2.1; have z0 := X3.cell 0 _ rfl; have z1 := X3.cell 1 _ rfl; have z2 := X3.cell 2 _ rfl; have z3 := X3.cell 3 _ rfl; have z4 := X3.cell 4 _ rfl; clear hb3 X3)
        | (go_at_call 62; refine (s_among (rolesS p.plan) p.role _ _ (HR2.out.texts (by have := HTV.out.2.2; omega))).mono ?_; rintro e w4 ⟨rfl, rfl⟩; rw [HTV.out.1])
        | (go_at_call 63; refine (s_roles p.plan _ _ (HS2.out _ HW1.out).1 HTV.out.2.1).mono ?_; rintro e w2 ⟨v2, rfl, hs2, hb2⟩; have HR2 := hide hs2; have HW2 := hide (HT.out _ _ HW1.out hb2); have X2 := (HS2.out _ HW2.out).2.2.1; have y0 := X2.cell 0 _ rfl; have y1 := X2.cell 1 _ rfl; have y2 := X2.cell 2 _ rfl; have y3 := X2.cell 3 _ rfl; have y4 := X2.cell 4 _ rfl; clear hb2 X2 hs2)
        | (go_at_call 9; refine (s_sound p.plan _ HQ.out _ _ HF.out.1.2 (HS2.out _ (Below.refl _ _).drew).1).mono ?_; rintro e w1 ⟨rfl, hb1⟩; have HW1 := hide (HT.out _ _ (Below.refl _ _).drew hb1); have X1 := (HS2.out _ HW1.out).2.2.1; have x0 := X1.cell 0 _ rfl; have x1 := X1.cell 1 _ rfl; have x2 := X1.cell 2 _ rfl; have x3 := X1.cell 3 _ rfl; have x4 := X1.cell 4 _ rfl; clear hb1 X1))
      all_goals
        go_wp2_with fail
        go_ret
        exact ⟨ret_bool HA.out, (HS2.out _ HW3.out).2.2.2⟩
end Go.Proofs.YtlcafjckaahmaaaGreat
