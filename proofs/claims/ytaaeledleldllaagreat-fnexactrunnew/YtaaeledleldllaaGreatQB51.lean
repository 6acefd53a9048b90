import Derived.Test.YtaaeledleldllaaGreatQB50
import Derived.Test.YtaaeledleldllaaGreatQB09
import Derived.Deep.RegionHeld3
import Derived.Test.YtaaeledleldllaaGreatQB34
import Derived.Test.YtaaeledleldllaaGreatQB42
import Derived.RangeFuncLeaves
namespace Go.Proofs.YtaaeledleldllaaGreat
open Go.RowKit

abbrev PtRow := @MRowO PU PU.u PU.cells 139 4
structure CoAt (w : World) (base cb : Nat) (pv sv nv qv ev : Value) (st : Int) (r : Rn) (xs : List PU) : Prop where
  box : BoxL w cb [pv, sv, nv, .int .i64 st, qv, ev]
  row : PtRow w base qv xs
  plan : NdOwn w base pv r.plan
  sts : NuOwn w base sv r.states
  net : RMsgOwn w base nv r.net
theorem CoAt.below {w w' : World} {base cb : Nat} {pv sv nv qv ev : Value} {st : Int} {r : Rn} {xs : List PU} (h : CoAt w base cb pv sv nv qv ev st r xs) (hb : Below w.heap.size w w') : CoAt w' base cb pv sv nv qv ev st r xs :=
  ⟨h.box.keep (below_apart hb) (by simp), h.row.below hb, owns_below h.plan hb, owns_below h.sts hb, owns_below h.net hb⟩
set_option maxRecDepth 100000 in
set_option maxHeartbeats 2000000 in
theorem states_right {q : Bool} {r : Rn} {xs : List PU} (hq : stsB (xs.map fun x => x.u.m) r.states = q) (w : World) (base cb : Nat) (pv sv nv qv ev : Value) (st : Int) (hl : xs.length ≤ 4) (hsl : r.states.length ≤ 1048576) (h : CoAt w base cb pv sv nv qv ev st r xs) :
    Calls Tryz.prog 89 #[.pointer (some ⟨cb, 0, none⟩)] w fun e w' => e = .returned (.bool q) ∧ Below w.heap.size w w' := by
  have HQ := hide hq
  obtain ⟨pa, pc, rfl⟩ := owns_shape h.plan
  obtain ⟨sa, sc, rfl⟩ := owns_shape h.sts
  obtain ⟨na, nc, rfl⟩ := owns_shape h.net
  obtain ⟨qa, qc, rfl⟩ := owns_shape h.row.own
  have H := hide h
  have d1 := h.box.cell 1 _ rfl
  have d4 := h.box.cell 4 _ rfl
  clear hq h
  by_cases hlen : r.states.length = xs.length
  · have HLEN := hide hlen
    rw [hlen] at d1 H
    clear hlen
    go_enter Tryz.func89, Tryz.ntmps89
    go_wp2_with fail
    go_region_held3 (fun w' => w'.cell? ⟨cb, 1, none⟩ = some (.slice sa xs.length sc) ∧ w'.cell? ⟨cb, 4, none⟩ = some (.slice qa xs.length qc)) (go_keep) (first | fail)
    all_goals
      go_wp2_with fail
      go_loopw [22] (fun i wr => ∃ k : Nat, k ≤ xs.length ∧ i = .int .i64 k ∧ (∀ j (h : j < xs.length) (h2 : j < r.states.length), j < k → stOk xs[j].u.m r.states[j] = true) ∧ Below w.heap.size w wr) (fun i _ => xs.length - (intOf i).toNat)
      case atStart => exact ⟨0, Nat.zero_le _, rfl, fun j _ _ h => absurd h (by omega), (Below.refl _ _).drew⟩
      case round =>
        obtain ⟨k, hk, rfl, hall, hbel⟩ := hrel
        have HA := hide hall
        have HBEL := hide hbel
        clear hall hbel
        by_cases hlt : k < xs.length
        · obtain ⟨g, c, hpm, hcc, hcells⟩ := mrow_get H.out.row (fun u => rfl) hlt
          injection hpm with e1 e2 e3
          subst e1
          clear e2 e3
          have hks : k < r.states.length := by rw [HLEN.out]; exact hlt
          have hsts : NuOwn w base (.slice sa xs.length sc) r.states := H.out.sts
          obtain ⟨ao, cap, es, hsc, -, hsr⟩ := hsts.sl (by omega)
          injection es with f1 f2 f3
          obtain ⟨sb, so, hsa, hsb, hnums⟩ := hsr (by intro h; rw [h] at hks; simp at hks)
          rw [hsa] at f1
          subst f1
          clear f2 f3 hsa
          have n0 := (HBEL.out.cell (p := ⟨sb, so + k, none⟩) hsb).trans (hnums k hks)
          have d1r := (HBEL.out.cell (p := ⟨cb, 1, none⟩) H.out.box.lt).trans d1
          have hmem : xs[k] ∈ xs := List.getElem_mem hlt
          have hok := H.out.row.ok xs[k] hmem
          have HNO : Hid (stOk xs[k].u.m r.states[k] = false → stsB (xs.map fun x => x.u.m) r.states = false) := hide (fun h => by
            refine sts_no (k := k) (m := xs[k].u.m) (s := r.states[k]) ?_ (List.getElem?_eq_getElem hks) h
            rw [List.getElem?_map, List.getElem?_eq_getElem hlt]
            rfl)
          have HQS : Hid (∀ q, stOk xs[k].u.m r.states[k] = q → ∀ W, Below w.heap.size w W → Calls Tryz.prog 110 #[xs[k].u.val, .int .i64 r.states[k]] W fun e w' => e = .returned (.bool q) ∧ Below W.heap.size W w') := hide (fun q hq W hW => has_state hq _ W (hok.at_.carry hW))
          have m0 := (HBEL.out.cell (p := ⟨g, _, none⟩) (World.block_lt_of_cell? w _ (hcells 0 _ rfl))).trans (hcells 0 _ rfl)
          have m1 := (HBEL.out.cell (p := ⟨g, _, none⟩) (World.block_lt_of_cell? w _ (hcells 1 _ rfl))).trans (hcells 1 _ rfl)
          have m2 := (HBEL.out.cell (p := ⟨g, _, none⟩) (World.block_lt_of_cell? w _ (hcells 2 _ rfl))).trans (hcells 2 _ rfl)
          have m3 := (HBEL.out.cell (p := ⟨g, _, none⟩) (World.block_lt_of_cell? w _ (hcells 3 _ rfl))).trans (hcells 3 _ rfl)
          have hsh := hok.shape
          have HST : Hid (∀ j (h : j < xs.length) (h2 : j < r.states.length), j < k + 1 → stOk xs[k].u.m r.states[k] = true → stOk xs[j].u.m r.states[j] = true) := hide (fun j h h2 hj hh => by
            by_cases e : j = k
            · subst e; exact hh
            · exact HA.out j h h2 (by omega))
          obtain ⟨u1, hu1⟩ : ∃ u1, u1 = xs[k] := ⟨_, rfl⟩
          obtain ⟨s1, hs1⟩ : ∃ s1, s1 = r.states[k] := ⟨_, rfl⟩
          rw [← hu1] at HNO HQS m0 m1 m2 m3 hsh HST
          rw [← hs1] at HNO HQS n0 HST
          clear hu1 hs1 hcells hok hmem hnums hsr hsts
          obtain ⟨q5, hq5⟩ : ∃ q, stOk u1.u.m s1 = q := ⟨_, rfl⟩
          replace HQS := hide (HQS.out q5 hq5)
          rw [hq5] at HNO HST
          clear hq5
          obtain ⟨role, sv, ev', m⟩ := u1
          replace hsh : (∃ ps cs, sv = .slice ps m.states.length cs) ∧ ∃ pe ce, ev' = .slice pe m.edges.length ce := hsh
          obtain ⟨⟨ps, cs, rfl⟩, ⟨pe, ce, rfl⟩⟩ := hsh
          unfold MU.val at HQS
          replace m0 : wr.cell? ⟨g, k * 4, none⟩ = some (.string role) := m0
          replace m1 : wr.cell? ⟨g, k * 4 + 1, none⟩ = some (.slice ps m.states.length cs) := m1
          replace m2 : wr.cell? ⟨g, k * 4 + 2, none⟩ = some (.slice pe m.edges.length ce) := m2
          replace m3 : wr.cell? ⟨g, k * 4 + 3, none⟩ = some (.int .i64 m.start) := m3
          have hcbl : cb < wr.heap.size := Nat.lt_of_lt_of_le H.out.box.lt HBEL.out.size
          have hsbl : sb < wr.heap.size := World.block_lt_of_cell? wr _ n0
          cases q5
          · replace HNO := hide (HNO.out rfl)
            go_wp2_with fail
            obtain ⟨WA, hWA⟩ : ∃ WA, WA = wr.alloc (.cells #[.string role, .slice ps m.states.length cs, .slice pe m.edges.length ce, .int .i64 m.start] 139) := ⟨_, rfl⟩
            have HBA : Hid (Below wr.heap.size wr WA) := hide (by rw [hWA]; exact malloc1 _ _)
            have XA : BoxL WA wr.heap.size [.string role, .slice ps m.states.length cs, .slice pe m.edges.length ce, .int .i64 m.start] := by rw [hWA]; exact BoxL.new wr [.string role, .slice ps m.states.length cs, .slice pe m.edges.length ce, .int .i64 m.start] 139
            rw [← hWA]
            have q1 := XA.cell 1 _ rfl
            have q2 := XA.cell 2 _ rfl
            have q3 := XA.cell 3 _ rfl
            have d1a := (HBA.out.cell (p := ⟨cb, 1, none⟩) hcbl).trans d1r
            have n0a := (HBA.out.cell (p := ⟨sb, so + k, none⟩) hsbl).trans n0
            have HBW : Hid (Below w.heap.size w WA) := hide (HBEL.out.trans (HBA.out.mono HBEL.out.size))
            have HXA := hide XA
            clear hWA XA
            go_region_held3 (fun w' => w'.cell? ⟨wr.heap.size, 1, none⟩ = some (.slice ps m.states.length cs) ∧ w'.cell? ⟨wr.heap.size, 2, none⟩ = some (.slice pe m.edges.length ce) ∧ w'.cell? ⟨wr.heap.size, 3, none⟩ = some (.int .i64 m.start) ∧ w'.cell? ⟨cb, 1, none⟩ = some (.slice (some ⟨sb, so, none⟩) xs.length sc) ∧ w'.cell? ⟨sb, so + k, none⟩ = some (.int .i64 s1)) (go_keep)
              (first
                | (go_at_call 110; refine (HQS.out _ HBW.out.drew).mono ?_; rintro e w6 ⟨rfl, hb6⟩; have HB6 : Hid (Below WA.heap.size WA w6) := hide ((Below.refl _ _).drew.trans hb6); have Z := HXA.out.keep (below_apart HB6.out) (by simp); have z1 := Z.cell 1 _ rfl; have z2 := Z.cell 2 _ rfl; have z3 := Z.cell 3 _ rfl; have z4 := (HB6.out.cell (p := ⟨cb, 1, none⟩) (World.block_lt_of_cell? WA _ d1a)).trans d1a; have z5 := (HB6.out.cell (p := ⟨sb, so + k, none⟩) (World.block_lt_of_cell? WA _ n0a)).trans n0a; clear hb6 Z))
            all_goals
              go_wp2_with fail
              go_ret
              exact ⟨ret_bool (HQ.out.symm.trans HNO.out), HBW.out.trans (HB6.out.mono HBW.out.size)⟩
          · replace HST := hide (fun j h h2 hj => HST.out j h h2 hj rfl)
            go_wp2_with fail
            obtain ⟨WA, hWA⟩ : ∃ WA, WA = wr.alloc (.cells #[.string role, .slice ps m.states.length cs, .slice pe m.edges.length ce, .int .i64 m.start] 139) := ⟨_, rfl⟩
            have HBA : Hid (Below wr.heap.size wr WA) := hide (by rw [hWA]; exact malloc1 _ _)
            have XA : BoxL WA wr.heap.size [.string role, .slice ps m.states.length cs, .slice pe m.edges.length ce, .int .i64 m.start] := by rw [hWA]; exact BoxL.new wr [.string role, .slice ps m.states.length cs, .slice pe m.edges.length ce, .int .i64 m.start] 139
            rw [← hWA]
            have q1 := XA.cell 1 _ rfl
            have q2 := XA.cell 2 _ rfl
            have q3 := XA.cell 3 _ rfl
            have d1a := (HBA.out.cell (p := ⟨cb, 1, none⟩) hcbl).trans d1r
            have n0a := (HBA.out.cell (p := ⟨sb, so + k, none⟩) hsbl).trans n0
            have HBW : Hid (Below w.heap.size w WA) := hide (HBEL.out.trans (HBA.out.mono HBEL.out.size))
            have HXA := hide XA
            clear hWA XA
            go_region_held3 (fun w' => w'.cell? ⟨wr.heap.size, 1, none⟩ = some (.slice ps m.states.length cs) ∧ w'.cell? ⟨wr.heap.size, 2, none⟩ = some (.slice pe m.edges.length ce) ∧ w'.cell? ⟨wr.heap.size, 3, none⟩ = some (.int .i64 m.start) ∧ w'.cell? ⟨cb, 1, none⟩ = some (.slice (some ⟨sb, so, none⟩) xs.length sc) ∧ w'.cell? ⟨sb, so + k, none⟩ = some (.int .i64 s1)) (go_keep)
              (first
                | (go_at_call 110; refine (HQS.out _ HBW.out.drew).mono ?_; rintro e w6 ⟨rfl, hb6⟩; have HB6 : Hid (Below WA.heap.size WA w6) := hide ((Below.refl _ _).drew.trans hb6); have Z := HXA.out.keep (below_apart HB6.out) (by simp); have z1 := Z.cell 1 _ rfl; have z2 := Z.cell 2 _ rfl; have z3 := Z.cell 3 _ rfl; have z4 := (HB6.out.cell (p := ⟨cb, 1, none⟩) (World.block_lt_of_cell? WA _ d1a)).trans d1a; have z5 := (HB6.out.cell (p := ⟨sb, so + k, none⟩) (World.block_lt_of_cell? WA _ n0a)).trans n0a; clear hb6 Z))
            all_goals
              go_wp2_with fail
              go_roundw
              case rel => exact ⟨k + 1, hlt, by go_num, fun j h h2 hj => HST.out j h h2 hj, HBW.out.trans (HB6.out.mono HBW.out.size)⟩
              case measure => simp [intOf]; omega
        · have hfin : stsB (xs.map fun x => x.u.m) r.states = true := by
            refine sts_all (by rw [List.length_map]; exact HLEN.out) (fun j hj => ?_)
            rw [List.length_map] at hj
            have h2 : j < r.states.length := by rw [HLEN.out]; exact hj
            have h3 := HA.out j hj h2 (by omega)
            rw [List.getElem_map]
            exact h3
          have HFIN := hide (HQ.out.symm.trans hfin)
          clear hfin
          go_wp2_with fail
          go_ret
          exact ⟨ret_bool HFIN.out, HBEL.out⟩
  · go_enter Tryz.func89, Tryz.ntmps89
    go_wp2_with fail
    go_region_held3 (fun w' => w'.cell? ⟨cb, 1, none⟩ = some (.slice sa r.states.length sc) ∧ w'.cell? ⟨cb, 4, none⟩ = some (.slice qa xs.length qc)) (go_keep) (first | fail)
    all_goals
      go_wp2_with fail
      go_ret
      exact ⟨ret_bool (HQ.out.symm.trans (sts_len (by simpa using hlen))), (Below.refl _ _).drew⟩
end Go.Proofs.YtaaeledleldllaaGreat
namespace Go.Proofs.YtaaeledleldllaaGreat
open Go.RowKit

def FindIs (xs : List PU) (role : ByteArray) (z : Int) : Prop := (∃ k : Nat, ∃ h : k < xs.length, z = (k : Int) ∧ (xs[k].role.toList == role.toList) = true ∧ ∀ j (hj : j < k), (xs[j].role.toList == role.toList) = false) ∨ (z = -1 ∧ ∀ j (hj : j < xs.length), (xs[j].role.toList == role.toList) = false)
theorem find_fn (x : PU) (role : ByteArray) (ps : Option Addr) (cs : Nat) (pe : Option Addr) (ce : Nat) (q : Bool) (hq : (x.role.toList == role.toList) = q) (_hs : x.u.sv = .slice ps x.u.m.states.length cs) (_he : x.u.ev = .slice pe x.u.m.edges.length ce) (rb : Nat) (w : World) (hr : w.cell? ⟨rb, 0, none⟩ = some (.string role)) :
    Calls Tryz.prog 185 #[.agg #[.string x.role, .slice ps x.u.m.states.length cs, .slice pe x.u.m.edges.length ce, .int .i64 x.u.m.start], .pointer (some ⟨rb, 0, none⟩)] w fun e w' => e = .returned (.bool q) ∧ Below w.heap.size w w' := by
  have hlt := World.block_lt_of_cell? w _ hr
  have hr2 : ∀ o : Obj, (w.alloc o).cell? ⟨rb, 0, none⟩ = some (.string role) := fun o => ((malloc1 w o).cell (p := ⟨rb, 0, none⟩) hlt).trans hr
  have HQ := hide hq
  clear hq
  go_enter Tryz.func185, Tryz.ntmps185
  go_wp2_with fail
  go_ret
  exact ⟨ret_bool HQ.out.symm, malloc1 _ _⟩
set_option maxRecDepth 100000 in
set_option maxHeartbeats 2000000 in
theorem index_role (xs : List PU) (role : ByteArray) (base rb : Nat) (qv : Value) (w : World) (hl : xs.length ≤ 4) (h : PtRow w base qv xs) (hr : w.cell? ⟨rb, 0, none⟩ = some (.string role)) :
    Calls Tryz.prog 184 #[qv, .func (.func 185) #[] #[.pointer (some ⟨rb, 0, none⟩)]] w fun e w' => ∃ z, e = .returned (.int .i64 z) ∧ FindIs xs role z ∧ Below w.heap.size w w' := by
  obtain ⟨qa, qc, rfl⟩ := owns_shape h.own
  have H := hide h
  have hlt0 := World.block_lt_of_cell? w _ hr
  clear h
  have hcf : ∀ (a b : Value) (W : World), (callFunc 185 #[a, b]).run Tryz.prog W = .ok (.enter 185 #[a, b]) W := fun a b W => by kernel_rfl
  go_enter Tryz.func184, Tryz.ntmps184
  go_wp2_with fail
  go_loopw [8] (fun i wr => ∃ k : Nat, k ≤ xs.length ∧ i = .int .i64 k ∧ (∀ j (h : j < xs.length), j < k → (xs[j].role.toList == role.toList) = false) ∧ Below w.heap.size w wr) (fun i _ => xs.length - (intOf i).toNat)
  case atStart => exact ⟨0, Nat.zero_le _, rfl, fun j _ h => absurd h (by omega), Below.refl _ _⟩
  case round =>
    obtain ⟨k, hk, rfl, hall, hbel⟩ := hrel
    have HA := hide hall
    have HBEL := hide hbel
    clear hall hbel
    by_cases hlt : k < xs.length
    · obtain ⟨g, c, hpm, hcc, hcells⟩ := mrow_get H.out (fun u => rfl) hlt
      injection hpm with e1 e2 e3
      subst e1
      clear e2 e3
      have hok := H.out.ok xs[k] (List.getElem_mem hlt)
      have m0 := (HBEL.out.cell (p := ⟨g, _, none⟩) (World.block_lt_of_cell? w _ (hcells 0 _ rfl))).trans (hcells 0 _ rfl)
      have m1 := (HBEL.out.cell (p := ⟨g, _, none⟩) (World.block_lt_of_cell? w _ (hcells 1 _ rfl))).trans (hcells 1 _ rfl)
      have m2 := (HBEL.out.cell (p := ⟨g, _, none⟩) (World.block_lt_of_cell? w _ (hcells 2 _ rfl))).trans (hcells 2 _ rfl)
      have m3 := (HBEL.out.cell (p := ⟨g, _, none⟩) (World.block_lt_of_cell? w _ (hcells 3 _ rfl))).trans (hcells 3 _ rfl)
      have hsh := hok.shape
      obtain ⟨q, hq⟩ : ∃ q, (xs[k].role.toList == role.toList) = q := ⟨_, rfl⟩
      have HFN : Hid (∀ ps cs pe ce W, xs[k].u.sv = .slice ps xs[k].u.m.states.length cs → xs[k].u.ev = .slice pe xs[k].u.m.edges.length ce → Below w.heap.size w W → Calls Tryz.prog 185 #[.agg #[.string xs[k].role, .slice ps xs[k].u.m.states.length cs, .slice pe xs[k].u.m.edges.length ce, .int .i64 xs[k].u.m.start], .pointer (some ⟨rb, 0, none⟩)] W fun e w' => e = .returned (.bool q) ∧ Below W.heap.size W w') := hide (fun ps cs pe ce W h1 h2 hb => find_fn xs[k] role ps cs pe ce q hq h1 h2 rb W ((hb.cell (p := ⟨rb, 0, none⟩) hlt0).trans hr))
      have HQ := hide hq
      clear hq hcells hok
      have HALL : Hid (q = false → ∀ j (h : j < xs.length), j < k + 1 → (xs[j].role.toList == role.toList) = false) := hide (fun e j h hj => by
        by_cases ej : j = k
        · subst ej; rw [HQ.out]; exact e
        · exact HA.out j h (by omega))
      obtain ⟨u1, hu1⟩ : ∃ u1, u1 = xs[k] := ⟨_, rfl⟩
      rw [← hu1] at HFN m0 m1 m2 m3 hsh
      clear hu1
      obtain ⟨ro, sv, ev', m⟩ := u1
      replace hsh : (∃ ps cs, sv = .slice ps m.states.length cs) ∧ ∃ pe ce, ev' = .slice pe m.edges.length ce := hsh
      obtain ⟨⟨ps, cs, rfl⟩, ⟨pe, ce, rfl⟩⟩ := hsh
      replace HFN := hide (HFN.out ps cs pe ce wr rfl rfl HBEL.out)
      replace m0 : wr.cell? ⟨g, k * 4, none⟩ = some (.string ro) := m0
      replace m1 : wr.cell? ⟨g, k * 4 + 1, none⟩ = some (.slice ps m.states.length cs) := m1
      replace m2 : wr.cell? ⟨g, k * 4 + 2, none⟩ = some (.slice pe m.edges.length ce) := m2
      replace m3 : wr.cell? ⟨g, k * 4 + 3, none⟩ = some (.int .i64 m.start) := m3
      cases q
      · replace HALL := hide (HALL.out rfl)
        go_wp2_with (go_at_call 185; refine HFN.out.mono ?_; rintro e w2 ⟨rfl, hb2⟩; have HB2 := hide hb2; clear hb2)
        go_roundw
        case rel => exact ⟨k + 1, hlt, by go_num, HALL.out, HBEL.out.trans (HB2.out.mono HBEL.out.size)⟩
        case measure => simp [intOf]; omega
      · go_wp2_with (go_at_call 185; refine HFN.out.mono ?_; rintro e w2 ⟨rfl, hb2⟩; have HB2 := hide hb2; clear hb2)
        go_ret
        exact ⟨_, rfl, .inl ⟨k, hlt, rfl, HQ.out, fun j hj => HA.out j (by omega) hj⟩, HBEL.out.trans (HB2.out.mono HBEL.out.size)⟩
    · go_wp2_with fail
      go_ret
      exact ⟨_, rfl, .inr ⟨rfl, fun j hj => HA.out j hj (by omega)⟩, HBEL.out⟩
set_option maxHeartbeats 1000000 in
theorem i_find {r : Rn} {xs : List PU} (role : ByteArray) (w : World) (base cb : Nat) (pv sv nv qv ev : Value) (st : Int) (hl : xs.length ≤ 4) (h : CoAt w base cb pv sv nv qv ev st r xs) :
    Calls Tryz.prog 140 #[.pointer (some ⟨cb, 0, none⟩), .string role] w fun e w' => ∃ z, e = .returned (.int .i64 z) ∧ FindIs xs role z ∧ Below w.heap.size w w' := by
  have H := hide (h.below (malloc1 w (.cells #[.string role] 9)))
  obtain ⟨qa, qc, rfl⟩ := owns_shape h.row.own
  have d4 := H.out.box.cell 4 _ rfl
  have c0 := (BoxL.new w [.string role] 9).cell 0 _ rfl
  clear h
  have hmf : ∀ (fn : Fn) (first cap : Array Value) (w : World), (Instr.makeFunc fn first cap).run Tryz.prog w = .ok (.func fn first cap) w := fun _ _ _ _ => rfl
  go_enter Tryz.func140, Tryz.ntmps140
  go_wp2_with (go_at_call 184; refine (index_role xs role base w.heap.size _ _ hl H.out.row c0).mono ?_; rintro e w2 ⟨z, rfl, hz, hb2⟩; have HZ := hide hz; have HB2 := hide hb2; clear hz hb2)
  go_ret
  exact ⟨z, rfl, HZ.out, (malloc1 _ _).trans (HB2.out.mono (by simp))⟩

theorem find_has {xs : List PU} {role : ByteArray} {z : Int} (h : FindIs xs role z) : (z = -1 ∧ hasB (xs.map PU.role) role = false) ∨ (0 ≤ z ∧ z < (xs.length : Int) ∧ hasB (xs.map PU.role) role = true) := by
  rcases h with ⟨k, hk, rfl, h1, -⟩ | ⟨rfl, h1⟩
  · refine .inr ⟨by omega, by omega, has_iff.2 ?_⟩
    rw [← tl_inj (beq_iff_eq.1 h1)]
    exact List.mem_map.2 ⟨xs[k], List.getElem_mem hk, rfl⟩
  · refine .inl ⟨rfl, ?_⟩
    cases hh : hasB (xs.map PU.role) role with
    | false => rfl
    | true =>
      obtain ⟨x, hx, e⟩ := List.mem_map.1 (has_iff.1 hh)
      obtain ⟨j, hj, rfl⟩ := List.getElem_of_mem hx
      have := h1 j hj
      rw [e] at this
      simp at this
theorem find_is {r : Rn} {xs : List PU} {q : Bool} (role : ByteArray) (hq : hasB (xs.map PU.role) role = q) (w : World) (base cb : Nat) (pv sv nv qv ev : Value) (st : Int) (hl : xs.length ≤ 4) (h : CoAt w base cb pv sv nv qv ev st r xs) :
    Calls Tryz.prog 140 #[.pointer (some ⟨cb, 0, none⟩), .string role] w fun e w' => ∃ z : Int, e = .returned (.int .i64 z) ∧ (decide (z = -1)) = !q ∧ (z = -1 ∨ 0 ≤ z) ∧ Below w.heap.size w w' :=
  (i_find role w base cb pv sv nv qv ev st hl h).mono fun e w' ⟨z, he, hz, hb⟩ => by
    refine ⟨z, he, ?_, ?_, hb⟩
    · rcases find_has hz with ⟨h1, h2⟩ | ⟨h1, h2, h3⟩
      · rw [← hq, h2, h1]; rfl
      · rw [← hq, h3]; simp; omega
    · rcases find_has hz with ⟨h1, -⟩ | ⟨h1, -, -⟩
      · exact .inl h1
      · exact .inr h1
set_option maxRecDepth 100000 in
set_option maxHeartbeats 2000000 in
theorem among_roles {q : Bool} {r : Rn} {xs : List PU} (hq : amongB (xs.map PU.role) r.net = q) (w : World) (base cb : Nat) (pv sv nv qv ev : Value) (st : Int) (hl : xs.length ≤ 4) (h36 : r.net.length ≤ 36) (h : CoAt w base cb pv sv nv qv ev st r xs) :
    Calls Tryz.prog 90 #[.pointer (some ⟨cb, 0, none⟩)] w fun e w' => e = .returned (.bool q) ∧ Below w.heap.size w w' := by
  have HQ := hide hq
  have HFI : Hid (∀ (role : ByteArray) (q : Bool) (W : World), hasB (xs.map PU.role) role = q → Below w.heap.size w W → Calls Tryz.prog 140 #[.pointer (some ⟨cb, 0, none⟩), .string role] W fun e w' => ∃ z : Int, e = .returned (.int .i64 z) ∧ (decide (z = -1)) = !q ∧ (z = -1 ∨ 0 ≤ z) ∧ Below W.heap.size W w') := hide (fun role q W hq hb => find_is role hq W base cb pv sv nv qv ev st hl (h.below hb))
  have hsl := h.net.sl (by omega)
  have d2 := h.box.cell 2 _ rfl
  have HLT := hide h.box.lt
  obtain ⟨na, nc, rfl, hc, hm, hr⟩ := hsl
  have HR := hide hr
  clear hq h hr
  go_enter Tryz.func90, Tryz.ntmps90
  go_wp2_with fail
  go_loopw [11] (fun i wr => ∃ k : Nat, k ≤ r.net.length ∧ i = .int .i64 k ∧ (∀ j (h : j < r.net.length), j < k → (hasB (xs.map PU.role) r.net[j].frm && hasB (xs.map PU.role) r.net[j].to) = true) ∧ Below w.heap.size w wr) (fun i _ => r.net.length - (intOf i).toNat)
  case atStart => exact ⟨0, Nat.zero_le _, rfl, fun j _ h => absurd h (by omega), Below.refl _ _⟩
  case round =>
    obtain ⟨k, hk, rfl, hall, hbel⟩ := hrel
    have HA := hide hall
    have HBEL := hide hbel
    clear hall hbel
    by_cases hlt : k < r.net.length
    · obtain ⟨b, o, rfl, hbB, hrow⟩ := HR.out (by intro h; simp [h] at hlt)
      have hnode := (hrow.get k hlt).carry hbB HBEL.out
      have HNO := hide (among_no (rs := xs.map PU.role) hlt)
      obtain ⟨x1, hx1⟩ : ∃ x1, x1 = r.net[k] := ⟨_, rfl⟩
      rw [← hx1] at hnode HNO
      have HX := hide hx1
      obtain ⟨d0, d1, e2, e3⟩ := hnode
      obtain ⟨q1, hq1⟩ : ∃ q1, hasB (xs.map PU.role) x1.frm = q1 := ⟨_, rfl⟩
      obtain ⟨q2, hq2⟩ : ∃ q2, hasB (xs.map PU.role) x1.to = q2 := ⟨_, rfl⟩
      have HQ1 := hide hq1
      have HQ2 := hide hq2
      clear hx1 hrow hq1 hq2
      cases q1
      · go_wp2_with (go_at_call 140; refine (HFI.out x1.frm false _ HQ1.out (HBEL.out.trans ((malloc1 _ _).mono HBEL.out.size))).mono ?_; rintro e w1 ⟨z1, rfl, hz1, hzz1, hb1⟩; have hz1' : z1 = -1 := (by simpa using hz1); subst hz1'; have HB1 := hide hb1; clear hb1 hz1 hzz1)
        go_ret
        exact ⟨ret_bool (HQ.out.symm.trans (HNO.out (by rw [HQ1.out]; rfl))), HBEL.out.trans (((malloc1 wr _).trans (HB1.out.mono (by simp))).mono HBEL.out.size)⟩
      · cases q2
        · go_wp2_with (first
            | (go_at_call 140; (fail_if_success (have := HB1)); refine (HFI.out x1.frm true _ HQ1.out (HBEL.out.trans ((malloc1 _ _).mono HBEL.out.size))).mono ?_; rintro e w1 ⟨z1, rfl, hz1, hzz1, hb1⟩; have hz1' : ¬ z1 = -1 := (by simpa using hz1); have hz1b : (z1 == (-1 : Int)) = false := (by simpa using hz1'); have HB1 := hide hb1; have t1 := (hb1.cell (p := ⟨wr.heap.size, 1, none⟩) (by simp)); simp at t1; clear hb1 hz1 hzz1)
            | (go_at_call 140; refine (HFI.out x1.to false _ HQ2.out ((HBEL.out.trans ((malloc1 _ _).mono HBEL.out.size)).trans (HB1.out.mono (by have := HBEL.out.size; simp; omega)))).mono ?_; rintro e w2 ⟨z2, rfl, hz2, hzz2, hb2⟩; have hz2' : z2 = -1 := (by simpa using hz2); subst hz2'; have HB2 := hide hb2; clear hb2 hz2 hzz2))
          go_ret
          exact ⟨ret_bool (HQ.out.symm.trans (HNO.out (by rw [HQ1.out, HQ2.out]; rfl))), HBEL.out.trans ((((malloc1 wr _).trans (HB1.out.mono (by simp))).trans (HB2.out.mono (by have := HB1.out.size; simp at this; omega))).mono HBEL.out.size)⟩
        · go_wp2_with (first
            | (go_at_call 140; (fail_if_success (have := HB1)); refine (HFI.out x1.frm true _ HQ1.out (HBEL.out.trans ((malloc1 _ _).mono HBEL.out.size))).mono ?_; rintro e w1 ⟨z1, rfl, hz1, hzz1, hb1⟩; have hz1' : ¬ z1 = -1 := (by simpa using hz1); have hz1b : (z1 == (-1 : Int)) = false := (by simpa using hz1'); have HB1 := hide hb1; have t1 := (hb1.cell (p := ⟨wr.heap.size, 1, none⟩) (by simp)); simp at t1; clear hb1 hz1 hzz1)
            | (go_at_call 140; refine (HFI.out x1.to true _ HQ2.out ((HBEL.out.trans ((malloc1 _ _).mono HBEL.out.size)).trans (HB1.out.mono (by have := HBEL.out.size; simp; omega)))).mono ?_; rintro e w2 ⟨z2, rfl, hz2, hzz2, hb2⟩; have hz2' : ¬ z2 = -1 := (by simpa using hz2); have hz2b : (z2 == (-1 : Int)) = false := (by simpa using hz2'); have HB2 := hide hb2; clear hb2 hz2 hzz2))
          go_roundw
          case rel =>
            refine ⟨k + 1, hlt, by go_num, fun j hj hjk => ?_, HBEL.out.trans ((((malloc1 wr _).trans (HB1.out.mono (by simp))).trans (HB2.out.mono (by have := HB1.out.size; simp at this; omega))).mono HBEL.out.size)⟩
            by_cases e : j = k
            · subst e; rw [← HX.out, HQ1.out, HQ2.out]; rfl
            · exact HA.out j hj (by omega)
          case measure => simp [intOf]; omega
    · go_wp2_with fail
      go_ret
      exact ⟨ret_bool (HQ.out.symm.trans (among_all (fun j hj => HA.out j hj (by omega)))), HBEL.out⟩
end Go.Proofs.YtaaeledleldllaaGreat
namespace Go.Proofs.YtaaeledleldllaaGreat
open Go.RowKit
attribute [local go_sem] Oper.semAt_some

theorem Tryz.infoPt : (Tryz.prog.info? 139).map (fun i => (i.zero, i.size, i.bytes)) = some (some (.agg #[.string ByteArray.empty, .slice none 0 0, .slice none 0 0, .int .i64 0]), 4, 72) := by kernel_rfl
theorem parties_of (v : Value) (w : World) (hv : ∃ a b c, v = .slice a b c) : Calls Tryz.prog 88 #[v] w fun e w' => e = .returned (.func (.func 138) #[] #[.pointer (some ⟨w.heap.size, 0, none⟩)]) ∧ w' = w.alloc (.cells #[v] 25) := by
  obtain ⟨a, b, c, rfl⟩ := hv
  have hmf : ∀ (fn : Fn) (first cap : Array Value) (w : World), (Instr.makeFunc fn first cap).run Tryz.prog w = .ok (.func fn first cap) w := fun _ _ _ _ => rfl
  go_enter Tryz.func88, Tryz.ntmps88
  go_wp2_with fail
  go_ret
  exact ⟨rfl, rfl⟩
structure CoNew (w : World) (base : Nat) (pt : Value) (r : Rn) (p : Pn 10) (xs : List PU) : Prop where
  at_ : ∃ L cb pv sv nv qv, pt = .pointer (some ⟨cb, 0, none⟩) ∧ CoAt w base cb pv sv nv qv (.slice none 0 0) r.steps r xs ∧ base ≤ cb ∧ cb < L ∧ (∀ b, b ∈ vblocks pv ∨ b ∈ vblocks sv ∨ b ∈ vblocks nv → b < L ∧ b ≠ cb) ∧ (∀ b ∈ vblocks pv, b ∉ vblocks sv ∧ b ∉ vblocks nv) ∧ (∀ b ∈ vblocks sv, b ∉ vblocks nv) ∧ (∀ b ∈ vblocks qv, L ≤ b) ∧ ∀ x ∈ xs, ∀ b ∈ vblocks x.u.val, L ≤ b
  roles : xs.map PU.role = rolesS r.plan
  machs : (xs.map fun x => x.u.m) = (rolesS r.plan).map (machOf p)
structure CoI (W0 : World) (p : Pn 10) (rs : List ByteArray) (cb : Nat) (pv sv nv : Value) (st : Int) (k : Nat) (X : List Nat) (W : World) : Prop where
  at_ : ∃ qv xs, X = cb :: vblocks qv ∧ xs.length = k ∧ xs.map PU.role = rs.take k ∧ (xs.map fun x => x.u.m) = (rs.take k).map (machOf p) ∧ BoxL W cb [pv, sv, nv, .int .i64 st, qv, .slice none 0 0] ∧ PtRow W W0.heap.size qv xs ∧ (∀ x ∈ xs, ∀ b ∈ vblocks x.u.val, W0.heap.size + 2 ≤ b) ∧ Apart W0 W [cb]
theorem coI_below {W0 : World} {p : Pn 10} {rs : List ByteArray} {cb : Nat} {pv sv nv : Value} {st : Int} {k : Nat} {X : List Nat} {W1 W2 : World} (h : CoI W0 p rs cb pv sv nv st k X W1) (hb : Below W1.heap.size W1 W2) : CoI W0 p rs cb pv sv nv st k X W2 := by
  obtain ⟨qv, xs, h1, h2, h3, h4, h5, h6, h7, h8⟩ := h.at_
  exact ⟨qv, xs, h1, h2, h3, h4, h5.keep (below_apart hb) (by simp), h6.below hb, h7, h8.then hb⟩
theorem coI_put {W0 : World} {p : Pn 10} {rs : List ByteArray} {cb : Nat} {pv sv nv : Value} {st : Int} {k : Nat} {X : List Nat} {W W' : World} (h : CoI W0 p rs cb pv sv nv st k X W) (hl : W0.heap.size + 1 ∉ X) (ha : Apart W W' [W0.heap.size + 1]) : CoI W0 p rs cb pv sv nv st k X W' := by
  obtain ⟨qv, xs, rfl, h2, h3, h4, h5, h6, h7, h8⟩ := h.at_
  simp only [List.mem_cons, not_or] at hl
  refine ⟨qv, xs, rfl, h2, h3, h4, h5.keep ha (by simp; omega), h6.keep ha (fun b hb hm => by simp at hm; subst hm; exact hl.2 hb) (fun x hx b hb hm => by simp at hm; have := h7 x hx b hb; omega), h7, ⟨?_, ?_, ?_, ?_, fun b hb hn => ?_⟩⟩
  · exact ha.os.trans h8.os
  · exact ha.tape.trans h8.tape
  · exact ha.output.trans h8.output
  · exact Nat.le_trans h8.size ha.size
  · exact (ha.block b (Nat.lt_of_lt_of_le hb h8.size) (by simp; omega)).trans (h8.block b hb hn)
theorem mrow_push2 {α : Type} {mu : α → MU} {cells : α → List Value} {e : TypeId} {size : Nat} {w w2 : World} {base : Nat} {mv v' : Value} {us : List α} (h : MRowO mu cells e size w base mv us) {u : α} (hu : MUOk w (mu u)) (hn : ∀ b ∈ vblocks (mu u).val, b ∉ vblocks mv ∧ b < w.heap.size) (o : Obj)
    (hown : w2.ownsRow base e size v' (us.length + 1) (us.flatMap cells ++ cells u)) (hg : (w.alloc o).grownBy w2 mv.ownBlock) (hat : v'.ownBlock = mv.ownBlock ∨ v'.ownBlock = some (w.alloc o).heap.size) :
    MRowO mu cells e size w2 base v' (us ++ [u]) ∧ Apart w w2 (vblocks mv) ∧ ∀ b ∈ vblocks v', b ∈ vblocks mv ∨ w.heap.size ≤ b := by
  obtain ⟨p, c, hv⟩ := owns_shape h.own
  obtain ⟨p', c', hv'⟩ := owns_shape hown
  have hA : Apart w w2 (vblocks mv) := by
    rw [hv] at hg ⊢
    have := (below_apart (malloc1 w o)).trans (grownBy_apart hg)
    rwa [List.nil_append] at this
  have sub : ∀ b ∈ vblocks v', b ∈ vblocks mv ∨ w.heap.size ≤ b := fun b hm => by
    have hm' := (own_blocks hv').2 hm
    rcases hat with e | e
    · rw [e] at hm'
      exact .inl ((own_blocks hv).1 hm')
    · rw [e] at hm'
      simp at hm'
      exact .inr (by omega)
  have all : ∀ x ∈ us ++ [u], MUOk w (mu x) ∧ ∀ b ∈ vblocks (mu x).val, b ∉ vblocks mv ∧ b < w.heap.size := fun x hx => by
    rcases List.mem_append.1 hx with hx | hx
    · exact ⟨h.ok x hx, h.off x hx⟩
    · simp at hx
      subst hx
      exact ⟨hu, hn⟩
  refine ⟨⟨?_, fun x hx => (all x hx).1.keep hA (fun b hb => ((all x hx).2 b hb).1), fun x hx b hbx => ⟨fun hm => ?_, Nat.lt_of_lt_of_le ((all x hx).2 b hbx).2 hA.size⟩⟩, hA, sub⟩
  · rw [List.length_append, List.flatMap_append]
    simpa using hown
  · rcases sub b hm with hm | hm
    · exact ((all x hx).2 b hbx).1 hm
    · have := ((all x hx).2 b hbx).2; omega
theorem coI_push {W0 : World} {p : Pn 10} {rs : List ByteArray} {cb : Nat} {pv sv nv : Value} {st : Int} {k : Nat} {qv : Value} {xs : List PU} {Wa W2 W3 : World} {x : PU} (h2 : xs.length = k) (h3 : xs.map PU.role = rs.take k) (h4 : (xs.map fun x => x.u.m) = (rs.take k).map (machOf p)) (h5 : BoxL Wa cb [pv, sv, nv, .int .i64 st, qv, .slice none 0 0]) (h6 : PtRow Wa W0.heap.size qv xs) (h7 : ∀ x ∈ xs, ∀ b ∈ vblocks x.u.val, W0.heap.size + 2 ≤ b) (h8 : Apart W0 Wa [cb]) (hcb : cb < W0.heap.size)
    (hget : rs[k]? = some x.role) (hm : x.u.m = machOf p x.role) (hu : MUOk Wa x.u) (hub : ∀ b ∈ vblocks x.u.val, W0.heap.size + 2 ≤ b ∧ b < Wa.heap.size ∧ b ∉ vblocks qv) (o : Obj) (v' : Value)
    (hown : W2.ownsRow W0.heap.size 139 4 v' (xs.length + 1) (xs.flatMap PU.cells ++ x.cells)) (hg : (Wa.alloc o).grownBy W2 qv.ownBlock) (hat : v'.ownBlock = qv.ownBlock ∨ v'.ownBlock = some (Wa.alloc o).heap.size) (hW3 : W3 = W2.setCell ⟨cb, 4, none⟩ v') :
    Apart Wa W3 (cb :: vblocks qv) ∧ ∃ X', CoI W0 p rs cb pv sv nv st (k + 1) X' W3 ∧ ∀ b ∈ X', b ∈ cb :: vblocks qv ∨ Wa.heap.size ≤ b := by
  obtain ⟨r1, hAb, r3⟩ := mrow_push2 h6 hu (fun b hb => ⟨(hub b hb).2.2, (hub b hb).2.1⟩) o hown hg hat
  have hlow := (owns_fresh h6.own).lo
  have hlow' := (owns_fresh hown).lo
  have hcq : cb ∉ vblocks qv := fun hm' => by have := hlow cb hm'; omega
  have hcq' : cb ∉ vblocks v' := fun hm' => by have := hlow' cb hm'; omega
  have hs3 : Apart W2 W3 [cb] := by rw [hW3]; exact setCell_apart _ _ _ _
  have hA3 : Apart Wa W3 (cb :: vblocks qv) := apart_sub (hAb.trans hs3) (fun b hb => by
    rcases List.mem_append.1 hb with h | h
    · exact List.mem_cons_of_mem _ h
    · simp at h; subst h; exact List.mem_cons_self)
  have hbox : BoxL W3 cb [pv, sv, nv, .int .i64 st, v', .slice none 0 0] := by
    rw [hW3]
    exact (h5.keep hAb hcq).set 4 (by simp) v'
  have hk : k < rs.length := (List.getElem?_eq_some_iff.1 hget).1
  have hge : rs[k] = x.role := (List.getElem?_eq_some_iff.1 hget).2
  have hxm : ∀ y ∈ xs ++ [x], ∀ b ∈ vblocks y.u.val, W0.heap.size + 2 ≤ b := fun y hy b hb => by
    rcases List.mem_append.1 hy with hy | hy
    · exact h7 y hy b hb
    · simp at hy; subst hy; exact (hub b hb).1
  refine ⟨hA3, cb :: vblocks v', ⟨v', xs ++ [x], rfl, by rw [List.length_append, h2]; rfl, ?_, ?_, hbox, r1.keep hs3 (fun b hb hm' => by simp at hm'; subst hm'; exact hcq' hb) (fun y hy b hb hm' => by simp at hm'; have := hxm y hy b hb; omega), hxm, ?_⟩, fun b hb => ?_⟩
  · rw [List.map_append, h3, List.take_succ_eq_append_getElem hk, hge]; rfl
  · rw [List.map_append, h4, List.take_succ_eq_append_getElem hk, List.map_append, hge]
    congr 1
    exact congrArg (fun y => [y]) hm
  · have hall := h8.trans hA3
    refine ⟨hall.os, hall.tape, hall.output, hall.size, fun b hb hn => hall.block b hb (fun hm' => ?_)⟩
    simp only [List.mem_append, List.mem_cons, List.not_mem_nil, or_false] at hm' hn
    rcases hm' with h | h | h
    · exact hn h
    · exact hn h
    · have := hlow b h; omega
  · rcases List.mem_cons.1 hb with rfl | hb
    · exact .inl List.mem_cons_self
    · rcases r3 b hb with h | h
      · exact .inl (List.mem_cons_of_mem _ h)
      · exact .inr h
end Go.Proofs.YtaaeledleldllaaGreat
namespace Go.Proofs.YtaaeledleldllaaGreat
open Go.RowKit
set_option linter.unusedSimpArgs false
attribute [local go_sem] Oper.semAt_some

theorem net_36 {l : List RMsg} (h : netB l = true) : l.length ≤ 36 := by
  unfold netB at h
  rw [Bool.and_eq_true, decide_eq_true_eq] at h
  exact h.1
theorem plan_ne {ns : List Nd} {p : Pn 10} (h : SPlan ns p) : ns ≠ [] := by
  intro e
  have h1 := h.right
  rw [e] at h1
  simp [rightB, ahead] at h1
theorem below_put {B : Nat} {w w' : World} {l : Nat} {o : Obj} (h : Below B w w') (hl : B ≤ l) : Below B w (w'.putObj l o) :=
  ⟨h.os, h.tape, h.output, by have := h.size; simpa using this, fun b hb => (World.putObj_heap_other (by omega)).trans (h.block b hb)⟩
set_option maxRecDepth 100000 in
set_option maxHeartbeats 4000000 in
theorem i_courseOf (r : Rn) (p : Pn 10) (b : Bool) (hb : RnP r p b) (v : Value) (w : World) (hf : r.fit) (hv : RnAt w v r) :
    Calls Tryz.prog 48 #[v] w fun e w' => ∃ pt, e = .returned (.tuple #[pt, .bool b]) ∧ Below w.heap.size w w' ∧ (b = true → ∃ xs, CoNew w' w.heap.size pt r p xs) := by
  have HV := hide hv
  obtain ⟨pa, pc, sa, sc, na, nc, rfl, h1, h2, h3⟩ := hv.at_
  obtain ⟨C, hC⟩ : ∃ C, C = rnC (.slice pa r.plan.length pc) (.slice sa r.states.length sc) (.slice na r.net.length nc) r.steps := ⟨_, rfl⟩
  have HS2 : Hid (∀ w1, Below (w.heap.size + 1) (w.alloc (.cells C.toArray 37)) w1 → SlAt w1 w1.heap.size (.slice pa r.plan.length pc) r.plan ∧ NumSl w1 w1.heap.size (.slice sa r.states.length sc) r.states ∧ RMsgSl w1 w1.heap.size (.slice na r.net.length nc) r.net ∧ BoxL w1 w.heap.size C ∧ Below w.heap.size w w1) := hide (fun w1 hb => by
    have hb' : Below (w.alloc (.cells C.toArray 37)).heap.size (w.alloc (.cells C.toArray 37)) w1 := by simpa using hb
    have hb2 : Below w.heap.size w w1 := (malloc1 _ _).trans (hb'.mono (by simp))
    exact ⟨(h1.carry hb2).up hb2.size, h2.on hb2, (h3.carry hb2).up hb2.size, (BoxL.new w C _).keep (below_apart hb') (by simp), hb2⟩)
  have HT : Hid (∀ (w1 w2 : World), Below (w.heap.size + 1) (w.alloc (.cells C.toArray 37)) w1 → Below w1.heap.size w1 w2 → Below (w.heap.size + 1) (w.alloc (.cells C.toArray 37)) w2) := hide (fun w1 w2 h1 h2 => h1.trans (h2.mono (by have := h1.size; simpa using this)))
  have HF := hide hf
  have HOK := hide (fun m (hm : m ∈ r.net) => show m.ok from ⟨Nat.le_trans (hf.2.2.2 m hm).1 (by unfold maxLen; omega), Nat.le_trans (hf.2.2.2 m hm).2.1 (by unfold maxLen; omega), Nat.le_trans (hf.2.2.2 m hm).2.2 (by unfold maxLen; omega)⟩)
  have hsl : r.states.length ≤ 1048576 := hf.2.1
  have hC2 : rnV (.slice pa r.plan.length pc) (.slice sa r.states.length sc) (.slice na r.net.length nc) r.steps = .agg C.toArray := by rw [hC]; rfl
  rw [hC2]
  clear h1 h2 h3 hv hf hC2
  rw [hC] at *
  clear hC
  unfold rnV rnC at *
  obtain ⟨q1, hq1⟩ : ∃ q, netB r.net = q := ⟨_, rfl⟩
  obtain ⟨q2, hq2⟩ : ∃ q, timeK r.steps = q := ⟨_, rfl⟩
  have HQ1 := hide hq1
  have HQ2 := hide hq2
  clear hq1 hq2
  rcases hb with ⟨hsn, rfl⟩ | ⟨hsn, hsp, rfl⟩
  · have HSN := hide hsn
    clear hsn
    go_enter Tryz.func48, Tryz.ntmps48
    go_wp2_with (go_at_call 11; refine (i_sound r.plan _ HSN.out _ _ HF.out.1.2 (HS2.out _ (Below.refl _ _)).1).mono ?_; rintro e w1 ⟨rfl, hb1⟩; have HW1 := hide (HT.out _ _ (Below.refl _ _) hb1); clear hb1)
    go_ret2
    exact ⟨_, rfl, (HS2.out _ HW1.out).2.2.2.2, fun h => by cases h⟩
  · have HSN := hide hsn
    have HSP := hide hsp
    have HB : Hid (rnB r p = (q1 && q2 && stsB ((rolesS r.plan).map (machOf p)) r.states && amongB (rolesS r.plan) r.net)) := hide (by rw [← HQ1.out, ← HQ2.out]; rfl)
    clear hsn hsp
    cases q1
    · have HN : Hid (rnB r p = false) := hide HB.out
      go_enter Tryz.func48, Tryz.ntmps48
      go_wp2_with (first
        | (go_at_call 85; refine (i_net HQ1.out _ _ HOK.out (HS2.out _ HW1.out).2.2.1).mono ?_; rintro e w2 ⟨rfl, hb2⟩; have HW2 := hide (HT.out _ _ HW1.out hb2); clear hb2)
        | (go_at_call 11; refine (i_sound r.plan _ HSN.out _ _ HF.out.1.2 (HS2.out _ (Below.refl _ _)).1).mono ?_; rintro e w1 ⟨rfl, hb1⟩; have HW1 := hide (HT.out _ _ (Below.refl _ _) hb1); have X1 := (HS2.out _ HW1.out).2.2.2.1; have x2 := X1.cell 2 _ rfl; clear hb1 X1))
      go_ret2
      exact ⟨.pointer none, by rw [HN.out]; rfl, (HS2.out _ HW2.out).2.2.2.2, fun h => by rw [HN.out] at h; cases h⟩
    · cases q2
      · have HN : Hid (rnB r p = false) := hide HB.out
        go_enter Tryz.func48, Tryz.ntmps48
        go_wp2_with (first
          | (go_at_call 86; refine (it_time HQ2.out _).mono ?_; rintro e w3 ⟨rfl, rfl⟩)
          | (go_at_call 85; refine (i_net HQ1.out _ _ HOK.out (HS2.out _ HW1.out).2.2.1).mono ?_; rintro e w2 ⟨rfl, hb2⟩; have HW2 := hide (HT.out _ _ HW1.out hb2); have X2 := (HS2.out _ HW2.out).2.2.2.1; have y3 := X2.cell 3 _ rfl; clear hb2 X2)
          | (go_at_call 11; refine (i_sound r.plan _ HSN.out _ _ HF.out.1.2 (HS2.out _ (Below.refl _ _)).1).mono ?_; rintro e w1 ⟨rfl, hb1⟩; have HW1 := hide (HT.out _ _ (Below.refl _ _) hb1); have X1 := (HS2.out _ HW1.out).2.2.2.1; have x2 := X1.cell 2 _ rfl; clear hb1 X1))
        go_ret2
        exact ⟨.pointer none, by rw [HN.out]; rfl, (HS2.out _ HW2.out).2.2.2.2, fun h => by rw [HN.out] at h; cases h⟩
      · have h36 := net_36 HQ1.out
        have h40 := HSP.out.len
        have HNE := hide (plan_ne HSP.out)
        have HL4 := hide (right_roles HSP.out.right)
        refine (callsIn_wide (n := 0)).1 (callsIn_of_wp_marks Tryz.func48 rfl trivial (wpIn_wide.2 ?_))
        simp only [Tryz.ntmps48, List.size_toArray, List.length_cons, List.length_nil, Nat.reduceAdd, Nat.reduceSub, Array.replicate_succ, Array.replicate_zero, List.push_toArray, List.append_toArray, List.nil_append, List.cons_append]
        go_wp2_with (first
          | (go_at_call 88; refine (parties_of _ _ ⟨_, _, _, rfl⟩).mono ?_; rintro e w5 ⟨rfl, rfl⟩)
          | (go_at_call 87; refine (own_run r _ _ HF.out h40 HNE.out h36 (HV.out.carry (HS2.out _ HW3.out).2.2.2.2)).mono ?_; rintro e w4 hor; obtain ⟨pv, sv, nv, rfl, ho1, ho2, ho3, hd1, hd2⟩ := hor.ans; obtain ⟨pp, cp, rfl⟩ := owns_shape ho1; obtain ⟨ps, cs, rfl⟩ := owns_shape ho2; obtain ⟨pn, cn, rfl⟩ := owns_shape ho3; have HO := hide (And.intro ho1 (And.intro ho2 (And.intro ho3 (And.intro hd1 hd2)))); have HB4 := hide hor.bel; have HW4 := hide (HT.out _ _ HW3.out hor.bel); have X4 := (HS2.out _ HW4.out).2.2.2.1; have HX4 := hide X4; have z0 : ∀ o1 o2 : Obj, ((w4.alloc o1).alloc o2).cell? ⟨w.heap.size, 0, none⟩ = some (.slice pa r.plan.length pc) := (fun o1 o2 => ((X4.keep (below_apart (malloc1 w4 o1)) (by simp)).keep (below_apart (malloc1 _ o2)) (by simp)).cell 0 _ rfl); unfold rnV rnC at *; clear hor ho1 ho2 ho3 hd1 hd2 X4)
          | (go_at_call 86; refine (it_time HQ2.out _).mono ?_; rintro e w3 ⟨rfl, rfl⟩; have HW3 := hide HW2.out)
          | (go_at_call 85; refine (i_net HQ1.out _ _ HOK.out (HS2.out _ HW1.out).2.2.1).mono ?_; rintro e w2 ⟨rfl, hb2⟩; have HW2 := hide (HT.out _ _ HW1.out hb2); have X2 := (HS2.out _ HW2.out).2.2.2.1; have y0 := X2.cell 0 _ rfl; have y1 := X2.cell 1 _ rfl; have y2 := X2.cell 2 _ rfl; have y3 := X2.cell 3 _ rfl; clear hb2 X2)
          | (go_at_call 11; refine (i_sound r.plan _ HSN.out _ _ HF.out.1.2 (HS2.out _ (Below.refl _ _)).1).mono ?_; rintro e w1 ⟨rfl, hb1⟩; have HW1 := hide (HT.out _ _ (Below.refl _ _) hb1); have X1 := (HS2.out _ HW1.out).2.2.2.1; have x2 := X1.cell 2 _ rfl; clear hb1 X1))
        obtain ⟨W0, hW0⟩ : ∃ W0, W0 = (((w4.alloc (.cells #[.slice pp r.plan.length cp, .slice ps r.states.length cs, .slice pn r.net.length cn, .int .i64 r.steps, .slice none 0 0, .slice none 0 0] 96)).alloc (.cells #[.pointer (some ⟨w4.heap.size, 0, none⟩)] 87)).alloc (.cells #[.slice pa r.plan.length pc] 25)) := ⟨_, rfl⟩
        rw [← hW0]
        have hz0 : W0.heap.size = w4.heap.size + 3 := by rw [hW0]; simp
        have HB40 : Hid (Below w4.heap.size w4 W0) := hide (by rw [hW0]; exact ((malloc1 _ _).trans ((malloc1 _ _).mono (by simp))).trans ((malloc1 _ _).mono (by simp; omega)))
        have XC : BoxL W0 w4.heap.size [.slice pp r.plan.length cp, .slice ps r.states.length cs, .slice pn r.net.length cn, .int .i64 r.steps, .slice none 0 0, .slice none 0 0] := by rw [hW0]; exact ((BoxL.new w4 [.slice pp r.plan.length cp, .slice ps r.states.length cs, .slice pn r.net.length cn, .int .i64 r.steps, .slice none 0 0, .slice none 0 0] 96).keep (below_apart (malloc1 _ _)) (by simp)).keep (below_apart (malloc1 _ _)) (by simp)
        have XB : BoxL W0 (w4.heap.size + 1) [.pointer (some ⟨w4.heap.size, 0, none⟩)] := by
          rw [hW0]
          have := (BoxL.new (w4.alloc (.cells #[.slice pp r.plan.length cp, .slice ps r.states.length cs, .slice pn r.net.length cn, .int .i64 r.steps, .slice none 0 0, .slice none 0 0] 96)) [.pointer (some ⟨w4.heap.size, 0, none⟩)] 87).keep (below_apart (malloc1 _ (.cells #[.slice pa r.plan.length pc] 25))) (by simp)
          simpa using this
        have XP : BoxL W0 (w4.heap.size + 2) [.slice pa r.plan.length pc] := by
          rw [hW0]
          have := BoxL.new ((w4.alloc (.cells #[.slice pp r.plan.length cp, .slice ps r.states.length cs, .slice pn r.net.length cn, .int .i64 r.steps, .slice none 0 0, .slice none 0 0] 96)).alloc (.cells #[.pointer (some ⟨w4.heap.size, 0, none⟩)] 87)) [.slice pa r.plan.length pc] 25
          simpa using this
        have HB0 : Hid (Below w.heap.size w W0) := hide ((HS2.out _ HW4.out).2.2.2.2.trans (HB40.out.mono (HS2.out _ HW4.out).2.2.2.2.size))
        have hwz : w.heap.size < w4.heap.size := by have := HW4.out.size; simp at this; omega
        have HSP0 : Hid (SlAt w w.heap.size (.slice pa r.plan.length pc) r.plan) := hide (by
          obtain ⟨pa', pc', sa', sc', na', nc', e, h1, -⟩ := HV.out.at_
          unfold rnV rnC at e
          injection e with e
          injection e with e
          injection e with e1 e2
          rw [e1]
          exact h1)
        have HXC := hide XC
        have HXB := hide XB
        have HXP := hide XP
        have HZ0 := hide hz0
        have HWZ := hide hwz
        clear hW0 XC XB XP hz0 hwz z0
        obtain ⟨rs, hrs⟩ : ∃ rs, rolesS r.plan = rs := ⟨_, rfl⟩
        have HRS := hide hrs
        have HGV := hide (parties_gives HSP.out HF.out.1.2 (w4.heap.size + 2) pa pc)
        rw [hrs] at HGV HB HL4
        clear hrs
        have HLOW : Hid (∀ k X W, CoI W0 p rs w4.heap.size (.slice pp r.plan.length cp) (.slice ps r.states.length cs) (.slice pn r.net.length cn) r.steps k X W → Below w.heap.size w W) := hide (fun k X W h => by
          obtain ⟨qv, xs, -, -, -, -, -, -, -, h8⟩ := h.at_
          exact HB0.out.trans (h8.below HB0.out.size (fun b hb => by simp at hb; have := HWZ.out; omega)))
        refine wpIn_wide.1 (wp_range (gf := 138) (lb := #[.pointer (some ⟨w4.heap.size + 2, 0, none⟩)]) rfl (enters_of Tryz.func138 (by kernel_rfl) rfl) HGV.out ?hps (CoI W0 p rs w4.heap.size (.slice pp r.plan.length cp) (.slice ps r.states.length cs) (.slice pn r.net.length cn) r.steps) ?hIb ?hIp ?hIK [w4.heap.size] ?h0 ?hround ?hdone)
        case hps =>
          rintro k args Wa Wb ⟨x, rfl, -⟩
          rfl
        case hIb => exact fun k X W1 W2 h hb => coI_below h hb
        case hIp => exact fun k X W W' h _ h2 _ ha => coI_put h h2 ha
        case hIK =>
          intro k X W h
          have hlo := HLOW.out k X W h
          obtain ⟨qv, xs, rfl, -, -, -, h5, h6, -, h8⟩ := h.at_
          refine ⟨⟨(HXP.out.keep h8 (by simp)).cell 0 _ rfl, (HSP0.out.carry hlo).up hlo.size⟩, fun b hb => ?_⟩
          rcases List.mem_cons.1 hb with rfl | hb
          · exact h5.lt
          · exact (owns_fresh h6.own).hi b hb
        case h0 => exact ⟨.slice none 0 0, [], rfl, rfl, rfl, rfl, HXC.out, ⟨owns_nil _ _ _ _, fun u hu => (by cases hu), fun u hu => (by cases hu)⟩, fun u hu => (by cases hu), ⟨rfl, rfl, rfl, Nat.le_refl _, fun _ _ _ => rfl⟩⟩
        case hround =>
          rintro k args X Wa Wb hk hI hsz hx1 hx2 hab ⟨x, rfl, hget, hxm, hu, hub⟩
          have hsh := hu.shape
          have HXL : Hid (∀ b ∈ X, b < Wa.heap.size) := hide (fun b hb => by
            obtain ⟨qv, xs, rfl, -, -, -, h5, h6, -, -⟩ := hI.at_
            rcases List.mem_cons.1 hb with rfl | hb
            · exact h5.lt
            · exact (owns_fresh h6.own).hi b hb)
          have HR := hide (And.intro hI (And.intro hget (And.intro hxm (And.intro hu hub))))
          clear hI hget hxm hu hub
          obtain ⟨role, sv', ev', m⟩ := x
          replace hsh : (∃ ps cs, sv' = .slice ps m.states.length cs) ∧ ∃ pe ce, ev' = .slice pe m.edges.length ce := hsh
          obtain ⟨⟨xp, xc, rfl⟩, ⟨yp, yc, rfl⟩⟩ := hsh
          have HK := hide hk
          have HX1 := hide hx1
          have HX2 := hide hx2
          have HAB := hide hab
          have HSZ := hide hsz
          clear hk hx1 hx2 hab hsz
          unfold PU.val PU.cells MU.cells
          gi_wp2
          refine ⟨malloc1 _ _, fun W2 hap hsz2 => ?_⟩
          have HAP := hide hap
          have HS2' := hide hsz2
          clear hap hsz2
          gi_wp2
          have hI2 := coI_below (coI_put (coI_below (coI_below HR.out.1 HAB.out) (malloc1 Wb (.cells #[.string role, .slice xp m.states.length xc, .slice yp m.edges.length yc, .int .i64 m.start] 139))) HX2.out HAP.out) ((Below.refl _ _).drew)
          obtain ⟨qv, xs, rfl, g2, g3, g4, g5, g6, g7, g8⟩ := hI2.at_
          have hbc : BoxL W2.drew (w4.heap.size + 1) [.pointer (some ⟨w4.heap.size, 0, none⟩)] := HXB.out.keep g8 (by simp)
          have hbp : BoxL W2.drew Wb.heap.size [.string role, .slice xp m.states.length xc, .slice yp m.edges.length yc, .int .i64 m.start] :=
            ((BoxL.new Wb [.string role, .slice xp m.states.length xc, .slice yp m.edges.length yc, .int .i64 m.start] 139).keep HAP.out (by have := HSZ.out; have := HAB.out.size; simp; omega)).keep (below_apart ((Below.refl _ _).drew)) (by simp)
          obtain ⟨pq, cq, rfl⟩ := owns_shape g6.own
          have c4 := g5.cell 4 _ rfl
          have f4 := g5.fz 4
          have c4a : ∀ o : Obj, (W2.drew.alloc o).cell? ⟨w4.heap.size, 4, none⟩ = some (.slice pq xs.length cq) := fun o => (g5.keep (below_apart (malloc1 _ o)) (by simp)).cell 4 _ rfl
          have c4b : ∀ o : Obj, (W2.alloc o).cell? ⟨w4.heap.size, 4, none⟩ = some (.slice pq xs.length cq) := c4a
          have hne1 : ¬ (w4.heap.size = W2.heap.size) := by have h1 := HS2'.out; have h2 := HAB.out.size; have h3 := HSZ.out; have h4 := HZ0.out; omega
          have hne2 : w4.heap.size < W2.heap.size := by have h1 := HS2'.out; have h2 := HAB.out.size; have h3 := HSZ.out; have h4 := HZ0.out; omega
          have hlen : xs.length ≤ 4 := by have := HK.out; have := HL4.out; omega
          obtain ⟨i0, hi, hz0, hz1, hz2⟩ := info_parts Tryz.infoPt
          have HI := hide (And.intro hi (And.intro hz0 (And.intro hz1 hz2)))
          clear hi hz0 hz1 hz2
          have HQB : Hid (Wb.heap.size ∉ vblocks (.slice pq xs.length cq)) := hide (fun hm => by have h1 := HXL.out _ (List.mem_cons_of_mem _ hm); have h2 := HAB.out.size; omega)
          have HG := hide (And.intro g2 (And.intro g3 (And.intro g4 (And.intro g5 (And.intro g6 (And.intro g7 g8))))))
          clear g2 g3 g4 g5 g6 g7 g8
          have hSS : (fun w' => BoxL w' (w4.heap.size + 1) [.pointer (some ⟨w4.heap.size, 0, none⟩)] ∧ BoxL w' Wb.heap.size [.string role, .slice xp m.states.length xc, .slice yp m.edges.length yc, .int .i64 m.start]) W2.drew := ⟨hbc, hbp⟩
          refine region_round (by kernel_rfl) (by kernel_rfl) (by rintro ⟨_, _, h⟩; exact h) (wpAny_of_held (S := fun w' => BoxL w' (w4.heap.size + 1) [.pointer (some ⟨w4.heap.size, 0, none⟩)] ∧ BoxL w' Wb.heap.size [.string role, .slice xp m.states.length xc, .slice yp m.edges.length yc, .int .i64 m.start]) _ _ _ _ ?_)
          refine wpAnyH_take (i := 0) (v := (.pointer (some ⟨w4.heap.size, 0, none⟩))) rfl (by kernel_rfl) (by kernel_rfl) (by kernel_rfl) (fun _ _ _ h => h) (Or.inl ⟨by rfl, fun w' hw' => by have z := hw'.1.cell 0 _ rfl; clear hw'; go_simp⟩) hSS ?_
          try simp only [Act.put, List.setIfInBounds_toArray, List.set_cons_zero, List.set_cons_succ]
          refine wpAnyH_take (i := 1) (v := (.pointer (some ⟨w4.heap.size, 0, none⟩))) rfl (by kernel_rfl) (by kernel_rfl) (by kernel_rfl) (fun _ _ _ h => h) (Or.inl ⟨by rfl, fun w' hw' => by have z := hw'.1.cell 0 _ rfl; clear hw'; go_simp⟩) hSS ?_
          try simp only [Act.put, List.setIfInBounds_toArray, List.set_cons_zero, List.set_cons_succ]
          refine wpAnyH_take (i := 2) (v := (.pointer (some ⟨w4.heap.size, 0, none⟩))) rfl (by kernel_rfl) (by kernel_rfl) (by kernel_rfl) (fun _ _ _ h => h) (Or.inl ⟨by rfl, fun w' hw' => by clear hw'; go_simp⟩) hSS ?_
          try simp only [Act.put, List.setIfInBounds_toArray, List.set_cons_zero, List.set_cons_succ]
          refine wpAnyH_take (i := 3) (v := (.pointer (some ⟨w4.heap.size, 4, none⟩))) rfl (by kernel_rfl) (by kernel_rfl) (by kernel_rfl) (fun _ _ _ h => h) (Or.inl ⟨by rfl, fun w' hw' => by clear hw'; go_simp⟩) hSS ?_
          try simp only [Act.put, List.setIfInBounds_toArray, List.set_cons_zero, List.set_cons_succ]
          refine wpAnyH_take (i := 5) (v := (.agg #[.string role, .slice xp m.states.length xc, .slice yp m.edges.length yc, .int .i64 m.start])) rfl (by kernel_rfl) (by kernel_rfl) (by kernel_rfl) (fun _ _ _ h => h) (Or.inl ⟨by rfl, fun w' hw' => by have z0 := hw'.2.cell 0 _ rfl; have z1 := hw'.2.cell 1 _ rfl; have z2 := hw'.2.cell 2 _ rfl; have z3 := hw'.2.cell 3 _ rfl; clear hw'; go_simp⟩) hSS ?_
          try simp only [Act.put, List.setIfInBounds_toArray, List.set_cons_zero, List.set_cons_succ]
          refine wpAnyH_ready (rs := [4, 6]) (by kernel_rfl) (by simp) ?_
          refine AllReadyH.cons rfl (fun K hK => ?_) (AllReadyH.cons rfl (fun K hK => ?_) AllReadyH.nil)
          · go_simp
            refine hK.out _ _ hSS (fun _ => ?_)
            clear hK K
            try simp only [Act.put, List.setIfInBounds_toArray, List.set_cons_zero, List.set_cons_succ]
            refine wpAnyH_ready (rs := [6]) (by kernel_rfl) (by simp) (AllReadyH.cons rfl (fun K hK => ?_) AllReadyH.nil)
            go_simp
            refine hK.out _ _ ⟨hSS.1.keep (below_apart (malloc1 _ _)) (by simp), hSS.2.keep (below_apart (malloc1 _ _)) (by simp)⟩ (fun _ => ?_)
            clear hK K
            try simp only [Act.put, List.setIfInBounds_toArray, List.set_cons_zero, List.set_cons_succ]
            refine wpAnyH_ready (rs := [7]) (by kernel_rfl) (by simp) (AllReadyH.cons rfl (fun K hK => ?_) AllReadyH.nil)
            refine stepM_at rfl (.tmp 34) (.tmp 36) 94 rfl W0.heap.size 139 i0 (.agg #[.string ByteArray.empty, .slice none 0 0, .slice none 0 0, .int .i64 0]) 4 72 Tryz.underlying94 HI.out.1 HI.out.2.1 HI.out.2.2.1 HI.out.2.2.2 rfl (by decide) (.slice pq xs.length cq) xs.length (xs.flatMap PU.cells) (by simp [Act.eval]) (owns_below HG.out.2.2.2.2.1.own (malloc1 _ _)) ⟨W2.heap.size, 0, none⟩ 1 1 [.string role, .slice xp m.states.length xc, .slice yp m.edges.length yc, .int .i64 m.start] (by simp [Act.eval]) rfl (fun j u hj => new_row1m W2 _ _ j u hj) (by simp [Value.oneCell']) (by unfold maxLen; omega) (by omega) (by have h1 := HS2'.out; have h2 := HAB.out.size; have h3 := HSZ.out; simp; omega) ?_
            intro v7 w7 hown7 hgr7 hat7
            have hA7 := (below_apart (malloc1 W2.drew (.cells #[.string role, .slice xp m.states.length xc, .slice yp m.edges.length yc, .int .i64 m.start] 139))).trans (grownBy_apart hgr7)
            have hnq1 : w4.heap.size ∉ [] ++ vblocks (.slice pq xs.length cq) := fun hm => by have := (owns_fresh HG.out.2.2.2.2.1.own).lo _ hm; have := HZ0.out; omega
            have hnq2 : w4.heap.size + 1 ∉ [] ++ vblocks (.slice pq xs.length cq) := fun hm => by have := (owns_fresh HG.out.2.2.2.2.1.own).lo _ hm; have := HZ0.out; omega
            have hnq3 : Wb.heap.size ∉ [] ++ vblocks (.slice pq xs.length cq) := fun hm => HQB.out hm
            have b7 := HG.out.2.2.2.1.keep hA7 hnq1
            have hS7 := And.intro (hSS.1.keep hA7 hnq2) (hSS.2.keep hA7 hnq3)
            refine hK.out _ _ hS7 (fun _ => ?_)
            clear hK K
            try simp only [Act.put, List.setIfInBounds_toArray, List.set_cons_zero, List.set_cons_succ]
            have c7 := b7.cell 4 _ rfl
            have f7 := b7.fz 4
            obtain ⟨p7, q7, rfl⟩ := owns_shape hown7
            have HO7 := hide (And.intro hown7 (And.intro hgr7 hat7))
            have HB7 := hide (And.intro hS7 b7)
            clear hown7 hgr7 hat7 hA7 b7
            refine wpAnyH_ready (rs := [8]) (by kernel_rfl) (by simp) (AllReadyH.cons rfl (fun K hK => ?_) AllReadyH.nil)
            go_simp
            refine hK.out _ _ HB7.out.1 (fun _ => ?_)
            clear hK K
            try simp only [Act.put, List.setIfInBounds_toArray, List.set_cons_zero, List.set_cons_succ]
            refine wpAnyH_ready (rs := [9]) (by kernel_rfl) (by simp) (AllReadyH.cons rfl (fun K hK => ?_) AllReadyH.nil)
            go_simp
            refine hK.out _ _ HB7.out.1 (fun _ => ?_)
            clear hK K
            try simp only [Act.put, List.setIfInBounds_toArray, List.set_cons_zero, List.set_cons_succ]
            refine wpAnyH_ready (rs := [10]) (by kernel_rfl) (by simp) (AllReadyH.cons rfl (fun K hK => ?_) AllReadyH.nil)
            go_simp
            refine hK.out _ _ ⟨HB7.out.1.1.keep (setCell_apart _ _ _ _) (by simp), HB7.out.1.2.keep (setCell_apart _ _ _ _) (by have h1 := HS2'.out; have h2 := HAB.out.size; have h3 := HSZ.out; have h4 := HZ0.out; simp; omega)⟩ (fun _ => ?_)
            clear hK K
            try simp only [Act.put, List.setIfInBounds_toArray, List.set_cons_zero, List.set_cons_succ]
            refine wpAnyH_done (by kernel_rfl) ?_ _
            obtain ⟨g2, g3, g4, g5, g6, g7, g8⟩ := HG.out
            obtain ⟨hI, hget, hxm, hu, hub⟩ := HR.out
            have hWz : W0.heap.size + 2 ≤ Wa.heap.size := HSZ.out
            have hAu : Apart Wb W2.drew [W0.heap.size + 1] := by
              have h0 := (below_apart (malloc1 Wb (.cells #[.string role, .slice xp m.states.length xc, .slice yp m.edges.length yc, .int .i64 m.start] 139))).trans HAP.out
              exact ⟨h0.os, h0.tape, h0.output, h0.size, h0.block⟩
            obtain ⟨r1, X', r2, r3⟩ := coI_push (x := ⟨role, ⟨.slice xp m.states.length xc, .slice yp m.edges.length yc, m⟩⟩) g2 g3 g4 g5 g6 g7 g8 (by have h4 := HZ0.out; omega) hget hxm (hu.keep hAu (fun b hb hm => by simp at hm; have := (hub b hb).1; omega)) (fun b hb => ⟨by have := (hub b hb).1; omega, by have h1 := (hub b hb).2; have h2 := HS2'.out; simp; omega, fun hm => by have h1 := (hub b hb).1; have h2 := HXL.out _ (List.mem_cons_of_mem _ hm); omega⟩) _ _ HO7.out.1 HO7.out.2.1 HO7.out.2.2 rfl
            refine ⟨⟨r1.os, r1.tape, r1.output, r1.size, r1.block⟩, X', r2, fun b hb => ?_⟩
            rcases r3 b hb with h | h
            · exact .inl h
            · exact .inr (by have h2 := HS2'.out; simp at h; omega)
          · go_simp
            refine hK.out _ _ ⟨hSS.1.keep (below_apart (malloc1 _ _)) (by simp), hSS.2.keep (below_apart (malloc1 _ _)) (by simp)⟩ (fun _ => ?_)
            clear hK K
            try simp only [Act.put, List.setIfInBounds_toArray, List.set_cons_zero, List.set_cons_succ]
            refine wpAnyH_ready (rs := [4]) (by kernel_rfl) (by simp) (AllReadyH.cons rfl (fun K hK => ?_) AllReadyH.nil)
            go_simp
            refine hK.out _ _ ⟨hSS.1.keep (below_apart (malloc1 _ _)) (by simp), hSS.2.keep (below_apart (malloc1 _ _)) (by simp)⟩ (fun _ => ?_)
            clear hK K
            try simp only [Act.put, List.setIfInBounds_toArray, List.set_cons_zero, List.set_cons_succ]
            refine wpAnyH_ready (rs := [7]) (by kernel_rfl) (by simp) (AllReadyH.cons rfl (fun K hK => ?_) AllReadyH.nil)
            refine stepM_at rfl (.tmp 34) (.tmp 36) 94 rfl W0.heap.size 139 i0 (.agg #[.string ByteArray.empty, .slice none 0 0, .slice none 0 0, .int .i64 0]) 4 72 Tryz.underlying94 HI.out.1 HI.out.2.1 HI.out.2.2.1 HI.out.2.2.2 rfl (by decide) (.slice pq xs.length cq) xs.length (xs.flatMap PU.cells) (by simp [Act.eval]) (owns_below HG.out.2.2.2.2.1.own (malloc1 _ _)) ⟨W2.heap.size, 0, none⟩ 1 1 [.string role, .slice xp m.states.length xc, .slice yp m.edges.length yc, .int .i64 m.start] (by simp [Act.eval]) rfl (fun j u hj => new_row1m W2 _ _ j u hj) (by simp [Value.oneCell']) (by unfold maxLen; omega) (by omega) (by have h1 := HS2'.out; have h2 := HAB.out.size; have h3 := HSZ.out; simp; omega) ?_
            intro v7 w7 hown7 hgr7 hat7
            have hA7 := (below_apart (malloc1 W2.drew (.cells #[.string role, .slice xp m.states.length xc, .slice yp m.edges.length yc, .int .i64 m.start] 139))).trans (grownBy_apart hgr7)
            have hnq1 : w4.heap.size ∉ [] ++ vblocks (.slice pq xs.length cq) := fun hm => by have := (owns_fresh HG.out.2.2.2.2.1.own).lo _ hm; have := HZ0.out; omega
            have hnq2 : w4.heap.size + 1 ∉ [] ++ vblocks (.slice pq xs.length cq) := fun hm => by have := (owns_fresh HG.out.2.2.2.2.1.own).lo _ hm; have := HZ0.out; omega
            have hnq3 : Wb.heap.size ∉ [] ++ vblocks (.slice pq xs.length cq) := fun hm => HQB.out hm
            have b7 := HG.out.2.2.2.1.keep hA7 hnq1
            have hS7 := And.intro (hSS.1.keep hA7 hnq2) (hSS.2.keep hA7 hnq3)
            refine hK.out _ _ hS7 (fun _ => ?_)
            clear hK K
            try simp only [Act.put, List.setIfInBounds_toArray, List.set_cons_zero, List.set_cons_succ]
            have c7 := b7.cell 4 _ rfl
            have f7 := b7.fz 4
            obtain ⟨p7, q7, rfl⟩ := owns_shape hown7
            have HO7 := hide (And.intro hown7 (And.intro hgr7 hat7))
            have HB7 := hide (And.intro hS7 b7)
            clear hown7 hgr7 hat7 hA7 b7
            refine wpAnyH_ready (rs := [8]) (by kernel_rfl) (by simp) (AllReadyH.cons rfl (fun K hK => ?_) AllReadyH.nil)
            go_simp
            refine hK.out _ _ HB7.out.1 (fun _ => ?_)
            clear hK K
            try simp only [Act.put, List.setIfInBounds_toArray, List.set_cons_zero, List.set_cons_succ]
            refine wpAnyH_ready (rs := [9]) (by kernel_rfl) (by simp) (AllReadyH.cons rfl (fun K hK => ?_) AllReadyH.nil)
            go_simp
            refine hK.out _ _ HB7.out.1 (fun _ => ?_)
            clear hK K
            try simp only [Act.put, List.setIfInBounds_toArray, List.set_cons_zero, List.set_cons_succ]
            refine wpAnyH_ready (rs := [10]) (by kernel_rfl) (by simp) (AllReadyH.cons rfl (fun K hK => ?_) AllReadyH.nil)
            go_simp
            refine hK.out _ _ ⟨HB7.out.1.1.keep (setCell_apart _ _ _ _) (by simp), HB7.out.1.2.keep (setCell_apart _ _ _ _) (by have h1 := HS2'.out; have h2 := HAB.out.size; have h3 := HSZ.out; have h4 := HZ0.out; simp; omega)⟩ (fun _ => ?_)
            clear hK K
            try simp only [Act.put, List.setIfInBounds_toArray, List.set_cons_zero, List.set_cons_succ]
            refine wpAnyH_done (by kernel_rfl) ?_ _
            obtain ⟨g2, g3, g4, g5, g6, g7, g8⟩ := HG.out
            obtain ⟨hI, hget, hxm, hu, hub⟩ := HR.out
            have hWz : W0.heap.size + 2 ≤ Wa.heap.size := HSZ.out
            have hAu : Apart Wb W2.drew [W0.heap.size + 1] := by
              have h0 := (below_apart (malloc1 Wb (.cells #[.string role, .slice xp m.states.length xc, .slice yp m.edges.length yc, .int .i64 m.start] 139))).trans HAP.out
              exact ⟨h0.os, h0.tape, h0.output, h0.size, h0.block⟩
            obtain ⟨r1, X', r2, r3⟩ := coI_push (x := ⟨role, ⟨.slice xp m.states.length xc, .slice yp m.edges.length yc, m⟩⟩) g2 g3 g4 g5 g6 g7 g8 (by have h4 := HZ0.out; omega) hget hxm (hu.keep hAu (fun b hb hm => by simp at hm; have := (hub b hb).1; omega)) (fun b hb => ⟨by have := (hub b hb).1; omega, by have h1 := (hub b hb).2; have h2 := HS2'.out; simp; omega, fun hm => by have h1 := (hub b hb).1; have h2 := HXL.out _ (List.mem_cons_of_mem _ hm); omega⟩) _ _ HO7.out.1 HO7.out.2.1 HO7.out.2.2 rfl
            refine ⟨⟨r1.os, r1.tape, r1.output, r1.size, r1.block⟩, X', r2, fun b hb => ?_⟩
            rcases r3 b hb with h | h
            · exact .inl h
            · exact .inr (by have h2 := HS2'.out; simp at h; omega)
        case hdone =>
          intro X W hI hx1 hx2 hsz hD
          have hlo := HLOW.out _ _ _ hI
          obtain ⟨qv, xs, rfl, h2, h3, h4, h5, h6, h7, h8⟩ := hI.at_
          obtain ⟨pq, cq, rfl⟩ := owns_shape h6.own
          have hlen : xs.length ≤ 4 := by have := HL4.out; have := HRS.out; subst this; omega
          have h3' : xs.map PU.role = rs := by rw [h3]; exact List.take_length
          have h4' : (xs.map fun x => x.u.m) = rs.map (machOf p) := by rw [h4, List.take_length]
          have HCO : Hid (CoAt W w.heap.size w4.heap.size (.slice pp r.plan.length cp) (.slice ps r.states.length cs) (.slice pn r.net.length cn) (.slice pq xs.length cq) (.slice none 0 0) r.steps r xs) := hide (by
            obtain ⟨o1, o2, o3, -, -⟩ := HO.out
            have hz := (HS2.out _ HW3.out).2.2.2.2.size
            have g1 : ∀ {e size n : Nat} {v : Value} {l : List Value}, w4.ownsRow w3.heap.size e size v n l → W.ownsRow w.heap.size e size v n l := fun {e size n v l} ho => by
              have hh := (owns_fresh ho).hi
              exact owns_down (owns_keep (owns_below ho HB40.out) h8 (fun b hb hm => by simp at hm; have := hh b hb; omega)) hz
            exact ⟨h5, ⟨owns_down h6.own (by have := HZ0.out; have := HWZ.out; omega), h6.ok, h6.off⟩, g1 o1, g1 o2, g1 o3⟩)
          have cc : W.cell? ⟨w4.heap.size + 1, 0, none⟩ = some (.pointer (some ⟨w4.heap.size, 0, none⟩)) := (HXB.out.keep h8 (by simp)).cell 0 _ rfl
          have hcl : w4.heap.size + 1 < W.heap.size := (HXB.out.keep h8 (by simp)).lt
          have HQ := hide (And.intro h3' (And.intro h4' (And.intro h5 (And.intro h6 (And.intro h7 (And.intro h8 (And.intro hx1 (And.intro hsz hlo))))))))
          have HD := hide hD
          clear hI hx1 hx2 hsz hD h2 h3 h4 h5 h6 h7 h8 hlo h3' h4'
          obtain ⟨q3, hq3⟩ : ∃ q, stsB (rs.map (machOf p)) r.states = q := ⟨_, rfl⟩
          obtain ⟨q4, hq4⟩ : ∃ q, amongB rs r.net = q := ⟨_, rfl⟩
          rw [hq3, hq4] at HB
          have HQ3 : Hid (stsB (xs.map fun x => x.u.m) r.states = q3) := hide (by rw [HQ.out.2.1]; exact hq3)
          have HQ4 : Hid (amongB (xs.map PU.role) r.net = q4) := hide (by rw [HQ.out.1]; exact hq4)
          clear hq3 hq4
          have HKP : Hid (∀ W1 W2, W1.cell? ⟨w4.heap.size + 1, 0, none⟩ = some (.pointer (some ⟨w4.heap.size, 0, none⟩)) → Below W1.heap.size W1 W2 → W2.cell? ⟨w4.heap.size + 1, 0, none⟩ = some (.pointer (some ⟨w4.heap.size, 0, none⟩))) := hide (fun W1 W2 h hb => (below_apart hb).cell' h (by simp))
          go_wp2_with fail
          cases q3
          · first
              | (go_region_with (go_at_call 89; refine (states_right HQ3.out _ _ _ _ _ _ _ _ _ hlen hsl (HCO.out.below ((Below.refl _ _).drew))).mono ?_; rintro e W5 ⟨rfl, hb5⟩; have c5 := HKP.out W.drew _ cc hb5))
              | fail
            all_goals
              go_wp2_with fail
              have hD5 : W5.heap[W0.heap.size]? = some (.deferred (some [])) := (hb5.block _ (Array.getElem?_eq_some_iff.1 HD.out).1).trans HD.out
              refine ⟨by simp, .inl ⟨_, _, rfl, run_takeDeferred hD5, ?_⟩⟩
              have HN : rnB r p = false := HB.out
              refine ⟨.tuple #[.pointer (some ⟨w4.heap.size, 0, none⟩), .bool false], by first | rfl | simp [results, Tryz.f48, go_sem], .pointer (some ⟨w4.heap.size, 0, none⟩), by rw [HN], ?_, fun h => by rw [HN] at h; cases h⟩
              have hw5 : Below w.heap.size w W5 := HQ.out.2.2.2.2.2.2.2.2.trans (((Below.refl _ W).drew.trans hb5).mono HQ.out.2.2.2.2.2.2.2.2.size)
              exact below_put hw5 (by have := HZ0.out; have := HWZ.out; omega)
          · first
              | go_region_held3 (fun w' => w'.cell? ⟨w4.heap.size + 1, 0, none⟩ = some (.pointer (some ⟨w4.heap.size, 0, none⟩))) (first | assumption | exact cc | exact HKP.out _ _ (by assumption) (by assumption)) ((first | (go_at_call 90; refine (among_roles HQ4.out _ _ _ _ _ _ _ _ _ hlen h36 ((HCO.out.below ((Below.refl _ _).drew)).below hb5)).mono ?_; rintro e W6 ⟨rfl, hb6⟩) | (go_at_call 89; refine (states_right HQ3.out _ _ _ _ _ _ _ _ _ hlen hsl (HCO.out.below ((Below.refl _ _).drew))).mono ?_; rintro e W5 ⟨rfl, hb5⟩)))
              | fail
            go_wp2_with fail
            have hb6' : Below W.heap.size W W6 := (Below.refl _ W).drew.trans (hb5.trans (hb6.mono hb5.size))
            have hDl := (Array.getElem?_eq_some_iff.1 HD.out).1
            have hD6 : W6.heap[W0.heap.size]? = some (.deferred (some [])) := (hb6'.block _ hDl).trans HD.out
            refine ⟨by simp, .inl ⟨_, _, rfl, run_takeDeferred hD6, ?_⟩⟩
            have HN : rnB r p = q4 := HB.out
            refine ⟨.tuple #[.pointer (some ⟨w4.heap.size, 0, none⟩), .bool q4], by first | rfl | simp [results, Tryz.f48, go_sem], .pointer (some ⟨w4.heap.size, 0, none⟩), by rw [HN], ?_, fun h => ?_⟩
            · exact below_put (HQ.out.2.2.2.2.2.2.2.2.trans (hb6'.mono HQ.out.2.2.2.2.2.2.2.2.size)) (by have := HZ0.out; have := HWZ.out; omega)
            · have co6 := HCO.out.below hb6'
              have hpa := put_apart W6 W0.heap.size (.deferred none)
              obtain ⟨q1, q2, q5, q6, q7, q8, q9, q10, q11⟩ := HQ.out
              obtain ⟨o1, o2, o3, o4, o5⟩ := HO.out
              have hbs : ∀ b, b ∈ vblocks (.slice pp r.plan.length cp) ∨ b ∈ vblocks (.slice ps r.states.length cs) ∨ b ∈ vblocks (.slice pn r.net.length cn) → b < w4.heap.size := fun b hb => by
                rcases hb with h | h | h
                · exact (owns_fresh o1).hi b h
                · exact (owns_fresh o2).hi b h
                · exact (owns_fresh o3).hi b h
              have hz := HZ0.out
              have hnot : ∀ {b : Nat}, b < w4.heap.size → b ∉ [W0.heap.size] := fun {b} hb hm => by simp at hm; omega
              refine ⟨xs, ⟨⟨W0.heap.size, w4.heap.size, .slice pp r.plan.length cp, .slice ps r.states.length cs, .slice pn r.net.length cn, .slice pq xs.length cq, rfl, ⟨co6.box.keep hpa (by simp; omega), co6.row.keep hpa (fun b hb hm => by simp at hm; subst hm; exact q9 (List.mem_cons_of_mem _ hb)) (fun x hx b hb hm => by simp at hm; have := q7 x hx b hb; omega), owns_keep co6.plan hpa (fun b hb => hnot (hbs b (.inl hb))), owns_keep co6.sts hpa (fun b hb => hnot (hbs b (.inr (.inl hb)))), owns_keep co6.net hpa (fun b hb => hnot (hbs b (.inr (.inr hb))))⟩, by have := HWZ.out; omega, by omega, fun b hb => by have := hbs b hb; omega, o4, o5, (owns_fresh q6.own).lo, fun x hx b hb => by have := q7 x hx b hb; omega⟩, ?_, ?_⟩⟩
              · rw [HRS.out]; exact q1
              · rw [HRS.out]; exact q2
end Go.Proofs.YtaaeledleldllaaGreat
namespace Go.Proofs.YtaaeledleldllaaGreat
open Go.RowKit

theorem i_runRight (r : Rn) (b : Bool) (hb : RnIs r b) (v : Value) (w : World) (hf : r.fit) (hv : RnAt w v r) :
    Calls Tryz.prog 16 #[v] w fun e w' => e = .returned (.bool b) ∧ Below w.heap.size w w' := by
  have HV := hide hv
  have HF := hide hf
  obtain ⟨p, hp⟩ := rn_p hb
  have HB := hide hp
  obtain ⟨pa, pc, sa, sc, na, nc, rfl, h1, h2, h3⟩ := hv.at_
  clear h1 h2 h3 hv hf hb hp
  unfold rnV rnC at *
  go_enter Tryz.func16, Tryz.ntmps16
  go_wp2_with (go_at_call 48; refine (i_courseOf r p b HB.out _ _ HF.out (HV.out.carry (malloc1 _ _))).mono ?_; rintro e w1 ⟨pt, rfl, hb1, -⟩; have HB1 := hide hb1; clear hb1)
  go_ret
  exact ⟨rfl, (malloc1 _ _).trans (HB1.out.mono (by simp))⟩
end Go.Proofs.YtaaeledleldllaaGreat
