import Derived.Test.YtaaeledleldllaaGreatQB20
import Derived.Test.YtaaeledleldllaaGreatQB04
import Derived.Test.YtaaeledleldllaaGreatQB19
import Derived.Test.YtaaeledleldllaaGreatQB21
import Derived.Test.YtaaeledleldllaaGreatQB00
import Derived.Sort.OwnSorted
import Derived.Deep.Slices
import Derived.ChangeArms
import Derived.ChangeSame
import Derived.WalkKit
namespace Go.Proofs.YtaaeledleldllaaGreat
open Go.RowKit

set_option maxHeartbeats 400000 in
theorem sz2_nodes (ns : List Nd) (ao : Option Addr) (cap : Nat) (w : World) (ok : ∀ n ∈ ns, n.ok) (hl : ns.length ≤ maxLen) (hr : ns ≠ [] → ∃ b o, ao = some ⟨b, o, none⟩ ∧ b < w.heap.size ∧ RowAt w b o ns) :
    Calls Tryz.prog 8 #[.slice ao ns.length cap, .int .i64 1048576] w fun e w' => ∃ r : Int, e = .returned (.int .i64 r) ∧ r ≤ 1048576 ∧ (0 ≤ r → ns.length ≤ 1048576 ∧ ∀ n ∈ ns, n.fit) ∧ Below w.heap.size w w' := by
  have HR := hide hr
  have HOK := hide ok
  unfold maxLen at hl
  clear hr ok
  by_cases h0 : ns.length ≤ 1048576
  · go_enter Tryz.func8, Tryz.ntmps8
    go_wp2_with fail
    go_loopw [1, 5] (fun lf i wr => ∃ (k : Nat) (l : Int), k ≤ ns.length ∧ i = .int .i64 k ∧ lf = .int .i64 l ∧ 0 ≤ l ∧ l ≤ 1048576 ∧ (∀ j (h : j < ns.length), j < k → ns[j].fit) ∧ Below w.heap.size w wr)
      (fun _ i _ => ns.length - (intOf i).toNat)
    case atStart => exact ⟨0, 1048576 - (ns.length : Int), Nat.zero_le _, rfl, rfl, by omega, by omega, fun j _ h => absurd h (by omega), Below.refl _ _⟩
    case round =>
      obtain ⟨k, l, hk, rfl, rfl, hl0, hl1, hall, hbel⟩ := hrel
      have HA := hide hall
      have HBEL := hide hbel
      have hszr := hbel.size
      clear hall hbel
      by_cases hlt : k < ns.length
      · obtain ⟨b, o, rfl, hbB, hrow⟩ := HR.out (by intro h; simp [h] at hlt)
        have hnode := (hrow.get k hlt).carry hbB HBEL.out
        obtain ⟨n1, hn1⟩ : ∃ n1, n1 = ns[k] := ⟨_, rfl⟩
        rw [← hn1] at hnode
        have HN := hide hn1
        have HN1 := hide (show n1.ok by rw [hn1]; exact HOK.out _ (List.getElem_mem hlt))
        clear hn1 hrow
        have hbw : b < wr.heap.size := hnode.lt
        obtain ⟨c0, c1, c2, c3, c4⟩ := hnode
        go_wp2_with (go_at_call 31; refine (sz_node n1 l _ HN1.out hl0 hl1).mono ?_; rintro e w1 ⟨r, rfl, hr1, hrf, hb1⟩; have HRF := hide hrf; have HB1 := hide hb1; clear hrf hb1)
        all_goals
          first
            | (go_ret
               exact ⟨_, rfl, by omega, fun h => absurd h (by omega), HBEL.out.trans (HB1.out.mono hszr)⟩)
            | (go_roundw
               case rel =>
                 refine ⟨k + 1, r, by omega, by go_num, rfl, by omega, hr1, fun j hj hjk => ?_, HBEL.out.trans (HB1.out.mono hszr)⟩
                 by_cases hjk' : j = k
                 · subst hjk'; rw [← HN.out]; exact HRF.out (by omega)
                 · exact HA.out j hj (by omega)
               case measure => simp [intOf]; omega)
      · go_wp2_with fail
        go_ret
        refine ⟨_, rfl, by omega, fun _ => ⟨h0, fun n hn => ?_⟩, HBEL.out⟩
        obtain ⟨j, hj, rfl⟩ := List.getElem_of_mem hn
        exact HA.out j hj (by omega)
  · go_enter Tryz.func8, Tryz.ntmps8
    go_wp2_with fail
    go_ret
    exact ⟨_, rfl, by omega, fun h => absurd h (by omega), Below.refl _ _⟩
end Go.Proofs.YtaaeledleldllaaGreat
namespace Go.Proofs.YtaaeledleldllaaGreat
open Go.RowKit

structure OwnAt (B : Nat) (w : World) (v : Value) : Prop where
  free : ∀ b, v.ownBlock = some b → B ≤ b ∧ b < w.heap.size ∧ ∀ j, w.frozen? ⟨b, j, none⟩ = false
theorem OwnAt.carry {B : Nat} {w w' : World} {v : Value} (h : OwnAt B w v) (hb : Below w.heap.size w w') : OwnAt B w' v :=
  ⟨fun b e => ⟨(h.free b e).1, Nat.lt_of_lt_of_le (h.free b e).2.1 hb.size, fun j => (hb.frozen (p := ⟨b, j, none⟩) (h.free b e).2.1).trans ((h.free b e).2.2 j)⟩⟩
theorem own_at {B e size : Nat} {w : World} {v : Value} {n : Nat} {xs : List Value} (h : w.ownsRow B e size v n xs) : OwnAt B w v := by
  refine ⟨fun b hb => ?_⟩
  obtain ⟨_, hv⟩ := h
  rcases hv with ⟨rfl, _⟩ | ⟨g, cap, cur, rfl, hg, hh, _⟩
  · cases hb
  · simp [Value.ownBlock] at hb
    subst hb
    exact ⟨hg, (Array.getElem?_eq_some_iff.1 hh).1, fun j => by simp [World.frozen?, hh]⟩

end Go.Proofs.YtaaeledleldllaaGreat
namespace Go.Proofs.YtaaeledleldllaaGreat
open Go.RowKit

set_option maxHeartbeats 2000000 in
set_option maxRecDepth 100000 in
theorem to_nodes_own (ns : List Nd) (ao : Option Addr) (cap : Nat) (w : World) (hl : ns.length ≤ 1048576) (hr : ns ≠ [] → ∃ b o, ao = some ⟨b, o, none⟩ ∧ b < w.heap.size ∧ RowAt w b o ns) :
    Calls Tryz.prog 10 #[.slice ao ns.length cap] w fun e w' => ∃ v', e = .returned v' ∧ SlAt w' w'.heap.size v' ns ∧ OwnAt w.heap.size w' v' ∧ Below w.heap.size w w' := by
  have HR := hide hr
  obtain ⟨i0, hi, hz0, hz1, hz2⟩ := info_parts Tryz.infoN
  obtain ⟨M, hM⟩ : ∃ M, M = madeCells (Value.agg #[.int .i64 0, .string ByteArray.empty, .string ByteArray.empty, .int .i64 0, .int .i64 0]).cells (ns.length * 5) := ⟨_, rfl⟩
  have hMs : M.size = ns.length * 5 := by rw [hM, madeN]
  have hmk : ∀ W : World, (Instr.makeSlice 25 (.int .i64 (ns.length : Int)) (.int .i64 (ns.length : Int))).run Tryz.prog W = .ok (.slice (some ⟨W.heap.size, 0, none⟩) ns.length ns.length) (W.alloc (.cells M 68)) := fun W => by
    have h := run_make (P := Tryz.prog) W 25 68 i0 _ Tryz.underlying25 hi hz0 .i64 .i64 (ns.length : Int) (ns.length : Int) (by omega) (by omega) (by rw [hz2]; omega) (by omega)
    rw [hz1] at h
    simp only [Int.toNat_natCast] at h
    rw [← hM] at h
    exact h
  have HMS := hide hMs
  clear hr hM hMs hi hz0 hz1 hz2
  have HLL := hide hl
  go_enter Tryz.func10, Tryz.ntmps10
  go_wp2_with fail
  go_loopw [4] (fun i wr => ∃ k : Nat, k ≤ ns.length ∧ i = .int .i64 k ∧ (∀ j (h : j < ns.length), j < k → NodeAt wr w.heap.size (j * 5) ns[j]) ∧ (∀ j, j < ns.length * 5 → ∃ x, wr.cell? ⟨w.heap.size, j, none⟩ = some x) ∧ (∀ j, wr.frozen? ⟨w.heap.size, j, none⟩ = false) ∧ w.heap.size < wr.heap.size ∧ Below w.heap.size w wr)
    (fun i _ => ns.length - (intOf i).toNat)
  case atStart =>
    refine ⟨0, Nat.zero_le _, rfl, fun j _ h => absurd h (by omega), fun j hj => ?_, fun j => ?_, by simp, alloc1 _ _⟩
    · rw [← HMS.out] at hj
      exact ⟨M[j], by simp [hj]⟩
    · simp
  case round =>
    obtain ⟨k, hk, rfl, hall, hcells, hfro, hsz, hbel⟩ := hrel
    have HA := hide hall
    have HC := hide hcells
    have HFR := hide hfro
    have HBEL := hide hbel
    clear hall hbel
    by_cases hlt : k < ns.length
    · obtain ⟨b, o, rfl, hbB, hrow⟩ := HR.out (by intro h; simp [h] at hlt)
      have hnode := (hrow.get k hlt).carry hbB HBEL.out
      obtain ⟨n1, hn1⟩ : ∃ n1, n1 = ns[k] := ⟨_, rfl⟩
      rw [← hn1] at hnode
      have HN := hide hn1
      clear hn1 hrow
      have hbw : b < wr.heap.size := hnode.lt
      obtain ⟨c0, c1, c2, c3, c4⟩ := hnode
      obtain ⟨y0, g0⟩ := hcells (k * 5) (by omega)
      obtain ⟨y1, g1⟩ := hcells (k * 5 + 1) (by omega)
      obtain ⟨y2, g2⟩ := hcells (k * 5 + 2) (by omega)
      obtain ⟨y3, g3⟩ := hcells (k * 5 + 3) (by omega)
      obtain ⟨y4, g4⟩ := hcells (k * 5 + 4) (by omega)
      have HG := hide (And.intro g0 (And.intro g1 (And.intro g2 (And.intro g3 g4))))
      clear hcells hfro g0 g1 g2 g3 g4
      go_wp2_with (go_at_call 34; refine (to_node n1 _).mono ?_; rintro e w1 ⟨rfl, hb1⟩; unfold Nd.val; have hs1 := hb1.size; have HF1 : Hid (∀ j, w1.frozen? ⟨w.heap.size, j, none⟩ = false) := hide (fun j => (hb1.frozen (p := ⟨w.heap.size, j, none⟩) hsz).trans (HFR.out j)); have HC1 : Hid (∀ j, w1.cell? ⟨w.heap.size, j, none⟩ = wr.cell? ⟨w.heap.size, j, none⟩) := hide (fun j => hb1.cell (p := ⟨w.heap.size, j, none⟩) hsz); have g0 := (HC1.out (k * 5)).trans HG.out.1; have g1 := (HC1.out (k * 5 + 1)).trans HG.out.2.1; have g2 := (HC1.out (k * 5 + 2)).trans HG.out.2.2.1; have g3 := (HC1.out (k * 5 + 3)).trans HG.out.2.2.2.1; have g4 := (HC1.out (k * 5 + 4)).trans HG.out.2.2.2.2; have f0 := HF1.out (k * 5); have f1 := HF1.out (k * 5 + 1); have f2 := HF1.out (k * 5 + 2); have f3 := HF1.out (k * 5 + 3); have f4 := HF1.out (k * 5 + 4); have HB1 := hide hb1; clear hb1)
      go_roundw
      case rel =>
        have e := hide (show ((((w1.setCell ⟨w.heap.size, k * 5, none⟩ (.int .i64 n1.op)).setCell ⟨w.heap.size, k * 5 + 1, none⟩ (.string n1.name)).setCell ⟨w.heap.size, k * 5 + 2, none⟩ (.string n1.peer)).setCell ⟨w.heap.size, k * 5 + 3, none⟩ (.int .i64 n1.many)).setCell ⟨w.heap.size, k * 5 + 4, none⟩ (.int .i64 n1.sort) = putNode w1 w.heap.size (k * 5) n1 from rfl)
        rw [e.out]
        have hex : ∀ i, i < 5 → ∃ x, w1.cell? ⟨w.heap.size, k * 5 + i, none⟩ = some x := fun i hi => by rw [HC1.out]; exact HC.out _ (by omega)
        have hnew := put_node w1 w.heap.size (k * 5) n1 hex
        have hoth : ∀ j, (j < k * 5 ∨ k * 5 + 5 ≤ j) → (putNode w1 w.heap.size (k * 5) n1).cell? ⟨w.heap.size, j, none⟩ = wr.cell? ⟨w.heap.size, j, none⟩ := fun j hj => by
          rw [put_other _ _ _ _ _ (fun i hi h => by injection h with h1 h2; omega), HC1.out]
        refine ⟨k + 1, by omega, by go_num, fun j hj hjk => ?_, fun j hj => ?_, fun j => by rw [put_frozen]; exact HF1.out j, by rw [put_size]; omega, put_below (HBEL.out.trans (HB1.out.mono HBEL.out.size)) (Nat.le_refl _) _ _⟩
        · by_cases hjk' : j = k
          · subst hjk'; rw [← HN.out]; exact hnew
          · obtain ⟨a0, a1, a2, a3, a4⟩ := HA.out j hj (by omega)
            exact ⟨(hoth _ (by omega)).trans a0, (hoth _ (by omega)).trans a1, (hoth _ (by omega)).trans a2, (hoth _ (by omega)).trans a3, (hoth _ (by omega)).trans a4⟩
        · by_cases hin : j < k * 5 ∨ k * 5 + 5 ≤ j
          · rw [hoth j hin]; exact HC.out j hj
          · obtain ⟨a0, a1, a2, a3, a4⟩ := hnew
            rcases (show j = k * 5 ∨ j = k * 5 + 1 ∨ j = k * 5 + 2 ∨ j = k * 5 + 3 ∨ j = k * 5 + 4 by omega) with h | h | h | h | h
            · subst h; exact ⟨_, a0⟩
            · subst h; exact ⟨_, a1⟩
            · subst h; exact ⟨_, a2⟩
            · subst h; exact ⟨_, a3⟩
            · subst h; exact ⟨_, a4⟩
      case measure => simp [intOf]; omega
    · go_wp2_with fail
      go_ret
      refine ⟨_, rfl, ⟨_, _, rfl, Nat.le_refl _, by omega, fun hne => ⟨w.heap.size, 0, rfl, hsz, ?_⟩⟩, ⟨fun b hb => by simp [Value.ownBlock] at hb; subst hb; exact ⟨Nat.le_refl _, hsz, HFR.out⟩⟩, HBEL.out⟩
      exact rowsOf _ _ ns 0 (fun j hj => by rw [Nat.zero_add]; exact HA.out j hj (by omega))

end Go.Proofs.YtaaeledleldllaaGreat
namespace Go.Proofs.YtaaeledleldllaaGreat
open Go.RowKit Go.Sort

def bytesOf (t : ByteArray) : List UInt8 := t.toList
theorem enc_bytes (t : ByteArray) : encStr (bytesOf t) = .string t := by
  rw [bytesOf, Go.ByteArray.toList_eq]
theorem map_enc (ls : List ByteArray) : (ls.map bytesOf).map encStr = ls.map Value.string := by
  rw [List.map_map]
  apply List.map_congr_left
  intro t _
  exact enc_bytes t
theorem sort_roles {part : Bool} {ns : List Nd} (h : ∀ n ∈ ns, nodeB (talkS part) n = true) : ((rolesI ns).map bytesOf).mergeSort (fun x y => decide (x ≤ y)) = (rolesS ns).map bytesOf := by
  obtain ⟨hs, hp⟩ := roles_perm h
  have h1 := List.pairwise_mergeSort (le := fun (x y : List UInt8) => decide (x ≤ y)) (fun a b c h1 h2 => by simp at *; exact List.le_trans h1 h2) (fun a b => by simp; exact List.le_total a b) ((rolesI ns).map bytesOf)
  have h2 : ((rolesS ns).map bytesOf).Pairwise (fun x y => decide (x ≤ y) = true) := by
    rw [List.pairwise_map]
    refine hs.imp ?_
    intro a b hab
    rw [less_iff] at hab
    simp
    exact List.le_of_lt hab
  refine List.Perm.eq_of_pairwise ?_ h1 h2 ((List.mergeSort_perm _ _).trans (hp.map _))
  intro a b _ _ h3 h4
  simp at h3 h4
  exact List.le_antisymm h3 h4

theorem sort_own (ls ts : List ByteArray) (v : Value) (w : World) (base : Nat) (hown : w.ownsRow base 9 1 v ls.length (ls.map Value.string)) (hl : ls.length ≤ 1000) (hsort : (ls.map bytesOf).mergeSort (fun x y => decide (x ≤ y)) = ts.map bytesOf) :
    Calls Tryz.prog 74 #[v] w fun e w' => e = .returned (.tuple #[]) ∧ w'.ownsRow base 9 1 v ts.length (ts.map Value.string) ∧ w.grownBy w' v.ownBlock := by
  have hlen : ts.length = ls.length := by
    have := congrArg List.length hsort
    rw [List.length_mergeSort, List.length_map, List.length_map] at this
    exact this.symm
  obtain ⟨hxl, hv⟩ := hown
  rcases hv with ⟨rfl, h0⟩ | ⟨g, cap, cur, rfl, hg, hh, hn, hcap, hsz, htake⟩
  · have e : ls = [] := List.length_eq_zero_iff.1 h0
    subst e
    have e2 : ts = [] := List.length_eq_zero_iff.1 hlen
    subst e2
    refine (Tryz.slices_Sort_string_none none 0 w).mono ?_
    rintro e w' ⟨rfl, rfl⟩
    exact ⟨rfl, World.ownsRow_nil _ _ _ _, ⟨rfl, rfl, rfl, Nat.le_refl _, fun _ _ _ => rfl⟩⟩
  · have hlt : g < w.heap.size := (Array.getElem?_eq_some_iff.1 hh).1
    have hs := Tryz.slices_Sort_string g 0 cap (ls.map bytesOf) w (holds_of_block hh (by rw [List.length_map, map_enc]; simpa using htake)) hlt (by rw [List.length_map]; omega)
    rw [List.length_map] at hs
    refine hs.mono ?_
    rintro e w' ⟨rfl, n, os, rfl⟩
    refine ⟨rfl, ?_, grownBy_sorted _⟩
    rw [hsort]
    have ho := ownsRow_sorted (n := n) (os := os) (base := base) (ss := ls.map bytesOf) (ts := ts.map bytesOf) (by rw [List.length_map, List.length_map]; exact hlen) hg hh (by rw [List.length_map]; exact hn) hcap hsz
    rw [map_enc, List.length_map] at ho
    rw [hlen]
    exact ho
end Go.Proofs.YtaaeledleldllaaGreat
namespace Go.Proofs.YtaaeledleldllaaGreat
open Go.RowKit

def rolesV (ns : List Nd) : List ByteArray := if rightB false ns then rolesS ns else []
theorem right_nodes {part : Bool} {ns : List Nd} (h : rightB part ns = true) : ∀ n ∈ ns, nodeB (talkS part) n = true := by
  rw [rightB] at h
  simp only [Bool.and_eq_true] at h
  exact ahead_all h.2.1
theorem right_len {part : Bool} {ns : List Nd} (h : rightB part ns = true) : ns.length ≤ 40 := by
  rw [rightB] at h
  simp only [Bool.and_eq_true, decide_eq_true_eq] at h
  exact h.1
theorem right_roles {part : Bool} {ns : List Nd} (h : rightB part ns = true) : (rolesS ns).length ≤ 4 := by
  rw [rightB] at h
  simp only [Bool.and_eq_true, decide_eq_true_eq] at h
  exact h.2.2

theorem own_down {w : World} {base base' e size : Nat} {v : Value} {n : Nat} {xs : List Value} (h : w.ownsRow base e size v n xs) (hb : base' ≤ base) : w.ownsRow base' e size v n xs := by
  obtain ⟨h1, hv⟩ := h
  refine ⟨h1, ?_⟩
  rcases hv with hv | ⟨g, cap, cur, rfl, hg, r⟩
  · exact .inl hv
  · exact .inr ⟨g, cap, cur, rfl, by omega, r⟩

set_option maxHeartbeats 400000 in
theorem roles_of (ns : List Nd) (v : Value) (w : World) (fit : ∀ n ∈ ns, n.fit) (hv : SlAt w w.heap.size v ns) :
    Calls Tryz.prog 36 #[v] w fun e w' => ∃ v', e = .returned v' ∧ w'.ownsRow w.heap.size 9 1 v' (rolesV ns).length ((rolesV ns).map Value.string) ∧ Below w.heap.size w w' := by
  have HV := hide hv
  have HF := hide fit
  have hlm := hv.lenm
  obtain ⟨ao, cap, rfl, hc, hm, hr⟩ := hv
  obtain ⟨rb, hrb⟩ : ∃ rb, rightB false ns = rb := ⟨_, rfl⟩
  have HRB := hide hrb
  clear hr fit hrb
  cases rb
  · have HE : Hid (rolesV ns = []) := hide (by rw [rolesV, HRB.out]; rfl)
    go_enter Tryz.func36, Tryz.ntmps36
    go_wp2_with (go_at_call 35; refine (plan_right ns _ _ HF.out HV.out).mono ?_; rintro e w1 ⟨rfl, hb1⟩; rw [HRB.out]; have HB1 := hide hb1; clear hb1)
    go_ret
    refine ⟨_, rfl, ?_, HB1.out⟩
    rw [HE.out]
    exact World.ownsRow_nil _ _ _ _
  · have HE : Hid (rolesV ns = rolesS ns) := hide (by rw [rolesV, HRB.out]; rfl)
    have HLE := hide (right_len HRB.out)
    have HSO := hide (sort_roles (right_nodes HRB.out))
    have HLN : Hid ((rolesI ns).length = (rolesS ns).length) := hide (roles_perm (right_nodes HRB.out)).2.length_eq
    go_enter Tryz.func36, Tryz.ntmps36
    go_wp2_with (first | (go_at_call 35; refine (plan_right ns _ _ HF.out HV.out).mono ?_; rintro e w1 ⟨rfl, hb1⟩; rw [HRB.out]; have HB1 := hide hb1; clear hb1) | (go_at_call 73; refine (i_roles clone_calls ns _ _ HF.out ((HV.out.carry HB1.out).up HB1.out.size) HLE.out).mono ?_; rintro e w2 ⟨v2, rfl, ho2, hb2⟩; have HO2 := hide ho2; have HB2 : Hid (Below w.heap.size w w2) := hide (HB1.out.trans (hb2.mono HB1.out.size)); have HZ := hide HB1.out.size; clear ho2 hb2) | (go_at_call 74; refine (sort_own (rolesI ns) (rolesS ns) _ _ _ HO2.out (by have := rolesI_len ns; have := HLE.out; omega) HSO.out).mono ?_; rintro e w3 ⟨rfl, ho3, hg3⟩; have HO3 := hide ho3; have HB3 : Hid (Below w.heap.size w w3) := hide (HB2.out.grown hg3 HB2.out.size (fun k hk => Nat.le_trans HZ.out (own_row HO2.out k hk))); clear ho3 hg3))
    go_ret
    refine ⟨_, rfl, ?_, HB3.out⟩
    rw [HE.out]
    exact own_down HO3.out HZ.out

end Go.Proofs.YtaaeledleldllaaGreat
namespace Go.Proofs.YtaaeledleldllaaGreat
open Go.RowKit

theorem STexts.texts {w : World} {v : Value} {ls : List ByteArray} (h : STexts w v ls) (hl : ls.length ≤ 4294967296) : TextsAt w v ls := by
  obtain ⟨b, o, cap, rfl, h1, h2, h3⟩ := h
  exact ⟨_, _, rfl, h1, hl, fun _ => ⟨b, o, rfl, h3⟩⟩
theorem word_len {t : ByteArray} (h : wordB t = true) : t.size ≤ 20 := by
  simp only [wordB, nameB, Bool.and_eq_true, decide_eq_true_eq] at h
  exact h.1.1.2
theorem talker_word {n : Nd} (h : nodeB (talkS false) n = true) : ∀ t ∈ talkers n, wordB t = true := by
  intro t ht
  simp only [nodeB, Bool.or_eq_true] at h
  rcases h with (((h | h) | h) | h) | h
  · simp only [endB, Bool.and_eq_true, beq_iff_eq] at h
    simp [talkers, h] at ht
  · simp only [varB, Bool.and_eq_true, beq_iff_eq] at h
    simp [talkers, h] at ht
  · simp only [recB, Bool.and_eq_true, beq_iff_eq] at h
    simp [talkers, h] at ht
  · simp only [caseB, Bool.and_eq_true, beq_iff_eq] at h
    simp [talkers, h] at ht
  · simp only [Bool.and_eq_true] at h
    have hs := h.2
    simp only [talkS, Bool.and_eq_true] at hs
    simp at hs
    simp [talkers, hs] at ht
    rcases ht with h | h
    · rw [h]; exact hs.2.1.2
    · rw [h]; exact hs.1.1.1
theorem fold_mem {ts : List ByteArray} : ∀ {acc : List ByteArray} {t : ByteArray}, t ∈ ts.foldl addI acc → t ∈ acc ∨ t ∈ ts := by
  induction ts with
  | nil => intro acc t h; exact .inl h
  | cons s ts ih =>
    intro acc t h
    rcases ih h with h | h
    · rw [addI] at h
      split at h
      · exact .inl h
      · rcases List.mem_append.1 h with h | h
        · exact .inl h
        · simp at h; exact .inr (by simp [h])
    · exact .inr (List.mem_cons_of_mem _ h)
theorem role_word {ns : List Nd} (h : rightB false ns = true) : ∀ t ∈ rolesS ns, wordB t = true := by
  intro t ht
  have hp := (roles_perm (right_nodes h)).2
  have h1 := hp.mem_iff.2 ht
  rw [rolesI_eq] at h1
  rcases fold_mem h1 with h2 | h2
  · cases h2
  · obtain ⟨n, hn, hnt⟩ := List.mem_flatMap.1 h2
    exact talker_word (right_nodes h n hn) t hnt

end Go.Proofs.YtaaeledleldllaaGreat
namespace Go.Proofs.YtaaeledleldllaaGreat
open Go.RowKit Go.ChangeShapes Go.WideShapes

theorem Tryz.cN : Tryz.prog.cellsOf 67 = 5 := by kernel_rfl
theorem Tryz.cI : Tryz.prog.cellsOf 2 = 1 := by kernel_rfl
theorem Tryz.cS : Tryz.prog.cellsOf 9 = 1 := by kernel_rfl

theorem one_of {α : Type} {l : List α} {j : Nat} {v : α} (h : (l.drop j).take 1 = [v]) : l[j]? = some v := by
  have h1 : ((l.drop j).take 1)[0]? = some v := by rw [h]; rfl
  rw [List.getElem?_take, if_pos (by omega), List.getElem?_drop] at h1
  simpa using h1

theorem open_node {H : Type} {enc : TypeId × Value → H} {w : World} {base : Nat} {spare : Nat → Bool} {held : Bool} {fuel : Nat} {cs : List Value} {x : DataW H × List MemPlace} (h : DataW.trod enc Tryz.prog w base spare held fuel 67 cs = some x) :
    ∃ n : Nd, n.ok ∧ cs[0]? = some (.int .i64 n.op) ∧ cs[1]? = some (.string n.name) ∧ cs[2]? = some (.string n.peer) ∧ cs[3]? = some (.int .i64 n.many) ∧ cs[4]? = some (.int .i64 n.sort) := by
  obtain ⟨xs, n, _, _, hl, hlen, hf⟩ := DataW.trod_struct Tryz.underlying67 h
  have hx5 : xs.length = 5 := hlen
  match xs, hx5 with
  | [y0, y1, y2, y3, y4], _ =>
    have g0 : DataW.trod enc Tryz.prog w base spare held n 2 ((cs.drop 0).take (Tryz.prog.cellsOf 2)) = some y0 := hf 0 _ rfl
    have g1 : DataW.trod enc Tryz.prog w base spare held n 9 ((cs.drop 1).take (Tryz.prog.cellsOf 9)) = some y1 := hf 1 _ rfl
    have g2 : DataW.trod enc Tryz.prog w base spare held n 9 ((cs.drop 2).take (Tryz.prog.cellsOf 9)) = some y2 := hf 2 _ rfl
    have g3 : DataW.trod enc Tryz.prog w base spare held n 2 ((cs.drop 3).take (Tryz.prog.cellsOf 2)) = some y3 := hf 3 _ rfl
    have g4 : DataW.trod enc Tryz.prog w base spare held n 2 ((cs.drop 4).take (Tryz.prog.cellsOf 2)) = some y4 := hf 4 _ rfl
    rw [Tryz.cI] at g0 g3 g4
    rw [Tryz.cS] at g1 g2
    obtain ⟨z0, e0, _⟩ := DataW.trod_int Tryz.underlying2 g0
    obtain ⟨s1, e1, _, k1⟩ := DataW.trod_string Tryz.underlying9 g1
    obtain ⟨s2, e2, _, k2⟩ := DataW.trod_string Tryz.underlying9 g2
    obtain ⟨z3, e3, _⟩ := DataW.trod_int Tryz.underlying2 g3
    obtain ⟨z4, e4, _⟩ := DataW.trod_int Tryz.underlying2 g4
    exact ⟨⟨z0, s1, s2, z3, z4⟩, ⟨k1, k2⟩, one_of e0, one_of e1, one_of e2, one_of e3, one_of e4⟩

theorem open_nodes {H : Type} {enc : TypeId × Value → H} {w : World} {base : Nat} {spare : Nat → Bool} {held : Bool} {fuel : Nat} {a0 : Option Addr} {len0 cap0 : Nat} {x : DataW H × List MemPlace} (h : DataW.trod enc Tryz.prog w base spare held fuel 22 [.slice a0 len0 cap0] = some x) :
    ∃ ns : List Nd, ns.length = len0 ∧ (∀ n ∈ ns, n.ok) ∧ ns.length ≤ maxLen ∧ (ns ≠ [] → ∃ b o, a0 = some ⟨b, o, none⟩ ∧ b < w.heap.size ∧ RowAt w b o ns) := by
  rcases Go.Deep.open_slice Tryz.underlying22 h with ⟨h0, _⟩ | ⟨a, len, cap, m, n, D, Pl, hcs, hb, hl, hm, hmm, hx, hel⟩
  · simp at h0
    obtain ⟨rfl, rfl, rfl⟩ := h0
    exact ⟨[], rfl, by simp, Nat.zero_le _, fun h => absurd rfl h⟩
  · simp at hcs
    obtain ⟨rfl, rfl, rfl⟩ := hcs
    have hlm : len0 ≤ m := by rw [hmm]; split <;> omega
    have each : ∀ i, i < len0 → ∃ nd : Nd, nd.ok ∧ ∀ b o, a = ⟨b, o, none⟩ → NodeAt w b (o + i * 5) nd := by
      intro i hi
      obtain ⟨cs', h1, h2⟩ := hel i (by omega)
      rw [Tryz.cN] at h1
      obtain ⟨_, hlen, hcell⟩ := World.cells?_some h1
      obtain ⟨nd, hok, e0, e1, e2, e3, e4⟩ := open_node h2
      refine ⟨nd, hok, fun b o hab => ?_⟩
      subst hab
      have pl : ∀ j, ((⟨b, o, none⟩ : Addr).add (i * 5)).add j = ⟨b, o + i * 5 + j, none⟩ := fun j => by
        rw [Go.Deep.add_add]
        unfold Addr.add
        split <;> simp_all <;> omega
      refine ⟨?_, ?_, ?_, ?_, ?_⟩
      · have := hcell 0 (by omega); rw [pl, e0] at this; exact this
      · have := hcell 1 (by omega); rw [pl, e1] at this; exact this
      · have := hcell 2 (by omega); rw [pl, e2] at this; exact this
      · have := hcell 3 (by omega); rw [pl, e3] at this; exact this
      · have := hcell 4 (by omega); rw [pl, e4] at this; exact this
    have : Inhabited Nd := ⟨⟨0, ByteArray.empty, ByteArray.empty, 0, 0⟩⟩
    obtain ⟨q, hq⟩ := Go.Deep.choose_lt each
    refine ⟨(List.range len0).map q, by simp, ?_, by simp; omega, fun hne => ?_⟩
    · intro x hx
      obtain ⟨i, hi, rfl⟩ := List.mem_map.1 hx
      exact (hq i (List.mem_range.1 hi)).1
    · have hpos : 0 < len0 := by
        rcases Nat.eq_zero_or_pos len0 with h | h
        · subst h; simp at hne
        · exact h
      obtain ⟨b, o, s⟩ := a
      have hsp : ∀ i, i < len0 → ((Addr.add ⟨b, o, s⟩ (i * 5)).add 0).spot = none := by
        intro i hi
        obtain ⟨cs', h1, h2⟩ := hel i (by omega)
        rw [Tryz.cN] at h1
        obtain ⟨_, hlen, hcell⟩ := World.cells?_some h1
        obtain ⟨nd, hok, e0, _⟩ := open_node h2
        have h0 := hcell 0 (by omega)
        rw [e0] at h0
        exact World.cell?_spot h0
      have hspot : s = none := by simpa [Addr.add] using hsp 0 hpos
      subst hspot
      have hrow : RowAt w b o ((List.range len0).map q) := rowsOf w b _ o (fun j hj => by
        simp only [List.getElem_map, List.getElem_range]
        exact (hq j (by simpa using hj)).2 b o rfl)
      refine ⟨b, o, rfl, ?_, hrow⟩
      have := (hq 0 hpos).2 b o rfl
      exact this.lt
end Go.Proofs.YtaaeledleldllaaGreat
