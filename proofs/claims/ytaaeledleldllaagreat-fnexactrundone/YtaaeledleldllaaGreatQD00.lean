import Derived.Test.YtaaeledleldllaaGreatQB06
import Derived.Test.YtaaeledleldllaaGreatQB08
import Derived.Deep.RegionHeld3
import Derived.Test.YtaaeledleldllaaGreatQB49
namespace Go.Proofs.YtaaeledleldllaaGreat
open Go.RowKit

set_option maxRecDepth 100000 in
set_option maxHeartbeats 2000000 in
theorem state_raw (x : RState) (w : World) (cb g sb so tb to : Nat) (n c n2 sc L cap2 k s : Nat) (hk : k < n) (hks : k < n2) (hsx : s < L) (hcb : cb < w.heap.size)
    (d1 : w.cell? ⟨cb, 1, none⟩ = some (.slice (some ⟨sb, so, none⟩) n2 sc)) (d4 : w.cell? ⟨cb, 4, none⟩ = some (.slice (some ⟨g, 0, none⟩) n c)) (m1 : w.cell? ⟨g, k * 4 + 1, none⟩ = some (.slice (some ⟨tb, to, none⟩) L cap2)) (n0 : w.cell? ⟨sb, so + k, none⟩ = some (.int .i64 s)) (x0 : w.cell? ⟨tb, to + s * 2, none⟩ = some (.int .i64 x.kind)) (x1 : w.cell? ⟨tb, to + s * 2 + 1, none⟩ = some (.string x.peer)) :
    Calls Tryz.prog 100 #[.pointer (some ⟨cb, 0, none⟩), .int .i64 k] w fun e w' => e = .returned x.val ∧ Below w.heap.size w w' := by
  have hgb := World.block_lt_of_cell? w _ m1
  have hsb := World.block_lt_of_cell? w _ n0
  have htb := World.block_lt_of_cell? w _ x0
  unfold RState.val
  go_enter Tryz.func100, Tryz.ntmps100
  go_wp2_with fail
  obtain ⟨W0, hW0⟩ : ∃ W0, W0 = w.alloc (.cells #[.int .i64 0, .string ⟨#[]⟩] 103) := ⟨_, rfl⟩
  have hBa : Below w.heap.size w W0 := by rw [hW0]; exact malloc1 _ _
  have XA : BoxL W0 w.heap.size [.int .i64 0, .string ⟨#[]⟩] := by rw [hW0]; exact BoxL.new w [.int .i64 0, .string ⟨#[]⟩] 103
  have z0 := XA.cell 0 _ rfl
  have z1 := XA.cell 1 _ rfl
  have fz := XA.fz
  rw [← hW0]
  replace d1 := (hBa.cell (p := ⟨cb, 1, none⟩) hcb).trans d1
  replace d4 := (hBa.cell (p := ⟨cb, 4, none⟩) hcb).trans d4
  replace m1 := (hBa.cell (p := ⟨g, k * 4 + 1, none⟩) hgb).trans m1
  replace n0 := (hBa.cell (p := ⟨sb, so + k, none⟩) hsb).trans n0
  replace x0 := (hBa.cell (p := ⟨tb, to + s * 2, none⟩) htb).trans x0
  replace x1 := (hBa.cell (p := ⟨tb, to + s * 2 + 1, none⟩) htb).trans x1
  have HBa := hide hBa
  have HXA := hide XA
  have hn1 : ¬ w.heap.size = cb := by omega
  have hn2' : ¬ w.heap.size = g := by omega
  have hn3 : ¬ w.heap.size = sb := by omega
  have hn4 : ¬ w.heap.size = tb := by omega
  clear hW0 hBa XA
  go_region_held3 (fun w' => w'.cell? ⟨cb, 1, none⟩ = some (.slice (some ⟨sb, so, none⟩) n2 sc) ∧ w'.cell? ⟨cb, 4, none⟩ = some (.slice (some ⟨g, 0, none⟩) n c) ∧ w'.cell? ⟨g, k * 4 + 1, none⟩ = some (.slice (some ⟨tb, to, none⟩) L cap2) ∧ w'.cell? ⟨sb, so + k, none⟩ = some (.int .i64 s) ∧ w'.cell? ⟨tb, to + s * 2, none⟩ = some (.int .i64 x.kind) ∧ w'.cell? ⟨tb, to + s * 2 + 1, none⟩ = some (.string x.peer)) (go_keep) (first | fail)
  all_goals
    go_wp2_with fail
    have hX := (HXA.out.set 0 (by simp) (.int .i64 x.kind)).set 1 (by simp) (.string x.peer)
    have hb2 : Below w.heap.size w (((W0.setCell ⟨w.heap.size, 0, none⟩ (.int .i64 x.kind)).setCell ⟨w.heap.size, 1, none⟩ (.string x.peer)).drew) := ((HBa.out.setCell (p := ⟨w.heap.size, 0, none⟩) (Nat.le_refl _) _).setCell (p := ⟨w.heap.size, 1, none⟩) (Nat.le_refl _) _).drew
    obtain ⟨W, hW⟩ : ∃ W, W = (W0.setCell ⟨w.heap.size, 0, none⟩ (.int .i64 x.kind)).setCell ⟨w.heap.size, 1, none⟩ (.string x.peer) := ⟨_, rfl⟩
    rw [← hW] at hX hb2 ⊢
    have k0 : W.drew.cell? ⟨w.heap.size, 0, none⟩ = some (.int .i64 x.kind) := hX.cell 0 _ rfl
    have k1 : W.drew.cell? ⟨w.heap.size, 1, none⟩ = some (.string x.peer) := hX.cell 1 _ rfl
    refine bodyPost_ret_by (v := .agg #[.int .i64 x.kind, .string x.peer]) ?_ rfl ⟨rfl, hb2⟩
    unfold results
    go_simp
end Go.Proofs.YtaaeledleldllaaGreat
namespace Go.Proofs.YtaaeledleldllaaGreat
open Go.RowKit

def endK (m : Mach) (s : Int) : Bool := match m.states[s.toNat]? with
  | some x => x.kind == 0
  | none => false
def endsB (ms : List Mach) (ss : List Int) : Bool := (List.range ms.length).all fun i => match ms[i]?, ss[i]? with
  | some m, some s => endK m s
  | _, _ => false
theorem ends_no {ms : List Mach} {ss : List Int} {k : Nat} {m : Mach} {s : Int} (hm : ms[k]? = some m) (hs : ss[k]? = some s) (h : endK m s = false) : endsB ms ss = false := by
  unfold endsB
  have hk : k < ms.length := (List.getElem?_eq_some_iff.1 hm).1
  rw [List.all_eq_false]
  exact ⟨k, List.mem_range.2 hk, by rw [hm, hs]; simp [h]⟩
theorem ends_all {ms : List Mach} {ss : List Int} (hl : ss.length = ms.length) (h : ∀ (k : Nat) (hk : k < ms.length), endK ms[k] (ss[k]'(by omega)) = true) : endsB ms ss = true := by
  unfold endsB
  rw [List.all_eq_true]
  intro i hi
  have hi' := List.mem_range.1 hi
  rw [List.getElem?_eq_getElem hi', List.getElem?_eq_getElem (by omega)]
  exact h i hi'
theorem st_get {m : Mach} {s : Int} (h : stOk m s = true) : ∃ k : Nat, ∃ hk : k < m.states.length, s = (k : Int) ∧ endK m s = (m.states[k].kind == 0) := by
  unfold stOk inB at h
  simp only [Bool.and_eq_true, decide_eq_true_eq] at h
  have hk : s.toNat < m.states.length := by omega
  refine ⟨s.toNat, hk, by omega, ?_⟩
  unfold endK
  rw [List.getElem?_eq_getElem hk]
def DnIs (r : Rn) (p : Pn 10) (d : Bool) : Prop := ∃ b, RnP r p b ∧ d = (b && (endsB ((rolesS r.plan).map (machOf p)) r.states && decide (r.net.length = 0)))
theorem dn_ex (r : Rn) : ∃ p d, DnIs r p d := by
  obtain ⟨b, hb⟩ := rn_ex r
  obtain ⟨p, hp⟩ := rn_p hb
  exact ⟨p, _, b, hp, rfl⟩
theorem rn_sts {r : Rn} {p : Pn 10} (h : RnP r p true) : SPlan r.plan p ∧ stsB ((rolesS r.plan).map (machOf p)) r.states = true ∧ r.states.length = (rolesS r.plan).length ∧ r.net.length ≤ 36 := by
  rcases h with ⟨_, h⟩ | ⟨_, h2, h3⟩
  · cases h
  · have := h3.symm
    unfold rnB at this
    simp only [Bool.and_eq_true] at this
    refine ⟨h2, this.1.2, ?_, ?_⟩
    · have h4 := this.1.2
      unfold stsB at h4
      rw [Bool.and_eq_true, decide_eq_true_eq, List.length_map] at h4
      exact h4.1
    · have h4 := this.1.1.1
      unfold netB at h4
      rw [Bool.and_eq_true, decide_eq_true_eq] at h4
      exact h4.1
end Go.Proofs.YtaaeledleldllaaGreat
