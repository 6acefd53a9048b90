/- Rows of numbers: in memory; the law's own helpers over them. -/
import Derived.Test.YtmlkfnclniamiaaOpenB
namespace Go.Proofs.Ytmlkfnclniamiaa
open Go.RowKit Go.ChangeShapes Go.WideShapes

def Nums (w : World) (b o : Nat) (l : List Int) : Prop := ∀ j (h : j < l.length), w.cell? ⟨b, o + j, none⟩ = some (.int .i64 l[j])
theorem Nums.carry {w w' : World} {b B o : Nat} {l : List Int} (h : Nums w b o l) (hB : b < B) (hb : Below B w w') : Nums w' b o l :=
  fun j hj => (hb.cell (p := ⟨b, o + j, none⟩) hB).trans (h j hj)
/-- a slice's value holds such a row, in a block below B -/
def NumSl (w : World) (B : Nat) (v : Value) (l : List Int) : Prop :=
  ∃ ao cap, v = .slice ao l.length cap ∧ l.length ≤ cap ∧ l.length ≤ 4294967296 ∧ (l ≠ [] → ∃ b o, ao = some ⟨b, o, none⟩ ∧ b < B ∧ Nums w b o l)
theorem NumSl.carry {w w' : World} {B : Nat} {v : Value} {l : List Int} (h : NumSl w B v l) (hb : Below B w w') : NumSl w' B v l := by
  obtain ⟨ao, cap, h1, h2, h3, h4⟩ := h
  refine ⟨ao, cap, h1, h2, h3, fun hne => ?_⟩
  obtain ⟨b, o, e, hlt, hr⟩ := h4 hne
  exact ⟨b, o, e, hlt, hr.carry hlt hb⟩
theorem NumSl.up {w : World} {B B' : Nat} {v : Value} {l : List Int} (h : NumSl w B v l) (hB : B ≤ B') : NumSl w B' v l := by
  obtain ⟨ao, cap, h1, h2, h3, h4⟩ := h
  refine ⟨ao, cap, h1, h2, h3, fun hne => ?_⟩
  obtain ⟨b, o, e, hlt, hr⟩ := h4 hne
  exact ⟨b, o, e, by omega, hr⟩
theorem NumSl.on {w w' : World} {v : Value} {l : List Int} (h : NumSl w w.heap.size v l) (hb : Below w.heap.size w w') : NumSl w' w'.heap.size v l := (h.carry hb).up hb.size
theorem NumSl.shape {w : World} {B : Nat} {v : Value} {l : List Int} (h : NumSl w B v l) : ∃ p c, v = .slice p l.length c := by
  obtain ⟨ao, cap, h1, _⟩ := h
  exact ⟨ao, cap, h1⟩
theorem Try.infoI64 : (Try.prog.info? 2).map (fun i => (i.zero, i.size, i.bytes)) = some (some (.int .i64 0), 1, 8) := by kernel_rfl

set_option maxHeartbeats 2000000 in
set_option maxRecDepth 100000 in
theorem to_nums (l : List Int) (ao : Option Addr) (cap : Nat) (w : World) (hl : l.length ≤ 1048576) (hr : l ≠ [] → ∃ b o, ao = some ⟨b, o, none⟩ ∧ b < w.heap.size ∧ Nums w b o l) :
    Calls Try.prog 29 #[.slice ao l.length cap] w fun e w' => ∃ v', e = .returned v' ∧ NumSl w' w'.heap.size v' l ∧ MOwn w.heap.size w' v' ∧ Below w.heap.size w w' := by
  have HR := hide hr
  obtain ⟨i0, hi, hz0, hz1, hz2⟩ := info_parts Try.infoI64
  obtain ⟨M, hM⟩ : ∃ M, M = madeCells (Value.int .i64 0).cells (l.length * 1) := ⟨_, rfl⟩
  have hMs : M.size = l.length * 1 := by rw [hM, size_madeCells]
  have hmk : ∀ W : World, (Instr.makeSlice 40 (.int .i64 (l.length : Int)) (.int .i64 (l.length : Int))).run Try.prog W = .ok (.slice (some ⟨W.heap.size, 0, none⟩) l.length l.length) (W.alloc (.cells M 2)) := fun W => by
    have h := run_make (P := Try.prog) W 40 2 i0 _ Try.underlying40 hi hz0 .i64 .i64 (l.length : Int) (l.length : Int) (by omega) (by omega) (by rw [hz2]; omega) (by omega)
    rw [hz1] at h
    simp only [Int.toNat_natCast] at h
    rw [← hM] at h
    exact h
  have HMS := hide hMs
  clear hr hM hMs hi hz0 hz1 hz2
  go_enter Try.func29, Try.ntmps29
  go_wp2_with fail
  go_loopw [4] (fun i wr => ∃ k : Nat, k ≤ l.length ∧ i = .int .i64 k ∧ (∀ j (h : j < l.length), j < k → wr.cell? ⟨w.heap.size, j, none⟩ = some (.int .i64 l[j])) ∧ (∀ j, j < l.length → ∃ y, wr.cell? ⟨w.heap.size, j, none⟩ = some y) ∧ (∀ j, wr.frozen? ⟨w.heap.size, j, none⟩ = false) ∧ w.heap.size < wr.heap.size ∧ Below w.heap.size w wr)
    (fun i _ => l.length - (intOf i).toNat)
  case atStart =>
    refine ⟨0, Nat.zero_le _, rfl, fun j _ h => absurd h (by omega), fun j hj => ?_, fun j => ?_, by simp, malloc1 _ _⟩
    · have hj' : j < M.size := by rw [HMS.out]; omega
      exact ⟨M[j], by simp [hj']⟩
    · simp
  case round =>
    obtain ⟨k, hk, rfl, hall, hcells, hfro, hsz, hbel⟩ := hrel
    have HA := hide hall
    have HC := hide hcells
    have HFR := hide hfro
    have HBEL := hide hbel
    clear hall hbel
    by_cases hlt : k < l.length
    · obtain ⟨b, o, rfl, hbB, hrow⟩ := HR.out (by intro h; simp [h] at hlt)
      have hnode := (hrow.carry hbB HBEL.out) k hlt
      obtain ⟨x1, hx1⟩ : ∃ x1, x1 = l[k] := ⟨_, rfl⟩
      rw [← hx1] at hnode
      have HN := hide hx1
      clear hx1 hrow
      obtain ⟨y0, g0⟩ := hcells k hlt
      have f0 := hfro k
      clear hcells hfro
      go_wp2_with fail
      all_goals
        go_roundw
        case rel =>
          refine ⟨k + 1, by omega, by go_num, fun j hj hjk => ?_, fun j hj => ?_, fun j => ?_, ?_, ?_⟩
          · by_cases hjk' : j = k
            · subst hjk'; rw [← HN.out]; exact World.cell?_setCell_same _ _ _ g0
            · rw [World.cell?_setCell_other _ _ _ _ (by intro e; injection e with _ e2; omega)]
              exact HA.out j hj (by omega)
          · by_cases hjk' : j = k
            · subst hjk'; exact ⟨_, World.cell?_setCell_same _ _ _ g0⟩
            · obtain ⟨y, hy⟩ := HC.out j hj
              exact ⟨y, by rw [World.cell?_setCell_other _ _ _ _ (by intro e; injection e with _ e2; omega)]; exact hy⟩
          · rw [World.frozen?_setCell]; exact HFR.out j
          · rw [World.size_setCell]; exact hsz
          · first | exact HBEL.out.setCell (p := ⟨w.heap.size, k, none⟩) (Nat.le_refl _) _ | exact HBEL.out.drew.setCell (p := ⟨w.heap.size, k, none⟩) (Nat.le_refl _) _
        case measure => simp [intOf]; omega
    · go_wp2_with fail
      go_ret
      refine ⟨_, rfl, ⟨_, _, rfl, Nat.le_refl _, by omega, fun hne => ⟨w.heap.size, 0, rfl, hsz, fun j hj => ?_⟩⟩, ⟨fun b hb => by simp [Value.ownBlock] at hb; subst hb; exact ⟨Nat.le_refl _, hsz, HFR.out⟩⟩, HBEL.out⟩
      rw [Nat.zero_add]
      exact HA.out j hj (by omega)

set_option maxHeartbeats 400000 in
theorem eq_nums (l : List Int) (v u : Value) (w : World) (hv : NumSl w w.heap.size v l) (hu : NumSl w w.heap.size u l) :
    Calls Try.prog 31 #[v, u] w fun e w' => e = .returned (.bool true) ∧ Below w.heap.size w w' := by
  obtain ⟨ao, cap, rfl, hc, hm, hr⟩ := hv
  obtain ⟨ao', cap', rfl, hc', hm', hr'⟩ := hu
  have HR := hide hr
  have HR' := hide hr'
  clear hr hr'
  go_enter Try.func31, Try.ntmps31
  go_wp2_with fail
  go_loopw [5] (fun i wr => ∃ k : Nat, k ≤ l.length ∧ i = .int .i64 k ∧ Below w.heap.size w wr) (fun i _ => l.length - (intOf i).toNat)
  case atStart => exact ⟨0, Nat.zero_le _, rfl, Below.refl _ _⟩
  case round =>
    obtain ⟨k, hk, rfl, hbel⟩ := hrel
    have HBEL := hide hbel
    have hszr := hbel.size
    clear hbel
    by_cases hlt : k < l.length
    · obtain ⟨b, o, rfl, hbB, hrow⟩ := HR.out (by intro h; simp [h] at hlt)
      obtain ⟨b', o', rfl, hbB', hrow'⟩ := HR'.out (by intro h; simp [h] at hlt)
      have c0 := (hrow.carry hbB HBEL.out) k hlt
      have d0 := (hrow'.carry hbB' HBEL.out) k hlt
      obtain ⟨x1, hx1⟩ : ∃ x1, x1 = l[k] := ⟨_, rfl⟩
      rw [← hx1] at c0 d0
      clear hx1 hrow hrow'
      go_wp2_with fail
      go_region
      go_wp2_with fail
      all_goals
        go_roundw
        case rel => exact ⟨k + 1, by omega, by go_num, by first | exact HBEL.out | exact HBEL.out.drew | exact HBEL.out.drew.drew⟩
        case measure => simp [intOf]; omega
    · go_wp2_with fail
      go_ret
      exact ⟨rfl, HBEL.out⟩

set_option maxRecDepth 100000 in
/-- numbers that are handed in -/
theorem open_nums {H : Type} {enc : TypeId × Value → H} {w : World} {base : Nat} {spare : Nat → Bool} {held : Bool} {fuel : Nat} {a0 : Option Addr} {len0 cap0 : Nat} {x : DataW H × List MemPlace} (h : DataW.trod enc Try.prog w base spare held fuel 40 [.slice a0 len0 cap0] = some x) :
    ∃ ns : List Int, ns.length = len0 ∧ (∀ z ∈ ns, -9223372036854775808 ≤ z ∧ z ≤ 9223372036854775807) ∧ ns.length ≤ maxLen ∧ (ns ≠ [] → ∃ b o, a0 = some ⟨b, o, none⟩ ∧ b < w.heap.size ∧ Nums w b o ns) := by
  rcases Go.Deep.open_slice Try.underlying40 h with ⟨h0, _⟩ | ⟨a, len, cap, m, n, D, Pl, hcs, hb, hl, hm, hmm, hx, hel⟩
  · simp at h0
    obtain ⟨rfl, rfl, rfl⟩ := h0
    exact ⟨[], rfl, by simp, Nat.zero_le _, fun h => absurd rfl h⟩
  · simp at hcs
    obtain ⟨rfl, rfl, rfl⟩ := hcs
    have hlm : len0 ≤ m := by rw [hmm]; split <;> omega
    have each : ∀ i, i < len0 → ∃ z : Int, (-9223372036854775808 ≤ z ∧ z ≤ 9223372036854775807) ∧ ∀ b o, a = ⟨b, o, none⟩ → w.cell? ⟨b, o + i, none⟩ = some (.int .i64 z) := by
      intro i hi
      obtain ⟨cs', h1, h2⟩ := hel i (by omega)
      rw [Try.ocI] at h1
      obtain ⟨_, hlen, hcell⟩ := World.cells?_some h1
      obtain ⟨z, e0, _, hw⟩ := DataW.trod_int Try.underlying2 h2
      refine ⟨z, by simp [Lit.wf, IntKind.min, IntKind.max, IntKind.signed, IntKind.bits] at hw; exact hw, fun b o hab => ?_⟩
      subst hab
      have pl : ((⟨b, o, none⟩ : Addr).add (i * 1)).add 0 = ⟨b, o + i, none⟩ := by
        rw [Go.Deep.add_add]
        unfold Addr.add
        split <;> simp_all
      have := hcell 0 (by omega)
      rw [pl, e0] at this
      exact this
    obtain ⟨q, hq⟩ := Go.Deep.choose_lt each
    refine ⟨(List.range len0).map q, by simp, ?_, by simp; omega, fun hne => ?_⟩
    · intro x hx
      obtain ⟨i, hi, rfl⟩ := List.mem_map.1 hx
      exact (hq i (List.mem_range.1 hi)).1
    · have hpos : 0 < len0 := by
        rcases Nat.eq_zero_or_pos len0 with h0 | h0
        · subst h0; simp at hne
        · exact h0
      obtain ⟨b, o, s⟩ := a
      have hspot : s = none := by
        obtain ⟨cs', h1, h2⟩ := hel 0 (by omega)
        rw [Try.ocI] at h1
        obtain ⟨_, hlen, hcell⟩ := World.cells?_some h1
        obtain ⟨z, e0, _⟩ := DataW.trod_int Try.underlying2 h2
        have h0 := hcell 0 (by omega)
        rw [e0] at h0
        have := World.cell?_spot h0
        simpa [Addr.add] using this
      subst hspot
      have hrow : Nums w b o ((List.range len0).map q) := fun j hj => by
        simp only [List.getElem_map, List.getElem_range]
        exact (hq j (by simpa using hj)).2 b o rfl
      refine ⟨b, o, rfl, ?_, hrow⟩
      have := (hq 0 hpos).2 b o rfl
      exact World.block_lt_of_cell? w _ this
end Go.Proofs.Ytmlkfnclniamiaa
