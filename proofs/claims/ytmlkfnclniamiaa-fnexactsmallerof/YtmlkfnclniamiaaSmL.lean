/- Rows of rows of numbers: the law's own helpers over them. -/
import Derived.Test.YtmlkfnclniamiaaSmS
namespace Go.Proofs.Ytmlkfnclniamiaa
open Go.RowKit
attribute [local go_sem ↓] Go.wp_at_zero Go.wp_at_succ

def markI (k n : Nat) : List Int := (List.range n).map fun i => ((k + i : Nat) : Int)
theorem markI_len (k n : Nat) : (markI k n).length = n := by simp [markI]
theorem markI_get (k n i : Nat) (h : i < (markI k n).length) : (markI k n)[i] = ((k + i : Nat) : Int) := by simp [markI]
theorem NumOwn.sl {w : World} {base : Nat} {v : Value} {l : List Int} (h : NumOwn w base v l) (hl : l.length ≤ 4294967296) : NumSl w w.heap.size v l := by
  have H := h
  rcases h.2 with ⟨rfl, h0⟩ | ⟨g, cap, cur, rfl, hg, hblk, hc, hm, _⟩
  · have : l = [] := List.length_eq_zero_iff.1 h0
    subst this
    exact ⟨none, 0, rfl, Nat.le_refl _, Nat.zero_le _, fun h => absurd rfl h⟩
  · refine ⟨_, cap, rfl, hc, hl, fun _ => ⟨g, 0, rfl, (Array.getElem?_eq_some_iff.1 hblk).1, fun j hj => ?_⟩⟩
    rw [Nat.zero_add]
    exact owns_cell H rfl j _ (numV_at hj)
theorem NumOwn.free {w : World} {base : Nat} {v : Value} {l : List Int} (h : NumOwn w base v l) : MOwn base w v := by
  refine ⟨fun b hb => ?_⟩
  rcases h.2 with ⟨rfl, _⟩ | ⟨g, cap, cur, rfl, hg, hblk, _⟩
  · cases hb
  · simp [Value.ownBlock] at hb
    subst hb
    exact ⟨hg, (Array.getElem?_eq_some_iff.1 hblk).1, fun j => by simp [World.frozen?, hblk]⟩
set_option maxRecDepth 100000 in
set_option maxHeartbeats 2000000 in
theorem mark_nums (k0 : Nat) (l : List Int) (v : Value) (w : World) (B : Nat) (hk : k0 + l.length ≤ 5900000) (hv : NumSl w w.heap.size v l) (hown : MOwn B w v) :
    Calls Try.prog 37 #[v, .int .i64 k0] w fun e w' => e = .returned (.int .i64 ((k0 + l.length : Nat) : Int)) ∧ NumSl w' w'.heap.size v (markI k0 l.length) ∧ Apart w w' (vblocks v) := by
  obtain ⟨ao, cap, rfl, hc, hm, hr⟩ := hv
  have HR := hide hr
  have HO := hide hown
  obtain ⟨n, hn⟩ : ∃ n, l.length = n := ⟨_, rfl⟩
  rw [hn] at hc hk hm ⊢
  have HN := hide hn
  clear hr hown hn
  by_cases hn0 : n = 0
  · subst hn0
    go_enter Try.func37, Try.ntmps37
    go_wp2_with fail
    go_loopw [1, 5] (fun kv i wr => i = .int .i64 0 ∧ kv = .int .i64 (k0 : Int) ∧ wr = w) (fun _ _ _ => 0)
    case atStart => exact ⟨rfl, rfl, rfl⟩
    case round =>
      obtain ⟨rfl, rfl, rfl⟩ := hrel
      go_wp2_with fail
      go_ret
      exact ⟨ret_int rfl, ⟨_, _, rfl, Nat.zero_le _, Nat.zero_le _, fun h => absurd rfl h⟩, (Apart.refl _).sub (by simp)⟩
  · have hne : l ≠ [] := fun h => hn0 (by rw [← HN.out, h]; rfl)
    obtain ⟨b, o, rfl, hlt, hrow⟩ := HR.out hne
    obtain ⟨hB, -, hfr⟩ := HO.out.free b rfl
    have HC0 : Hid (∀ i, i < n → ∃ y, w.cell? ⟨b, o + i, none⟩ = some y) := hide (fun i hi => ⟨_, hrow i (by rw [HN.out]; exact hi)⟩)
    have HFR := hide hfr
    clear hrow hfr
    go_enter Try.func37, Try.ntmps37
    go_wp2_with fail
    go_loopw [1, 5] (fun kv i wr => ∃ k : Nat, k ≤ n ∧ i = .int .i64 k ∧ kv = .int .i64 ((k0 + k : Nat) : Int) ∧ (∀ j, j < k → wr.cell? ⟨b, o + j, none⟩ = some (.int .i64 ((k0 + j : Nat) : Int))) ∧ (∀ j, j < n → ∃ y, wr.cell? ⟨b, o + j, none⟩ = some y) ∧ (∀ j, wr.frozen? ⟨b, j, none⟩ = false) ∧ Apart w wr [b]) (fun _ i _ => n - (intOf i).toNat)
    case atStart => exact ⟨0, Nat.zero_le _, rfl, rfl, fun j h => absurd h (by omega), HC0.out, HFR.out, (Apart.refl _).sub (by simp)⟩
    case round =>
      obtain ⟨k, hkn, rfl, rfl, hdone, hex, hfro, hap⟩ := hrel
      have HD := hide hdone
      have HE := hide hex
      have HF := hide hfro
      have HA := hide hap
      by_cases hlt2 : k < n
      · obtain ⟨y, hy⟩ := hex k hlt2
        have hf0 := hfro (o + k)
        obtain ⟨kk, hkk⟩ : ∃ kk, k0 + k = kk := ⟨_, rfl⟩
        rw [hkk]
        have hk9 : kk < 5900001 := by omega
        have HKK := hide hkk
        clear hdone hex hfro hap hkk
        go_wp2_with fail
        go_roundw
        case rel =>
          refine ⟨k + 1, hlt2, by go_num, by have := HKK.out; congr 1; omega, fun j hj => ?_, fun j hj => ?_, fun j => ?_, ?_⟩
          · by_cases e : j = k
            · subst e; rw [HKK.out]; exact World.cell?_setCell_same _ _ _ hy
            · rw [World.cell?_setCell_other _ _ _ _ (by intro e; injection e with _ e2; omega)]
              exact HD.out j (by omega)
          · by_cases e : j = k
            · subst e; exact ⟨_, World.cell?_setCell_same _ _ _ hy⟩
            · obtain ⟨z, hz⟩ := HE.out j hj
              exact ⟨z, by rw [World.cell?_setCell_other _ _ _ _ (by intro e; injection e with _ e2; omega)]; exact hz⟩
          · rw [World.frozen?_setCell]; exact HF.out j
          · exact (HA.out.trans (setCell_apart wr b (o + k) _)).sub (by simp)
        case measure => simp [intOf]; omega
      · obtain rfl : k = n := by omega
        clear hdone hex hfro hap
        go_wp2_with fail
        go_ret
        refine ⟨ret_int rfl, ⟨_, _, by rw [markI_len], by rw [markI_len]; exact hc, by rw [markI_len]; exact hm, fun _ => ⟨b, o, rfl, Nat.lt_of_lt_of_le hlt HA.out.size, fun j hj => ?_⟩⟩, HA.out.sub (by simp [vblocks, cellBlocks])⟩
        rw [markI_get]
        rw [markI_len] at hj
        exact HD.out j hj
set_option maxRecDepth 100000 in
set_option maxHeartbeats 2000000 in
theorem held_nums (k0 n : Nat) (v : Value) (w : World) (hk : k0 + n ≤ 5900000) (hv : NumSl w w.heap.size v (markI k0 n)) :
    Calls Try.prog 63 #[v, .int .i64 k0] w fun e w' => e = .returned (.int .i64 ((k0 + n : Nat) : Int)) ∧ Below w.heap.size w w' := by
  obtain ⟨ao, cap, rfl, hc, hm, hr⟩ := hv
  rw [markI_len] at hc hm ⊢
  have HR := hide hr
  clear hr
  go_enter Try.func63, Try.ntmps63
  go_wp2_with fail
  go_loopw [1, 5] (fun kv i wr => ∃ k : Nat, k ≤ n ∧ i = .int .i64 k ∧ kv = .int .i64 ((k0 + k : Nat) : Int) ∧ Below w.heap.size w wr) (fun _ i _ => n - (intOf i).toNat)
  case atStart => exact ⟨0, Nat.zero_le _, rfl, rfl, Below.refl _ _⟩
  case round =>
    obtain ⟨k, hkn, rfl, rfl, hbel⟩ := hrel
    have HBEL := hide hbel
    clear hbel
    by_cases hlt : k < n
    · have hlt' : k < (markI k0 n).length := by rw [markI_len]; exact hlt
      obtain ⟨b, o, rfl, hbB, hrow⟩ := HR.out (by intro h; rw [h] at hlt'; simp at hlt')
      have c0 := (hrow.carry hbB HBEL.out) k hlt'
      rw [markI_get] at c0
      obtain ⟨kk, hkk⟩ : ∃ kk, k0 + k = kk := ⟨_, rfl⟩
      rw [hkk] at c0 ⊢
      have hk9 : kk < 5900001 := by omega
      have HKK := hide hkk
      clear hkk hrow
      go_wp2_with fail
      go_roundw
      case rel => exact ⟨k + 1, hlt, by go_num, by have := HKK.out; congr 1; omega, HBEL.out⟩
      case measure => simp [intOf]; omega
    · obtain rfl : k = n := by omega
      go_wp2_with fail
      go_ret
      exact ⟨ret_int rfl, HBEL.out⟩
end Go.Proofs.Ytmlkfnclniamiaa
