import Derived.Test.YtmjlblbhakppfaaGreatDoorQP01
import Derived.Test.YtmjlblbhakppfaaGreatDoorQP00
import Derived.Laws.AppendOwn
import Derived.Maps.AppendAt
namespace Go.Proofs.YtmjlblbhakppfaaGreatDoor
open Go.RowKit

def hasB (ls : List ByteArray) (t : ByteArray) : Bool := ls.any fun s => s.toList == t.toList

def TextsAt (w : World) (v : Value) (ls : List ByteArray) : Prop :=
  ∃ ao cap, v = .slice ao ls.length cap ∧ ls.length ≤ cap ∧ ls.length ≤ 4294967296 ∧ (ls ≠ [] → ∃ b o, ao = some ⟨b, o, none⟩ ∧ ∀ i (h : i < ls.length), w.cell? ⟨b, o + i, none⟩ = some (.string ls[i]))
theorem TextsAt.carry {w w' : World} {v : Value} {ls : List ByteArray} (h : TextsAt w v ls) (hb : Below w.heap.size w w') : TextsAt w' v ls := by
  obtain ⟨ao, cap, h1, h2, h3, h4⟩ := h
  refine ⟨ao, cap, h1, h2, h3, fun hne => ?_⟩
  obtain ⟨b, o, e, hr⟩ := h4 hne
  refine ⟨b, o, e, fun i hi => ?_⟩
  exact (hb.cell (p := ⟨b, _, none⟩) (World.block_lt_of_cell? w _ (hr i hi))).trans (hr i hi)

theorem has_take {ls : List ByteArray} {t : ByteArray} {k : Nat} (hk : k < ls.length) (h : hasB (ls.take k) t = false) (he : (ls[k].toList == t.toList) = false) : hasB (ls.take (k + 1)) t = false := by
  rw [hasB, List.take_succ_eq_append_getElem hk, List.any_append]
  have : (ls.take k).any (fun s => s.toList == t.toList) = false := h
  simp [this, he] at *
theorem has_hit {ls : List ByteArray} {t : ByteArray} {k : Nat} (hk : k < ls.length) (he : (ls[k].toList == t.toList) = true) : hasB ls t = true := by
  rw [hasB, List.any_eq_true]
  exact ⟨ls[k], List.getElem_mem hk, he⟩

theorem texts_own {w : World} {base e : Nat} {v : Value} {ls : List ByteArray} (h : w.ownsRow base e 1 v ls.length (ls.map Value.string)) (hl : ls.length ≤ 4294967296) : TextsAt w v ls := by
  obtain ⟨_, hv⟩ := h
  rcases hv with ⟨rfl, h0⟩ | ⟨g, cap, cur, rfl, hg, hh, hn, hcap, hsz, htake⟩
  · have : ls = [] := List.length_eq_zero_iff.1 h0
    subst this
    exact ⟨none, 0, rfl, Nat.le_refl _, hl, fun h => absurd rfl h⟩
  · refine ⟨_, cap, rfl, hn, hl, fun _ => ⟨g, 0, rfl, fun i hi => ?_⟩⟩
    have h1 : cur.toList[i]? = some (.string ls[i]) := by
      have h2 : (cur.toList.take (ls.length * 1))[i]? = (ls.map Value.string)[i]? := by rw [htake]
      rw [List.getElem?_take, if_pos (by omega)] at h2
      rw [h2]
      simp [hi]
    have h2 : cur[i]? = some (.string ls[i]) := by rw [← h1]; simp
    simp only [World.cell?, hh]
    simpa using h2
theorem own_below {w w' : World} {base e size : Nat} {v : Value} {n : Nat} {xs : List Value} (h : w.ownsRow base e size v n xs) (hb : Below w.heap.size w w') : w'.ownsRow base e size v n xs := by
  obtain ⟨h1, hv⟩ := h
  refine ⟨h1, ?_⟩
  rcases hv with hv | ⟨g, cap, cur, rfl, hg, hh, r⟩
  · exact .inl hv
  · have hlt : g < w.heap.size := by
      rcases Nat.lt_or_ge g w.heap.size with h | h
      · exact h
      · rw [Array.getElem?_eq_none h] at hh; exact absurd hh (by simp)
    exact .inr ⟨g, cap, cur, rfl, hg, by rw [hb.block g hlt]; exact hh, r⟩
theorem own_row {w : World} {base e size : Nat} {v : Value} {n : Nat} {xs : List Value} (h : w.ownsRow base e size v n xs) : ∀ k, v.ownBlock = some k → base ≤ k := by
  obtain ⟨_, hv⟩ := h
  rcases hv with ⟨rfl, _⟩ | ⟨g, cap, cur, rfl, hg, r⟩
  · intro k hk; cases hk
  · intro k hk; cases hk; exact hg

set_option maxHeartbeats 400000 in
theorem s_among (ls : List ByteArray) (t : ByteArray) (v : Value) (w : World) (hv : TextsAt w v ls) :
    Calls Tryz.prog 53 #[v, .string t] w fun e w' => e = .returned (.bool (hasB ls t)) ∧ w' = w := by
  obtain ⟨ao, cap, rfl, hc, hm, hr⟩ := hv
  have HR := hide hr
  clear hr
  go_enter Tryz.func53, Tryz.ntmps53
  go_wp2_with fail
  go_loop [5] (fun i => ∃ k : Nat, k ≤ ls.length ∧ i = .int .i64 k ∧ hasB (ls.take k) t = false) (fun i => ls.length - (intOf i).toNat)
  case atStart => exact ⟨0, Nat.zero_le _, rfl, rfl⟩
  case round =>
    obtain ⟨k, hk, rfl, hall⟩ := hrel
    have HA := hide hall
    clear hall
    by_cases hlt : k < ls.length
    · obtain ⟨b, o, rfl, hcell⟩ := HR.out (by intro h; simp [h] at hlt)
      have hck := hcell k hlt
      obtain ⟨s, hs⟩ : ∃ s, s = ls[k] := ⟨_, rfl⟩
      rw [← hs] at hck
      have HSs := hide hs
      clear hcell hs
      cases heq : (s.toList == t.toList)
      all_goals
        have HE := hide heq
      · go_wp2_with fail
        go_round
        case rel => exact ⟨k + 1, by omega, by go_num, has_take hlt HA.out (by rw [← HSs.out]; exact HE.out)⟩
        case measure => simp [intOf]; omega
      · go_wp2_with fail
        go_ret
        exact ⟨ret_bool (has_hit hlt (by rw [← HSs.out]; exact HE.out)), rfl⟩
    · go_wp2_with fail
      go_ret
      refine ⟨ret_bool ?_, rfl⟩
      have := HA.out
      rwa [List.take_of_length_le (by omega)] at this

set_option maxHeartbeats 400000 in
theorem s_index (ls : List ByteArray) (t : ByteArray) (v : Value) (w : World) (hv : TextsAt w v ls) :
    Calls Tryz.prog 85 #[v, .string t] w fun e w' => ∃ j : Int, e = .returned (.int .i64 j) ∧ decide (0 ≤ j) = hasB ls t ∧ w' = w := by
  obtain ⟨ao, cap, rfl, hc, hm, hr⟩ := hv
  have HR := hide hr
  clear hr
  go_enter Tryz.func85, Tryz.ntmps85
  go_wp2_with fail
  go_loop [8] (fun i => ∃ k : Nat, k ≤ ls.length ∧ i = .int .i64 k ∧ hasB (ls.take k) t = false) (fun i => ls.length - (intOf i).toNat)
  case atStart => exact ⟨0, Nat.zero_le _, rfl, rfl⟩
  case round =>
    obtain ⟨k, hk, rfl, hall⟩ := hrel
    have HA := hide hall
    clear hall
    by_cases hlt : k < ls.length
    · obtain ⟨b, o, rfl, hcell⟩ := HR.out (by intro h; simp [h] at hlt)
      have hck := hcell k hlt
      obtain ⟨s, hs⟩ : ∃ s, s = ls[k] := ⟨_, rfl⟩
      rw [← hs] at hck
      have HSs := hide hs
      clear hcell hs
      cases heq : (t.toList == s.toList)
      all_goals
        have HE := hide heq
      · go_wp2_with fail
        go_round
        case rel => exact ⟨k + 1, by omega, by go_num, has_take hlt HA.out (by rw [← HSs.out, Bool.beq_comm]; exact HE.out)⟩
        case measure => simp [intOf]; omega
      · go_wp2_with fail
        go_ret
        exact ⟨_, rfl, by rw [has_hit hlt (by rw [← HSs.out, Bool.beq_comm]; exact HE.out)]; simp, rfl⟩
    · go_wp2_with fail
      go_ret
      refine ⟨_, rfl, ?_, rfl⟩
      have := HA.out
      rw [List.take_of_length_le (by omega)] at this
      rw [this]; rfl

set_option maxHeartbeats 400000 in
theorem s_contains (ls : List ByteArray) (t : ByteArray) (v : Value) (w : World) (hv : TextsAt w v ls) :
    Calls Tryz.prog 52 #[v, .string t] w fun e w' => e = .returned (.bool (hasB ls t)) ∧ w' = w := by
  have HV := hide hv
  obtain ⟨ao, cap, rfl, hc, hm, hr⟩ := hv
  clear hr hc hm
  go_enter Tryz.func52, Tryz.ntmps52
  go_wp2_with (go_at_call 85; refine (s_index ls t _ _ HV.out).mono ?_; rintro e w' ⟨j, rfl, hj, rfl⟩; have HJ := hide hj; clear hj)
  go_ret
  exact ⟨ret_bool HJ.out.symm, rfl⟩
end Go.Proofs.YtmjlblbhakppfaaGreatDoor
namespace Go.Proofs.YtmjlblbhakppfaaGreatDoor
open Go.RowKit
theorem Apart.cell' {w w' : World} {l : List Nat} (h : Apart w w' l) {b o : Nat} {x : Value} (hc : w.cell? ⟨b, o, none⟩ = some x) (hl : b ∉ l) : w'.cell? ⟨b, o, none⟩ = some x :=
  (World.cell?_of_block (a := ⟨b, o, none⟩) (h.block b (World.block_lt_of_cell? w _ hc) hl)).trans hc
theorem Apart.frozen' {w w' : World} {l : List Nat} (h : Apart w w' l) {b o : Nat} {x : Bool} (hb : b < w.heap.size) (hc : w.frozen? ⟨b, o, none⟩ = x) (hl : b ∉ l) : w'.frozen? ⟨b, o, none⟩ = x :=
  (World.frozen?_of_block (a := ⟨b, o, none⟩) (h.block b hb hl)).trans hc
theorem Apart.weak {w w' : World} {l : List Nat} (h : Apart w w' []) : Apart w w' l := ⟨h.os, h.tape, h.output, h.size, fun b hb _ => h.block b hb (by simp)⟩
theorem Apart.same {w w' : World} {b : Nat} (h : Apart w w' ([b] ++ [b])) : Apart w w' [b] := ⟨h.os, h.tape, h.output, h.size, fun k hk hn => h.block k hk (by simp at hn; simp [hn])⟩
theorem Apart.setCell {w w' : World} {b : Nat} (h : Apart w w' [b]) (o : Nat) (x : Value) : Apart w (w'.setCell ⟨b, o, none⟩ x) [b] :=
  ⟨h.os, h.tape, h.output, by simp; exact h.size, fun k hk hn => (Below.heap_setCell w' ⟨b, o, none⟩ x k (fun e => hn (by simp [e]))).trans (h.block k hk hn)⟩
end Go.Proofs.YtmjlblbhakppfaaGreatDoor
namespace Go.Proofs.YtmjlblbhakppfaaGreatDoor
open Go.RowKit

theorem flat_get {α β : Type} (f : α → List β) (n : Nat) (hf : ∀ x, (f x).length = n) : ∀ (l : List α) (j : Nat) (hj : j < l.length) (i : Nat), i < n → (l.flatMap f)[j * n + i]? = (f l[j])[i]?
  | x :: l, 0, _, i, hi => by
    rw [List.flatMap_cons, List.getElem?_append_left (by rw [hf]; omega)]
    simp
  | x :: l, j + 1, hj, i, hi => by
    rw [List.flatMap_cons, List.getElem?_append_right (by rw [hf, Nat.succ_mul]; omega), hf, show (j + 1) * n + i - n = j * n + i by rw [Nat.succ_mul]; omega]
    exact flat_get f n hf l j (by simpa using hj) i hi
theorem flat_len {α β : Type} (f : α → List β) (n : Nat) (hf : ∀ x, (f x).length = n) : ∀ (l : List α), (l.flatMap f).length = l.length * n
  | [] => by simp
  | x :: l => by rw [List.flatMap_cons, List.length_append, hf, flat_len f n hf l, List.length_cons, Nat.succ_mul, Nat.add_comm]
theorem owns_cell {w : World} {base e size n : Nat} {v : Value} {xs : List Value} (h : w.ownsRow base e size v n xs) {g c : Nat} (hv : v = .slice (some ⟨g, 0, none⟩) n c) (k : Nat) (x : Value) (hk : xs[k]? = some x) : w.cell? ⟨g, k, none⟩ = some x := by
  obtain ⟨hl, hh⟩ := h
  rcases hh with ⟨rfl, _⟩ | ⟨g', cap, cur, rfl, _, hblk, _, _, _, hcur⟩
  · cases hv
  · injection hv with h1 _ h3
    injection h1 with h1
    injection h1 with h1
    subst h1
    have hkl : k < n * size := by
      rw [← hl]
      exact (List.getElem?_eq_some_iff.1 hk).1
    rw [← hcur, List.getElem?_take, if_pos hkl] at hk
    simp only [World.cell?, hblk]
    simpa using hk
theorem owns_fresh {w : World} {base e size n : Nat} {v : Value} {xs : List Value} (h : w.ownsRow base e size v n xs) : Fresh base w v := by
  obtain ⟨_, hh⟩ := h
  rcases hh with ⟨rfl, _⟩ | ⟨g, cap, cur, rfl, hg, hblk, _⟩
  · exact ⟨by simp [vblocks, cellBlocks], by simp [vblocks, cellBlocks], by simp [vblocks, cellBlocks], by simp [vblocks, cellBlocks]⟩
  · refine ⟨by simp [vblocks, cellBlocks]; exact hg, by simp [vblocks, cellBlocks]; exact (Array.getElem?_eq_some_iff.1 hblk).1, ?_, by simp [vblocks, cellBlocks]⟩
    intro b hb j
    simp [vblocks, cellBlocks] at hb
    subst hb
    simp [World.frozen?, hblk]
theorem owns_shape {w : World} {base e size n : Nat} {v : Value} {xs : List Value} (h : w.ownsRow base e size v n xs) : ∃ p c, v = .slice p n c := by
  obtain ⟨_, hh⟩ := h
  rcases hh with ⟨rfl, h0⟩ | ⟨gb, cap, cur, rfl, _⟩
  · exact ⟨none, 0, by rw [h0]⟩
  · exact ⟨_, _, rfl⟩
theorem owns_nil (w : World) (base e size : Nat) : w.ownsRow base e size (.slice none 0 0) 0 [] := ⟨by simp, .inl ⟨rfl, rfl⟩⟩
theorem owns_empty (w : World) (base e size g : Nat) (hg : base ≤ g) (hb : w.heap[g]? = some (.cells #[] e (0, 0))) : w.ownsRow base e size (.slice (some ⟨g, 0, none⟩) 0 0) 0 [] :=
  ⟨by simp, .inr ⟨g, 0, #[], rfl, hg, hb, Nat.le_refl _, by simp [maxLen], by simp, by simp⟩⟩
theorem owns_keep {w w' : World} {base e size n : Nat} {v : Value} {xs : List Value} {l : List Nat} (h : w.ownsRow base e size v n xs) (ha : Apart w w' l) (hd : ∀ b ∈ vblocks v, b ∉ l) : w'.ownsRow base e size v n xs := by
  obtain ⟨hl, hh⟩ := h
  refine ⟨hl, ?_⟩
  rcases hh with hh | ⟨g, cap, cur, rfl, hg, hblk, hr⟩
  · exact .inl hh
  · exact .inr ⟨g, cap, cur, rfl, hg, (ha.block g (Array.getElem?_eq_some_iff.1 hblk).1 (hd g (by simp [vblocks, cellBlocks]))).trans hblk, hr⟩
theorem owns_below {w w' : World} {base e size n : Nat} {v : Value} {xs : List Value} (h : w.ownsRow base e size v n xs) (hb : Below w.heap.size w w') : w'.ownsRow base e size v n xs :=
  owns_keep h (below_apart hb) (fun _ _ => by simp)
end Go.Proofs.YtmjlblbhakppfaaGreatDoor
