/- leave: where the edges from these states lead; they are taken out. -/
import Derived.Test.YtcdlceldokhnbaaLeaveM
import Derived.Test.YtcdlceldokhnbaaSortI
namespace Go.Proofs.Ytcdlceldokhnbaa
open Go.RowKit Go.Maps
attribute [local go_sem ↓] Go.wp_at_zero Go.wp_at_succ

theorem Apart.andThen {a b c : World} {l l' : List Nat} (h : Apart a b l) (h' : Apart b c l') (hl : ∀ k ∈ l', a.heap.size ≤ k ∨ k ∈ l) : Apart a c l :=
  ⟨h'.os.trans h.os, h'.tape.trans h.tape, h'.output.trans h.output, Nat.le_trans h.size h'.size, fun k hk hn =>
    (h'.block k (Nat.lt_of_lt_of_le hk h.size) (fun hm => by rcases hl k hm with h1 | h1
                                                             · omega
                                                             · exact hn h1)).trans (h.block k hk hn)⟩
theorem map_keep {w w' : World} {b n : Nat} {D : DataW Unit} {l : List Nat} (h : w.ownsMap Try.prog 186 (plainElem Try.prog 2) b n D) (ha : Apart w w' l) (hn : b ∉ l) : w'.ownsMap Try.prog 186 (plainElem Try.prog 2) b n D := by
  obtain ⟨es', clock, he, hr⟩ := h
  exact ⟨es', clock, (ha.block b (Array.getElem?_eq_some_iff.1 he).1 hn).trans he, hr⟩
theorem ranges_keep {w w' : World} {b r n : Nat} {D : DataW Unit} {left : Lit → Bool} {cnt : Nat} {l : List Nat} (h : w.ranges Try.prog 186 (plainElem Try.prog 2) b r n D left cnt) (ha : Apart w w' l) (hb : b ∉ l) (hr : r ∉ l) : w'.ranges Try.prog 186 (plainElem Try.prog 2) b r n D left cnt := by
  have h1 := h.owns.lt
  have h2 := h.lt
  obtain ⟨es, clock, since, seen, c0, hbb, F, hs, hD, hrr, rest⟩ := h
  exact ⟨es, clock, since, seen, c0, (ha.block b h1 hb).trans hbb, F, hs, hD, (ha.block r h2 hr).trans hrr, rest⟩
theorem row_not_map {w : World} {base e b n k : Nat} {v : Value} {xs : List Value} {D : DataW Unit} (h : w.ownsRow base e 1 v k xs) (hm : w.ownsMap Try.prog 186 (plainElem Try.prog 2) b n D) : b ∉ vblocks v := by
  obtain ⟨es, clock, hb, -⟩ := hm
  obtain ⟨_, hh⟩ := h
  rcases hh with ⟨rfl, _⟩ | ⟨g, cap, cur, rfl, _, hg, _⟩
  · simp [vblocks, cellBlocks]
  · simp only [vblocks, cellBlocks, List.mem_singleton]
    rintro rfl
    rw [hb] at hg
    cases hg
set_option maxRecDepth 100000 in
set_option maxHeartbeats 1000000 in
theorem graph_leave (m : Mach) (es : List REdge) (R : List Int) (b n : Nat) (rv : Value) (sp : Option Addr) (nl nc base : Nat) (w : World) (hm : machB m = true) (hf : m.fit) (hsub : ∀ e ∈ es, e ∈ m.edges) (hG : GraphAt w m es b n) (hn : n ≤ 80)
    (hR : w.ownsRow base 2 1 rv R.length (intV R)) (hRl : R.length ≤ 1000) :
    Calls Try.prog 136 #[.agg #[.slice sp nl nc, .map (some b)], rv] w fun e w' => ∃ v' R', e = .returned v' ∧ (∀ x, x ∈ R' ↔ ∃ e ∈ es, e.src ∈ R ∧ e.dst = x) ∧ R'.length ≤ 80 ∧ w'.ownsRow w.heap.size 2 1 v' R'.length (intV R') ∧ GraphAt w' m (es.filter (awayB R)) b n ∧ Apart w w' [b] := by
  obtain ⟨i0, hi, hz0, hz1, hz2⟩ := info_parts Try.infoI64
  have HI := hide (And.intro hi (And.intro hz0 (And.intro hz1 hz2)))
  obtain ⟨D0, hD0, hG0⟩ := hG
  have HG0 : Hid (GraphD m es D0) := hide hG0
  have HD0 := hide hD0
  have hblt := hD0.lt
  have HRV := hide hR
  have hRb := row_not_map hR hD0
  have HP := hide (And.intro hm (And.intro hf hsub))
  obtain ⟨rp, rc, rfl⟩ := owns_shape hR
  clear hi hz0 hz1 hz2 hG0 hD0 hR hm hf hsub
  go_enter Try.func136, Try.ntmps136
  go_wp2_with (at_range; refine wpList_range_own _ rfl _ 122 rfl 186 2 turn_keyed Try.underlying122 _ b n D0 rfl (map_keep HD0.out (below_apart (malloc1 _ _)) (by simp)) ?_; intro w0 hrg0 hg0 hs0)
  go_frame
  simp only [World.size_alloc] at hrg0 hs0 ⊢
  have hs0' : w0.heap.size = w.heap.size + 2 := by simpa using hs0
  have HA0 : Hid (Apart w w0 []) := hide (by have := (below_apart (malloc1 w _)).trans (Apart.grown_none hg0); simpa using this)
  have b0 : w0.cell? ⟨w.heap.size, 0, none⟩ = some (.slice sp nl nc) := (Apart.grown_none hg0).cell' (b := w.heap.size) (o := 0) (by simp) (by simp)
  have b1 : w0.cell? ⟨w.heap.size, 1, none⟩ = some (.map (some b)) := (Apart.grown_none hg0).cell' (b := w.heap.size) (o := 1) (by simp) (by simp)
  have HRG0 : Hid (w0.ranges Try.prog 186 (plainElem Try.prog 2) b (w.heap.size + 1) n D0 (Maps.has D0) (Maps.size D0)) := hide (by simpa using hrg0)
  have HSZ : Hid (Maps.size D0 ≤ n) := hide HD0.out.size_le
  have HR0 := hide (owns_keep HRV.out HA0.out (by simp))
  have HRB : Hid (∀ k ∈ vblocks (.slice rp R.length rc), k ≠ b ∧ k ≠ w.heap.size + 1) := hide (fun k hk => ⟨fun e => hRb (e ▸ hk), fun e => by have := (owns_fresh HRV.out).hi k hk; omega⟩)
  clear hrg0 hg0 hs0 hRb
  go_loopw [5] (fun reached wr => ∃ (D : DataW Unit) (left : Lit → Bool) (cnt : Nat) (acc : List Int), wr.ranges Try.prog 186 (plainElem Try.prog 2) b (w.heap.size + 1) n D left cnt ∧ LInv D0 R D left acc ∧ wr.ownsRow (w.heap.size + 2) 2 1 reached acc.length (intV acc) ∧ acc.length + cnt ≤ 80 ∧ Apart w0 wr [b, w.heap.size + 1]) (fun _ wr => wr.rangeLeft b (w.heap.size + 1))
  case atStart => exact ⟨D0, _, _, [], HRG0.out, linv_start D0 R, owns_nil _ _ _ _, by have := HSZ.out; simp; omega, ⟨rfl, rfl, rfl, Nat.le_refl _, fun _ _ _ => rfl⟩⟩
  case round =>
    obtain ⟨D, left, cnt, acc, hrg, hinv, hown, hle, hap⟩ := hrel
    have c0 := hap.cell' b0 (by simp; omega)
    have c1 := hap.cell' b1 (by simp; omega)
    have hszr := hap.size
    have HRG := hide hrg
    have HINV := hide hinv
    have HOWN := hide hown
    have HAP := hide hap
    have HRR := hide (owns_keep HR0.out hap (fun k hk => by have := HRB.out k hk; simp [this]))
    obtain ⟨p, cp, rfl⟩ := owns_shape hown
    have HPB : Hid (∀ k ∈ vblocks (.slice p acc.length cp), w.heap.size + 2 ≤ k) := hide (owns_fresh hown).lo
    clear hrg hinv hown hap
    go_wp2_with (at_next; refine wpList_next_ranges (α := Int × RAct) (β := Int) _ rfl _ rfl 186 turn_keyed _ (fun x => turnV x.1 x.2) (Value.int .i64) (fun key kl hk => turn_inv hk) (fun v y hv => by obtain ⟨c, rfl, _⟩ := plainElem_int_inv Try.underlying2 hv; exact ⟨c, rfl⟩) b (w.heap.size + 1) n D left cnt rfl HRG.out ?_ ?_)
    · intro hc0 hl0
      have HEND := hide (linv_end HP.out.1 HP.out.2.1 HP.out.2.2 HG0.out HINV.out hl0)
      clear hc0 hl0
      go_wp2_with (first
        | (go_at_call 170; refine (sort_ints acc _ _ _ HOWN.out (by omega)).mono ?_; rintro e w1 ⟨rfl, l1, hp1, ho1, ha1⟩; have hl1 := hp1.length_eq; have HS1 := hide (And.intro hp1 (And.intro ho1 ha1)); have HO1 := hide (show w1.ownsRow (w.heap.size + 2) 2 1 (.slice p acc.length cp) l1.length (intV l1) from ho1); clear hp1 ha1 ho1)
        | (go_at_call 171; refine (compact_ints l1 _ _ _ HO1.out (by omega)).mono ?_; rintro e w2 ⟨v2, l2, rfl, hm2, hl2, ho2, ha2⟩; have HS2 := hide (And.intro hm2 (And.intro ho2 ha2)); clear hm2 ho2 ha2))
      go_ret
      have hA : Apart w0 w2 [b, w.heap.size + 1] := (HAP.out.andThen HS1.out.2.2 (fun k hk => .inl (by have := HPB.out k hk; omega))).andThen HS2.out.2.2 (fun k hk => .inl (by have := HPB.out k hk; omega))
      refine ⟨v2, l2, rfl, fun x => ?_, by omega, ?_, ⟨D, ?_, HEND.out.1⟩, ?_⟩
      · rw [HS2.out.1 x, HS1.out.1.mem_iff]
        exact HEND.out.2 x
      · obtain ⟨h1, h2⟩ := HS2.out.2.1
        exact ⟨h1, h2.imp id (fun ⟨g, c, cur, h3, h4, h5⟩ => ⟨g, c, cur, h3, by omega, h5⟩)⟩
      · refine map_keep (map_keep HRG.out.owns HS1.out.2.2 (fun hk => ?_)) HS2.out.2.2 (fun hk => ?_)
        · have := HPB.out b hk; omega
        · have := HPB.out b hk; omega
      · exact (HA0.out.weak (l := [b])).andThen hA (fun k hk => by simp at hk; rcases hk with rfl | rfl <;> simp)
    · intro f a c kl y1 y2 w1 cnt1 hkey hl hv hat hrg1 hlt hg1 hs1 hen
      obtain ⟨c', ec, ey, hwc⟩ := plainElem_int_inv Try.underlying2 hv
      cases ec
      cases ey
      have HK := hide hkey
      have HL := hide hl
      have HAT := hide hat
      have HRG1 := hide hrg1
      have HG1 := hide (Apart.grown hg1)
      have HQ1 : Hid (w1.heap.size = wr.heap.size) := hide (by omega)
      have d0 := (Apart.grown hg1).cell' c0 (by simp <;> omega)
      have d1 := (Apart.grown hg1).cell' c1 (by simp <;> omega)
      have HRR1 := hide (owns_keep HRR.out (Apart.grown hg1) (fun k hk => by have := HRB.out k hk; simp [this]))
      clear hkey hl hat hrg1 hg1 hv hs1
      dsimp only [turnV] at hen ⊢
      obtain ⟨q, hq⟩ : ∃ q, R.contains f = q := ⟨_, rfl⟩
      have HQ := hide hq
      clear hq
      have HOW1 := hide (owns_keep HOWN.out HG1.out (fun k hk => by have := HPB.out k hk; simp; omega))
      have HHI : Hid (∀ k ∈ vblocks (.slice p acc.length cp), k < w1.heap.size) := hide (fun k hk => by have := (owns_fresh HOWN.out).hi k hk; have := HQ1.out; omega)
      have hwl : w.heap.size + 2 ≤ w1.heap.size := by have := HQ1.out; omega
      cases q
      · go_wp2_with (go_at_call 152; refine (contains_ints R f _ _ _ (owns_below HRR1.out (malloc1 _ _)) (by omega)).mono ?_; rw [HQ.out]; rintro e w2 ⟨rfl, rfl⟩)
        go_roundw
        case rel =>
          have hA := below_apart (malloc1 w1 (.cells #[.int .i64 f, .int .i64 a.kind, .string a.peer, .string a.label, .int .i64 a.sort] 186))
          refine ⟨D, _, cnt1, acc, ranges_keep HRG1.out hA (by simp) (by simp), linv_out HINV.out HK.out HL.out (by have := HQ.out; simpa using this), owns_keep HOW1.out hA (by simp), by omega, (HAP.out.andThen HG1.out (fun k hk => .inr (by simp at hk; simp [hk]))).andThen hA (by simp)⟩
        case measure =>
          rw [(ranges_keep HRG1.out (below_apart (malloc1 w1 _)) (by simp) (by simp)).left_eq, HRG.out.left_eq]
          exact hlt
      · have HNW : Hid (∀ A, ∀ j u, [Value.int .i64 c][j]? = some u → ((w1.alloc A).alloc (.cells #[.int .i64 c] 2)).cell? (Addr.add ⟨w1.heap.size + 1, 0, none⟩ j) = some u) := hide (fun A j u hj => by have := new_row1 (w1.alloc A) [.int .i64 c] 2 j u hj; simpa using this)
        have HTB : Hid (∀ B W l, Apart ((w1.alloc (.cells #[.int .i64 f, .int .i64 a.kind, .string a.peer, .string a.label, .int .i64 a.sort] 186)).alloc B) W l → w1.heap.size ∉ l → W.cell? ⟨w1.heap.size, 0, none⟩ = some (.int .i64 f) ∧ W.cell? ⟨w1.heap.size, 1, none⟩ = some (.int .i64 a.kind) ∧ W.cell? ⟨w1.heap.size, 2, none⟩ = some (.string a.peer) ∧ W.cell? ⟨w1.heap.size, 3, none⟩ = some (.string a.label) ∧ W.cell? ⟨w1.heap.size, 4, none⟩ = some (.int .i64 a.sort)) := hide (fun B W l hA hn => ⟨hA.cell' (by simp) hn, hA.cell' (by simp) hn, hA.cell' (by simp) hn, hA.cell' (by simp) hn, hA.cell' (by simp) hn⟩)
        go_wp2_with (first
          | (go_at_call 152; refine (contains_ints R f _ _ _ (owns_below HRR1.out (malloc1 _ _)) (by omega)).mono ?_; rw [HQ.out]; rintro e w2 ⟨rfl, rfl⟩)
          | (at_builtin; refine wpList_append_own _ rfl (.tmp 20) (.tmp 22) 127 rfl (w.heap.size + 2) 2 i0 (.int .i64 0) 1 8 Try.underlying127 HI.out.1 HI.out.2.1 HI.out.2.2.1 HI.out.2.2.2 rfl (by decide) (.slice p acc.length cp) acc.length (intV acc) rfl (owns_below HOW1.out (balloc2 _ _ _)) ⟨w1.heap.size + 1, 0, none⟩ 1 1 [.int .i64 c] rfl rfl (HNW.out _) (intV_one [c]) (by unfold maxLen; omega) (by omega) (by simp; omega) ?_; intro v4 w4 hown4 hgr4 _; have hA4 := grownBy_apart hgr4; obtain ⟨t0, t1, t2, t3, t4⟩ := HTB.out _ _ _ hA4 (fun hk => by have := HHI.out _ hk; omega); have HA4 : Hid (Apart w1 w4 (vblocks (.slice p acc.length cp))) := hide (by have := (below_apart (balloc2 w1 _ _)).trans hA4; rwa [List.nil_append] at this); have e1 := HA4.out.cell' d1 (fun hk => by have := HPB.out _ hk; omega); have HRG4 := hide (ranges_keep HRG1.out HA4.out (fun hk => by have := HPB.out _ hk; omega) (fun hk => by have := HPB.out _ hk; omega)); have HO4 := hide hown4; clear hown4 hgr4 hA4)
          | (at_delete; refine wpList_delete_ranges _ rfl _ _ 122 186 rfl 2 turn_keyed Try.underlying122 _ b (w.heap.size + 1) n D _ cnt1 rfl HRG4.out (turnV f a) kl rfl HK.out ?_; intro w5 cnt5 hrg5 hle5 htu5; rw [Maps.strike_twice] at hrg5; have HRG5 := hide hrg5; have HT5 := hide (Apart.grown htu5.grown); clear hrg5 htu5))
        go_frame
        go_roundw
        case rel =>
          have hne : ∀ k ∈ vblocks v4, k ∉ [b] := fun k hk => by
            have := (owns_fresh HO4.out).lo k hk
            simp; omega
          have ho := owns_keep HO4.out HT5.out hne
          rw [show intV acc ++ [.int .i64 c] = intV (acc ++ [c]) by simp [intV], show acc.length + 1 = (acc ++ [c]).length by simp] at ho
          refine ⟨D.del kl, _, cnt5, acc ++ [c], HRG5.out, linv_in HINV.out HK.out HL.out HAT.out (by have := HQ.out; simpa using this), ho, by simp; omega, ?_⟩
          exact ((HAP.out.andThen HG1.out (fun k hk => .inr (by simp at hk; simp [hk]))).andThen HA4.out (fun k hk => .inl (by have := HPB.out k hk; omega))).andThen HT5.out (fun k hk => .inr (by simp at hk; simp [hk]))
        case measure =>
          rw [HRG5.out.left_eq, HRG.out.left_eq]
          omega
end Go.Proofs.Ytcdlceldokhnbaa
