/- The draws: a tape. -/
import Derived.Test.YtehodjfgojcnlaaDrw
import Derived.Test.YtehodjfgojcnlaaSmN
namespace Go.Proofs.Ytehodjfgojcnlaa
open Go.RowKit
attribute [local go_sem ↓] Go.wp_at_zero Go.wp_at_succ

theorem Src.apart {w w' : World} {sb : Nat} {ao : Option Addr} {len cap : Nat} {bs : List Nat} (h : Src w sb ao len cap) (hA : Apart w w' bs) (hb : ∀ b ∈ bs, sb < b) : Src w' sb ao len cap := by
  have hsb : sb ∉ bs := fun hm => by have := hb sb hm; omega
  have hk : w'.heap[sb]? = w.heap[sb]? := hA.block sb h.lt hsb
  obtain ⟨p, hp, c1⟩ := h.c1
  obtain ⟨m, hm, c2⟩ := h.c2
  obtain ⟨k, hk3, c3⟩ := h.c3
  refine ⟨(World.cell?_of_block (a := ⟨sb, 0, none⟩) hk).trans h.c0, ⟨p, hp, (World.cell?_of_block (a := ⟨sb, 1, none⟩) hk).trans c1⟩, ⟨m, hm, (World.cell?_of_block (a := ⟨sb, 2, none⟩) hk).trans c2⟩, ⟨k, hk3, (World.cell?_of_block (a := ⟨sb, 3, none⟩) hk).trans c3⟩, fun j => (World.frozen?_of_block (a := ⟨sb, j, none⟩) hk).trans (h.fr j), fun i hi => ?_⟩
  obtain ⟨b, off, z, e, hbs, hc, hz⟩ := h.row i hi
  exact ⟨b, off, z, e, hbs, hA.cell' hc (fun hm => by have := hb b hm; omega), hz⟩
theorem Apart.new {a b c : World} {l l' : List Nat} (h : Apart a b l) (h' : Apart b c l') (hn : ∀ x ∈ l', a.heap.size ≤ x) : Apart a c l := ⟨h'.os.trans h.os, h'.tape.trans h.tape, h'.output.trans h.output, Nat.le_trans h.size h'.size, fun x hx hm => (h'.block x (Nat.lt_of_lt_of_le hx h.size) (fun hm' => by have := hn x hm'; omega)).trans (h.block x hx hm)⟩
theorem num_push {w w2 : World} {base sb : Nat} {v v' : Value} {l : List Int} {x : Int} {n : Nat} (hn : l.length = n) (h : w.ownsRow base 2 1 v n (numV l)) (o : Obj) (hown : w2.ownsRow base 2 1 v' (n + 1) (numV l ++ [.int .i64 x])) (hg : (w.alloc o).grownBy w2 v.ownBlock) (_hsb : sb < base) : NumOwn w2 base v' (l ++ [x]) ∧ Apart w w2 (vblocks v) := by
  obtain ⟨p, c, hv⟩ := owns_shape h
  refine ⟨?_, ?_⟩
  · unfold NumOwn
    rw [List.length_append, List.length_singleton, hn, numV_app]
    exact hown
  · rw [hv] at hg ⊢
    have := (below_apart (malloc1 w o)).trans (grownBy_apart hg)
    rwa [List.nil_append] at this
/-- a tape is drawn -/
def TapeAns (w w' : World) (e : Ending) (sb : Nat) (ao : Option Addr) (len cap : Nat) : Prop := ∃ (v : Value) (l : List Int), e = .returned v ∧ NumOwn w' w.heap.size v l ∧ l.length ≤ 14 ∧ Src w' sb ao len cap ∧ Apart w w' [sb]
set_option maxRecDepth 100000 in
set_option maxHeartbeats 4000000 in
theorem tape_any (sb : Nat) (ao : Option Addr) (len cap : Nat) (w : World) (hl : len ≤ 1048576) (h : Src w sb ao len cap) :
    Calls Try.prog 13 #[.pointer (some ⟨sb, 0, none⟩)] w fun e w' => TapeAns w w' e sb ao len cap := by
  obtain ⟨i0, hi, hz0, hz1, hz2⟩ := info_parts Try.infoI64
  have HI := hide (And.intro hi (And.intro hz0 (And.intro hz1 hz2)))
  have hsb := h.lt
  have HS : Hid (∀ o : Obj, Src (w.alloc o) sb ao len cap) := hide (fun o => h.apart (below_apart (malloc1 w o)) (by simp))
  clear hi hz0 hz1 hz2 h
  go_enter Try.func13, Try.ntmps13
  go_wp2_with (go_at_call 15; refine (n_any sb ao len cap _ _ (by omega) (by omega) hl (HS.out _)).mono ?_; rintro e w1 ⟨r, rfl, hr0, hr1, hs, hg⟩; have HO : Hid (NumOwn w1 w.heap.size (.slice (some ⟨w.heap.size, 0, none⟩) 0 0) []) := hide (owns_keep (owns_empty (w.alloc (.cells #[] 2)) w.heap.size 2 1 w.heap.size (Nat.le_refl _) (mheap_new _ _ _ rfl)) (Apart.grown hg) (fun b hb hm => by simp [vblocks, cellBlocks] at hm hb; omega)); have HA : Hid (Apart w w1 [sb]) := hide (((below_apart (malloc1 w _)).trans (Apart.grown hg)).sub (by simp)); have HS1 := hide hs; clear hs hg)
  obtain ⟨R, rfl⟩ : ∃ R : Nat, r = (R : Int) := ⟨r.toNat, by omega⟩
  go_loopw [3, 4] (fun lv kv wr => ∃ (k : Nat) (l : List Int), kv = .int .i64 k ∧ l.length + k ≤ 13 ∧ NumOwn wr w.heap.size lv l ∧ Src wr sb ao len cap ∧ Apart w wr [sb]) (fun _ kv _ => (intOf kv).toNat)
  case atStart => exact ⟨R, [], rfl, by simp; omega, HO.out, HS1.out, HA.out⟩
  case round =>
    obtain ⟨k, l, rfl, hlk, ho, hs, ha⟩ := hrel
    have HO := hide ho
    have HS := hide hs
    have HA := hide ha
    have hzw := ha.size
    obtain ⟨p, c, hv⟩ := owns_shape ho
    obtain ⟨M, hM⟩ : ∃ M, l.length = M := ⟨_, rfl⟩
    rw [hM] at hv hlk
    have HM := hide hM
    subst hv
    clear ho hs ha hM
    by_cases hk0 : 0 < k
    · go_wp2_with (first
        | (go_at_call 15; refine (n_any sb ao len cap _ _ (by omega) (by omega) hl HS.out).mono ?_; rintro e wn ⟨r, rfl, hr0, hr1, hs, hg⟩; have HO := hide (show NumOwn wn w.heap.size (.slice p M c) l from owns_keep HO.out (Apart.grown hg) (fun b hb hm => by simp at hm; have := (owns_fresh HO.out).lo b hb; omega)); have HA : Hid (Apart w wn [sb]) := hide ((HA.out.trans (Apart.grown hg)).sub (by simp)); have HS := hide hs; have hzn : w.heap.size ≤ wn.heap.size := HA.out.size; clear hs hg)
        | (go_at_call 14; refine (n_one sb ao len cap _ _ (by omega) (by omega) hl HS.out).mono ?_; rintro e wn ⟨b, rfl, hs, hg⟩; have HO := hide (show NumOwn wn w.heap.size (.slice p M c) l from owns_keep HO.out (Apart.grown hg) (fun b hb hm => by simp at hm; have := (owns_fresh HO.out).lo b hb; omega)); have HA : Hid (Apart w wn [sb]) := hide ((HA.out.trans (Apart.grown hg)).sub (by simp)); have HS := hide hs; have hzn : w.heap.size ≤ wn.heap.size := HA.out.size; clear hs hg; cases b)
        | (at_builtin; refine wpList_append_own _ rfl (.tmp 20) (.tmp 22) 23 rfl w.heap.size 2 i0 (.int .i64 0) 1 8 Try.underlying23 HI.out.1 HI.out.2.1 HI.out.2.2.1 HI.out.2.2.2 rfl (by decide) (.slice p M c) M (numV l) rfl (by have := HO.out; unfold NumOwn at this; rw [HM.out] at this; exact owns_below this (malloc1 wn _)) ⟨wn.heap.size, 0, none⟩ 1 1 [.int .i64 _] rfl rfl (fun j u hj => new_rowr wn [.int .i64 _] _ _ rfl j u hj) (by intro u hu; simp at hu; subst hu; rfl) (by unfold maxLen; omega) (by omega) (by simp; omega) ?_; intro v4 w4 hown4 hgr4 _; have HM4 := hide (num_push (sb := sb) HM.out (by have := HO.out; unfold NumOwn at this; rw [HM.out] at this; exact this) _ hown4 hgr4 hsb); obtain ⟨p4, c4, rfl⟩ := owns_shape hown4; clear hown4 hgr4))
      all_goals
        obtain ⟨K, rfl⟩ : ∃ K, k = K + 1 := ⟨k - 1, by omega⟩
        go_roundw
        case rel =>
          have hlo := (owns_fresh HO.out).lo
          refine ⟨K, _, by go_num, ?_, HM4.out.1, HS.out.apart HM4.out.2 (fun b hb => by have := hlo b hb; omega), ?_⟩
          · rw [List.length_append, HM.out]; simp; omega
          · exact HA.out.new HM4.out.2 hlo
        case measure => simp [intOf]
    · obtain rfl : k = 0 := by omega
      go_wp2_with (first
        | (go_at_call 14; refine (n_one sb ao len cap _ _ (by omega) (by omega) hl HS.out).mono ?_; rintro e wn ⟨b, rfl, hs, hg⟩; have HO := hide (show NumOwn wn w.heap.size (.slice p M c) l from owns_keep HO.out (Apart.grown hg) (fun b hb hm => by simp at hm; have := (owns_fresh HO.out).lo b hb; omega)); have HA : Hid (Apart w wn [sb]) := hide ((HA.out.trans (Apart.grown hg)).sub (by simp)); have HS := hide hs; have hzn : w.heap.size ≤ wn.heap.size := HA.out.size; clear hs hg; cases b)
        | (go_at_call 15; refine (n_any sb ao len cap _ _ (by omega) (by omega) hl (HS.out.apart (below_apart (malloc1 wn (.cells #[.int .i64 (-1), .int .i64 399, .int .i64 400] 2))) (by simp))).mono ?_; rintro e wm ⟨r, rfl, hr0, hr1, hs, hg⟩; have HO2 := hide (show NumOwn wm w.heap.size (.slice p M c) l from owns_keep (owns_below HO.out (malloc1 wn (.cells #[.int .i64 (-1), .int .i64 399, .int .i64 400] 2))) (Apart.grown hg) (fun b hb hm => by simp at hm; have := (owns_fresh HO.out).lo b hb; omega)); have HA2 : Hid (Apart w wm [sb]) := hide (((HA.out.trans (below_apart (malloc1 wn _))).trans (Apart.grown hg)).sub (by simp)); have HS2 := hide hs; have hzm : w.heap.size ≤ wm.heap.size := HA2.out.size; have g0 : wm.cell? ⟨wn.heap.size, 0, none⟩ = some (.int .i64 (-1)) := (Apart.grown hg).cell' (by simp) (by simp; omega); have g1 : wm.cell? ⟨wn.heap.size, 1, none⟩ = some (.int .i64 399) := (Apart.grown hg).cell' (by simp) (by simp; omega); have g2 : wm.cell? ⟨wn.heap.size, 2, none⟩ = some (.int .i64 400) := (Apart.grown hg).cell' (by simp) (by simp; omega); clear hs hg; have hr3 : r = 0 ∨ r = 1 ∨ r = 2 := (by omega); rcases hr3 with rfl | rfl | rfl)
        | (at_builtin; refine wpList_append_own _ rfl (.tmp 26) (.tmp 32) 23 rfl w.heap.size 2 i0 (.int .i64 0) 1 8 Try.underlying23 HI.out.1 HI.out.2.1 HI.out.2.2.1 HI.out.2.2.2 rfl (by decide) (.slice p M c) M (numV l) rfl (by have := HO2.out; unfold NumOwn at this; rw [HM.out] at this; exact owns_below this (malloc1 wm _)) ⟨wm.heap.size, 0, none⟩ 1 1 [.int .i64 _] rfl rfl (fun j u hj => new_rowr wm [.int .i64 _] _ _ rfl j u hj) (by intro u hu; simp at hu; subst hu; rfl) (by unfold maxLen; omega) (by omega) (by simp; omega) ?_; intro v4 w4 hown4 hgr4 _; have HM4 := hide (num_push (sb := sb) HM.out (by have := HO2.out; unfold NumOwn at this; rw [HM.out] at this; exact this) _ hown4 hgr4 hsb); obtain ⟨p4, c4, rfl⟩ := owns_shape hown4; clear hown4 hgr4))
      · go_ret
        exact ⟨_, l, rfl, HO.out, by rw [HM.out]; omega, HS.out, HA.out⟩
      all_goals
        go_ret
        have hlo := (owns_fresh HO2.out).lo
        exact ⟨_, _, rfl, HM4.out.1, by rw [List.length_append, HM.out]; simp; omega, HS2.out.apart HM4.out.2 (fun b hb => by have := hlo b hb; omega), HA2.out.new HM4.out.2 hlo⟩
end Go.Proofs.Ytehodjfgojcnlaa
