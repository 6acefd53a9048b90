/- put: a list with one more message in it, if it may be. -/
import Derived.Test.YtonafcifolddjaaGreatDoorQB27
import Derived.Test.YtonafcifolddjaaGreatDoorQB07
namespace Go.Proofs.YtonafcifolddjaaGreatDoor
open Go.RowKit
attribute [local go_sem ↓] Go.wp_at_zero Go.wp_at_succ

def insL (l : List RMsg) (k : Nat) (m : RMsg) : List RMsg := l.take k ++ m :: l.drop k
theorem insL_len {l : List RMsg} {k : Nat} (m : RMsg) (hk : k ≤ l.length) : (insL l k m).length = l.length + 1 := by
  rw [insL, List.length_append, List.length_cons, List.length_take, List.length_drop]; omega
theorem insL_mem {l : List RMsg} {k : Nat} {m x : RMsg} (h : x ∈ insL l k m) : x ∈ l ∨ x = m := by
  rw [insL, List.mem_append, List.mem_cons] at h
  rcases h with h | h | h
  · exact .inl (List.mem_of_mem_take h)
  · exact .inr h
  · exact .inl (List.mem_of_mem_drop h)
theorem insL_all (l : List RMsg) (m : RMsg) : insL l l.length m = l ++ [m] := by
  rw [insL, List.take_length, List.drop_length]
def insW (l : List RMsg) (k : Nat) (m : RMsg) : Why := if netB (insL l k m) then .normal else .early
def PutPost (w' : World) (v' : Value) (L : List RMsg) (q : Bool) : Prop := if q then RMsgSl w' w'.heap.size v' L else v' = .slice none 0 0
set_option maxRecDepth 100000 in
set_option maxHeartbeats 1000000 in
theorem i_put {E : Errs} (l : List RMsg) (k : Nat) (m : RMsg) (b o cap : Nat) (w : World) (hk : k ≤ l.length) (h4 : l.length ≤ 4096) (hok : ∀ x ∈ l, x.ok) (hm : m.ok) (hv : RMsgSl w w.heap.size (.slice (some ⟨b, o, none⟩) l.length cap) l) (hs : SentAt w E) :
    Calls Tryz.prog 32 #[.slice (some ⟨b, o, none⟩) l.length cap, .int .i64 (k : Int), m.val] w fun e w' => ∃ v', e = .returned (.tuple #[v', whyV E (insW l k m)]) ∧ PutPost w' v' (insL l k m) (netB (insL l k m)) ∧ Below w.heap.size w w' := by
  have HS := hide hs
  have HOK : Hid (∀ x ∈ insL l k m, x.ok) := hide (fun x hx => by rcases insL_mem hx with h | rfl; exact hok x h; exact hm)
  have HV := hide hv
  obtain ⟨i0, hi, hz0, hz1, hz2⟩ := info_parts Tryz.infoRMsg
  have HI := hide (And.intro hi (And.intro hz0 (And.intro hz1 hz2)))
  have hc : l.length ≤ cap := by obtain ⟨a1, c1, e1, h1, -⟩ := hv; injection e1 with e1 e2 e3; omega
  clear hok hm hs hi hz0 hz1 hz2 hv
  have HROW : Hid (∀ W, Below w.heap.size w W → RMsgs W b o l) := hide (fun W hb => by
    obtain ⟨a1, c1, e1, h1, h2, h3⟩ := HV.out
    by_cases hn : l = []
    · rw [hn]; trivial
    · obtain ⟨b1, o1, e2, h4, h5⟩ := h3 hn
      injection e1 with e1
      rw [← e1] at e2
      injection e2 with e2
      injection e2 with e2 e3
      subst e2 e3
      exact h5.carry h4 hb)
  have HOL : Hid (((l.take k).flatMap RMsg.cells).length = k * 4) := hide (by rw [msgs_len, List.length_take]; omega)
  obtain ⟨mm, hmm⟩ : ∃ mm, l.length - k = mm := ⟨_, rfl⟩
  have HNL : Hid (((l.drop k).flatMap RMsg.cells).length = mm * 4) := hide (by rw [msgs_len, List.length_drop, hmm])
  have HBX : Hid (Below w.heap.size w ((w.alloc (.cells #[.string m.frm, .string m.to, .string m.label, .int .i64 m.sort] 25)).drew.alloc (.cells #[.string m.frm, .string m.to, .string m.label, .int .i64 m.sort] 25))) := hide ((malloc1 _ _).drew.trans ((malloc1 _ _).mono (by simp)))
  have HNC : Hid (∀ j u, m.cells[j]? = some u → ((w.alloc (.cells #[.string m.frm, .string m.to, .string m.label, .int .i64 m.sort] 25)).drew.alloc (.cells #[.string m.frm, .string m.to, .string m.label, .int .i64 m.sort] 25)).cell? ((⟨w.heap.size + 1, 0, none⟩ : Addr).add j) = some u) := hide (fun j u hj => by
    have := new_row1 ((w.alloc (.cells #[.string m.frm, .string m.to, .string m.label, .int .i64 m.sort] 25)).drew) m.cells 25 j u hj
    have e : (w.alloc (.cells #[.string m.frm, .string m.to, .string m.label, .int .i64 m.sort] 25)).drew.heap.size = w.heap.size + 1 := by simp
    rw [e] at this
    exact this)
  have HIN : Hid ((l.take k).flatMap RMsg.cells ++ m.cells ++ (l.drop k).flatMap RMsg.cells = (insL l k m).flatMap RMsg.cells ∧ (insL l k m).length = k + 1 + mm) := hide ⟨by rw [insL, List.flatMap_append, List.flatMap_cons, List.append_assoc], by rw [insL_len m hk]; omega⟩
  obtain ⟨q, hq⟩ : ∃ q, netB (insL l k m) = q := ⟨_, rfl⟩
  have HQ := hide hq
  have HW : Hid (insW l k m = if q then .normal else .early) := hide (by rw [insW, hq])
  rw [hq]
  clear hq
  unfold RMsg.val
  by_cases hcap : cap = k
  · subst hcap
    obtain rfl : mm = 0 := by omega
    have HDN : Hid (l.drop cap = []) := hide (List.drop_eq_nil_of_le hc)
    clear hmm
    go_enter Tryz.func32, Tryz.ntmps32
    go_wp2_with fail
    go_region_law (first | (refine stepM_grows rfl (.tmp 12) (.tmp 14) 23 rfl 25 i0 (.agg #[.string ByteArray.empty, .string ByteArray.empty, .string ByteArray.empty, .int .i64 0]) 4 56 Tryz.underlying23 HI.out.1 HI.out.2.1 HI.out.2.2.1 HI.out.2.2.2 rfl (by decide) ⟨b, o, none⟩ cap cap ((l.take cap).flatMap RMsg.cells) rfl HOL.out (fun j u hj => msgs_cell ((HROW.out _ HBX.out).take cap) j u hj) ⟨w.heap.size + 1, 0, none⟩ 1 1 m.cells rfl rfl (fun j u hj => HNC.out j u hj) (by omega) (by unfold maxLen; omega) (by omega) ?_; intro v1 w1 hown1 hgr1; have HO1 := hide hown1; have HB1 : Hid (Below w.heap.size w w1) := hide (HBX.out.trans (((Apart.grown_none hgr1).below (Nat.le_refl _) (by simp)).mono HBX.out.size)); obtain ⟨p1, c1, rfl⟩ := owns_shape hown1; have hx1 := (Apart.grown_none hgr1).size; clear hown1 hgr1) | (refine stepM_own rfl (.tmp 15) (.tmp 18) 23 rfl ((w.alloc (.cells #[.string m.frm, .string m.to, .string m.label, .int .i64 m.sort] 25)).drew.alloc (.cells #[.string m.frm, .string m.to, .string m.label, .int .i64 m.sort] 25)).heap.size 25 i0 (.agg #[.string ByteArray.empty, .string ByteArray.empty, .string ByteArray.empty, .int .i64 0]) 4 56 Tryz.underlying23 HI.out.1 HI.out.2.1 HI.out.2.2.1 HI.out.2.2.2 rfl (by decide) (.slice p1 (cap + 1) c1) (cap + 1) ((l.take cap).flatMap RMsg.cells ++ m.cells) rfl HO1.out ⟨b, o, none⟩ 0 0 ((l.drop cap).flatMap RMsg.cells) rfl HNL.out (fun j u hj => by rw [HDN.out] at hj; simp at hj) (msgs_one _) (by unfold maxLen; omega) (by omega) (hx1) ?_; intro v2 w2 hown2 hgr2; have HO2 : Hid (w2.ownsRow ((w.alloc (.cells #[.string m.frm, .string m.to, .string m.label, .int .i64 m.sort] 25)).drew.alloc (.cells #[.string m.frm, .string m.to, .string m.label, .int .i64 m.sort] 25)).heap.size 25 4 v2 (cap + 1 + 0) ((l.take cap).flatMap RMsg.cells ++ m.cells ++ (l.drop cap).flatMap RMsg.cells)) := hide hown2; have HB2 : Hid (Below w.heap.size w w2) := hide (HB1.out.trans ((grownBy_apart hgr2).below HB1.out.size (fun q hq => Nat.le_trans (by simp; omega) ((owns_fresh HO1.out).lo q hq)))); clear hown2 hgr2))
    have HS2 : Hid (RMsgSl w2 w2.heap.size v2 (insL l cap m)) := hide (by
      have h3 : RMsgOwn w2 ((w.alloc (.cells #[.string m.frm, .string m.to, .string m.label, .int .i64 m.sort] 25)).drew.alloc (.cells #[.string m.frm, .string m.to, .string m.label, .int .i64 m.sort] 25)).heap.size v2 (insL l cap m) := by
        unfold RMsgOwn
        rw [HIN.out.2, ← HIN.out.1]
        exact HO2.out
      exact h3.sl (by rw [HIN.out.2]; omega))
    obtain ⟨p2, c2, rfl⟩ := HS2.out.shape
    cases q
    · go_wp2_with (go_at_call 22; refine (i_net HQ.out _ _ HOK.out HS2.out).mono ?_; rintro e w3 ⟨rfl, hb3⟩; have HB3 : Hid (Below w.heap.size w w3) := hide (HB2.out.trans (hb3.mono HB2.out.size)); have gM := (HS.out.carry HB3.out).gM; clear hb3)
      go_region_with fail
      all_goals
        go_wp2_with fail
        refine bodyPost_ret_by (v := .tuple #[.slice none 0 0, .iface 136 (.pointer (some E.aM))]) ?_ rfl ⟨_, by rw [HW.out]; rfl, rfl, HB3.out.drew⟩
        unfold results
        go_simp
    · go_wp2_with (go_at_call 22; refine (i_net HQ.out _ _ HOK.out HS2.out).mono ?_; rintro e w3 ⟨rfl, hb3⟩; have HB23 := hide hb3; have HB3 : Hid (Below w.heap.size w w3) := hide (HB2.out.trans (hb3.mono HB2.out.size)); clear hb3)
      refine bodyPost_ret_by (v := .tuple #[.slice p2 (insL l cap m).length c2, .nilIface]) ?_ rfl ⟨_, by rw [HW.out]; rfl, (HS2.out.carry HB23.out).up HB23.out.size, HB3.out⟩
      unfold results
      go_simp
  · have hkc : k ≤ cap := by omega
    obtain ⟨c5, hc5⟩ : ∃ c5, cap - k = c5 := ⟨_, rfl⟩
    go_enter Tryz.func32, Tryz.ntmps32
    go_wp2_with fail
    go_region_law (first | (refine stepM_grows rfl (.tmp 12) (.tmp 14) 23 rfl 25 i0 (.agg #[.string ByteArray.empty, .string ByteArray.empty, .string ByteArray.empty, .int .i64 0]) 4 56 Tryz.underlying23 HI.out.1 HI.out.2.1 HI.out.2.2.1 HI.out.2.2.2 rfl (by decide) ⟨b, o, none⟩ k k ((l.take k).flatMap RMsg.cells) rfl HOL.out (fun j u hj => msgs_cell ((HROW.out _ HBX.out).take k) j u hj) ⟨w.heap.size + 1, 0, none⟩ 1 1 m.cells rfl rfl (fun j u hj => HNC.out j u hj) (by omega) (by unfold maxLen; omega) (by omega) ?_; intro v1 w1 hown1 hgr1; have HO1 := hide hown1; have HB1 : Hid (Below w.heap.size w w1) := hide (HBX.out.trans (((Apart.grown_none hgr1).below (Nat.le_refl _) (by simp)).mono HBX.out.size)); obtain ⟨p1, c1, rfl⟩ := owns_shape hown1; have hx1 := (Apart.grown_none hgr1).size; clear hown1 hgr1) | (refine stepM_own rfl (.tmp 15) (.tmp 18) 23 rfl ((w.alloc (.cells #[.string m.frm, .string m.to, .string m.label, .int .i64 m.sort] 25)).drew.alloc (.cells #[.string m.frm, .string m.to, .string m.label, .int .i64 m.sort] 25)).heap.size 25 i0 (.agg #[.string ByteArray.empty, .string ByteArray.empty, .string ByteArray.empty, .int .i64 0]) 4 56 Tryz.underlying23 HI.out.1 HI.out.2.1 HI.out.2.2.1 HI.out.2.2.2 rfl (by decide) (.slice p1 (k + 1) c1) (k + 1) ((l.take k).flatMap RMsg.cells ++ m.cells) rfl HO1.out ⟨b, o + k * 4, none⟩ mm c5 ((l.drop k).flatMap RMsg.cells) rfl HNL.out (fun j u hj => msgs_cell ((HROW.out _ HB1.out).drop k) j u hj) (msgs_one _) (by unfold maxLen; omega) (by omega) (hx1) ?_; intro v2 w2 hown2 hgr2; have HO2 : Hid (w2.ownsRow ((w.alloc (.cells #[.string m.frm, .string m.to, .string m.label, .int .i64 m.sort] 25)).drew.alloc (.cells #[.string m.frm, .string m.to, .string m.label, .int .i64 m.sort] 25)).heap.size 25 4 v2 (k + 1 + mm) ((l.take k).flatMap RMsg.cells ++ m.cells ++ (l.drop k).flatMap RMsg.cells)) := hide hown2; have HB2 : Hid (Below w.heap.size w w2) := hide (HB1.out.trans ((grownBy_apart hgr2).below HB1.out.size (fun q hq => Nat.le_trans (by simp; omega) ((owns_fresh HO1.out).lo q hq)))); clear hown2 hgr2))
    have HS2 : Hid (RMsgSl w2 w2.heap.size v2 (insL l k m)) := hide (by
      have h3 : RMsgOwn w2 ((w.alloc (.cells #[.string m.frm, .string m.to, .string m.label, .int .i64 m.sort] 25)).drew.alloc (.cells #[.string m.frm, .string m.to, .string m.label, .int .i64 m.sort] 25)).heap.size v2 (insL l k m) := by
        unfold RMsgOwn
        rw [HIN.out.2, ← HIN.out.1]
        exact HO2.out
      exact h3.sl (by rw [HIN.out.2]; omega))
    obtain ⟨p2, c2, rfl⟩ := HS2.out.shape
    cases q
    · go_wp2_with (go_at_call 22; refine (i_net HQ.out _ _ HOK.out HS2.out).mono ?_; rintro e w3 ⟨rfl, hb3⟩; have HB3 : Hid (Below w.heap.size w w3) := hide (HB2.out.trans (hb3.mono HB2.out.size)); have gM := (HS.out.carry HB3.out).gM; clear hb3)
      go_region_with fail
      all_goals
        go_wp2_with fail
        refine bodyPost_ret_by (v := .tuple #[.slice none 0 0, .iface 136 (.pointer (some E.aM))]) ?_ rfl ⟨_, by rw [HW.out]; rfl, rfl, HB3.out.drew⟩
        unfold results
        go_simp
    · go_wp2_with (go_at_call 22; refine (i_net HQ.out _ _ HOK.out HS2.out).mono ?_; rintro e w3 ⟨rfl, hb3⟩; have HB23 := hide hb3; have HB3 : Hid (Below w.heap.size w w3) := hide (HB2.out.trans (hb3.mono HB2.out.size)); clear hb3)
      refine bodyPost_ret_by (v := .tuple #[.slice p2 (insL l k m).length c2, .nilIface]) ?_ rfl ⟨_, by rw [HW.out]; rfl, (HS2.out.carry HB23.out).up HB23.out.size, HB3.out⟩
      unfold results
      go_simp
end Go.Proofs.YtonafcifolddjaaGreatDoor
