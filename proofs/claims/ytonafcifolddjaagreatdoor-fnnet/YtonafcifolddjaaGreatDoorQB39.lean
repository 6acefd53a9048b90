/- The draws of chapter 6: what is on its way. -/
import Derived.Test.YtonafcifolddjaaGreatDoorQB14
import Derived.Test.YtonafcifolddjaaGreatDoorQB30
import Derived.Test.YtonafcifolddjaaGreatDoorQB31
import Derived.Deep.DeepCutAuto
import Derived.Maps.AppendAt
import Derived.Test.YtonafcifolddjaaGreatDoorQB38
import Derived.Test.YtonafcifolddjaaGreatDoorQB29
import Derived.Test.YtonafcifolddjaaGreatDoorQB37
namespace Go.Proofs.YtonafcifolddjaaGreatDoor
open Go.RowKit
set_option linter.unusedSimpArgs false
set_option linter.unusedVariables false
attribute [local go_sem ↓] Go.wp_at_zero Go.wp_at_succ

theorem why_zero {y : Why} (h : y.code = 0) : y = .normal := by cases y <;> first | rfl | (exfalso; revert h; decide)
/-- what is drawn to be on its way -/
structure MnAt (w wr : World) (sb : Nat) (ao : Option Addr) (len cap : Nat) (v : Value) (l : List RMsg) : Prop where
  own : RMsgOwn wr w.heap.size v l
  ok : ∀ m ∈ l, DrMsg m
  src : Src wr sb ao len cap
  ap : Apart w wr [sb]
  adr : ∃ g c, v = .slice (some ⟨g, 0, none⟩) l.length c
theorem MnAt.apart {w wr wn : World} {sb : Nat} {ao : Option Addr} {len cap : Nat} {v : Value} {l : List RMsg} (h : MnAt w wr sb ao len cap v l) (hsb : sb < w.heap.size) (hs : Src wn sb ao len cap) (hg : Apart wr wn [sb]) : MnAt w wn sb ao len cap v l :=
  ⟨h.own.keep hg (fun b hb hm => by simp at hm; have := h.own.fresh.lo b hb; omega), h.ok, hs, (h.ap.trans hg).sub (by simp), h.adr⟩
theorem MnAt.drawn {w wr wn : World} {sb : Nat} {ao : Option Addr} {len cap : Nat} {v : Value} {l : List RMsg} (h : MnAt w wr sb ao len cap v l) (hsb : sb < w.heap.size) (hs : Src wn sb ao len cap) (hg : wr.grownBy wn (some sb)) : MnAt w wn sb ao len cap v l := h.apart hsb hs (Apart.grown hg)
theorem MnAt.below {w wr wn : World} {sb : Nat} {ao : Option Addr} {len cap : Nat} {v : Value} {l : List RMsg} (h : MnAt w wr sb ao len cap v l) (hb : Below wr.heap.size wr wn) : MnAt w wn sb ao len cap v l :=
  ⟨h.own.below hb, h.ok, h.src.past (below_apart hb) (by simp), h.ap.then hb, h.adr⟩
theorem MnAt.sl {w wr : World} {sb : Nat} {ao : Option Addr} {len cap : Nat} {v : Value} {l : List RMsg} (h : MnAt w wr sb ao len cap v l) (hl : l.length ≤ 100) : RMsgSl wr wr.heap.size v l := h.own.sl (by omega)
/-- one more was put on its way -/
theorem MnAt.put {w wr w1 w2 : World} {sb : Nat} {ao : Option Addr} {len cap : Nat} {v v2 : Value} {l : List RMsg} {m : RMsg} (h : MnAt w wr sb ao len cap v l) (h1 : MnAt w w1 sb ao len cap v l) (hm : DrMsg m) (ho : RMsgOwn w2 w1.heap.size v2 (putR l m)) (hb : Below w1.heap.size w1 w2) (hc : (putW l m).code = 0) : MnAt w w2 sb ao len cap v2 (l ++ [m]) := by
  have e : putR l m = l ++ [m] := by rw [putR_yes (why_zero hc), insL_all]
  rw [e] at ho
  refine ⟨ho.mono h1.ap.size, fun x hx => ?_, (h1.below hb).src, (h1.below hb).ap, ?_⟩
  · rcases List.mem_append.1 hx with hx | hx
    · exact h.ok x hx
    · simp at hx; subst hx; exact hm
  · obtain ⟨g, c, e, _⟩ := own_addr ho rfl (by simp)
    exact ⟨g, c, e⟩
theorem MnAt.push {w wr w4 : World} {sb : Nat} {ao : Option Addr} {len cap : Nat} {v v4 : Value} {l : List RMsg} {m : RMsg} (h : MnAt w wr sb ao len cap v l) (hsb : sb < w.heap.size) (hm : DrMsg m) (o : Obj)
    (hown : w4.ownsRow w.heap.size 25 4 v4 (l.length + 1) (l.flatMap RMsg.cells ++ m.cells)) (hg : (wr.alloc o).grownBy w4 v.ownBlock) : MnAt w w4 sb ao len cap v4 (l ++ [m]) := by
  obtain ⟨p, c, hv⟩ := owns_shape h.own
  have hA : Apart wr w4 (vblocks v) := by
    rw [hv] at hg ⊢
    have := (below_apart (malloc1 wr o)).trans (grownBy_apart hg)
    rwa [List.nil_append] at this
  have lo := h.own.fresh.lo
  have ho := RMsgOwn.snoc hown
  refine ⟨ho, fun x hx => ?_, h.src.past hA (fun b hb => by have := lo b hb; omega), h.ap.newerD hA lo, ?_⟩
  · rcases List.mem_append.1 hx with hx | hx
    · exact h.ok x hx
    · simp at hx; subst hx; exact hm
  · obtain ⟨g, c, e, _⟩ := own_addr ho rfl (by simp)
    exact ⟨g, c, e⟩
/-- what is on its way is drawn -/
def MnAns (w w' : World) (e : Ending) (sb : Nat) (ao : Option Addr) (len cap : Nat) : Prop := ∃ v l, e = .returned v ∧ l.length ≤ 9 ∧ MnAt w w' sb ao len cap v l
set_option maxRecDepth 100000 in
set_option maxHeartbeats 4000000 in
theorem net_any (sb : Nat) (ao : Option Addr) (len cap : Nat) (w : World) (hl : len ≤ 1048576) (h : Src w sb ao len cap) :
    Calls Tryz.prog 28 #[.pointer (some ⟨sb, 0, none⟩)] w fun e w' => MnAns w w' e sb ao len cap := by
  obtain ⟨i0, hi, hz0, hz1, hz2⟩ := info_parts Tryz.infoRMsg
  have HI := hide (And.intro hi (And.intro hz0 (And.intro hz1 hz2)))
  have hsb := h.lt
  have HM0 : Hid (MnAt w (w.alloc (.cells #[] 25)) sb ao len cap (.slice (some ⟨w.heap.size, 0, none⟩) 0 0) []) := hide ⟨owns_empty (w.alloc (.cells #[] 25)) w.heap.size 25 4 w.heap.size (Nat.le_refl _) (mheap_new _ _ _ rfl), (fun n hn => by cases hn), h.past (below_apart (malloc1 w _)) (by simp), (below_apart (malloc1 w _)).sub (by simp), ⟨_, _, rfl⟩⟩
  have HO : Hid (∀ w1, Src w1 sb ao len cap → Calls Tryz.prog 33 #[.pointer (some ⟨sb, 0, none⟩), .int .i64 20] w1 fun e w' => ∃ b : Bool, e = .returned (.bool b) ∧ Src w' sb ao len cap ∧ w1.grownBy w' (some sb)) := hide (fun w1 hs => n_one sb ao len cap 20 w1 (by omega) (by omega) hl hs)
  have HN : Hid (∀ w1, Src w1 sb ao len cap → Calls Tryz.prog 34 #[.pointer (some ⟨sb, 0, none⟩), .int .i64 9] w1 fun e w' => ∃ r : Int, e = .returned (.int .i64 r) ∧ 0 ≤ r ∧ r < 9 ∧ Src w' sb ao len cap ∧ w1.grownBy w' (some sb)) := hide (fun w1 hs => n_any sb ao len cap 9 w1 (by omega) (by omega) hl hs)
  have HG : Hid (∀ w1, Src w1 sb ao len cap → Calls Tryz.prog 29 #[.pointer (some ⟨sb, 0, none⟩)] w1 fun e w' => MgAns w1 w' e sb ao len cap) := hide (fun w1 hs => msg_any sb ao len cap w1 hl hs)
  clear h hi hz0 hz1 hz2
  go_enter Tryz.func28, Tryz.ntmps28
  go_wp2_with (first
    | (go_at_call 34; refine (HN.out _ HM0.out.src).mono ?_; rintro e w1 ⟨r, rfl, hr0, hr1, hs, hg⟩; obtain ⟨R, rfl⟩ : ∃ R : Nat, r = (R : Int) := ⟨r.toNat, by omega⟩; have HM1 := hide (HM0.out.drawn hsb hs hg); clear hs hg HM0))
  go_loopw [3, 4] (fun lv kv wr => ∃ (k : Nat) (l : List RMsg), kv = .int .i64 (k : Int) ∧ l.length + k ≤ 8 ∧ MnAt w wr sb ao len cap lv l) (fun _ kv _ => (intOf kv).toNat)
  case atStart => exact ⟨R, [], rfl, by simp; omega, HM1.out⟩
  case round =>
    clear HM1
    obtain ⟨k, l, rfl, hlk, hm⟩ := hrel
    have HM := hide hm
    obtain ⟨g, c, rfl⟩ := hm.adr
    clear hm
    by_cases hk0 : 0 < k
    · obtain ⟨K, rfl⟩ : ∃ K, k = K + 1 := ⟨k - 1, by omega⟩
      go_wp2_with (first
        | (go_at_call 29; refine (HG.out _ HM.out.src).mono ?_; rintro e w2 ⟨m, rfl, hdm, hs, hA⟩; have HM2 := hide (HM.out.apart hsb hs hA); have HD := hide hdm; clear hs hA hdm)
        | (go_at_call 16; refine (s_netPut l m g 0 c w2 (fun x hx => (HM2.out.ok x hx).fits.1) HD.out.fits.1 (HM2.out.sl (by omega))).mono ?_; rintro e w3 ⟨v3, rfl, ho3, hb3⟩; obtain ⟨C, hC⟩ : ∃ C, (putW l m).code = C := ⟨_, rfl⟩; have HC := hide hC; have HP3 : Hid (C = 0 → MnAt w w3 sb ao len cap v3 (l ++ [m])) := hide (fun e => HM.out.put HM2.out HD.out ho3 hb3 (by rw [hC]; exact e)); have HM3 := hide (HM2.out.below hb3); obtain ⟨p3, c3, rfl⟩ := owns_shape ho3; rw [hC]; unfold netV; clear hC ho3 hb3; cases hq : (C == 0)))
      · go_roundw
        case rel => exact ⟨K, l, by go_num, by omega, HM3.out.below (malloc1 _ _)⟩
        case measure => simp [intOf]
      · go_roundw
        case rel => exact ⟨K, l ++ [m], by go_num, by simp; omega, (HP3.out (by simpa using hq)).below (malloc1 _ _)⟩
        case measure => simp [intOf]
    · obtain rfl : k = 0 := by omega
      go_wp2_with (first
        | (go_at_call 33; refine (HO.out _ HM.out.src).mono ?_; rintro e w2 ⟨b2, rfl, hs, hg⟩; have HM2 := hide (HM.out.drawn hsb hs hg); clear hs hg; cases b2)
        | (go_at_call 29; refine (HG.out _ HM2.out.src).mono ?_; rintro e w3 ⟨m, rfl, hdm, hs, hA⟩; have HM3 := hide (HM2.out.apart hsb hs hA); have HD := hide hdm; unfold RMsg.val; have z3 := HM3.out.ap.size; clear hs hA hdm)
        | (at_builtin; refine wpList_append_own_at _ rfl (.tmp 24) (.tmp 27) 23 rfl w.heap.size 25 i0 (.agg #[.string ByteArray.empty, .string ByteArray.empty, .string ByteArray.empty, .int .i64 0]) 4 56 Tryz.underlying23 HI.out.1 HI.out.2.1 HI.out.2.2.1 HI.out.2.2.2 rfl (by decide) (.slice (some ⟨g, 0, none⟩) l.length c) l.length (l.flatMap RMsg.cells) rfl (owns_below HM3.out.own (malloc1 _ _)) ⟨w3.heap.size, 0, none⟩ 1 1 m.cells rfl rfl (fun j u hj => new_row1 w3 m.cells 25 j u hj) (RMsg.cells_one _) (by unfold maxLen; omega) (by omega) (by simp; omega) ?_; intro v4 w4 hown4 hgr4 _ _; have HM4 := hide (HM3.out.push hsb HD.out _ hown4 hgr4); obtain ⟨p4, c4, rfl⟩ := owns_shape hown4; clear hown4 hgr4))
      · go_ret
        exact ⟨_, _, rfl, by omega, HM2.out⟩
      · go_ret
        exact ⟨_, _, rfl, by simp; omega, HM4.out⟩
end Go.Proofs.YtonafcifolddjaaGreatDoor
/- What FnNet asks of lists of Msgs: pure. -/
namespace Go.Proofs.YtonafcifolddjaaGreatDoor
open Go.RowKit

theorem erase_net {l : List RMsg} (k : Nat) (h : netB l = true) : netB (l.eraseIdx k) = true :=
  net_yes (Nat.le_trans (List.Sublist.length_le (List.eraseIdx_sublist l k)) (net_len h)) (fun m hm => (net_right h m ((List.eraseIdx_sublist l k).subset hm)).1)
    (fun m _ => Nat.le_trans ((List.eraseIdx_sublist l k).countP_le) (net_cnt h m.frm m.to))
theorem cnt_map (f t : ByteArray) (l : List RMsg) : cntM f t l = ((l.map (isMsg f t)).countP id) := by
  rw [cntM, List.countP_map]; rfl
theorem swap_map {l : List RMsg} {k j : Nat} (hk : k < l.length) (hj : j < l.length) (f t : ByteArray) (h : isMsg f t l[k] = isMsg f t l[j]) : (swapL l k j).map (isMsg f t) = l.map (isMsg f t) := by
  rw [swapL, List.getD_eq_getElem?_getD, List.getElem?_eq_getElem hj, List.getD_eq_getElem?_getD, List.getElem?_eq_getElem hk]
  simp only [Option.getD_some]
  apply List.ext_getElem
  · simp
  · intro i h1 h2
    simp only [List.getElem_map, List.getElem_set]
    split
    · rename_i e
      subst e
      exact h
    · split
      · rename_i e
        subst e
        exact h.symm
      · rfl
theorem swap_net {l : List RMsg} {k : Nat} (hk : k < l.length) (h : netB l = true) (hw : swapW l k = .normal) : netB (swapR l k) = true ∧ (swapR l k).length = l.length := by
  have hm : ∀ x, x ∈ swapR l k → x ∈ l := fun x hx => swapR_mem hk hx
  unfold swapW at hw
  unfold swapR at hm ⊢
  rw [List.getD_eq_getElem?_getD, List.getElem?_eq_getElem hk, Option.getD_some] at hw hm ⊢
  cases hi : atI l[k].frm l[k].to (l.drop (k + 1)) with
  | none => rw [hi] at hw; cases hw
  | some i =>
    rw [hi] at hm
    simp only at hm ⊢
    have hil := atI_lt hi
    rw [List.length_drop] at hil
    have hj : k + 1 + i < l.length := by omega
    have hx : isMsg l[k].frm l[k].to l[k + 1 + i] = true := by
      unfold atI at hi
      obtain ⟨h1, h2, _⟩ := List.findIdx?_eq_some_iff_getElem.1 hi
      rw [List.getElem_drop] at h2
      exact h2
    obtain ⟨e1, e2⟩ := isMsg_iff.1 hx
    refine ⟨net_yes (by rw [swapL_len]; exact net_len h) (fun m hmm => (net_right h m (hm m hmm)).1) (fun m _ => ?_), swapL_len _ _ _⟩
    rw [cnt_map, swap_map hk hj _ _ (by unfold isMsg; rw [e1, e2]), ← cnt_map]
    exact net_cnt h _ _
theorem ins_net {l : List RMsg} {k : Nat} {m : RMsg} (h : insW l k m = .normal) : netB (insL l k m) = true := by
  unfold insW at h
  split at h
  · assumption
  · cases h
/-- what is answered without a fault is right -/
theorem put_net {l : List RMsg} {m : RMsg} (h : putW l m = .normal) : putR l m = l ++ [m] ∧ netB (l ++ [m]) = true ∧ refuseW l (msgB m) = .normal := by
  by_cases hr : refuseW l (msgB m) = .normal
  · have h' := h
    rw [putW_yes hr] at h'
    rw [putR_yes h, insL_all]
    exact ⟨rfl, by rw [← insL_all]; exact ins_net h', hr⟩
  · rw [putW_no hr] at h
    exact absurd h hr
theorem pick_net {l : List RMsg} {f t : ByteArray} (took : Bool) (h : findW l f t = .normal) : netB (pickL took l f t) = true := by
  obtain ⟨k, hk, _, _, hn⟩ := find_fine h
  rw [(pick_yes took h hk).1]
  cases took
  · exact hn
  · exact erase_net k hn
/-- how many there are behind a fault -/
theorem fault_net {l : List RMsg} {a n : Int} (h : faultW l a n = .normal) : netB (faultR l a n) = true ∧ 1 ≤ a ∧ a ≤ 3 ∧ ((faultR l a n).length : Int) = l.length + (if a = 1 then -1 else if a = 2 then 1 else 0) := by
  have hr : refuseW l (kindB a && timeB n) = .normal := Classical.byContradiction fun e => by rw [faultW_no e] at h; exact e h
  obtain ⟨h1, h2, h3⟩ := refuse_net hr
  rw [Bool.and_eq_true] at h2
  have hk : 1 ≤ a ∧ a ≤ 3 := by have := h2.1; unfold kindB at this; simpa using this
  have hd := h
  rw [faultW_yes hr, doneW] at hd
  rw [faultR_yes h, doneR]
  by_cases h0 : l.length = 0
  · rw [if_pos h0] at hd; cases hd
  rw [if_neg h0] at hd
  have hf : faultK l n < l.length := Nat.mod_lt _ (by omega)
  by_cases ha : a = 1
  · rw [if_pos ha, if_pos ha]
    refine ⟨erase_net _ h3, hk.1, hk.2, ?_⟩
    rw [List.length_eraseIdx, if_pos hf]
    omega
  rw [if_neg ha, if_neg ha]
  rw [if_neg ha] at hd
  by_cases hb : a = 2
  · rw [if_pos hb, if_pos hb]
    rw [if_pos hb] at hd
    refine ⟨ins_net hd, hk.1, hk.2, ?_⟩
    rw [insL_len _ (by omega)]
    omega
  · rw [if_neg hb, if_neg hb]
    rw [if_neg hb] at hd
    obtain ⟨g1, g2⟩ := swap_net hf h3 hd
    exact ⟨g1, hk.1, hk.2, by omega⟩
/-- what is put on its way is taken -/
theorem put_take {l : List RMsg} {m : RMsg} (h : putW l m = .normal) :
    findW (l ++ [m]) m.frm m.to = .normal ∧ (findW l m.frm m.to = .normal → pickM (l ++ [m]) m.frm m.to = pickM l m.frm m.to ∧ (pickL true (l ++ [m]) m.frm m.to).length = l.length) ∧
    (findW l m.frm m.to ≠ .normal → pickM (l ++ [m]) m.frm m.to = m ∧ pickL true (l ++ [m]) m.frm m.to = l) := by
  obtain ⟨hR, hN, hr⟩ := put_net h
  obtain ⟨h4, hm, hl⟩ := refuse_net hr
  obtain ⟨n1, n2, n3, -, -⟩ := msg_name hm
  have hz : ¬ (8000 < m.frm.size ∨ 8000 < m.to.size) := by have := name_short n1; have := name_short n2; omega
  have hnn : (nameB m.frm && nameB m.to) = true := by rw [n1, n2]; rfl
  have hlen : l.length + 1 ≤ 36 := by have := net_len hN; simpa using this
  have hrl : refuseW l (nameB m.frm && nameB m.to) = .normal := by
    rw [refuseW, if_neg (by omega), hnn, hl]; rfl
  have hra : refuseW (l ++ [m]) (nameB m.frm && nameB m.to) = .normal := by
    rw [refuseW, if_neg (by simp; omega), hnn, hN]; rfl
  have hWl := (findN_at hz hrl).1
  have hWa := (findN_at hz hra).1
  have hself := isMsg_self m
  cases hk : atI m.frm m.to l with
  | some k =>
    have hkl := atI_lt hk
    have hka : atI m.frm m.to (l ++ [m]) = some k := by
      unfold atI at hk ⊢
      rw [List.findIdx?_append, hk]; rfl
    have f1 : findW l m.frm m.to = .normal := by rw [hWl, atW, hk]
    have f2 : findW (l ++ [m]) m.frm m.to = .normal := by rw [hWa, atW, hka]
    refine ⟨f2, fun _ => ?_, fun hne => absurd f1 hne⟩
    rw [(pick_yes true f1 hk).2, (pick_yes true f2 hka).2, (pick_yes true f2 hka).1]
    refine ⟨?_, ?_⟩
    · rw [List.getD_eq_getElem?_getD, List.getD_eq_getElem?_getD, List.getElem?_append_left hkl]
    · rw [if_pos rfl, List.length_eraseIdx, if_pos (by simp; omega)]; simp
  | none =>
    have hka : atI m.frm m.to (l ++ [m]) = some l.length := by
      unfold atI at hk ⊢
      rw [List.findIdx?_append, hk]
      simp [List.findIdx?_cons, hself]
    have f1 : findW l m.frm m.to = .deferred := by rw [hWl, atW, hk]
    have f2 : findW (l ++ [m]) m.frm m.to = .normal := by rw [hWa, atW, hka]
    refine ⟨f2, fun e => (by rw [f1] at e; cases e), fun _ => ?_⟩
    rw [(pick_yes true f2 hka).2, (pick_yes true f2 hka).1]
    refine ⟨?_, ?_⟩
    · rw [List.getD_eq_getElem?_getD]; simp
    · rw [if_pos rfl, List.eraseIdx_append_of_length_le (Nat.le_refl _)]; simp
theorem ws_own {l : List RMsg} (hn : netB l = true) (hz : (bytesN l).size ≤ 8000) : wsR (bytesN l) = (l.map fun m => sealS (msgP m), ((bytesN l).size : Int), 0) := by
  obtain ⟨t, hb⟩ : ∃ t, bytesN l = t := ⟨_, rfl⟩
  have he := bytesN_bL l
  rw [hb] at he hz ⊢
  have hl36 := net_len hn
  have hc : cntR t = ((l.length : Int), ((bL (putS (l.length : Int))).length : Int), 0) := by
    have := num_back (n := (l.length : Int)) (by omega) (by omega) (s := t) (pre := []) (post := l.flatMap fun m => bL (msgW m)) (by rw [List.nil_append]; exact he) hz
    simp only [List.length_nil] at this
    unfold cntR cntI numI
    rw [if_pos rfl]
    rw [show ((0 : Nat) : Int) = 0 from rfl] at this
    rw [this]
    simp only
    rw [if_neg (by omega)]
    refine Prod.ext rfl (Prod.ext ?_ rfl)
    simp only
    rw [show bL (putS (l.length : Int)) = putL (foldN (l.length : Int)) from rfl]
    omega
  have hr := rdW_back hz (l.map fun m => sealS (msgP m)) (fun x hx => by
      obtain ⟨m, hm, rfl⟩ := List.mem_map.1 hx
      have := msgP_size (net_right hn m hm).1
      have := seal_size (s := msgP m) (by omega)
      omega) (bL (putS (l.length : Int))) [] (by rw [he, List.append_nil, List.flatMap_map]; rfl) l.length (by simp)
  rw [wsR, hc]
  simp only
  rw [Int.toNat_natCast, hr, List.take_of_length_le (by simp)]
  refine Prod.ext rfl (Prod.ext ?_ rfl)
  simp only
  rw [List.flatMap_map, show ((fun m => bL (textS (sealS (msgP m)))) : RMsg → List UInt8) = fun m => bL (msgW m) from rfl, ← he, Lib.size_eq]
  rfl
theorem bytesN_small {l : List RMsg} (hn : netB l = true) : (bytesN l).size ≤ 4440 := by
  have h := partsN_tot hn (Nat.le_refl l.length)
  rw [bytesN, joinS_size]
  exact h
theorem netS_small (l : List RMsg) : (netS l).size ≤ 4440 := by
  unfold netS
  split
  · rename_i h; exact bytesN_small h
  · simp
/-- what is read of a net's own bytes -/
theorem net_back {b : List RMsg} (h : (netS b).toList ≠ []) : netL (netS b) = b := by
  have hn : netB b = true := by
    cases hb : netB b
    · exfalso; apply h; rw [netS, hb, Go.ByteArray.toList_eq]; rfl
    · rfl
  have hz := bytesN_small hn
  rw [netS, if_pos hn]
  have hw := ws_own hn (by omega)
  have hm : (wsR (bytesN b)).1.map unMsg = b := by
    rw [hw]
    simp only
    rw [List.map_map]
    exact map_same (unMsg ∘ fun m => sealS (msgP m)) b fun m hm => (Function.comp_apply (f := unMsg) (g := fun m => sealS (msgP m)) (x := m)).trans (unMsg_back (net_right hn m hm).1)
  have ho : okB (bytesN b) = true := (okB_iff _).2 ⟨by rw [hw], by rw [hw], by rw [hm]; exact hn⟩
  rw [netL, if_neg (by omega), if_pos ho, hm]
theorem net_told {u : ByteArray} (h : netC u = 0) : netS (netL u) = u ∧ netB (netL u) = true := by
  unfold netC at h
  by_cases h8 : 8000 < u.size
  · rw [if_pos h8] at h; omega
  rw [if_neg h8] at h
  by_cases ho : okB u = true
  · have hI := (okB_iff u).1 ho
    obtain ⟨hS, e⟩ := ok_to hI
    rw [netL, if_neg h8, if_pos ho]
    exact ⟨by rw [e]; exact hS.2.2, hI.2.2⟩
  · rw [if_neg ho] at h; omega
end Go.Proofs.YtonafcifolddjaaGreatDoor
