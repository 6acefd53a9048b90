import Derived.Test.YtmjlblbhakppfaaGreatDoorQP10
import Derived.Test.YtmjlblbhakppfaaGreatDoorQP00
import Derived.Test.YtmjlblbhakppfaaGreatDoorQP06
namespace Go.Proofs.YtmjlblbhakppfaaGreatDoor
open Go.RowKit

def ba (l : List UInt8) : ByteArray := ⟨l.toArray⟩
def sortT (n : Int) : ByteArray := if n == 0 then ba [110, 111, 110, 101] else if n == 1 then ba [105, 110, 116] else ba [116, 101, 120, 116]
def talkT (n : Nd) : ByteArray := if n.op == 5 then n.peer ++ ba [33] else if n.op == 6 then n.peer ++ ba [63] else n.name ++ ba [62] ++ n.peer
def caseT (c : Nd) (t : ByteArray) : ByteArray := c.name ++ ba [40] ++ sortT c.sort ++ ba [41, 46] ++ t
def joinC : List ByteArray → ByteArray
  | [] => ByteArray.empty
  | [t] => t
  | t :: u :: ts => t ++ ba [44] ++ joinC (u :: ts)
def casesF (go : List Nd → ByteArray × List Nd) : Nat → List Nd → List ByteArray × List Nd
  | 0, l => ([], l)
  | _ + 1, [] => ([], [])
  | m + 1, c :: l => (caseT c (go l).1 :: (casesF go m (go l).2).1, (casesF go m (go l).2).2)
def textF : Nat → List Nd → ByteArray × List Nd
  | _, [] => (ByteArray.empty, [])
  | 0, n :: l => if n.op == 1 then (n.name, l) else (ba [101, 110, 100], l)
  | f + 1, n :: l =>
    if n.op == 0 then (ba [101, 110, 100], l)
    else if n.op == 1 then (n.name, l)
    else if n.op == 2 then (ba [114, 101, 99] ++ ba [32] ++ n.name ++ ba [46] ++ (textF f l).1, (textF f l).2)
    else (talkT n ++ ba [123] ++ joinC (casesF (textF f) n.many.toNat l).1 ++ ba [125], (casesF (textF f) n.many.toNat l).2)

def StW (st : List Nd) : Prop := ∀ n ∈ st, n.op = 2 → n.name.size ≤ 20
theorem word20 {t : ByteArray} (h : wordB t = true) : t.size ≤ 20 := by
  simp only [wordB, nameB, Bool.and_eq_true, decide_eq_true_eq] at h
  exact h.1.1.2
theorem back20 : ∀ (st : List Nd) (said : Bool) (t : ByteArray), StW st → backB said st t = true → t.size ≤ 20
  | [], _, _, _, h => by cases h
  | n :: st, said, t, hw, h => by
    rw [backB] at h
    have hw' : StW st := fun x hx => hw x (List.mem_cons_of_mem _ hx)
    split at h
    · rename_i h2
      split at h
      · rename_i he
        rw [beq_iff_eq] at he h2
        have := hw n (by simp) h2
        rwa [tl_inj he] at this
      · exact back20 st said t hw' h
    · exact back20 st true t hw' h

def sumSz (ts : List ByteArray) : Nat := (ts.map fun t => t.size + 1).sum
theorem sz_app (a b : ByteArray) : (a ++ b).size = a.size + b.size := ByteArray.size_append
theorem sz_ba (l : List UInt8) : (ba l).size = l.length := by show l.toArray.size = _; simp
theorem joinC_sz : ∀ ts : List ByteArray, (joinC ts).size ≤ sumSz ts
  | [] => Nat.zero_le _
  | [t] => by simp [joinC, sumSz]
  | t :: u :: ts => by
    have ih := joinC_sz (u :: ts)
    have e : sumSz (t :: u :: ts) = t.size + 1 + sumSz (u :: ts) := by simp [sumSz]
    rw [joinC, sz_app, sz_app, sz_ba, e]
    simp only [List.length_cons, List.length_nil]
    omega
theorem sort_sz (n : Int) : (sortT n).size ≤ 4 := by
  rw [sortT]; split
  · simp [sz_ba]
  · split <;> simp [sz_ba]
theorem case_sz {c : Nd} (h : caseB c = true) (t : ByteArray) : (caseT c t).size + 1 ≤ 28 + t.size := by
  have h20 : c.name.size ≤ 20 := by
    simp only [caseB, Bool.and_eq_true] at h
    exact word20 h.1.2
  have := sort_sz c.sort
  rw [caseT, sz_app, sz_app, sz_app, sz_app, sz_ba, sz_ba]
  simp only [List.length_cons, List.length_nil]
  omega
theorem talk_sz {part : Bool} {n : Nd} (h : talkS part n = true) : (talkT n).size ≤ 41 := by
  have hs := h
  simp only [talkS, Bool.and_eq_true] at hs
  have hp := word20 hs.1.1.1
  rw [talkT]
  split
  · rw [sz_app, sz_ba]; simp only [List.length_cons, List.length_nil]; omega
  · split
    · rw [sz_app, sz_ba]; simp only [List.length_cons, List.length_nil]; omega
    · have hn : n.name.size ≤ 20 := by
        cases part
        · simp at hs; exact word20 hs.2.1.2
        · simp at hs; rcases hs.2.2 with h5 | h5 <;> simp_all
      rw [sz_app, sz_app, sz_ba]; simp only [List.length_cons, List.length_nil]; omega

theorem kids_text {go : List Nd → Option (List Nd)} {tf : List Nd → ByteArray × List Nd} (hg : ∀ l r, go l = some r → (tf l).2 = r ∧ (tf l).1.size + 43 * r.length ≤ 43 * l.length) :
    ∀ (m : Nat) (ls : List ByteArray) (l r : List Nd), kidsBy go m ls l = some r → (casesF tf m l).2 = r ∧ sumSz (casesF tf m l).1 + 43 * r.length ≤ 43 * l.length ∧ (casesF tf m l).1.length = m
  | 0, _, l, r, h => by cases h; exact ⟨rfl, by simp [casesF, sumSz], rfl⟩
  | _ + 1, _, [], r, h => by cases h
  | m + 1, ls, n :: l, r, h => by
    rw [kidsBy] at h
    split at h
    · rename_i hc
      split at h
      · cases h
      · rename_i r' hr'
        obtain ⟨e1, s1⟩ := hg _ _ hr'
        obtain ⟨e2, s2, n2⟩ := kids_text hg m _ _ _ h
        have hcb : caseB n = true := by simp at hc; exact hc.1
        have hcs := case_sz hcb (tf l).1
        rw [casesF, e1]
        refine ⟨e2, ?_, by simp [n2]⟩
        have e : sumSz (caseT n (tf l).1 :: (casesF tf m r').1) = (caseT n (tf l).1).size + 1 + sumSz (casesF tf m r').1 := by simp [sumSz]
        rw [e]
        simp only [List.length_cons]
        omega
    · cases h
theorem ahead_text (part : Bool) : ∀ (f : Nat) (st l r : List Nd), StW st → ahead (talkS part) f st l = some r → (textF f l).2 = r ∧ (textF f l).1.size + 43 * r.length ≤ 43 * l.length := by
  intro f
  induction f with
  | zero =>
    intro st l r hw h
    cases l with
    | nil => cases h
    | cons n l =>
      rw [ahead] at h
      repeat' split at h
      all_goals first
        | (cases h; done)
        | (rename_i h0 _; cases h; rw [beq_iff_eq] at h0; refine ⟨by simp [textF, h0], ?_⟩; simp only [textF, h0]; simp [sz_ba]; omega)
        | (rename_i h0 h1 hv; cases h; rw [beq_iff_eq] at h1; simp only [Bool.and_eq_true] at hv; have := back20 st false n.name hw hv.2; refine ⟨by simp [textF, h1], ?_⟩; simp only [textF, h1]; simp; omega)
  | succ f ih =>
    intro st l r hw h
    cases l with
    | nil => cases h
    | cons n l =>
      rw [ahead] at h
      split at h
      · rename_i h0
        split at h
        · cases h
          rw [textF, if_pos h0]
          refine ⟨rfl, ?_⟩
          simp [sz_ba]; omega
        · cases h
      · rename_i h0
        split at h
        · rename_i h1
          split at h
          · rename_i hv
            cases h
            simp only [Bool.and_eq_true] at hv
            have := back20 st false n.name hw hv.2
            rw [textF, if_neg h0, if_pos h1]
            refine ⟨rfl, ?_⟩
            simp; omega
          · cases h
        · rename_i h1
          split at h
          · rename_i h2
            split at h
            · rename_i hv
              simp only [Bool.and_eq_true] at hv
              have hwn : wordB n.name = true := by have := hv.1; simp only [recB, Bool.and_eq_true] at this; exact this.2
              have h20 := word20 hwn
              have hw' : StW (n :: st) := by
                intro x hx h2
                rcases List.mem_cons.1 hx with e | e
                · rw [e]; exact h20
                · exact hw x e h2
              obtain ⟨e1, s1⟩ := ih (n :: st) l r hw' h
              rw [textF, if_neg h0, if_neg h1, if_pos h2]
              refine ⟨e1, ?_⟩
              simp only [sz_app, sz_ba, List.length_cons, List.length_nil]
              omega
            · cases h
          · rename_i h2
            split at h
            · rename_i ht
              have h2' : n.op ≠ 2 := fun e => h2 (by rw [e]; rfl)
              have hw' : StW (n :: st) := by
                intro x hx h2
                rcases List.mem_cons.1 hx with e | e
                · rw [e] at h2; exact absurd h2 h2'
                · exact hw x e h2
              obtain ⟨e1, s1, _⟩ := kids_text (fun l r => ih (n :: st) l r hw') _ _ _ _ h
              have hts := talk_sz ht
              have hj := joinC_sz (casesF (textF f) n.many.toNat l).1
              rw [textF, if_neg h0, if_neg h1, if_neg h2]
              refine ⟨e1, ?_⟩
              simp only [sz_app, sz_ba, List.length_cons, List.length_nil]
              omega
            · cases h
end Go.Proofs.YtmjlblbhakppfaaGreatDoor
namespace Go.Proofs.YtmjlblbhakppfaaGreatDoor
open Go.RowKit

def NumsAt (w : World) (v : Value) (ls : List Int) : Prop :=
  ∃ ao cap, v = .slice ao ls.length cap ∧ ls.length ≤ cap ∧ ls.length ≤ 4294967296 ∧ (ls ≠ [] → ∃ b o, ao = some ⟨b, o, none⟩ ∧ ∀ i (h : i < ls.length), w.cell? ⟨b, o + i, none⟩ = some (.int .i64 ls[i]))
theorem NumsAt.carry {w w' : World} {v : Value} {ls : List Int} (h : NumsAt w v ls) (hb : Below w.heap.size w w') : NumsAt w' v ls := by
  obtain ⟨ao, cap, h1, h2, h3, h4⟩ := h
  refine ⟨ao, cap, h1, h2, h3, fun hne => ?_⟩
  obtain ⟨b, o, e, hr⟩ := h4 hne
  refine ⟨b, o, e, fun i hi => ?_⟩
  exact (hb.cell (p := ⟨b, _, none⟩) (World.block_lt_of_cell? w _ (hr i hi))).trans (hr i hi)
def hasN (ls : List Int) (t : Int) : Bool := ls.any fun s => t == s
theorem hasN_take {ls : List Int} {t : Int} {k : Nat} (hk : k < ls.length) (h : hasN (ls.take k) t = false) (he : (t == ls[k]) = false) : hasN (ls.take (k + 1)) t = false := by
  rw [hasN, List.take_succ_eq_append_getElem hk, List.any_append]
  have : (ls.take k).any (fun s => t == s) = false := h
  rw [this]
  simpa using he
theorem hasN_hit {ls : List Int} {t : Int} {k : Nat} (hk : k < ls.length) (he : (t == ls[k]) = true) : hasN ls t = true := by
  rw [hasN, List.any_eq_true]
  exact ⟨ls[k], List.getElem_mem hk, he⟩

set_option maxHeartbeats 400000 in
theorem n_index (ls : List Int) (t : Int) (v : Value) (w : World) (hv : NumsAt w v ls) :
    Calls Tryz.prog 117 #[v, .int .i64 t] w fun e w' => ∃ j : Int, e = .returned (.int .i64 j) ∧ decide (0 ≤ j) = hasN ls t ∧ w' = w := by
  obtain ⟨ao, cap, rfl, hc, hm, hr⟩ := hv
  have HR := hide hr
  clear hr
  go_enter Tryz.func117, Tryz.ntmps117
  go_wp2_with fail
  go_loop [8] (fun i => ∃ k : Nat, k ≤ ls.length ∧ i = .int .i64 k ∧ hasN (ls.take k) t = false) (fun i => ls.length - (intOf i).toNat)
  case atStart => exact ⟨0, Nat.zero_le _, rfl, rfl⟩
  case round =>
    obtain ⟨k, hk, rfl, hall⟩ := hrel
    have HA := hide hall
    clear hall
    by_cases hlt : k < ls.length
    · obtain ⟨b, o, rfl, hcell⟩ := HR.out (by intro h; simp [h] at hlt)
      have hck := hcell k hlt
      obtain ⟨s, hs⟩ : ∃ s, s = ls[k] := ⟨_, rfl⟩
      rw [← hs] at hck
      have HSs := hide hs
      clear hcell hs
      cases heq : (t == s)
      all_goals
        have HE := hide heq
      · go_wp2_with fail
        go_round
        case rel => exact ⟨k + 1, by omega, by go_num, hasN_take hlt HA.out (by rw [← HSs.out]; exact HE.out)⟩
        case measure => simp [intOf]; omega
      · go_wp2_with fail
        go_ret
        exact ⟨_, rfl, by rw [hasN_hit hlt (by rw [← HSs.out]; exact HE.out)]; simp, rfl⟩
    · go_wp2_with fail
      go_ret
      refine ⟨_, rfl, ?_, rfl⟩
      have := HA.out
      rw [List.take_of_length_le (by omega)] at this
      rw [this]; rfl
theorem n_contains (ls : List Int) (t : Int) (v : Value) (w : World) (hv : NumsAt w v ls) :
    Calls Tryz.prog 81 #[v, .int .i64 t] w fun e w' => e = .returned (.bool (hasN ls t)) ∧ w' = w := by
  have HV := hide hv
  obtain ⟨ao, cap, rfl, hc, hm, hr⟩ := hv
  clear hr hc hm
  go_enter Tryz.func81, Tryz.ntmps81
  go_wp2_with (go_at_call 117; refine (n_index ls t _ _ HV.out).mono ?_; rintro e w' ⟨j, rfl, hj, rfl⟩; have HJ := hide hj; clear hj)
  go_ret
  exact ⟨ret_bool HJ.out.symm, rfl⟩

set_option maxHeartbeats 400000 in
theorem i_hasAny (ops : List Int) (ns : List Nd) (v u : Value) (w : World) (hv : SlAt w w.heap.size v ns) (hu : NumsAt w u ops) :
    Calls Tryz.prog 48 #[v, u] w fun e w' => e = .returned (.bool (ns.any fun n => hasN ops n.op)) ∧ Below w.heap.size w w' := by
  obtain ⟨ao, cap, rfl, hc, hm, hr⟩ := hv
  have HR := hide hr
  have HU := hide hu
  obtain ⟨ao', cap', rfl, hc', hm', hr'⟩ := hu
  clear hr hr'
  go_enter Tryz.func48, Tryz.ntmps48
  go_wp2_with fail
  go_loopw [9] (fun i wr => ∃ k : Nat, k ≤ ns.length ∧ i = .int .i64 k ∧ (ns.take k).any (fun n => hasN ops n.op) = false ∧ Below w.heap.size w wr) (fun i _ => ns.length - (intOf i).toNat)
  case atStart => exact ⟨0, Nat.zero_le _, rfl, rfl, Below.refl _ _⟩
  case round =>
    obtain ⟨k, hk, rfl, hall, hbel⟩ := hrel
    have HA := hide hall
    have HBEL := hide hbel
    have hszr := hbel.size
    clear hall hbel
    by_cases hlt : k < ns.length
    · obtain ⟨b, o, rfl, hbB, hrow⟩ := HR.out (by intro h; simp [h] at hlt)
      have hnode := (hrow.get k hlt).carry hbB HBEL.out
      obtain ⟨n1, hn1⟩ : ∃ n1, n1 = ns[k] := ⟨_, rfl⟩
      rw [← hn1] at hnode
      have HN := hide hn1
      clear hn1 hrow
      have hbw : b < wr.heap.size := hnode.lt
      obtain ⟨c0, c1, c2, c3, c4⟩ := hnode
      cases hh : hasN ops n1.op
      · have HH := hide hh
        clear hh
        go_wp2_with (go_at_call 81; refine (n_contains ops n1.op _ _ (HU.out.carry (HBEL.out.trans ((alloc1 _ _).mono hszr)))).mono ?_; rintro e w1 ⟨rfl, rfl⟩; rw [HH.out])
        go_roundw
        case rel => exact ⟨k + 1, by omega, by go_num, by rw [List.take_succ_eq_append_getElem hlt, List.any_append, HA.out, ← HN.out]; simp [HH.out], HBEL.out.trans ((alloc1 _ _).mono hszr)⟩
        case measure => simp [intOf]; omega
      · have HH := hide hh
        clear hh
        go_wp2_with (go_at_call 81; refine (n_contains ops n1.op _ _ (HU.out.carry (HBEL.out.trans ((alloc1 _ _).mono hszr)))).mono ?_; rintro e w1 ⟨rfl, rfl⟩; rw [HH.out])
        go_ret
        refine ⟨ret_bool ?_, HBEL.out.trans ((alloc1 _ _).mono hszr)⟩
        rw [List.any_eq_true]
        exact ⟨n1, by rw [HN.out]; exact List.getElem_mem hlt, HH.out⟩
    · go_wp2_with fail
      go_ret
      refine ⟨ret_bool ?_, HBEL.out⟩
      have := HA.out
      rwa [List.take_of_length_le (by omega)] at this
end Go.Proofs.YtmjlblbhakppfaaGreatDoor
namespace Go.Proofs.YtmjlblbhakppfaaGreatDoor
open Go.RowKit

theorem clone_calls : CloneCalls := by
  intro s w hs
  have HS := hide hs
  clear hs
  go_enter Tryz.func76, Tryz.ntmps76
  go_wp2_with (go_at_call 97; refine (Tryz.stringslite_Clone s _ (Nat.le_trans HS.out (by omega))).mono ?_; rintro e w1 ⟨rfl, hb1⟩; have HB1 := hide hb1; clear hb1)
  go_ret
  exact ⟨rfl, HB1.out⟩
end Go.Proofs.YtmjlblbhakppfaaGreatDoor
namespace Go.Proofs.YtmjlblbhakppfaaGreatDoor
open Go.RowKit

def fitL (l : List Nd) : Prop := ∀ n ∈ l, n.fit
theorem fit_app {l r : List Nd} : fitL (l ++ r) ↔ fitL l ∧ fitL r := by
  unfold fitL
  simp only [List.mem_append]
  exact ⟨fun h => ⟨fun n hn => h n (.inl hn), fun n hn => h n (.inr hn)⟩, fun h n hn => hn.elim (h.1 n) (h.2 n)⟩
theorem fit_cons {n : Nd} {l : List Nd} : fitL (n :: l) ↔ n.fit ∧ fitL l := by
  unfold fitL
  simp only [List.mem_cons]
  exact ⟨fun h => ⟨h n (.inl rfl), fun m hm => h m (.inr hm)⟩, fun h m hm => hm.elim (fun e => e ▸ h.1) (h.2 m)⟩
theorem fit_nil : fitL [] := fun _ h => by cases h
section
variable {α : Type} {f : α → List Nd}
theorem brs_set : ∀ {l : List (Br α)} {i : Nat} {b : Br α} (c : Br α), l[i]? = some b → (brsBy f (l.set i c)).length + (f b.p).length = (brsBy f l).length + (f c.p).length ∧ (fitL (brsBy f l) → fitL [⟨4, c.l, noT, 0, c.s⟩] → fitL (f c.p) → fitL (brsBy f (l.set i c)))
  | [], i, b, c, h => by simp at h
  | a :: l, 0, b, c, h => by
    simp at h
    subst h
    rw [List.set_cons_zero, brs_cons, brs_cons]
    refine ⟨by simp only [List.length_cons, List.length_append]; omega, fun h1 h2 h3 => ?_⟩
    rw [fit_cons, fit_app] at *
    exact ⟨h2.1, h3, h1.2.2⟩
  | a :: l, i + 1, b, c, h => by
    rw [List.getElem?_cons_succ] at h
    obtain ⟨h1, h2⟩ := brs_set c h
    rw [List.set_cons_succ, brs_cons, brs_cons]
    refine ⟨by simp only [List.length_cons, List.length_append]; omega, fun h3 h4 h5 => ?_⟩
    rw [fit_cons, fit_app] at h3 ⊢
    exact ⟨h3.1, h3.2.1, h2 h3.2.2 h4 h5⟩
theorem brs_get : ∀ {l : List (Br α)} {i : Nat} {b : Br α}, l[i]? = some b → (f b.p).length + 1 ≤ (brsBy f l).length ∧ (fitL (brsBy f l) → fitL [⟨4, b.l, noT, 0, b.s⟩] ∧ fitL (f b.p))
  | [], i, b, h => by simp at h
  | a :: l, 0, b, h => by
    simp at h
    subst h
    rw [brs_cons]
    refine ⟨by simp only [List.length_cons, List.length_append]; omega, fun h1 => ?_⟩
    rw [fit_cons, fit_app] at h1
    exact ⟨fit_cons.2 ⟨h1.1, fit_nil⟩, h1.2.1⟩
  | a :: l, i + 1, b, h => by
    rw [List.getElem?_cons_succ] at h
    obtain ⟨h1, h2⟩ := brs_get h
    rw [brs_cons]
    refine ⟨by simp only [List.length_cons, List.length_append]; omega, fun h3 => ?_⟩
    rw [fit_cons, fit_app] at h3
    exact h2 h3.2.2
def SzOk (a b c : List Nd) : Prop := c.length ≤ a.length + b.length ∧ (fitL a → fitL b → fitL c)
theorem sz_left (a b : List Nd) : SzOk a b a := ⟨by omega, fun h _ => h⟩
theorem mergeBy_sz {mg : α → α → Option α} (hmg : ∀ x y z, mg x y = some z → SzOk (f x) (f y) (f z)) : ∀ (ds acc l : List (Br α)), mergeBy mg acc ds = some l → SzOk (brsBy f acc) (brsBy f ds) (brsBy f l)
  | [], acc, l, h => by
    rw [mergeBy] at h
    injection h with h
    subst h
    exact sz_left _ _
  | d :: ds, acc, l, h => by
    rw [mergeBy] at h
    rw [brs_cons]
    split at h
    · obtain ⟨h1, h2⟩ := mergeBy_sz hmg ds _ l h
      rw [brs_app] at h1 h2
      have e : brsBy f [d] = ⟨4, d.l, noT, 0, d.s⟩ :: f d.p := by rw [brs_cons]; simp [brsBy]
      rw [e] at h1 h2
      refine ⟨by simp only [List.length_append, List.length_cons] at *; omega, fun ha hb => ?_⟩
      rw [fit_cons, fit_app] at hb
      exact h2 (fit_app.2 ⟨ha, fit_cons.2 ⟨hb.1, hb.2.1⟩⟩) hb.2.2
    · rename_i i hi
      split at h
      · cases h
      · rename_i b hb
        split at h
        · cases h
        · rename_i q hq
          split at h
          · obtain ⟨h1, h2⟩ := mergeBy_sz hmg ds _ l h
            obtain ⟨h3, h4⟩ := hmg b.p d.p q hq
            obtain ⟨h5, h6⟩ := brs_set (f := f) ⟨b.l, b.s, q⟩ hb
            obtain ⟨h7, h8⟩ := brs_get (f := f) hb
            refine ⟨by simp only [List.length_append, List.length_cons] at *; omega, fun ha hc => ?_⟩
            rw [fit_cons, fit_app] at hc
            exact h2 (h6 ha (h8 ha).1 (h4 (h8 ha).2 hc.2.1)) hc.2.2
          · cases h
theorem mergeAll_sz {mg : α → α → Option α} (hmg : ∀ x y z, mg x y = some z → SzOk (f x) (f y) (f z)) : ∀ (r : List (Br α)) (x z : α), mergeAll mg x r = some z → SzOk (f x) (brsBy f r) (f z)
  | [], x, z, h => by rw [mergeAll] at h; injection h with h; subst h; exact sz_left _ _
  | b :: r, x, z, h => by
    rw [mergeAll] at h
    split at h
    · cases h
    · rename_i q hq
      obtain ⟨h1, h2⟩ := mergeAll_sz hmg r q z h
      obtain ⟨h3, h4⟩ := hmg x b.p q hq
      rw [brs_cons]
      refine ⟨by simp only [List.length_cons, List.length_append]; omega, fun ha hb => ?_⟩
      rw [fit_cons, fit_app] at hb
      exact h2 (h4 ha hb.2.1) hb.2.2
end
theorem hear_some {n : Nat} {p : Pn (n + 1)} {a : ByteArray} {l : List (Br (Pn n))} (h : hearN p = some (a, l)) : ∃ b, p = .talk ⟨6, b, a⟩ l := by
  revert h
  refine Pn.cases (P := fun p => hearN p = some (a, l) → ∃ b, p = .talk ⟨6, b, a⟩ l) (fun x h => ?_) (fun x q h => ?_) (fun t l' h => ?_) p
  · cases h
  · cases h
  · have h' : (if t.op == 6 then some (t.b, l') else none) = some (a, l) := h
    split at h'
    · rename_i h6
      injection h' with h'
      injection h' with e1 e2
      obtain ⟨op, x, y⟩ := t
      dsimp only at e1 h6
      have h6' : op = 6 := by simpa using h6
      subst e1
      subst e2
      subst h6'
      exact ⟨x, rfl⟩
    · cases h'
theorem merge_sz : ∀ (n : Nat) (x y z : Pn n), mergeN n x y = some z → SzOk (rowN n x) (rowN n y) (rowN n z) := by
  intro n
  induction n with
  | zero =>
    intro x y z h
    rw [mergeN] at h
    split at h
    · injection h with h; subst h; exact sz_left _ _
    · cases h
  | succ n ih =>
    intro x y z h
    rw [mergeN] at h
    split at h
    · injection h with h; subst h; exact sz_left _ _
    · split at h
      · rename_i a cs b ds hx hy
        split at h
        · split at h
          · rename_i l hl
            split at h
            · injection h with h
              subst h
              obtain ⟨x', rfl⟩ := hear_some hx
              obtain ⟨y', rfl⟩ := hear_some hy
              obtain ⟨h1, h2⟩ := mergeBy_sz ih ds cs l hl
              rw [row_talk, row_talk, row_talk]
              refine ⟨by simp only [List.length_cons]; omega, fun ha hb => ?_⟩
              rw [fit_cons] at ha hb ⊢
              exact ⟨⟨by simp [noT], ha.1.2⟩, h2 ha.2 hb.2⟩
            · cases h
          · cases h
        · cases h
      · cases h
def PartOk (a c : List Nd) : Prop := c.length ≤ a.length ∧ (fitL a → fitL c)
theorem parts_sz {α : Type} {f : α → List Nd} {g : α → Option α} {Q : α → Prop} (hg : ∀ x y, Q x → g x = some y → PartOk (f x) (f y)) : ∀ (l r : List (Br α)), (∀ b ∈ l, Q b.p) → partsBy g l = some r → PartOk (brsBy f l) (brsBy f r) ∧ r.length = l.length
  | [], r, _, h => by rw [partsBy] at h; injection h with h; subst h; exact ⟨⟨Nat.le_refl _, id⟩, rfl⟩
  | b :: l, r, hq, h => by
    rw [partsBy] at h
    split at h
    · cases h
    · rename_i q hq'
      split at h
      · cases h
      · rename_i r' hr'
        injection h with h
        subst h
        obtain ⟨h1, h2⟩ := hg b.p q (hq b (by simp)) hq'
        obtain ⟨⟨h3, h4⟩, h5⟩ := parts_sz hg l r' (fun c hc => hq c (by simp [hc])) hr'
        rw [brs_cons, brs_cons]
        refine ⟨⟨by simp only [List.length_cons, List.length_append]; omega, fun ha => ?_⟩, by simp only [List.length_cons]; omega⟩
        rw [fit_cons, fit_app] at ha ⊢
        exact ⟨ha.1, h2 ha.2.1, h4 ha.2.2⟩
theorem part_sz (role : ByteArray) : ∀ (n : Nat) (p q : Pn n), planN n p → partN role n p = some q → PartOk (rowN n p) (rowN n q) := by
  intro n
  induction n with
  | zero => intro p q _ h; rw [partN] at h; injection h with h; subst h; exact ⟨Nat.le_refl _, id⟩
  | succ n ih =>
    intro p
    refine Pn.cases (P := fun p => ∀ q, planN (n + 1) p → partN role (n + 1) p = some q → PartOk (rowN (n + 1) p) (rowN (n + 1) q)) (fun x q _ h => ?_) (fun x p q hp h => ?_) (fun t l q hp h => ?_) p
    · have h' : some (Pn.leaf x) = some q := h
      injection h' with h'; subst h'; exact ⟨Nat.le_refl _, id⟩
    · have h' : (if idleL role (rowN (n + 1) (.loop x p)) then some (Pn.leaf none) else (partN role n p).map (Pn.loop x)) = some q := h
      have hp' : planN n p := hp
      split at h'
      · injection h' with h'
        subst h'
        rw [row_loop, row_leaf]
        refine ⟨by simp only [leafRow, List.length_cons, List.length_nil]; omega, fun _ => fit_cons.2 ⟨by simp [Nd.fit, noT], fit_nil⟩⟩
      · cases hq : partN role n p with
        | none => rw [hq] at h'; cases h'
        | some q' =>
          rw [hq] at h'
          simp only [Option.map_some, Option.some.injEq] at h'
          subst h'
          obtain ⟨h1, h2⟩ := ih p q' hp' hq
          rw [row_loop, row_loop]
          refine ⟨by simp only [List.length_cons]; omega, fun ha => ?_⟩
          rw [fit_cons] at ha ⊢
          exact ⟨ha.1, h2 ha.2⟩
    · have h' : (match partsBy (partN role n) l with
        | none => none
        | some r => if role.toList == t.a.toList then some (Pn.talk ⟨5, noT, t.b⟩ r) else if role.toList == t.b.toList then some (.talk ⟨6, noT, t.a⟩ r) else
          match r with
          | [] => none
          | c :: r => (mergeAll (mergeN n) c.p r).map (upN n)) = some q := h
      have hp' : t.op = 3 ∧ (t.a.toList == t.b.toList) = false ∧ 1 ≤ l.length ∧ l.length ≤ 4 ∧ ∀ b ∈ l, planN n b.p := hp
      split at h'
      · cases h'
      · rename_i r hr
        obtain ⟨⟨h1, h2⟩, h3⟩ := parts_sz (Q := planN n) (fun x y hx hy => ih x y hx hy) l r hp'.2.2.2.2 hr
        rw [row_talk]
        split at h'
        · injection h' with h'
          subst h'
          rw [row_talk]
          refine ⟨by simp only [List.length_cons]; omega, fun ha => ?_⟩
          rw [fit_cons] at ha ⊢
          exact ⟨⟨by simp [noT], ha.1.2⟩, h2 ha.2⟩
        · split at h'
          · injection h' with h'
            subst h'
            rw [row_talk]
            refine ⟨by simp only [List.length_cons]; omega, fun ha => ?_⟩
            rw [fit_cons] at ha ⊢
            exact ⟨⟨by simp [noT], ha.1.1⟩, h2 ha.2⟩
          · split at h'
            · cases h'
            · rename_i c r
              cases hm : mergeAll (mergeN n) c.p r with
              | none => rw [hm] at h'; cases h'
              | some z =>
                rw [hm] at h'
                simp only [Option.map_some, Option.some.injEq] at h'
                subst h'
                obtain ⟨h4, h5⟩ := mergeAll_sz (merge_sz n) r c.p z hm
                rw [up_row]
                rw [brs_cons] at h1 h2
                refine ⟨by simp only [List.length_cons, List.length_append] at *; omega, fun ha => ?_⟩
                have := h2 (fit_cons.1 ha).2
                rw [fit_cons, fit_app] at this
                exact h5 this.2.1 this.2.2
end Go.Proofs.YtmjlblbhakppfaaGreatDoor
