/- Rows of texts in memory, and whether a text is one of them. -/
import Derived.Test.YtehodjfgojcnlaaGreatQSound01
namespace Go.Proofs.YtehodjfgojcnlaaGreat
open Go.RowKit

def hasB (ls : List ByteArray) (t : ByteArray) : Bool := ls.any fun s => s.toList == t.toList

def TextsAt (w : World) (v : Value) (ls : List ByteArray) : Prop :=
  ∃ ao cap, v = .slice ao ls.length cap ∧ ls.length ≤ cap ∧ ls.length ≤ 4294967296 ∧ (ls ≠ [] → ∃ b o, ao = some ⟨b, o, none⟩ ∧ ∀ i (h : i < ls.length), w.cell? ⟨b, o + i, none⟩ = some (.string ls[i]))
theorem TextsAt.carry {w w' : World} {v : Value} {ls : List ByteArray} (h : TextsAt w v ls) (hb : Below w.heap.size w w') : TextsAt w' v ls := by
  obtain ⟨ao, cap, h1, h2, h3, h4⟩ := h
  refine ⟨ao, cap, h1, h2, h3, fun hne => ?_⟩
  obtain ⟨b, o, e, hr⟩ := h4 hne
  refine ⟨b, o, e, fun i hi => ?_⟩
  exact (hb.cell (p := ⟨b, _, none⟩) (World.block_lt_of_cell? w _ (hr i hi))).trans (hr i hi)

theorem has_take {ls : List ByteArray} {t : ByteArray} {k : Nat} (hk : k < ls.length) (h : hasB (ls.take k) t = false) (he : (ls[k].toList == t.toList) = false) : hasB (ls.take (k + 1)) t = false := by
  rw [hasB, List.take_succ_eq_append_getElem hk, List.any_append]
  have : (ls.take k).any (fun s => s.toList == t.toList) = false := h
  simp [this, he] at *
theorem has_hit {ls : List ByteArray} {t : ByteArray} {k : Nat} (hk : k < ls.length) (he : (ls[k].toList == t.toList) = true) : hasB ls t = true := by
  rw [hasB, List.any_eq_true]
  exact ⟨ls[k], List.getElem_mem hk, he⟩

/-- what the call itself has gathered is a row of texts -/
theorem texts_own {w : World} {base e : Nat} {v : Value} {ls : List ByteArray} (h : w.ownsRow base e 1 v ls.length (ls.map Value.string)) (hl : ls.length ≤ 4294967296) : TextsAt w v ls := by
  obtain ⟨_, hv⟩ := h
  rcases hv with ⟨rfl, h0⟩ | ⟨g, cap, cur, rfl, hg, hh, hn, hcap, hsz, htake⟩
  · have : ls = [] := List.length_eq_zero_iff.1 h0
    subst this
    exact ⟨none, 0, rfl, Nat.le_refl _, hl, fun h => absurd rfl h⟩
  · refine ⟨_, cap, rfl, hn, hl, fun _ => ⟨g, 0, rfl, fun i hi => ?_⟩⟩
    have h1 : cur.toList[i]? = some (.string ls[i]) := by
      have h2 : (cur.toList.take (ls.length * 1))[i]? = (ls.map Value.string)[i]? := by rw [htake]
      rw [List.getElem?_take, if_pos (by omega)] at h2
      rw [h2]
      simp [hi]
    have h2 : cur[i]? = some (.string ls[i]) := by rw [← h1]; simp
    simp only [World.cell?, hh]
    simpa using h2
theorem own_below {w w' : World} {base e size : Nat} {v : Value} {n : Nat} {xs : List Value} (h : w.ownsRow base e size v n xs) (hb : Below w.heap.size w w') : w'.ownsRow base e size v n xs := by
  obtain ⟨h1, hv⟩ := h
  refine ⟨h1, ?_⟩
  rcases hv with hv | ⟨g, cap, cur, rfl, hg, hh, r⟩
  · exact .inl hv
  · have hlt : g < w.heap.size := by
      rcases Nat.lt_or_ge g w.heap.size with h | h
      · exact h
      · rw [Array.getElem?_eq_none h] at hh; exact absurd hh (by simp)
    exact .inr ⟨g, cap, cur, rfl, hg, by rw [hb.block g hlt]; exact hh, r⟩
theorem own_row {w : World} {base e size : Nat} {v : Value} {n : Nat} {xs : List Value} (h : w.ownsRow base e size v n xs) : ∀ k, v.ownBlock = some k → base ≤ k := by
  obtain ⟨_, hv⟩ := h
  rcases hv with ⟨rfl, _⟩ | ⟨g, cap, cur, rfl, hg, r⟩
  · intro k hk; cases hk
  · intro k hk; cases hk; exact hg

set_option maxHeartbeats 400000 in
theorem s_among (ls : List ByteArray) (t : ByteArray) (v : Value) (w : World) (hv : TextsAt w v ls) :
    Calls Tryz.prog 47 #[v, .string t] w fun e w' => e = .returned (.bool (hasB ls t)) ∧ w' = w := by
  obtain ⟨ao, cap, rfl, hc, hm, hr⟩ := hv
  have HR := hide hr
  clear hr
  go_enter Tryz.func47, Tryz.ntmps47
  go_wp2_with fail
  go_loop [5] (fun i => ∃ k : Nat, k ≤ ls.length ∧ i = .int .i64 k ∧ hasB (ls.take k) t = false) (fun i => ls.length - (intOf i).toNat)
  case atStart => exact ⟨0, Nat.zero_le _, rfl, rfl⟩
  case round =>
    obtain ⟨k, hk, rfl, hall⟩ := hrel
    have HA := hide hall
    clear hall
    by_cases hlt : k < ls.length
    · obtain ⟨b, o, rfl, hcell⟩ := HR.out (by intro h; simp [h] at hlt)
      have hck := hcell k hlt
      obtain ⟨s, hs⟩ : ∃ s, s = ls[k] := ⟨_, rfl⟩
      rw [← hs] at hck
      have HSs := hide hs
      clear hcell hs
      cases heq : (s.toList == t.toList)
      all_goals
        have HE := hide heq
      · go_wp2_with fail
        go_round
        case rel => exact ⟨k + 1, by omega, by go_num, has_take hlt HA.out (by rw [← HSs.out]; exact HE.out)⟩
        case measure => simp [intOf]; omega
      · go_wp2_with fail
        go_ret
        exact ⟨ret_bool (has_hit hlt (by rw [← HSs.out]; exact HE.out)), rfl⟩
    · go_wp2_with fail
      go_ret
      refine ⟨ret_bool ?_, rfl⟩
      have := HA.out
      rwa [List.take_of_length_le (by omega)] at this

set_option maxHeartbeats 400000 in
theorem s_index (ls : List ByteArray) (t : ByteArray) (v : Value) (w : World) (hv : TextsAt w v ls) :
    Calls Tryz.prog 60 #[v, .string t] w fun e w' => ∃ j : Int, e = .returned (.int .i64 j) ∧ decide (0 ≤ j) = hasB ls t ∧ w' = w := by
  obtain ⟨ao, cap, rfl, hc, hm, hr⟩ := hv
  have HR := hide hr
  clear hr
  go_enter Tryz.func60, Tryz.ntmps60
  go_wp2_with fail
  go_loop [8] (fun i => ∃ k : Nat, k ≤ ls.length ∧ i = .int .i64 k ∧ hasB (ls.take k) t = false) (fun i => ls.length - (intOf i).toNat)
  case atStart => exact ⟨0, Nat.zero_le _, rfl, rfl⟩
  case round =>
    obtain ⟨k, hk, rfl, hall⟩ := hrel
    have HA := hide hall
    clear hall
    by_cases hlt : k < ls.length
    · obtain ⟨b, o, rfl, hcell⟩ := HR.out (by intro h; simp [h] at hlt)
      have hck := hcell k hlt
      obtain ⟨s, hs⟩ : ∃ s, s = ls[k] := ⟨_, rfl⟩
      rw [← hs] at hck
      have HSs := hide hs
      clear hcell hs
      cases heq : (t.toList == s.toList)
      all_goals
        have HE := hide heq
      · go_wp2_with fail
        go_round
        case rel => exact ⟨k + 1, by omega, by go_num, has_take hlt HA.out (by rw [← HSs.out, Bool.beq_comm]; exact HE.out)⟩
        case measure => simp [intOf]; omega
      · go_wp2_with fail
        go_ret
        exact ⟨_, rfl, by rw [has_hit hlt (by rw [← HSs.out, Bool.beq_comm]; exact HE.out)]; simp, rfl⟩
    · go_wp2_with fail
      go_ret
      refine ⟨_, rfl, ?_, rfl⟩
      have := HA.out
      rw [List.take_of_length_le (by omega)] at this
      rw [this]; rfl

set_option maxHeartbeats 400000 in
theorem s_contains (ls : List ByteArray) (t : ByteArray) (v : Value) (w : World) (hv : TextsAt w v ls) :
    Calls Tryz.prog 38 #[v, .string t] w fun e w' => e = .returned (.bool (hasB ls t)) ∧ w' = w := by
  have HV := hide hv
  obtain ⟨ao, cap, rfl, hc, hm, hr⟩ := hv
  clear hr hc hm
  go_enter Tryz.func38, Tryz.ntmps38
  go_wp2_with (go_at_call 60; refine (s_index ls t _ _ HV.out).mono ?_; rintro e w' ⟨j, rfl, hj, rfl⟩; have HJ := hide hj; clear hj)
  go_ret
  exact ⟨ret_bool HJ.out.symm, rfl⟩
end Go.Proofs.YtehodjfgojcnlaaGreat
/- What a right row of Nodes is; rowAhead and casesAhead, walked. -/
namespace Go.Proofs.YtehodjfgojcnlaaGreat
open Go.RowKit

def kidsBy (go : List Nd → Option (List Nd)) : Nat → List ByteArray → List Nd → Option (List Nd)
  | 0, _, l => some l
  | _ + 1, _, [] => none
  | m + 1, ls, n :: l =>
    if caseB n && !hasB ls n.name then
      match go l with
      | none => none
      | some r => kidsBy go m (ls ++ [n.name]) r
    else none

/-- T: which talks there may be -/
def ahead (T : Nd → Bool) : Nat → List Nd → List Nd → Option (List Nd)
  | _, _, [] => none
  | 0, st, n :: l =>
    if n.op == 0 then (if endB n then some l else none)
    else if n.op == 1 then (if varB n && backB false st n.name then some l else none)
    else none
  | f + 1, st, n :: l =>
    if n.op == 0 then (if endB n then some l else none)
    else if n.op == 1 then (if varB n && backB false st n.name then some l else none)
    else if n.op == 2 then (if recB n && !withinB st n.name then ahead T f (n :: st) l else none)
    else if T n then kidsBy (ahead T f (n :: st)) n.many.toNat [] l else none

/-- what rowAhead answers -/
def Told (w' : World) (B : Nat) (e : Ending) (r : Option (List Nd)) : Prop :=
  ∃ v, e = .returned (.tuple #[v, .bool r.isSome]) ∧ (∀ l, r = some l → SlAt w' B v l)

def PlanCalls (f : Nat) : Prop := ∀ (st l : List Nd) (v p : Value) (w : World) (B : Nat), st.length + f = 10 → (∀ n ∈ l, n.ok) → B ≤ w.heap.size → SlAt w B v l → PlaceAt w p st →
  Calls Tryz.prog 35 #[v, p] w fun e w' => Told w' B e (ahead talkI f st l) ∧ Below w.heap.size w w'

theorem Tryz.infoS : (Tryz.prog.info? 9).map (fun i => (i.zero, i.size, i.bytes)) = some (some (.string ByteArray.empty), 1, 16) := by kernel_rfl

theorem kids_nil {go : List Nd → Option (List Nd)} {m : Nat} {ls : List ByteArray} (h : 0 < m) : kidsBy go m ls [] = none := by
  cases m with
  | zero => omega
  | succ m => rfl
theorem kids_no {go : List Nd → Option (List Nd)} {m : Nat} {ls : List ByteArray} {n : Nd} {l : List Nd} (h : 0 < m) (hc : (caseB n && !hasB ls n.name) = false) : kidsBy go m ls (n :: l) = none := by
  cases m with
  | zero => omega
  | succ m => rw [kidsBy, if_neg (by simp [hc])]
theorem kids_stop {go : List Nd → Option (List Nd)} {m : Nat} {ls : List ByteArray} {n : Nd} {l : List Nd} (h : 0 < m) (hc : (caseB n && !hasB ls n.name) = true) (hg : go l = none) : kidsBy go m ls (n :: l) = none := by
  cases m with
  | zero => omega
  | succ m => rw [kidsBy, if_pos hc, hg]
theorem kids_on {go : List Nd → Option (List Nd)} {m k : Nat} {ls : List ByteArray} {n : Nd} {l r : List Nd} (h : k < m) (hc : (caseB n && !hasB ls n.name) = true) (hg : go l = some r) : kidsBy go (m - k) ls (n :: l) = kidsBy go (m - (k + 1)) (ls ++ [n.name]) r := by
  rw [show m - k = (m - (k + 1)) + 1 from by omega, kidsBy, if_pos hc, hg]

/-- what is behind is the rest of what was there -/
theorem kids_suffix {go : List Nd → Option (List Nd)} (hg : ∀ l r, go l = some r → r <:+ l) : ∀ (m : Nat) (ls : List ByteArray) (l r : List Nd), kidsBy go m ls l = some r → r <:+ l
  | 0, _, l, r, h => by cases h; exact List.suffix_refl _
  | _ + 1, _, [], r, h => by cases h
  | m + 1, ls, n :: l, r, h => by
    rw [kidsBy] at h
    split at h
    · split at h
      · cases h
      · rename_i r' hr'
        exact (kids_suffix hg m _ _ _ h).trans ((hg _ _ hr').trans (List.suffix_cons _ _))
    · cases h
theorem ahead_suffix (T : Nd → Bool) : ∀ (f : Nat) (st l r : List Nd), ahead T f st l = some r → r <:+ l := by
  intro f
  induction f with
  | zero =>
    intro st l r h
    cases l with
    | nil => cases h
    | cons n l =>
      rw [ahead] at h
      repeat' split at h
      all_goals first | cases h; exact List.suffix_cons _ _ | cases h
  | succ f ih =>
    intro st l r h
    cases l with
    | nil => cases h
    | cons n l =>
      rw [ahead] at h
      repeat' split at h
      all_goals first
        | (cases h; exact List.suffix_cons _ _)
        | (cases h; done)
        | exact (ih _ _ _ h).trans (List.suffix_cons _ _)
        | exact (kids_suffix (ih _) _ _ _ _ h).trans (List.suffix_cons _ _)

/-- the row behind the first Node -/
theorem SlAt.tail {w : World} {B b o cap : Nat} {n : Nd} {l : List Nd} (hlt : b < B) (hr : RowAt w b o (n :: l)) (hc : (n :: l).length ≤ cap) (hm : cap ≤ 4294967296) (ao : Option Addr) (ha : cap ≠ 1 → ao = some ⟨b, o + 5, none⟩) :
    SlAt w B (.slice ao l.length (cap - 1)) l := by
  refine ⟨ao, cap - 1, rfl, by simp at hc; omega, by omega, fun hne => ?_⟩
  have : 0 < l.length := List.length_pos_iff.2 hne
  simp at hc
  exact ⟨b, o + 5, ha (by omega), hlt, hr.2⟩

set_option maxRecDepth 100000 in
set_option maxHeartbeats 1000000 in
theorem cases_ahead (f : Nat) (hf : PlanCalls f) (n : Nd) (st l : List Nd) (v p : Value) (w : World) (B : Nat) (hlen : (n :: st).length + f = 10) (hm : 1 ≤ n.many ∧ n.many ≤ 4) (ok : ∀ n ∈ l, n.ok) (hB : B ≤ w.heap.size) (hv : SlAt w B v l) (hp : PlaceAt w p (n :: st)) :
    Calls Tryz.prog 58 #[v, p] w fun e w' => Told w' B e (kidsBy (ahead talkI f (n :: st)) n.many.toNat [] l) ∧ Below w.heap.size w w' := by
  have HP := hide hp
  have HV := hide hv
  have HF := hide hf
  have HO := hide ok
  have HL := hide hlen
  have hB' := hide hB
  obtain ⟨bp, q, rfl, ⟨h0, h1, h2, h3, h4⟩, h5, h6, h⟩ := hp
  obtain ⟨i0, hi, hz0, hz1, hz2⟩ := info_parts Tryz.infoS
  obtain ⟨m, hmm⟩ : ∃ m : Nat, n.many = m := ⟨n.many.toNat, by omega⟩
  rw [hmm] at hm h3
  have hm1 : 1 ≤ m := by omega
  have hm4 : m ≤ 4 := by omega
  rw [hmm, Int.toNat_natCast]
  obtain ⟨go, hgo⟩ : ∃ go, ahead talkI f (n :: st) = go := ⟨_, rfl⟩
  rw [hgo]
  have HG := hide hgo
  have HI := hide (And.intro hi (And.intro hz0 (And.intro hz1 hz2)))
  clear hf ok hv h0 h1 h2 h4 h5 h6 h hm hmm hlen hgo hB hi hz0 hz1 hz2
  go_enter Tryz.func58, Tryz.ntmps58
  go_wp2_with fail
  go_loopw [0, 6, 14] (fun v labels i wr => ∃ (k : Nat) (cur : List Nd) (ls : List ByteArray), k ≤ m ∧ i = .int .i64 k ∧ ls.length = k ∧ (∀ n ∈ cur, n.ok) ∧ SlAt wr B v cur ∧ wr.ownsRow w.heap.size 9 1 labels ls.length (ls.map Value.string) ∧ Below w.heap.size w wr ∧ kidsBy go (m - k) ls cur = kidsBy go m [] l)
    (fun _ _ i _ => m - (intOf i).toNat)
  case atStart => exact ⟨0, l, [], Nat.zero_le _, rfl, rfl, HO.out, HV.out, World.ownsRow_nil _ _ _ _, Below.refl _ _, rfl⟩
  case round =>
    obtain ⟨k, cur, ls, hk, rfl, hlk, hok, hsl, hown, hbel, hkid⟩ := hrel
    have HLK := hide hlk
    have HOK := hide hok
    have HSL := hide hsl
    have HOWN := hide hown
    have HBEL := hide hbel
    have HKID := hide hkid
    clear hlk hok hown hbel hkid
    obtain ⟨ao, cap, rfl, hc1, hc2, hrow⟩ := hsl
    have HROW := hide hrow
    clear hrow
    by_cases hlt : k < m
    · cases cur with
      | nil =>
        go_wp2_with fail
        go_ret2
        refine ⟨⟨.slice none 0 0, ?_, ?_⟩, HBEL.out⟩
        · rw [← HKID.out, kids_nil (by omega)]; rfl
        · rw [← HKID.out, kids_nil (by omega)]; intro l h; cases h
      | cons n1 l1 =>
        obtain ⟨b, o, rfl, hbB, hrow⟩ := HROW.out (by simp)
        have HR := hide hrow
        obtain ⟨⟨c0, c1, c2, c3, c4⟩, -⟩ := hrow
        have HBB := hide hbB
        have HN1 := hide (HOK.out n1 (by simp))
        have HTX := hide (texts_own HOWN.out (by have := HLK.out; omega))
        have hbw : b < wr.heap.size := World.block_lt_of_cell? wr _ c0
        have hz : ((l1.length : Int) + 1 == 0) = false := beq_eq_false_iff_ne.2 (by omega)
        have HC1 := hide hc1
        have HC2 := hide hc2
        simp only [List.length_cons] at hc1
        cases hcb : caseB n1
        · have HCB := hide hcb
          clear hcb
          go_wp2_with (go_at_call 83; refine (case_right n1 _ HN1.out).mono ?_; rintro e w1 ⟨rfl, hb1⟩; rw [HCB.out]; have HB1 := hide hb1; clear hb1)
          go_ret2
          have hno : kidsBy go m [] l = none := by rw [← HKID.out]; exact kids_no (by omega) (by rw [HCB.out]; rfl)
          refine ⟨⟨.slice none 0 0, ?_, ?_⟩, HBEL.out.trans (HB1.out.mono HBEL.out.size)⟩
          · rw [hno]; rfl
          · rw [hno]; intro l h; cases h
        · have HCB := hide hcb
          clear hcb
          cases hhb : hasB ls n1.name
          · have HHB := hide hhb
            clear hhb
            have HYES := hide (show (caseB n1 && !hasB ls n1.name) = true by rw [HCB.out, HHB.out]; rfl)
            go_wp2_with (first | (go_at_call 83; refine (case_right n1 _ HN1.out).mono ?_; rintro e w1 ⟨rfl, hb1⟩; rw [HCB.out]; obtain ⟨g0, g1, g2, g3, g4⟩ := (HR.out.1.carry hbw hb1); have HT1 := hide (HTX.out.carry hb1); have HOW1 := hide (own_below HOWN.out hb1); have hs1 := hb1.size; have HB1 := hide hb1; clear hb1) | (go_at_call 38; refine (s_contains ls n1.name _ _ HT1.out).mono ?_; rintro e w2 ⟨rfl, rfl⟩; rw [HHB.out]) | (at_builtin; refine wpList_append_own _ rfl (.tmp 34) (.tmp 39) 34 rfl w.heap.size 9 i0 (.string ByteArray.empty) 1 16 Tryz.underlying34 HI.out.1 HI.out.2.1 HI.out.2.2.1 HI.out.2.2.2 rfl (by decide) _ _ _ rfl (HOW1.out.alloc _) ⟨_, 0, none⟩ 1 1 [.string n1.name] rfl rfl ?c1 ?c2 ?c3 ?c4 ?c5 ?_))
            case c1 =>
              intro j u hj
              match j, hj with
              | 0, hj => simp at hj; subst hj; simp [Addr.add]
            case c2 => intro u hu; simp at hu; subst hu; rfl
            case c3 => have := HLK.out; unfold maxLen; omega
            case c4 => have := HLK.out; omega
            case c5 => have := HBEL.out.size; simp; omega
            intro v' w3 hown3 hgrow3 _
            have HOW3 := hide hown3
            have HWR3 := hide ((HB1.out.mono HBEL.out.size).trans (((alloc1 _ _).mono (by have := HBEL.out.size; omega)).grown hgrow3 (by have := HBEL.out.size; simp; omega) (own_row HOW1.out)))
            have HBel3 := hide (HBEL.out.trans HWR3.out)
            have HS3 : Hid (∀ ao', (cap ≠ 1 → ao' = some ⟨b, o + 5, none⟩) → SlAt w3 B (.slice ao' l1.length (cap - 1)) l1) := hide (fun ao' h => SlAt.tail HBB.out (HR.out.carry (Nat.lt_of_lt_of_le HBB.out hB'.out) HWR3.out) HC1.out HC2.out ao' h)
            have HP3 := hide (PlaceAt.carry HBel3.out HP.out)
            clear hown3 hgrow3
            by_cases hcap : cap = 1
            · have HL1 : Hid (l1.length = 0) := hide (by omega)
              have HSX : Hid (SlAt w3 B (.slice (some ⟨b, o, none⟩) 0 0) l1) := hide (by rw [List.length_eq_zero_iff.1 HL1.out]; exact ⟨_, _, rfl, Nat.le_refl _, by omega, fun h => absurd rfl h⟩)
              subst hcap
              cases hgo1 : go l1 with
              | none =>
                have HG1 := hide hgo1
                clear hgo1
                go_wp2_with (go_at_call 35; refine (HF.out (n :: st) l1 _ _ _ B HL.out (fun x hx => HOK.out x (List.mem_cons_of_mem _ hx)) (Nat.le_trans hB'.out HBel3.out.size) HSX.out HP3.out).mono ?_; rintro e w4 ⟨⟨v4, rfl, hs4⟩, hb4⟩; rw [HG.out, HG1.out, Option.isSome_none]; have HB4 := hide hb4; clear hs4 hb4)
                go_ret2
                have hno : kidsBy go m [] l = none := by rw [← HKID.out]; exact kids_stop (by omega) HYES.out HG1.out
                refine ⟨⟨.slice none 0 0, ?_, ?_⟩, HBel3.out.trans (HB4.out.mono HBel3.out.size)⟩
                · rw [hno]; rfl
                · rw [hno]; intro l h; cases h
              | some r =>
                have HG1 := hide hgo1
                clear hgo1
                go_wp2_with (go_at_call 35; refine (HF.out (n :: st) l1 _ _ _ B HL.out (fun x hx => HOK.out x (List.mem_cons_of_mem _ hx)) (Nat.le_trans hB'.out HBel3.out.size) HSX.out HP3.out).mono ?_; rintro e w4 ⟨⟨v4, rfl, hs4⟩, hb4⟩; rw [HG.out, HG1.out] at hs4 ⊢; rw [Option.isSome_some]; replace hs4 := hs4 r rfl; have HS4 := hide hs4; obtain ⟨ao4, cap4, rfl, hs5⟩ := hs4; have HB4 := hide hb4; clear hs5 hb4)
                go_roundw
                case rel =>
                  refine ⟨k + 1, r, ls ++ [n1.name], by omega, by go_num, by have := HLK.out; simp; omega, fun x hx => HOK.out x (List.mem_cons_of_mem _ ((ahead_suffix talkI f (n :: st) l1 r (by rw [HG.out]; exact HG1.out)).subset hx)), HS4.out, ?_, HBel3.out.trans (HB4.out.mono HBel3.out.size), ?_⟩
                  · have := own_below HOW3.out HB4.out
                    simpa using this
                  · rw [← HKID.out]
                    exact (kids_on hlt HYES.out HG1.out).symm
                case measure => simp [intOf]; omega
            · have HSX := hide (HS3.out _ (fun _ => rfl))
              cases hgo1 : go l1 with
              | none =>
                have HG1 := hide hgo1
                clear hgo1
                go_wp2_with (go_at_call 35; refine (HF.out (n :: st) l1 _ _ _ B HL.out (fun x hx => HOK.out x (List.mem_cons_of_mem _ hx)) (Nat.le_trans hB'.out HBel3.out.size) HSX.out HP3.out).mono ?_; rintro e w4 ⟨⟨v4, rfl, hs4⟩, hb4⟩; rw [HG.out, HG1.out, Option.isSome_none]; have HB4 := hide hb4; clear hs4 hb4)
                go_ret2
                have hno : kidsBy go m [] l = none := by rw [← HKID.out]; exact kids_stop (by omega) HYES.out HG1.out
                refine ⟨⟨.slice none 0 0, ?_, ?_⟩, HBel3.out.trans (HB4.out.mono HBel3.out.size)⟩
                · rw [hno]; rfl
                · rw [hno]; intro l h; cases h
              | some r =>
                have HG1 := hide hgo1
                clear hgo1
                go_wp2_with (go_at_call 35; refine (HF.out (n :: st) l1 _ _ _ B HL.out (fun x hx => HOK.out x (List.mem_cons_of_mem _ hx)) (Nat.le_trans hB'.out HBel3.out.size) HSX.out HP3.out).mono ?_; rintro e w4 ⟨⟨v4, rfl, hs4⟩, hb4⟩; rw [HG.out, HG1.out] at hs4 ⊢; rw [Option.isSome_some]; replace hs4 := hs4 r rfl; have HS4 := hide hs4; obtain ⟨ao4, cap4, rfl, hs5⟩ := hs4; have HB4 := hide hb4; clear hs5 hb4)
                go_roundw
                case rel =>
                  refine ⟨k + 1, r, ls ++ [n1.name], by omega, by go_num, by have := HLK.out; simp; omega, fun x hx => HOK.out x (List.mem_cons_of_mem _ ((ahead_suffix talkI f (n :: st) l1 r (by rw [HG.out]; exact HG1.out)).subset hx)), HS4.out, ?_, HBel3.out.trans (HB4.out.mono HBel3.out.size), ?_⟩
                  · have := own_below HOW3.out HB4.out
                    simpa using this
                  · rw [← HKID.out]
                    exact (kids_on hlt HYES.out HG1.out).symm
                case measure => simp [intOf]; omega
          · have HHB := hide hhb
            clear hhb
            go_wp2_with (first | (go_at_call 83; refine (case_right n1 _ HN1.out).mono ?_; rintro e w1 ⟨rfl, hb1⟩; rw [HCB.out]; obtain ⟨g0, g1, g2, g3, g4⟩ := (HR.out.1.carry hbw hb1); have HT1 := hide (HTX.out.carry hb1); have HB1 := hide hb1; clear hb1) | (go_at_call 38; refine (s_contains ls n1.name _ _ HT1.out).mono ?_; rintro e w2 ⟨rfl, rfl⟩; rw [HHB.out]))
            go_ret2
            have hno : kidsBy go m [] l = none := by rw [← HKID.out]; exact kids_no (by omega) (by rw [HCB.out, HHB.out]; rfl)
            refine ⟨⟨.slice none 0 0, ?_, ?_⟩, HBEL.out.trans (HB1.out.mono HBEL.out.size)⟩
            · rw [hno]; rfl
            · rw [hno]; intro l h; cases h
    · go_wp2_with fail
      go_ret2
      have hkm : k = m := by omega
      refine ⟨⟨.slice ao cur.length cap, ?_, ?_⟩, HBEL.out⟩
      · rw [← HKID.out, hkm, Nat.sub_self]; rfl
      · rw [← HKID.out, hkm, Nat.sub_self]; intro l h; cases h; exact HSL.out
end Go.Proofs.YtehodjfgojcnlaaGreat
