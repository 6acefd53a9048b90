/- What a right row of Nodes is; rowAhead and casesAhead, walked. -/
import Derived.Test.YtolbcoginmaboaaDoorQB05
namespace Go.Proofs.YtolbcoginmaboaaDoor
open Go.RowKit

def kidsBy (go : List Nd → Option (List Nd)) : Nat → List ByteArray → List Nd → Option (List Nd)
  | 0, _, l => some l
  | _ + 1, _, [] => none
  | m + 1, ls, n :: l =>
    if caseB n && !hasB ls n.name then
      match go l with
      | none => none
      | some r => kidsBy go m (ls ++ [n.name]) r
    else none

/-- T: which talks there may be -/
def ahead (T : Nd → Bool) : Nat → List Nd → List Nd → Option (List Nd)
  | _, _, [] => none
  | 0, st, n :: l =>
    if n.op == 0 then (if endB n then some l else none)
    else if n.op == 1 then (if varB n && backB false st n.name then some l else none)
    else none
  | f + 1, st, n :: l =>
    if n.op == 0 then (if endB n then some l else none)
    else if n.op == 1 then (if varB n && backB false st n.name then some l else none)
    else if n.op == 2 then (if recB n && !withinB st n.name then ahead T f (n :: st) l else none)
    else if T n then kidsBy (ahead T f (n :: st)) n.many.toNat [] l else none

/-- what rowAhead answers -/
def Told (w' : World) (B : Nat) (e : Ending) (r : Option (List Nd)) : Prop :=
  ∃ v, e = .returned (.tuple #[v, .bool r.isSome]) ∧ (∀ l, r = some l → SlAt w' B v l)

def PlanCalls (f : Nat) : Prop := ∀ (st l : List Nd) (v p : Value) (w : World) (B : Nat), st.length + f = 10 → (∀ n ∈ l, n.ok) → B ≤ w.heap.size → SlAt w B v l → PlaceAt w p st →
  Calls Tryd.prog 57 #[v, p] w fun e w' => Told w' B e (ahead talkI f st l) ∧ Below w.heap.size w w'

theorem Tryd.infoS : (Tryd.prog.info? 9).map (fun i => (i.zero, i.size, i.bytes)) = some (some (.string ByteArray.empty), 1, 16) := by kernel_rfl

theorem kids_nil {go : List Nd → Option (List Nd)} {m : Nat} {ls : List ByteArray} (h : 0 < m) : kidsBy go m ls [] = none := by
  cases m with
  | zero => omega
  | succ m => rfl
theorem kids_no {go : List Nd → Option (List Nd)} {m : Nat} {ls : List ByteArray} {n : Nd} {l : List Nd} (h : 0 < m) (hc : (caseB n && !hasB ls n.name) = false) : kidsBy go m ls (n :: l) = none := by
  cases m with
  | zero => omega
  | succ m => rw [kidsBy, if_neg (by simp [hc])]
theorem kids_stop {go : List Nd → Option (List Nd)} {m : Nat} {ls : List ByteArray} {n : Nd} {l : List Nd} (h : 0 < m) (hc : (caseB n && !hasB ls n.name) = true) (hg : go l = none) : kidsBy go m ls (n :: l) = none := by
  cases m with
  | zero => omega
  | succ m => rw [kidsBy, if_pos hc, hg]
theorem kids_on {go : List Nd → Option (List Nd)} {m k : Nat} {ls : List ByteArray} {n : Nd} {l r : List Nd} (h : k < m) (hc : (caseB n && !hasB ls n.name) = true) (hg : go l = some r) : kidsBy go (m - k) ls (n :: l) = kidsBy go (m - (k + 1)) (ls ++ [n.name]) r := by
  rw [show m - k = (m - (k + 1)) + 1 from by omega, kidsBy, if_pos hc, hg]

/-- what is behind is the rest of what was there -/
theorem kids_suffix {go : List Nd → Option (List Nd)} (hg : ∀ l r, go l = some r → r <:+ l) : ∀ (m : Nat) (ls : List ByteArray) (l r : List Nd), kidsBy go m ls l = some r → r <:+ l
  | 0, _, l, r, h => by cases h; exact List.suffix_refl _
  | _ + 1, _, [], r, h => by cases h
  | m + 1, ls, n :: l, r, h => by
    rw [kidsBy] at h
    split at h
    · split at h
      · cases h
      · rename_i r' hr'
        exact (kids_suffix hg m _ _ _ h).trans ((hg _ _ hr').trans (List.suffix_cons _ _))
    · cases h
theorem ahead_suffix (T : Nd → Bool) : ∀ (f : Nat) (st l r : List Nd), ahead T f st l = some r → r <:+ l := by
  intro f
  induction f with
  | zero =>
    intro st l r h
    cases l with
    | nil => cases h
    | cons n l =>
      rw [ahead] at h
      repeat' split at h
      all_goals first | cases h; exact List.suffix_cons _ _ | cases h
  | succ f ih =>
    intro st l r h
    cases l with
    | nil => cases h
    | cons n l =>
      rw [ahead] at h
      repeat' split at h
      all_goals first
        | (cases h; exact List.suffix_cons _ _)
        | (cases h; done)
        | exact (ih _ _ _ h).trans (List.suffix_cons _ _)
        | exact (kids_suffix (ih _) _ _ _ _ h).trans (List.suffix_cons _ _)

/-- the row behind the first Node -/
theorem SlAt.tail {w : World} {B b o cap : Nat} {n : Nd} {l : List Nd} (hlt : b < B) (hr : RowAt w b o (n :: l)) (hc : (n :: l).length ≤ cap) (hm : cap ≤ 9223372036854775807 ∧ l.length < 4294967296) (ao : Option Addr) (ha : cap ≠ 1 → ao = some ⟨b, o + 5, none⟩) :
    SlAt w B (.slice ao l.length (cap - 1)) l := by
  refine ⟨ao, cap - 1, rfl, by simp at hc; omega, by omega, fun hne => ?_⟩
  have : 0 < l.length := List.length_pos_iff.2 hne
  simp at hc
  exact ⟨b, o + 5, ha (by omega), hlt, hr.2⟩

set_option maxRecDepth 100000 in
set_option maxHeartbeats 1000000 in
theorem cases_ahead (f : Nat) (hf : PlanCalls f) (n : Nd) (st l : List Nd) (v p : Value) (w : World) (B : Nat) (hlen : (n :: st).length + f = 10) (hm : 1 ≤ n.many ∧ n.many ≤ 4) (ok : ∀ n ∈ l, n.ok) (hB : B ≤ w.heap.size) (hv : SlAt w B v l) (hp : PlaceAt w p (n :: st)) :
    Calls Tryd.prog 78 #[v, p] w fun e w' => Told w' B e (kidsBy (ahead talkI f (n :: st)) n.many.toNat [] l) ∧ Below w.heap.size w w' := by
  have HP := hide hp
  have HV := hide hv
  have HF := hide hf
  have HO := hide ok
  have HL := hide hlen
  have hB' := hide hB
  obtain ⟨bp, q, rfl, ⟨h0, h1, h2, h3, h4⟩, h5, h6, h⟩ := hp
  obtain ⟨i0, hi, hz0, hz1, hz2⟩ := info_parts Tryd.infoS
  obtain ⟨m, hmm⟩ : ∃ m : Nat, n.many = m := ⟨n.many.toNat, by omega⟩
  rw [hmm] at hm h3
  have hm1 : 1 ≤ m := by omega
  have hm4 : m ≤ 4 := by omega
  rw [hmm, Int.toNat_natCast]
  obtain ⟨go, hgo⟩ : ∃ go, ahead talkI f (n :: st) = go := ⟨_, rfl⟩
  rw [hgo]
  have HG := hide hgo
  have HI := hide (And.intro hi (And.intro hz0 (And.intro hz1 hz2)))
  clear hf ok hv h0 h1 h2 h4 h5 h6 h hm hmm hlen hgo hB hi hz0 hz1 hz2
  go_enter Tryd.func78, Tryd.ntmps78
  go_wp2_with fail
  go_loopw [0, 6, 14] (fun v labels i wr => ∃ (k : Nat) (cur : List Nd) (ls : List ByteArray), k ≤ m ∧ i = .int .i64 k ∧ ls.length = k ∧ (∀ n ∈ cur, n.ok) ∧ SlAt wr B v cur ∧ wr.ownsRow w.heap.size 9 1 labels ls.length (ls.map Value.string) ∧ Below w.heap.size w wr ∧ kidsBy go (m - k) ls cur = kidsBy go m [] l)
    (fun _ _ i _ => m - (intOf i).toNat)
  case atStart => exact ⟨0, l, [], Nat.zero_le _, rfl, rfl, HO.out, HV.out, World.ownsRow_nil _ _ _ _, Below.refl _ _, rfl⟩
  case round =>
    obtain ⟨k, cur, ls, hk, rfl, hlk, hok, hsl, hown, hbel, hkid⟩ := hrel
    have HLK := hide hlk
    have HOK := hide hok
    have HSL := hide hsl
    have HOWN := hide hown
    have HBEL := hide hbel
    have HKID := hide hkid
    clear hlk hok hown hbel hkid
    obtain ⟨ao, cap, rfl, hc1, hc2, hrow⟩ := hsl
    have HROW := hide hrow
    clear hrow
    by_cases hlt : k < m
    · cases cur with
      | nil =>
        go_wp2_with fail
        go_ret2
        refine ⟨⟨.slice none 0 0, ?_, ?_⟩, HBEL.out⟩
        · rw [← HKID.out, kids_nil (by omega)]; rfl
        · rw [← HKID.out, kids_nil (by omega)]; intro l h; cases h
      | cons n1 l1 =>
        obtain ⟨b, o, rfl, hbB, hrow⟩ := HROW.out (by simp)
        have HR := hide hrow
        obtain ⟨⟨c0, c1, c2, c3, c4⟩, -⟩ := hrow
        have HBB := hide hbB
        have HN1 := hide (HOK.out n1 (by simp))
        have HTX := hide (texts_own HOWN.out (by have := HLK.out; omega))
        have hbw : b < wr.heap.size := World.block_lt_of_cell? wr _ c0
        have hz : ((l1.length : Int) + 1 == 0) = false := beq_eq_false_iff_ne.2 (by omega)
        have HC1 := hide hc1
        have HC2 := hide hc2
        simp only [List.length_cons] at hc1
        cases hcb : caseB n1
        · have HCB := hide hcb
          clear hcb
          go_wp2_with (go_at_call 91; refine (case_right n1 _ HN1.out).mono ?_; rintro e w1 ⟨rfl, hb1⟩; rw [HCB.out]; have HB1 := hide hb1; clear hb1)
          go_ret2
          have hno : kidsBy go m [] l = none := by rw [← HKID.out]; exact kids_no (by omega) (by rw [HCB.out]; rfl)
          refine ⟨⟨.slice none 0 0, ?_, ?_⟩, HBEL.out.trans (HB1.out.mono HBEL.out.size)⟩
          · rw [hno]; rfl
          · rw [hno]; intro l h; cases h
        · have HCB := hide hcb
          clear hcb
          cases hhb : hasB ls n1.name
          · have HHB := hide hhb
            clear hhb
            have HYES := hide (show (caseB n1 && !hasB ls n1.name) = true by rw [HCB.out, HHB.out]; rfl)
            go_wp2_with (first | (go_at_call 91; refine (case_right n1 _ HN1.out).mono ?_; rintro e w1 ⟨rfl, hb1⟩; rw [HCB.out]; obtain ⟨g0, g1, g2, g3, g4⟩ := (HR.out.1.carry hbw hb1); have HT1 := hide (HTX.out.carry hb1); have HOW1 := hide (own_below HOWN.out hb1); have hs1 := hb1.size; have HB1 := hide hb1; clear hb1) | (go_at_call 80; refine (s_contains ls n1.name _ _ HT1.out).mono ?_; rintro e w2 ⟨rfl, rfl⟩; rw [HHB.out]) | (at_builtin; refine wpList_append_own _ rfl (.tmp 34) (.tmp 39) 56 rfl w.heap.size 9 i0 (.string ByteArray.empty) 1 16 Tryd.underlying56 HI.out.1 HI.out.2.1 HI.out.2.2.1 HI.out.2.2.2 rfl (by decide) _ _ _ rfl (HOW1.out.alloc _) ⟨_, 0, none⟩ 1 1 [.string n1.name] rfl rfl ?c1 ?c2 ?c3 ?c4 ?c5 ?_))
            case c1 =>
              intro j u hj
              match j, hj with
              | 0, hj => simp at hj; subst hj; simp [Addr.add]
            case c2 => intro u hu; simp at hu; subst hu; rfl
            case c3 => have := HLK.out; unfold maxLen; omega
            case c4 => have := HLK.out; omega
            case c5 => have := HBEL.out.size; simp; omega
            intro v' w3 hown3 hgrow3 _
            have HOW3 := hide hown3
            have HWR3 := hide ((HB1.out.mono HBEL.out.size).trans (((alloc1 _ _).mono (by have := HBEL.out.size; omega)).grown hgrow3 (by have := HBEL.out.size; simp; omega) (own_row HOW1.out)))
            have HBel3 := hide (HBEL.out.trans HWR3.out)
            have HS3 : Hid (∀ ao', (cap ≠ 1 → ao' = some ⟨b, o + 5, none⟩) → SlAt w3 B (.slice ao' l1.length (cap - 1)) l1) := hide (fun ao' h => SlAt.tail HBB.out (HR.out.carry (Nat.lt_of_lt_of_le HBB.out hB'.out) HWR3.out) HC1.out HC2.out ao' h)
            have HP3 := hide (PlaceAt.carry HBel3.out HP.out)
            clear hown3 hgrow3
            by_cases hcap : cap = 1
            · have HL1 : Hid (l1.length = 0) := hide (by omega)
              have HSX : Hid (SlAt w3 B (.slice (some ⟨b, o, none⟩) 0 0) l1) := hide (by rw [List.length_eq_zero_iff.1 HL1.out]; exact ⟨_, _, rfl, Nat.le_refl _, by simp, fun h => absurd rfl h⟩)
              subst hcap
              cases hgo1 : go l1 with
              | none =>
                have HG1 := hide hgo1
                clear hgo1
                go_wp2_with (go_at_call 57; refine (HF.out (n :: st) l1 _ _ _ B HL.out (fun x hx => HOK.out x (List.mem_cons_of_mem _ hx)) (Nat.le_trans hB'.out HBel3.out.size) HSX.out HP3.out).mono ?_; rintro e w4 ⟨⟨v4, rfl, hs4⟩, hb4⟩; rw [HG.out, HG1.out, Option.isSome_none]; have HB4 := hide hb4; clear hs4 hb4)
                go_ret2
                have hno : kidsBy go m [] l = none := by rw [← HKID.out]; exact kids_stop (by omega) HYES.out HG1.out
                refine ⟨⟨.slice none 0 0, ?_, ?_⟩, HBel3.out.trans (HB4.out.mono HBel3.out.size)⟩
                · rw [hno]; rfl
                · rw [hno]; intro l h; cases h
              | some r =>
                have HG1 := hide hgo1
                clear hgo1
                go_wp2_with (go_at_call 57; refine (HF.out (n :: st) l1 _ _ _ B HL.out (fun x hx => HOK.out x (List.mem_cons_of_mem _ hx)) (Nat.le_trans hB'.out HBel3.out.size) HSX.out HP3.out).mono ?_; rintro e w4 ⟨⟨v4, rfl, hs4⟩, hb4⟩; rw [HG.out, HG1.out] at hs4 ⊢; rw [Option.isSome_some]; replace hs4 := hs4 r rfl; have HS4 := hide hs4; obtain ⟨ao4, cap4, rfl, hs5⟩ := hs4; have HB4 := hide hb4; clear hs5 hb4)
                go_roundw
                case rel =>
                  refine ⟨k + 1, r, ls ++ [n1.name], by omega, by go_num, by have := HLK.out; simp; omega, fun x hx => HOK.out x (List.mem_cons_of_mem _ ((ahead_suffix talkI f (n :: st) l1 r (by rw [HG.out]; exact HG1.out)).subset hx)), HS4.out, ?_, HBel3.out.trans (HB4.out.mono HBel3.out.size), ?_⟩
                  · have := own_below HOW3.out HB4.out
                    simpa using this
                  · rw [← HKID.out]
                    exact (kids_on hlt HYES.out HG1.out).symm
                case measure => simp [intOf]; omega
            · have HSX := hide (HS3.out _ (fun _ => rfl))
              cases hgo1 : go l1 with
              | none =>
                have HG1 := hide hgo1
                clear hgo1
                go_wp2_with (go_at_call 57; refine (HF.out (n :: st) l1 _ _ _ B HL.out (fun x hx => HOK.out x (List.mem_cons_of_mem _ hx)) (Nat.le_trans hB'.out HBel3.out.size) HSX.out HP3.out).mono ?_; rintro e w4 ⟨⟨v4, rfl, hs4⟩, hb4⟩; rw [HG.out, HG1.out, Option.isSome_none]; have HB4 := hide hb4; clear hs4 hb4)
                go_ret2
                have hno : kidsBy go m [] l = none := by rw [← HKID.out]; exact kids_stop (by omega) HYES.out HG1.out
                refine ⟨⟨.slice none 0 0, ?_, ?_⟩, HBel3.out.trans (HB4.out.mono HBel3.out.size)⟩
                · rw [hno]; rfl
                · rw [hno]; intro l h; cases h
              | some r =>
                have HG1 := hide hgo1
                clear hgo1
                go_wp2_with (go_at_call 57; refine (HF.out (n :: st) l1 _ _ _ B HL.out (fun x hx => HOK.out x (List.mem_cons_of_mem _ hx)) (Nat.le_trans hB'.out HBel3.out.size) HSX.out HP3.out).mono ?_; rintro e w4 ⟨⟨v4, rfl, hs4⟩, hb4⟩; rw [HG.out, HG1.out] at hs4 ⊢; rw [Option.isSome_some]; replace hs4 := hs4 r rfl; have HS4 := hide hs4; obtain ⟨ao4, cap4, rfl, hs5⟩ := hs4; have HB4 := hide hb4; clear hs5 hb4)
                go_roundw
                case rel =>
                  refine ⟨k + 1, r, ls ++ [n1.name], by omega, by go_num, by have := HLK.out; simp; omega, fun x hx => HOK.out x (List.mem_cons_of_mem _ ((ahead_suffix talkI f (n :: st) l1 r (by rw [HG.out]; exact HG1.out)).subset hx)), HS4.out, ?_, HBel3.out.trans (HB4.out.mono HBel3.out.size), ?_⟩
                  · have := own_below HOW3.out HB4.out
                    simpa using this
                  · rw [← HKID.out]
                    exact (kids_on hlt HYES.out HG1.out).symm
                case measure => simp [intOf]; omega
          · have HHB := hide hhb
            clear hhb
            go_wp2_with (first | (go_at_call 91; refine (case_right n1 _ HN1.out).mono ?_; rintro e w1 ⟨rfl, hb1⟩; rw [HCB.out]; obtain ⟨g0, g1, g2, g3, g4⟩ := (HR.out.1.carry hbw hb1); have HT1 := hide (HTX.out.carry hb1); have HB1 := hide hb1; clear hb1) | (go_at_call 80; refine (s_contains ls n1.name _ _ HT1.out).mono ?_; rintro e w2 ⟨rfl, rfl⟩; rw [HHB.out]))
            go_ret2
            have hno : kidsBy go m [] l = none := by rw [← HKID.out]; exact kids_no (by omega) (by rw [HCB.out, HHB.out]; rfl)
            refine ⟨⟨.slice none 0 0, ?_, ?_⟩, HBEL.out.trans (HB1.out.mono HBEL.out.size)⟩
            · rw [hno]; rfl
            · rw [hno]; intro l h; cases h
    · go_wp2_with fail
      go_ret2
      have hkm : k = m := by omega
      refine ⟨⟨.slice ao cur.length cap, ?_, ?_⟩, HBEL.out⟩
      · rw [← HKID.out, hkm, Nat.sub_self]; rfl
      · rw [← HKID.out, hkm, Nat.sub_self]; intro l h; cases h; exact HSL.out
end Go.Proofs.YtolbcoginmaboaaDoor
