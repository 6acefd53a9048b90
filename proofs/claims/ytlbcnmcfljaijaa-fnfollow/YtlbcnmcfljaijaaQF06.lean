import Derived.Test.YtlbcnmcfljaijaaQF04
import Derived.Test.YtlbcnmcfljaijaaQF03
import Derived.Laws.OwnMore
import Derived.Test.YtlbcnmcfljaijaaQF00
import Derived.Deep.RegionHeld3
import Derived.Deep.DrawnRows
import Derived.Test.YtlbcnmcfljaijaaQF01
namespace Go.Proofs.Ytlbcnmcfljaijaa
open Go.RowKit
set_option linter.unusedSimpArgs false

def drS0 : ByteArray := ⟨#[97, 62, 98, 123, 104, 105, 40, 105, 110, 116, 41, 46, 98, 62, 97, 123, 121, 101, 115, 40, 116, 101, 120, 116, 41, 46, 101, 110, 100, 44, 110, 111, 40, 110, 111, 110, 101, 41, 46, 101, 110, 100, 125, 125]⟩
def drS1 : ByteArray := ⟨#[114, 101, 99, 32, 120, 46, 97, 62, 98, 123, 109, 111, 114, 101, 40, 105, 110, 116, 41, 46, 120, 44, 115, 116, 111, 112, 40, 110, 111, 110, 101, 41, 46, 101, 110, 100, 125]⟩
def drS2 : ByteArray := ⟨#[97, 62, 98, 123, 103, 111, 40, 105, 110, 116, 41, 46, 98, 62, 99, 123, 103, 111, 40, 105, 110, 116, 41, 46, 99, 62, 97, 123, 100, 111, 110, 101, 40, 110, 111, 110, 101, 41, 46, 101, 110, 100, 125, 125, 44, 113, 117, 105, 116, 40, 110, 111, 110, 101, 41, 46, 98, 62, 99, 123, 113, 117, 105, 116, 40, 110, 111, 110, 101, 41, 46, 99, 62, 97, 123, 100, 111, 110, 101, 40, 110, 111, 110, 101, 41, 46, 101, 110, 100, 125, 125, 125]⟩
def drS3 : ByteArray := ⟨#[114, 101, 99, 32, 120, 46, 97, 62, 98, 123, 112, 117, 116, 40, 116, 101, 120, 116, 41, 46, 98, 62, 97, 123, 97, 99, 107, 40, 110, 111, 110, 101, 41, 46, 120, 125, 44, 98, 121, 101, 40, 110, 111, 110, 101, 41, 46, 101, 110, 100, 125]⟩
def drS4 : ByteArray := ⟨#[114, 101, 99, 32, 120, 46, 97, 62, 98, 123, 97, 115, 107, 40, 105, 110, 116, 41, 46, 98, 62, 99, 123, 97, 115, 107, 40, 105, 110, 116, 41, 46, 99, 62, 98, 123, 115, 97, 121, 40, 116, 101, 120, 116, 41, 46, 98, 62, 97, 123, 115, 97, 121, 40, 116, 101, 120, 116, 41, 46, 120, 125, 125, 125, 44, 115, 116, 111, 112, 40, 110, 111, 110, 101, 41, 46, 98, 62, 99, 123, 115, 116, 111, 112, 40, 110, 111, 110, 101, 41, 46, 101, 110, 100, 125, 125]⟩
def drS5 : ByteArray := ⟨#[97, 62, 98, 123, 111, 110, 101, 40, 105, 110, 116, 41, 46, 99, 62, 100, 123, 116, 119, 111, 40, 105, 110, 116, 41, 46, 98, 62, 97, 123, 116, 104, 114, 101, 101, 40, 110, 111, 110, 101, 41, 46, 101, 110, 100, 125, 125, 125]⟩
def drS6 : ByteArray := ⟨#[114, 101, 99, 32, 120, 46, 97, 62, 98, 123, 108, 40, 110, 111, 110, 101, 41, 46, 114, 101, 99, 32, 121, 46, 98, 62, 97, 123, 109, 40, 110, 111, 110, 101, 41, 46, 121, 44, 110, 40, 110, 111, 110, 101, 41, 46, 120, 44, 111, 40, 110, 111, 110, 101, 41, 46, 101, 110, 100, 125, 125]⟩
def drS7 : ByteArray := ⟨#[97, 62, 98, 123, 108, 40, 110, 111, 110, 101, 41, 46, 98, 62, 99, 123, 120, 40, 110, 111, 110, 101, 41, 46, 101, 110, 100, 125, 44, 109, 40, 110, 111, 110, 101, 41, 46, 101, 110, 100, 125]⟩
def drS8 : ByteArray := ⟨#[114, 101, 99, 32, 120, 46, 97, 62, 98, 123, 108, 40, 110, 111, 110, 101, 41, 46, 120, 44, 109, 40, 110, 111, 110, 101, 41, 46, 99, 62, 97, 123, 107, 40, 110, 111, 110, 101, 41, 46, 101, 110, 100, 125, 125]⟩
def drSs : List ByteArray := [drS0, drS1, drS2, drS3, drS4, drS5, drS6, drS7, drS8]
set_option maxRecDepth 100000 in
theorem s_l02Texts (w : World) : Calls Try.prog 44 #[] w fun e w' => ∃ v, e = .returned v ∧ w'.ownsRow w.heap.size 9 1 v 9 (drSs.map Value.string) ∧ Below w.heap.size w w' := by
  go_enter Try.func44, Try.ntmps44
  go_wp2_with fail
  go_ret
  have h := World.ownsRow_lit (e := 9) (size := 1) (base := w.heap.size) w (drSs.map Value.string).toArray 9 (Nat.le_refl _) (by simp [maxLen]) rfl
  exact ⟨_, rfl, h, malloc1 _ _⟩
end Go.Proofs.Ytlbcnmcfljaijaa
namespace Go.Proofs.Ytlbcnmcfljaijaa
open Go.RowKit

def recsOf : List Nd → List ByteArray
  | [] => []
  | n :: st => if n.op == 2 then recsOf st ++ [n.name] else recsOf st
def openOf : List Nd → Nat
  | [] => 0
  | n :: st => if n.op == 2 then openOf st else (recsOf st).length
def StOk : List Nd → Prop
  | [] => True
  | n :: st => (n.op ≠ 2 ∨ n.op = 2 ∧ hasB (recsOf st) n.name = false) ∧ StOk st

theorem open_le : ∀ st : List Nd, openOf st ≤ (recsOf st).length
  | [] => Nat.le_refl _
  | n :: st => by
    have := open_le st
    rw [openOf, recsOf]
    cases h : (n.op == 2) <;> simp <;> omega
theorem has_append (a b : List ByteArray) (t : ByteArray) : hasB (a ++ b) t = (hasB a t || hasB b t) := by simp [hasB]
theorem recs_len : ∀ st : List Nd, (recsOf st).length ≤ st.length
  | [] => Nat.le_refl _
  | n :: st => by have := recs_len st; rw [recsOf]; split <;> simp <;> omega
theorem within_eq : ∀ (st : List Nd) (t : ByteArray), withinB st t = hasB (recsOf st) t
  | [], _ => rfl
  | n :: st, t => by
    have := within_eq st t
    rw [withinB] at *
    rw [List.any_cons, this, recsOf]
    cases h : (n.op == 2)
    · simp
    · rw [if_pos rfl, has_append]
      simp [hasB, Bool.or_comm]
theorem back_true : ∀ (st : List Nd) (t : ByteArray), StOk st → backB true st t = hasB (recsOf st) t
  | [], _, _ => rfl
  | n :: st, t, h => by
    have ih := back_true st t h.2
    rw [backB, recsOf]
    rcases h.1 with h3 | ⟨h2, hno⟩
    · simp [h3, ih]
    · have e : (n.op == 2) = true := by rw [h2]; rfl
      rw [e, if_pos rfl, if_pos rfl, has_append, ih]
      cases he : (n.name.toList == t.toList) <;> simp [hasB, he]
theorem back_false : ∀ (st : List Nd) (t : ByteArray), StOk st → backB false st t = hasB ((recsOf st).take (openOf st)) t
  | [], _, _ => rfl
  | n :: st, t, h => by
    rw [backB, recsOf, openOf]
    rcases h.1 with h3 | ⟨h2, hno⟩
    · simp [h3, back_true st t h.2]
    · have ih := back_false st t h.2
      have ho := open_le st
      have e : (n.op == 2) = true := by rw [h2]; rfl
      rw [e]
      simp only [if_true]
      rw [List.take_append_of_le_length ho]
      cases he : (n.name.toList == t.toList)
      · rw [if_neg (by decide)]; exact ih
      · rw [if_pos rfl]
        symm
        rw [beq_iff_eq] at he
        rw [hasB, ← Bool.not_eq_true, List.any_eq_true]
        rintro ⟨s, hs, hst⟩
        have : hasB (recsOf st) n.name = true := by
          rw [hasB, List.any_eq_true]
          exact ⟨s, List.mem_of_mem_take hs, by rw [he]; exact hst⟩
        rw [hno] at this
        cases this

def endPos (all : List Nd) (r : Option (List Nd)) : Int := match r with
  | none => -1
  | some r => ((all.length - r.length : Nat) : Int)

def LookAt (w : World) (bx : Nat) (part : Bool) (all : List Nd) : Prop :=
  ∃ ao cap, w.cell? ⟨bx, 0, none⟩ = some (.slice ao all.length cap) ∧ w.cell? ⟨bx, 1, none⟩ = some (.bool part) ∧ all.length ≤ cap ∧ all.length ≤ 4294967296 ∧ (all ≠ [] → ∃ b o, ao = some ⟨b, o, none⟩ ∧ RowAt w b o all)
theorem LookAt.carry {w w' : World} {bx : Nat} {part : Bool} {all : List Nd} (h : LookAt w bx part all) (hb : Below w.heap.size w w') : LookAt w' bx part all := by
  obtain ⟨ao, cap, h0, h1, h2, h3, h4⟩ := h
  have hlt : bx < w.heap.size := World.block_lt_of_cell? w _ h0
  refine ⟨ao, cap, (hb.cell (p := ⟨bx, _, none⟩) hlt).trans h0, (hb.cell (p := ⟨bx, _, none⟩) hlt).trans h1, h2, h3, fun hne => ?_⟩
  obtain ⟨b, o, e, hr⟩ := h4 hne
  cases all with
  | nil => exact absurd rfl hne
  | cons n l => exact ⟨b, o, e, hr.carry hr.lt hb⟩

def EndCalls (part : Bool) (f : Nat) : Prop := ∀ (st all : List Nd) (pos bx : Nat) (a d op : Int) (rv : Value) (w : World), st.length + f = 10 → StOk st → (∀ n ∈ all, n.ok) → a = pos → pos ≤ all.length → d = (st.length + 1 : Nat) → op = openOf st →
  LookAt w bx part all → TextsAt w rv (recsOf st) → (recsOf st = [] → rv = .slice none 0 0) →
  Calls Try.prog 66 #[.pointer (some ⟨bx, 0, none⟩), .int .i64 a, .int .i64 d, rv, .int .i64 op] w fun e w' => e = .returned (.int .i64 (endPos all (ahead (talkS part) f st (all.drop pos)))) ∧ Below w.heap.size w w'

theorem drop_cons {all : List Nd} {pos : Nat} (h : pos < all.length) : all.drop pos = all[pos] :: all.drop (pos + 1) := List.drop_eq_getElem_cons h
theorem pos_of {all : List Nd} {pos : Nat} {r : List Nd} (h : r <:+ all.drop pos) : r = all.drop (all.length - r.length) := List.suffix_iff_eq_drop.1 (h.trans (List.drop_suffix _ _))

set_option maxRecDepth 100000 in
set_option maxHeartbeats 1000000 in
theorem s_kids (part : Bool) (f : Nat) (hf : EndCalls part f) (st all : List Nd) (pos0 bx m : Nat) (a0 mm d : Int) (rv : Value) (w : World) (hlen : st.length + f = 10) (hst : StOk st) (ok : ∀ n ∈ all, n.ok) (ha : a0 = pos0) (hpos : pos0 ≤ all.length) (hmm : mm = m) (hm : m ≤ 4) (hd : d = (st.length + 1 : Nat)) (hopen : openOf st = (recsOf st).length) (hx : LookAt w bx part all) (hr : TextsAt w rv (recsOf st)) (hnil : recsOf st = [] → rv = .slice none 0 0) :
    Calls Try.prog 75 #[.pointer (some ⟨bx, 0, none⟩), .int .i64 a0, .int .i64 mm, .int .i64 d, rv] w fun e w' => e = .returned (.int .i64 (endPos all (kidsBy (ahead (talkS part) f st) m [] (all.drop pos0)))) ∧ Below w.heap.size w w' := by
  have HX := hide hx
  have HR := hide hr
  have HF := hide hf
  have HO := hide ok
  have HL := hide hlen
  have HST := hide hst
  have HOP := hide hopen
  have HD := hide hd
  have HP := hide hpos
  obtain ⟨i0, hi, hz0, hz1, hz2⟩ := info_parts Try.infoS
  have HI := hide (And.intro hi (And.intro hz0 (And.intro hz1 hz2)))
  obtain ⟨rao, rcap, rfl, rc1, rc2, -⟩ := hr
  have HNIL := hide hnil
  clear hnil
  obtain ⟨go, hgo⟩ : ∃ go, ahead (talkS part) f st = go := ⟨_, rfl⟩
  rw [hgo]
  have HG := hide hgo
  subst ha hmm
  clear hx hf ok hlen hst hopen hi hz0 hz1 hz2 hgo hd hpos
  go_enter Try.func75, Try.ntmps75
  go_wp2_with fail
  go_loopw [1, 2, 11] (fun at_ many labels wr => ∃ (k pos : Nat) (ls : List ByteArray), k ≤ m ∧ at_ = .int .i64 pos ∧ many = .int .i64 ((m - k : Nat) : Int) ∧ ls.length = k ∧ pos ≤ all.length ∧ wr.ownsRow w.heap.size 9 1 labels ls.length (ls.map Value.string) ∧ Below w.heap.size w wr ∧ kidsBy go (m - k) ls (all.drop pos) = kidsBy go m [] (all.drop pos0))
    (fun _ many _ _ => (intOf many).toNat)
  case atStart => exact ⟨0, pos0, [], Nat.zero_le _, rfl, rfl, rfl, HP.out, ⟨rfl, .inr ⟨w.heap.size, 0, #[], rfl, Nat.le_refl _, by show (w.heap.push _)[w.heap.size]? = _; simp, Nat.le_refl _, by unfold maxLen; omega, rfl, rfl⟩⟩, alloc1 _ _, rfl⟩
  case round =>
    obtain ⟨k, pos, ls, hk, rfl, rfl, hlk, hpos, hown, hbel, hkid⟩ := hrel
    have HLK := hide hlk
    have HOWN := hide hown
    have HBEL := hide hbel
    have HKID := hide hkid
    have hszr := hbel.size
    have HX1 := hide (HX.out.carry hbel)
    have HTX := hide (texts_own hown (by omega))
    clear hlk hown hbel hkid
    obtain ⟨xao, xcap, x0, x1, x2, x3, x4⟩ := HX1.out
    have HROW := hide x4
    have hbx : bx < wr.heap.size := World.block_lt_of_cell? wr _ x0
    clear x4
    by_cases hlt : k < m
    · have hq : decide ((0 : Int) < ((m - k : Nat) : Int)) = true := decide_eq_true (by omega)
      by_cases hpl : pos < all.length
      · have hp2 : decide ((all.length : Int) ≤ (pos : Int)) = false := decide_eq_false (by omega)
        obtain ⟨b, o, rfl, hrow⟩ := HROW.out (by intro h; simp [h] at hpl)
        have hnode := hrow.get pos hpl
        obtain ⟨n1, hn1⟩ : ∃ n1, n1 = all[pos] := ⟨_, rfl⟩
        have HDROP := hide (show all.drop pos = n1 :: all.drop (pos + 1) by rw [hn1]; exact drop_cons hpl)
        have HN1 := hide (show n1.ok by rw [hn1]; exact HO.out _ (List.getElem_mem hpl))
        rw [← hn1] at hnode
        clear hn1
        obtain ⟨c0, c1, c2, c3, c4⟩ := hnode
        have hbw : b < wr.heap.size := World.block_lt_of_cell? wr _ c0
        clear hrow
        by_cases q1 : n1.op = 4
        · have q1' : (n1.op != 4) = false := by rw [q1]; rfl
          have Q1 := hide q1
          clear q1
          cases hw : wordB n1.name
          · have HW := hide hw
            clear hw
            go_wp2_with (first | (go_at_call 73; refine (s_name n1.name _ HN1.out.1).mono ?_; rintro e w1 ⟨rfl, rfl⟩; rw [HW.out]))
            go_ret
            refine ⟨ret_int ?_, HBEL.out.trans ((alloc1 _ _).mono hszr)⟩
            rw [← HKID.out, HDROP.out, kids_no (by omega) (by simp [caseB, HW.out])]
            rfl
          · have HW := hide hw
            clear hw
            cases hh : hasB ls n1.name
            · have HH := hide hh
              clear hh
              cases hs : sortB n1.sort
              · have HS := hide hs
                clear hs
                go_wp2_with (first | (go_at_call 73; refine (s_name n1.name _ HN1.out.1).mono ?_; rintro e w1 ⟨rfl, rfl⟩; rw [HW.out]) | (go_at_call 69; refine (s_among ls n1.name _ _ (HTX.out.carry (alloc1 _ _))).mono ?_; rintro e w1 ⟨rfl, rfl⟩; rw [HH.out]) | (go_at_call 24; refine (s_sort n1.sort _).mono ?_; rintro e w1 ⟨rfl, rfl⟩; rw [HS.out]))
                go_ret
                refine ⟨ret_int ?_, HBEL.out.trans ((alloc1 _ _).mono hszr)⟩
                rw [← HKID.out, HDROP.out, kids_no (by omega) (by simp [caseB, HS.out])]
                rfl
              · have HS := hide hs
                clear hs
                by_cases q2 : n1.peer.toList = []
                · by_cases q3 : n1.many = 0
                  · have HYES := hide (show (caseB n1 && !hasB ls n1.name) = true by rw [caseB, Q1.out, HW.out, HH.out, HS.out, q2, q3]; rfl)
                    have q3' : (n1.many != 0) = false := by rw [q3]; rfl
                    clear q3
                    go_wp2_with (first | (go_at_call 73; refine (s_name n1.name _ HN1.out.1).mono ?_; rintro e w1 ⟨rfl, rfl⟩; rw [HW.out]) | (go_at_call 69; refine (s_among ls n1.name _ _ (HTX.out.carry (alloc1 _ _))).mono ?_; rintro e w1 ⟨rfl, rfl⟩; rw [HH.out]) | (go_at_call 24; refine (s_sort n1.sort _).mono ?_; rintro e w1 ⟨rfl, rfl⟩; rw [HS.out]) | (at_builtin; refine wpList_append_own _ rfl (.tmp 63) (.tmp 66) 68 rfl w.heap.size 9 i0 (.string ByteArray.empty) 1 16 Try.underlying68 HI.out.1 HI.out.2.1 HI.out.2.2.1 HI.out.2.2.2 rfl (by decide) _ _ _ rfl ((HOWN.out.alloc _).alloc _) ⟨_, 0, none⟩ 1 1 [.string n1.name] rfl rfl ?c1 ?c2 ?c3 ?c4 ?c5 ?_))
                    case c1 =>
                      intro j u hj
                      match j, hj with
                      | 0, hj => simp at hj; subst hj; simp [Addr.add]
                    case c2 => intro u hu; simp at hu; subst hu; rfl
                    case c3 => have := HLK.out; unfold maxLen; omega
                    case c4 => have := HLK.out; omega
                    case c5 => simp; omega
                    intro v' w3 hown3 hgrow3 _
                    have HOW3 := hide hown3
                    have HBel3 := hide (HBEL.out.trans (((((alloc1 _ _).mono hszr).alloc (by simp; omega) _)).grown hgrow3 (by simp; omega) (own_row HOWN.out)))
                    have hsz3 := HBel3.out.size
                    have HLA3 := hide (HX.out.carry HBel3.out)
                    have HTR3 := hide (HR.out.carry HBel3.out)
                    clear hown3 hgrow3
                    cases hgo1 : go (all.drop (pos + 1)) with
                    | none =>
                      have HG1 := hide hgo1
                      clear hgo1
                      have hneg : decide (endPos all none < 0) = true := rfl
                      go_wp2_with (go_at_call 66; refine (HF.out st all (pos + 1) bx _ _ _ _ _ HL.out HST.out HO.out (by omega) (by omega) HD.out (by rw [HOP.out]) HLA3.out HTR3.out HNIL.out).mono ?_; rintro e w4 ⟨rfl, hb4⟩; rw [HG.out, HG1.out, show endPos all none = -1 from rfl]; have HB4 := hide hb4; clear hb4)
                      go_ret
                      refine ⟨ret_int ?_, HBel3.out.trans (HB4.out.mono hsz3)⟩
                      rw [← HKID.out, HDROP.out, kids_stop (by omega) HYES.out HG1.out]
                      rfl
                    | some r =>
                      have HG1 := hide hgo1
                      clear hgo1
                      have HPOS := hide (pos_of (ahead_suffix (talkS part) f st _ r (by rw [HG.out]; exact HG1.out)))
                      obtain ⟨pos2, hpos2⟩ : ∃ p2, all.length - r.length = p2 := ⟨_, rfl⟩
                      have HP2 := hide hpos2
                      clear hpos2
                      go_wp2_with (go_at_call 66; refine (HF.out st all (pos + 1) bx _ _ _ _ _ HL.out HST.out HO.out (by omega) (by omega) HD.out (by rw [HOP.out]) HLA3.out HTR3.out HNIL.out).mono ?_; rintro e w4 ⟨rfl, hb4⟩; rw [HG.out, HG1.out, show endPos all (some r) = ((all.length - r.length : Nat) : Int) from rfl, HP2.out]; have HB4 := hide hb4; clear hb4)
                      go_roundw
                      case rel =>
                        refine ⟨k + 1, pos2, ls ++ [n1.name], by omega, rfl, ?_, by have := HLK.out; simp; omega, by have := HP2.out; omega, ?_, HBel3.out.trans (HB4.out.mono hsz3), ?_⟩
                        · congr 1; omega
                        · have := own_below HOW3.out HB4.out
                          simpa using this
                        · rw [← HKID.out, HDROP.out, kids_on hlt HYES.out HG1.out]
                          have := HPOS.out
                          rw [HP2.out] at this
                          rw [← this]
                      case measure => simp [intOf]; omega
                  · have q3' : (n1.many != 0) = true := by rw [bne_iff_ne]; exact q3
                    go_wp2_with (first | (go_at_call 73; refine (s_name n1.name _ HN1.out.1).mono ?_; rintro e w1 ⟨rfl, rfl⟩; rw [HW.out]) | (go_at_call 69; refine (s_among ls n1.name _ _ (HTX.out.carry (alloc1 _ _))).mono ?_; rintro e w1 ⟨rfl, rfl⟩; rw [HH.out]) | (go_at_call 24; refine (s_sort n1.sort _).mono ?_; rintro e w1 ⟨rfl, rfl⟩; rw [HS.out]))
                    go_ret
                    refine ⟨ret_int ?_, HBEL.out.trans ((alloc1 _ _).mono hszr)⟩
                    rw [← HKID.out, HDROP.out, kids_no (by omega) (by simp [caseB, q3])]
                    rfl
                · clear Q1
                  go_wp2_with (first | (go_at_call 73; refine (s_name n1.name _ HN1.out.1).mono ?_; rintro e w1 ⟨rfl, rfl⟩; rw [HW.out]) | (go_at_call 69; refine (s_among ls n1.name _ _ (HTX.out.carry (alloc1 _ _))).mono ?_; rintro e w1 ⟨rfl, rfl⟩; rw [HH.out]) | (go_at_call 24; refine (s_sort n1.sort _).mono ?_; rintro e w1 ⟨rfl, rfl⟩; rw [HS.out]))
                  go_ret
                  refine ⟨ret_int ?_, HBEL.out.trans ((alloc1 _ _).mono hszr)⟩
                  rw [← HKID.out, HDROP.out, kids_no (by omega) (by simp [caseB, q2])]
                  rfl
            · have HH := hide hh
              clear hh
              go_wp2_with (first | (go_at_call 73; refine (s_name n1.name _ HN1.out.1).mono ?_; rintro e w1 ⟨rfl, rfl⟩; rw [HW.out]) | (go_at_call 69; refine (s_among ls n1.name _ _ (HTX.out.carry (alloc1 _ _))).mono ?_; rintro e w1 ⟨rfl, rfl⟩; rw [HH.out]))
              go_ret
              refine ⟨ret_int ?_, HBEL.out.trans ((alloc1 _ _).mono hszr)⟩
              rw [← HKID.out, HDROP.out, kids_no (by omega) (by simp [caseB, HH.out])]
              rfl
        · have q1' : (n1.op != 4) = true := by rw [bne_iff_ne]; exact q1
          go_wp2_with fail
          go_ret
          refine ⟨ret_int ?_, HBEL.out.trans ((alloc1 _ _).mono hszr)⟩
          rw [← HKID.out, HDROP.out, kids_no (by omega) (by simp [caseB, q1])]
          rfl
      · have hp2 : decide ((all.length : Int) ≤ (pos : Int)) = true := decide_eq_true (by omega)
        go_wp2_with fail
        go_ret
        refine ⟨ret_int ?_, HBEL.out⟩
        rw [← HKID.out, List.drop_of_length_le (by omega), kids_nil (by omega)]
        rfl
    · have hq : decide ((0 : Int) < ((m - k : Nat) : Int)) = false := decide_eq_false (by omega)
      go_wp2_with fail
      go_ret
      refine ⟨ret_int ?_, HBEL.out⟩
      rw [← HKID.out, show m - k = 0 from by omega]
      simp [kidsBy, endPos]
      omega
end Go.Proofs.Ytlbcnmcfljaijaa
namespace Go.Proofs.Ytlbcnmcfljaijaa
open Go.RowKit

theorem ahead_0 {T : Nd → Bool} {f : Nat} {st l : List Nd} {n : Nd} (h : n.op = 0) : ahead T f st (n :: l) = if endB n then some l else none := by
  cases f <;> simp [ahead, h]
theorem ahead_1 {T : Nd → Bool} {f : Nat} {st l : List Nd} {n : Nd} (h : n.op = 1) : ahead T f st (n :: l) = if varB n && backB false st n.name then some l else none := by
  cases f <;> simp [ahead, h]
theorem ahead_2 {T : Nd → Bool} {f : Nat} {st l : List Nd} {n : Nd} (h : n.op = 2) : ahead T (f + 1) st (n :: l) = if recB n && !withinB st n.name then ahead T f (n :: st) l else none := by
  simp [ahead, h]
theorem ahead_20 {T : Nd → Bool} {st l : List Nd} {n : Nd} (h : n.op = 2) : ahead T 0 st (n :: l) = none := by
  simp [ahead, h]
theorem ahead_t {T : Nd → Bool} {f : Nat} {st l : List Nd} {n : Nd} (h0 : n.op ≠ 0) (h1 : n.op ≠ 1) (h2 : n.op ≠ 2) : ahead T (f + 1) st (n :: l) = if T n then kidsBy (ahead T f (n :: st)) n.many.toNat [] l else none := by
  simp [ahead, h0, h1, h2]
theorem ahead_t0 {T : Nd → Bool} {st l : List Nd} {n : Nd} (h0 : n.op ≠ 0) (h1 : n.op ≠ 1) : ahead T 0 st (n :: l) = none := by
  simp [ahead, h0, h1]
theorem ahead_x {T : Nd → Bool} {f : Nat} {st l : List Nd} {n : Nd} (h0 : n.op ≠ 0) (h1 : n.op ≠ 1) (h2 : n.op ≠ 2) (h3 : T n = false) : ahead T f st (n :: l) = none := by
  cases f <;> simp [ahead, h0, h1, h2, h3]

end Go.Proofs.Ytlbcnmcfljaijaa
namespace Go.Proofs.Ytlbcnmcfljaijaa
open Go.RowKit

def RState.cells (x : RState) : List Value := [.int .i64 x.kind, .string x.peer]
theorem RState.cells_len (x : RState) : x.cells.length = 2 := rfl
theorem RState.cells_one (x : RState) : ∀ u ∈ x.cells, u.oneCell' = true := by
  intro u hu
  simp [RState.cells] at hu
  rcases hu with rfl | rfl <;> rfl
def RStateOwn (w : World) (base : Nat) (v : Value) (l : List RState) : Prop := w.ownsRow base 48 2 v l.length (l.flatMap RState.cells)
theorem RStateOwn.sl {w : World} {base : Nat} {v : Value} {l : List RState} (h : RStateOwn w base v l) (hl : l.length ≤ 4294967296) : RStateSl w w.heap.size v l := by
  have H := h
  obtain ⟨_, hh⟩ := h
  rcases hh with ⟨rfl, h0⟩ | ⟨gb, cap, cur, rfl, hg, hblk, hc, _⟩
  · have : l = [] := List.length_eq_zero_iff.1 h0
    subst this
    exact ⟨none, 0, rfl, Nat.le_refl _, by simp, fun h => absurd rfl h⟩
  · refine ⟨_, _, rfl, hc, hl, fun _ => ⟨gb, 0, rfl, (Array.getElem?_eq_some_iff.1 hblk).1, RStates.of w gb l 0 (fun j hj => ?_)⟩⟩
    rw [Nat.zero_add]
    have e := fun i (hi : i < 2) (x : Value) (hx : (l[j].cells)[i]? = some x) => owns_cell H rfl (j * 2 + i) x ((flat_get RState.cells 2 RState.cells_len l j hj i hi).trans hx)
    exact ⟨e 0 (by omega) _ rfl, e 1 (by omega) _ rfl⟩
theorem RStateOwn.keep {w w' : World} {base : Nat} {v : Value} {x : List RState} {l : List Nat} (h : RStateOwn w base v x) (ha : Apart w w' l) (hd : ∀ b ∈ vblocks v, b ∉ l) : RStateOwn w' base v x := owns_keep h ha hd
theorem RStateOwn.below {w w' : World} {base : Nat} {v : Value} {x : List RState} (h : RStateOwn w base v x) (hb : Below w.heap.size w w') : RStateOwn w' base v x := owns_below h hb
theorem RStateOwn.fresh {w : World} {base : Nat} {v : Value} {x : List RState} (h : RStateOwn w base v x) : Fresh base w v := owns_fresh h
theorem RStateOwn.nil (w : World) (base : Nat) : RStateOwn w base (.slice none 0 0) [] := owns_nil w base _ _
theorem RStateOwn.snoc {w : World} {base : Nat} {v : Value} {l : List RState} {x : RState} (h : w.ownsRow base 48 2 v (l.length + 1) (l.flatMap RState.cells ++ x.cells)) : RStateOwn w base v (l ++ [x]) := by
  unfold RStateOwn
  rw [List.length_append, List.length_singleton, List.flatMap_append]
  simpa using h
end Go.Proofs.Ytlbcnmcfljaijaa
namespace Go.Proofs.Ytlbcnmcfljaijaa
open Go.RowKit

def REdge.cells (x : REdge) : List Value := [.int .i64 x.src, .string x.label, .int .i64 x.sort, .int .i64 x.dst]
theorem REdge.cells_len (x : REdge) : x.cells.length = 4 := rfl
theorem REdge.cells_one (x : REdge) : ∀ u ∈ x.cells, u.oneCell' = true := by
  intro u hu
  simp [REdge.cells] at hu
  rcases hu with rfl | rfl | rfl | rfl <;> rfl
def REdgeOwn (w : World) (base : Nat) (v : Value) (l : List REdge) : Prop := w.ownsRow base 52 4 v l.length (l.flatMap REdge.cells)
theorem REdgeOwn.sl {w : World} {base : Nat} {v : Value} {l : List REdge} (h : REdgeOwn w base v l) (hl : l.length ≤ 4294967296) : REdgeSl w w.heap.size v l := by
  have H := h
  obtain ⟨_, hh⟩ := h
  rcases hh with ⟨rfl, h0⟩ | ⟨gb, cap, cur, rfl, hg, hblk, hc, _⟩
  · have : l = [] := List.length_eq_zero_iff.1 h0
    subst this
    exact ⟨none, 0, rfl, Nat.le_refl _, by simp, fun h => absurd rfl h⟩
  · refine ⟨_, _, rfl, hc, hl, fun _ => ⟨gb, 0, rfl, (Array.getElem?_eq_some_iff.1 hblk).1, REdges.of w gb l 0 (fun j hj => ?_)⟩⟩
    rw [Nat.zero_add]
    have e := fun i (hi : i < 4) (x : Value) (hx : (l[j].cells)[i]? = some x) => owns_cell H rfl (j * 4 + i) x ((flat_get REdge.cells 4 REdge.cells_len l j hj i hi).trans hx)
    exact ⟨e 0 (by omega) _ rfl, e 1 (by omega) _ rfl, e 2 (by omega) _ rfl, e 3 (by omega) _ rfl⟩
theorem REdgeOwn.keep {w w' : World} {base : Nat} {v : Value} {x : List REdge} {l : List Nat} (h : REdgeOwn w base v x) (ha : Apart w w' l) (hd : ∀ b ∈ vblocks v, b ∉ l) : REdgeOwn w' base v x := owns_keep h ha hd
theorem REdgeOwn.below {w w' : World} {base : Nat} {v : Value} {x : List REdge} (h : REdgeOwn w base v x) (hb : Below w.heap.size w w') : REdgeOwn w' base v x := owns_below h hb
theorem REdgeOwn.fresh {w : World} {base : Nat} {v : Value} {x : List REdge} (h : REdgeOwn w base v x) : Fresh base w v := owns_fresh h
theorem REdgeOwn.nil (w : World) (base : Nat) : REdgeOwn w base (.slice none 0 0) [] := owns_nil w base _ _
theorem REdgeOwn.snoc {w : World} {base : Nat} {v : Value} {l : List REdge} {x : REdge} (h : w.ownsRow base 52 4 v (l.length + 1) (l.flatMap REdge.cells ++ x.cells)) : REdgeOwn w base v (l ++ [x]) := by
  unfold REdgeOwn
  rw [List.length_append, List.length_singleton, List.flatMap_append]
  simpa using h
end Go.Proofs.Ytlbcnmcfljaijaa
namespace Go.Proofs.Ytlbcnmcfljaijaa
open Go.RowKit
attribute [local go_sem ↓] Go.wp_at_zero Go.wp_at_succ

def cmpI (a b : Int) : Int := if a < b then -1 else if b < a then 1 else 0
def cmpS (a b : ByteArray) : Int := if Op.bytesLess a.toList b.toList then -1 else if a.toList == b.toList then 0 else 1
theorem is_nan_int (a : Int) (w : World) : Calls Try.prog 64 #[.int .i64 a] w fun e w' => e = .returned (.bool false) ∧ w' = w := by
  go_enter Try.func64, Try.ntmps64
  go_wp2_with fail
  go_ret
  exact ⟨ret_bool (by simp), rfl⟩
theorem is_nan_str (a : ByteArray) (w : World) : Calls Try.prog 65 #[.string a] w fun e w' => e = .returned (.bool false) ∧ w' = w := by
  go_enter Try.func65, Try.ntmps65
  go_wp2_with fail
  go_ret
  exact ⟨ret_bool (by simp), rfl⟩
theorem compare_int (a b : Int) (w : World) : Calls Try.prog 51 #[.int .i64 a, .int .i64 b] w fun e w' => e = .returned (.int .i64 (cmpI a b)) ∧ w' = w := by
  by_cases h1 : a < b
  · have HE : Hid (cmpI a b = -1) := hide (by rw [cmpI, if_pos h1])
    go_enter Try.func51, Try.ntmps51
    go_wp2_with (go_at_call 64; refine (is_nan_int _ _).mono ?_; rintro e w' ⟨rfl, rfl⟩)
    go_ret
    exact ⟨ret_int HE.out, rfl⟩
  · by_cases h2 : b < a
    · have HE : Hid (cmpI a b = 1) := hide (by rw [cmpI, if_neg h1, if_pos h2])
      go_enter Try.func51, Try.ntmps51
      go_wp2_with (go_at_call 64; refine (is_nan_int _ _).mono ?_; rintro e w' ⟨rfl, rfl⟩)
      go_ret
      exact ⟨ret_int HE.out, rfl⟩
    · have HE : Hid (cmpI a b = 0) := hide (by rw [cmpI, if_neg h1, if_neg h2])
      go_enter Try.func51, Try.ntmps51
      go_wp2_with (go_at_call 64; refine (is_nan_int _ _).mono ?_; rintro e w' ⟨rfl, rfl⟩)
      go_ret
      exact ⟨ret_int HE.out, rfl⟩
theorem compare_str (a b : ByteArray) (w : World) : Calls Try.prog 52 #[.string a, .string b] w fun e w' => e = .returned (.int .i64 (cmpS a b)) ∧ w' = w := by
  cases h1 : Op.bytesLess a.toList b.toList
  · cases h2 : (a.toList == b.toList)
    · have HE : Hid (cmpS a b = 1) := hide (by simp [cmpS, h1, h2])
      go_enter Try.func52, Try.ntmps52
      go_wp2_with (go_at_call 65; refine (is_nan_str _ _).mono ?_; rintro e w' ⟨rfl, rfl⟩)
      go_ret
      exact ⟨ret_int HE.out, rfl⟩
    · have HE : Hid (cmpS a b = 0) := hide (by simp [cmpS, h1, h2])
      go_enter Try.func52, Try.ntmps52
      go_wp2_with (go_at_call 65; refine (is_nan_str _ _).mono ?_; rintro e w' ⟨rfl, rfl⟩)
      go_ret
      exact ⟨ret_int HE.out, rfl⟩
  · have HE : Hid (cmpS a b = -1) := hide (by simp [cmpS, h1])
    go_enter Try.func52, Try.ntmps52
    go_wp2_with (go_at_call 65; refine (is_nan_str _ _).mono ?_; rintro e w' ⟨rfl, rfl⟩)
    go_ret
    exact ⟨ret_int HE.out, rfl⟩
def orI (a b : Int) : Int := if a = 0 then b else a
set_option maxHeartbeats 400000 in
theorem cmp_or (a b : Int) (g : Nat) (w : World) (h0 : w.cell? ⟨g, 0, none⟩ = some (.int .i64 a)) (h1 : w.cell? ⟨g, 1, none⟩ = some (.int .i64 b)) :
    Calls Try.prog 50 #[.slice (some ⟨g, 0, none⟩) 2 2] w fun e w' => e = .returned (.int .i64 (orI a b)) ∧ w' = w := by
  have HE : Hid (orI a b = if a = 0 then b else a) := hide rfl
  go_enter Try.func50, Try.ntmps50
  go_wp2_with fail
  go_loop [8] (fun i => i = .int .i64 0 ∨ (i = .int .i64 1 ∧ a = 0) ∨ (i = .int .i64 2 ∧ a = 0 ∧ b = 0)) (fun i => 2 - (intOf i).toNat)
  case atStart => exact .inl rfl
  case round =>
    rcases hrel with rfl | ⟨rfl, ha⟩ | ⟨rfl, ha, hb⟩
    · by_cases ha : a = 0
      · have ha' : (a != 0) = false := by simp [ha]
        have HA := hide ha
        clear ha
        go_wp2_with fail
        go_round
        case rel => exact .inr (.inl ⟨rfl, HA.out⟩)
        case measure => simp [intOf]
      · have ha' : (a != 0) = true := by simp [ha]
        have HA := hide ha
        clear ha
        go_wp2_with fail
        go_ret
        exact ⟨ret_int (by rw [HE.out, if_neg HA.out]), rfl⟩
    · have HA := hide ha
      clear ha
      by_cases hb : b = 0
      · have hb' : (b != 0) = false := by simp [hb]
        have HB := hide hb
        clear hb
        go_wp2_with fail
        go_round
        case rel => exact .inr (.inr ⟨rfl, HA.out, HB.out⟩)
        case measure => simp [intOf]
      · have hb' : (b != 0) = true := by simp [hb]
        clear hb
        go_wp2_with fail
        go_ret
        exact ⟨ret_int (by rw [HE.out, if_pos HA.out]), rfl⟩
    · have HA := hide ha
      have HB := hide hb
      clear ha hb
      go_wp2_with fail
      go_ret
      exact ⟨ret_int (by rw [HE.out, if_pos HA.out, HB.out]), rfl⟩
def cmpE (a b : REdge) : Int := orI (cmpI a.src b.src) (cmpS a.label b.label)
set_option maxHeartbeats 1000000 in
theorem compare_edges (a b : REdge) (w : World) :
    Calls Try.prog 37 #[a.val, b.val] w fun e w' => e = .returned (.int .i64 (cmpE a b)) ∧ Below w.heap.size w w' := by
  have HE : Hid (cmpE a b = orI (cmpI a.src b.src) (cmpS a.label b.label)) := hide rfl
  unfold REdge.val
  go_enter Try.func37, Try.ntmps37
  go_wp2_with fail
  have hwb : Below w.heap.size w ((w.alloc (.cells #[.int .i64 a.src, .string a.label, .int .i64 a.sort, .int .i64 a.dst] 52)).alloc (.cells #[.int .i64 b.src, .string b.label, .int .i64 b.sort, .int .i64 b.dst] 52)) := (malloc1 _ _).trans ((malloc1 _ _).mono (by simp))
  have HWB := hide hwb
  clear hwb
  go_region_held3 (fun w' => w'.cell? ⟨w.heap.size, 0, none⟩ = some (.int .i64 a.src) ∧ w'.cell? ⟨w.heap.size, 1, none⟩ = some (.string a.label) ∧ w'.cell? ⟨w.heap.size + 1, 0, none⟩ = some (.int .i64 b.src) ∧ w'.cell? ⟨w.heap.size + 1, 1, none⟩ = some (.string b.label)) (go_keep)
    (first | (go_at_call 51; refine (compare_int _ _ _).mono ?_; rintro e w' ⟨rfl, rfl⟩) | (go_at_call 52; refine (compare_str _ _ _).mono ?_; rintro e w' ⟨rfl, rfl⟩) | (go_at_call 50; refine (cmp_or (cmpI a.src b.src) (cmpS a.label b.label) _ _ (by exact c3_2 _ _ _ _ _ _ _ rfl) (by exact c3_2 _ _ _ _ _ _ _ rfl)).mono ?_; rintro e w' ⟨rfl, rfl⟩))
  all_goals
    go_wp2_with fail
    go_ret
    exact ⟨ret_int HE.out, by first | exact HWB.out.trans ((malloc1 _ _).mono HWB.out.size) | exact HWB.out.drew.trans ((malloc1 _ _).mono HWB.out.drew.size) | exact (HWB.out.trans ((malloc1 _ _).mono HWB.out.size)).drew⟩
end Go.Proofs.Ytlbcnmcfljaijaa
namespace Go.Proofs.Ytlbcnmcfljaijaa
open Go.RowKit

end Go.Proofs.Ytlbcnmcfljaijaa
