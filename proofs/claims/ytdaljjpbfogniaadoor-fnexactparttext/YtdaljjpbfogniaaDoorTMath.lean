/- The text of a row, as a model; how long it is. -/
import Derived.Test.YtdaljjpbfogniaaDoorRin
namespace Go.Proofs.YtdaljjpbfogniaaDoor
open Go.RowKit

def ba (l : List UInt8) : ByteArray := ⟨l.toArray⟩
def sortT (n : Int) : ByteArray := if n == 0 then ba [110, 111, 110, 101] else if n == 1 then ba [105, 110, 116] else ba [116, 101, 120, 116]
def talkT (n : Nd) : ByteArray := if n.op == 5 then n.peer ++ ba [33] else if n.op == 6 then n.peer ++ ba [63] else n.name ++ ba [62] ++ n.peer
def caseT (c : Nd) (t : ByteArray) : ByteArray := c.name ++ ba [40] ++ sortT c.sort ++ ba [41, 46] ++ t
def joinC : List ByteArray → ByteArray
  | [] => ByteArray.empty
  | [t] => t
  | t :: u :: ts => t ++ ba [44] ++ joinC (u :: ts)
def casesF (go : List Nd → ByteArray × List Nd) : Nat → List Nd → List ByteArray × List Nd
  | 0, l => ([], l)
  | _ + 1, [] => ([], [])
  | m + 1, c :: l => (caseT c (go l).1 :: (casesF go m (go l).2).1, (casesF go m (go l).2).2)
def textF : Nat → List Nd → ByteArray × List Nd
  | _, [] => (ByteArray.empty, [])
  | 0, n :: l => if n.op == 1 then (n.name, l) else (ba [101, 110, 100], l)
  | f + 1, n :: l =>
    if n.op == 0 then (ba [101, 110, 100], l)
    else if n.op == 1 then (n.name, l)
    else if n.op == 2 then (ba [114, 101, 99] ++ ba [32] ++ n.name ++ ba [46] ++ (textF f l).1, (textF f l).2)
    else (talkT n ++ ba [123] ++ joinC (casesF (textF f) n.many.toNat l).1 ++ ba [125], (casesF (textF f) n.many.toNat l).2)

def StW (st : List Nd) : Prop := ∀ n ∈ st, n.op = 2 → n.name.size ≤ 20
theorem word20 {t : ByteArray} (h : wordB t = true) : t.size ≤ 20 := by
  simp only [wordB, nameB, Bool.and_eq_true, decide_eq_true_eq] at h
  exact h.1.1.2
theorem back20 : ∀ (st : List Nd) (said : Bool) (t : ByteArray), StW st → backB said st t = true → t.size ≤ 20
  | [], _, _, _, h => by cases h
  | n :: st, said, t, hw, h => by
    rw [backB] at h
    have hw' : StW st := fun x hx => hw x (List.mem_cons_of_mem _ hx)
    split at h
    · rename_i h2
      split at h
      · rename_i he
        rw [beq_iff_eq] at he h2
        have := hw n (by simp) h2
        rwa [tl_inj he] at this
      · exact back20 st said t hw' h
    · exact back20 st true t hw' h

def sumSz (ts : List ByteArray) : Nat := (ts.map fun t => t.size + 1).sum
theorem sz_app (a b : ByteArray) : (a ++ b).size = a.size + b.size := ByteArray.size_append
theorem sz_ba (l : List UInt8) : (ba l).size = l.length := by show l.toArray.size = _; simp
theorem joinC_sz : ∀ ts : List ByteArray, (joinC ts).size ≤ sumSz ts
  | [] => Nat.zero_le _
  | [t] => by simp [joinC, sumSz]
  | t :: u :: ts => by
    have ih := joinC_sz (u :: ts)
    have e : sumSz (t :: u :: ts) = t.size + 1 + sumSz (u :: ts) := by simp [sumSz]
    rw [joinC, sz_app, sz_app, sz_ba, e]
    simp only [List.length_cons, List.length_nil]
    omega
theorem sort_sz (n : Int) : (sortT n).size ≤ 4 := by
  rw [sortT]; split
  · simp [sz_ba]
  · split <;> simp [sz_ba]
theorem case_sz {c : Nd} (h : caseB c = true) (t : ByteArray) : (caseT c t).size + 1 ≤ 28 + t.size := by
  have h20 : c.name.size ≤ 20 := by
    simp only [caseB, Bool.and_eq_true] at h
    exact word20 h.1.2
  have := sort_sz c.sort
  rw [caseT, sz_app, sz_app, sz_app, sz_app, sz_ba, sz_ba]
  simp only [List.length_cons, List.length_nil]
  omega
theorem talk_sz {part : Bool} {n : Nd} (h : talkS part n = true) : (talkT n).size ≤ 41 := by
  have hs := h
  simp only [talkS, Bool.and_eq_true] at hs
  have hp := word20 hs.1.1.1
  rw [talkT]
  split
  · rw [sz_app, sz_ba]; simp only [List.length_cons, List.length_nil]; omega
  · split
    · rw [sz_app, sz_ba]; simp only [List.length_cons, List.length_nil]; omega
    · have hn : n.name.size ≤ 20 := by
        cases part
        · simp at hs; exact word20 hs.2.1.2
        · simp at hs; rcases hs.2.2 with h5 | h5 <;> simp_all
      rw [sz_app, sz_app, sz_ba]; simp only [List.length_cons, List.length_nil]; omega

/-- What a right beginning is told by, and what is left. -/
theorem kids_text {go : List Nd → Option (List Nd)} {tf : List Nd → ByteArray × List Nd} (hg : ∀ l r, go l = some r → (tf l).2 = r ∧ (tf l).1.size + 43 * r.length ≤ 43 * l.length) :
    ∀ (m : Nat) (ls : List ByteArray) (l r : List Nd), kidsBy go m ls l = some r → (casesF tf m l).2 = r ∧ sumSz (casesF tf m l).1 + 43 * r.length ≤ 43 * l.length ∧ (casesF tf m l).1.length = m
  | 0, _, l, r, h => by cases h; exact ⟨rfl, by simp [casesF, sumSz], rfl⟩
  | _ + 1, _, [], r, h => by cases h
  | m + 1, ls, n :: l, r, h => by
    rw [kidsBy] at h
    split at h
    · rename_i hc
      split at h
      · cases h
      · rename_i r' hr'
        obtain ⟨e1, s1⟩ := hg _ _ hr'
        obtain ⟨e2, s2, n2⟩ := kids_text hg m _ _ _ h
        have hcb : caseB n = true := by simp at hc; exact hc.1
        have hcs := case_sz hcb (tf l).1
        rw [casesF, e1]
        refine ⟨e2, ?_, by simp [n2]⟩
        have e : sumSz (caseT n (tf l).1 :: (casesF tf m r').1) = (caseT n (tf l).1).size + 1 + sumSz (casesF tf m r').1 := by simp [sumSz]
        rw [e]
        simp only [List.length_cons]
        omega
    · cases h
theorem ahead_text (part : Bool) : ∀ (f : Nat) (st l r : List Nd), StW st → ahead (talkS part) f st l = some r → (textF f l).2 = r ∧ (textF f l).1.size + 43 * r.length ≤ 43 * l.length := by
  intro f
  induction f with
  | zero =>
    intro st l r hw h
    cases l with
    | nil => cases h
    | cons n l =>
      rw [ahead] at h
      repeat' split at h
      all_goals first
        | (cases h; done)
        | (rename_i h0 _; cases h; rw [beq_iff_eq] at h0; refine ⟨by simp [textF, h0], ?_⟩; simp only [textF, h0]; simp [sz_ba]; omega)
        | (rename_i h0 h1 hv; cases h; rw [beq_iff_eq] at h1; simp only [Bool.and_eq_true] at hv; have := back20 st false n.name hw hv.2; refine ⟨by simp [textF, h1], ?_⟩; simp only [textF, h1]; simp; omega)
  | succ f ih =>
    intro st l r hw h
    cases l with
    | nil => cases h
    | cons n l =>
      rw [ahead] at h
      split at h
      · rename_i h0
        split at h
        · cases h
          rw [textF, if_pos h0]
          refine ⟨rfl, ?_⟩
          simp [sz_ba]; omega
        · cases h
      · rename_i h0
        split at h
        · rename_i h1
          split at h
          · rename_i hv
            cases h
            simp only [Bool.and_eq_true] at hv
            have := back20 st false n.name hw hv.2
            rw [textF, if_neg h0, if_pos h1]
            refine ⟨rfl, ?_⟩
            simp; omega
          · cases h
        · rename_i h1
          split at h
          · rename_i h2
            split at h
            · rename_i hv
              simp only [Bool.and_eq_true] at hv
              have hwn : wordB n.name = true := by have := hv.1; simp only [recB, Bool.and_eq_true] at this; exact this.2
              have h20 := word20 hwn
              have hw' : StW (n :: st) := by
                intro x hx h2
                rcases List.mem_cons.1 hx with e | e
                · rw [e]; exact h20
                · exact hw x e h2
              obtain ⟨e1, s1⟩ := ih (n :: st) l r hw' h
              rw [textF, if_neg h0, if_neg h1, if_pos h2]
              refine ⟨e1, ?_⟩
              simp only [sz_app, sz_ba, List.length_cons, List.length_nil]
              omega
            · cases h
          · rename_i h2
            split at h
            · rename_i ht
              have h2' : n.op ≠ 2 := fun e => h2 (by rw [e]; rfl)
              have hw' : StW (n :: st) := by
                intro x hx h2
                rcases List.mem_cons.1 hx with e | e
                · rw [e] at h2; exact absurd h2 h2'
                · exact hw x e h2
              obtain ⟨e1, s1, _⟩ := kids_text (fun l r => ih (n :: st) l r hw') _ _ _ _ h
              have hts := talk_sz ht
              have hj := joinC_sz (casesF (textF f) n.many.toNat l).1
              rw [textF, if_neg h0, if_neg h1, if_neg h2]
              refine ⟨e1, ?_⟩
              simp only [sz_app, sz_ba, List.length_cons, List.length_nil]
              omega
            · cases h
end Go.Proofs.YtdaljjpbfogniaaDoor
