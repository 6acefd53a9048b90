import Derived.Test.YtaaeledleldllaaGreatQB03
import Derived.Test.YtaaeledleldllaaGreatQB09
import Derived.Test.YtaaeledleldllaaGreatQB08
import Derived.Test.YtaaeledleldllaaGreatQB06
import Derived.Test.YtaaeledleldllaaGreatQB40
import Derived.Test.YtaaeledleldllaaGreatQB04
import Derived.Test.YtaaeledleldllaaGreatQB38
import Derived.Maps.OwnSet
import Derived.Maps.OwnOps
import Derived.DeepKeys4
import Derived.Deep.DrawnRows
import Derived.WideKeyEntry
namespace Go.Proofs.YtaaeledleldllaaGreat
open Go.RowKit

structure Wv where
  sts : List RState
  eds : List REdge
  fs : ByteArray → Int
def kindW (op : Int) : Int := if op == 5 then 1 else if op == 6 then 2 else 0
def wvKids (go : List Nd → Wv → Int × List Nd × Wv) (s : Int) : Nat → List Nd → Wv → List Nd × Wv
  | 0, l, W => (l, W)
  | _ + 1, [], W => ([], W)
  | k + 1, c :: l, W => wvKids go s k (go l W).2.1 ⟨(go l W).2.2.sts, (go l W).2.2.eds ++ [⟨s, c.name, c.sort, (go l W).1⟩], (go l W).2.2.fs⟩
def wv : Nat → List Nd → Wv → Int × List Nd × Wv
  | _, [], W => (0, [], W)
  | 0, n :: l, W => if n.op == 1 then (W.fs n.name, l, W) else ((W.sts.length : Int), l, ⟨W.sts ++ [⟨kindW n.op, n.peer⟩], W.eds, W.fs⟩)
  | f + 1, n :: l, W => if n.op == 1 then (W.fs n.name, l, W)
    else if n.op == 2 then wv f l ⟨W.sts, W.eds, fun x => if x = n.name then (W.sts.length : Int) else W.fs x⟩
    else ((W.sts.length : Int), wvKids (wv f) (W.sts.length : Int) n.many.toNat l ⟨W.sts ++ [⟨kindW n.op, n.peer⟩], W.eds, W.fs⟩)
def lookN : List ByteArray → List Int → ByteArray → Int
  | x :: ns, z :: fis, t => if x.toList == t.toList then z else lookN ns fis t
  | _, _, _ => 0
def firstOf (ns : List ByteArray) (fis : List Int) (len : Int) : List Nd → Int
  | [] => 0
  | n :: l => if n.op == 1 then lookN ns fis n.name else if n.op == 2 then firstOf ns fis len l else len
def insE (e : REdge) (l : List REdge) : List REdge := l.takeWhile (fun x => mlessE x e) ++ e :: l.dropWhile (fun x => mlessE x e)
def svKids (go : List Nd → List RState × List REdge → List Nd × List RState × List REdge) (fst : List Nd → Nat → Int) (s : Int) : Nat → List Nd → List RState × List REdge → List Nd × List RState × List REdge
  | 0, l, S => (l, S)
  | _ + 1, [], S => ([], S)
  | k + 1, c :: l, S => svKids go fst s k (go l (S.1, insE ⟨s, c.name, c.sort, fst l S.1.length⟩ S.2)).1 (go l (S.1, insE ⟨s, c.name, c.sort, fst l S.1.length⟩ S.2)).2
def sv : Nat → List ByteArray → List Int → List Nd → List RState × List REdge → List Nd × List RState × List REdge
  | _, _, _, [], S => ([], S)
  | 0, _, _, n :: l, S => if n.op == 1 then (l, S) else (l, S.1 ++ [⟨kindW n.op, n.peer⟩], S.2)
  | f + 1, ns, fis, n :: l, S => if n.op == 1 then (l, S)
    else if n.op == 2 then sv f (ns ++ [n.name]) (fis ++ [firstOf (ns ++ [n.name]) (fis ++ [0]) S.1.length l]) l S
    else svKids (sv f ns fis) (fun l k => firstOf ns fis k l) (S.1.length : Int) n.many.toNat l (S.1 ++ [⟨kindW n.op, n.peer⟩], S.2)
def chainV : List Nd → Bool
  | [] => false
  | n :: l => if n.op == 1 then true else if n.op == 2 then chainV l else false
structure Inv (st l : List Nd) (fs : ByteArray → Int) (ns : List ByteArray) (fis : List Int) : Prop where
  names : ns = recsOf st
  len : fis.length = ns.length
  said : ∀ t, backB false st t = true → fs t = lookN ns fis t
  open_ : chainV l = false → ∀ t, withinB st t = true → fs t = lookN ns fis t
theorem toList_eq_iff {a b : ByteArray} : (a.toList == b.toList) = true ↔ a = b := by
  constructor
  · intro h
    have h := beq_iff_eq.1 h
    rw [Go.ByteArray.toList_eq, Go.ByteArray.toList_eq] at h
    apply ByteArray.ext
    exact Array.ext' h
  · rintro rfl; simp
theorem look_snoc {ns : List ByteArray} {fis : List Int} (hl : fis.length = ns.length) (x : ByteArray) (z : Int) (t : ByteArray) : lookN (ns ++ [x]) (fis ++ [z]) t = if hasB ns t then lookN ns fis t else if x.toList == t.toList then z else 0 := by
  induction ns generalizing fis with
  | nil =>
    have : fis = [] := List.length_eq_zero_iff.1 hl
    subst this
    simp [lookN, hasB]
  | cons y ns ih =>
    match fis, hl with
    | u :: fis, hl =>
      have hl' : fis.length = ns.length := by simpa using hl
      rw [List.cons_append, List.cons_append, lookN, ih hl', lookN]
      by_cases h : (y.toList == t.toList) = true
      · rw [if_pos h, if_pos (by simp [hasB] at h ⊢; simp [h]), if_pos h]
      · rw [if_neg h]
        have : hasB (y :: ns) t = hasB ns t := by simp only [hasB, List.any_cons]; rw [Bool.eq_false_iff.2 h]; rfl
        rw [this, if_neg h]
theorem first_chain {ns : List ByteArray} {fis : List Int} {k : Int} : ∀ {l : List Nd}, l ≠ [] → chainV l = false → (∀ n ∈ l, True) → firstOf ns fis k l = k ∨ (∀ n ∈ l, n.op = 2)
  | [], h, _, _ => absurd rfl h
  | n :: l, _, hc, _ => by
    unfold chainV at hc
    unfold firstOf
    by_cases h1 : (n.op == 1) = true
    · rw [if_pos h1] at hc; cases hc
    · rw [if_neg h1] at hc ⊢
      by_cases h2 : (n.op == 2) = true
      · rw [if_pos h2] at hc ⊢
        cases l with
        | nil => right; intro m hm; simp at hm; subst hm; simpa using h2
        | cons m l =>
          rcases first_chain (ns := ns) (fis := fis) (k := k) (l := m :: l) (by simp) hc (fun _ _ => trivial) with h | h
          · exact .inl h
          · right
            intro x hx
            rcases List.mem_cons.1 hx with rfl | hx
            · simpa using h2
            · exact h x hx
      · rw [if_neg h2]; exact .inl rfl
theorem ahead_chain {T : Nd → Bool} : ∀ (f : Nat) (st l r : List Nd), ahead T f st l = some r → ¬ (∀ n ∈ l, n.op = 2) := by
  intro f
  induction f with
  | zero =>
    intro st l r h hall
    cases l with
    | nil => cases h
    | cons n l =>
      have h2 := hall n (by simp)
      rw [ahead_20 h2] at h; cases h
  | succ f ih =>
    intro st l r h hall
    cases l with
    | nil => cases h
    | cons n l =>
      have h2 := hall n (by simp)
      rw [ahead_2 h2] at h
      split at h
      · exact ih _ _ _ h (fun m hm => hall m (by simp [hm]))
      · cases h
theorem first_len {T : Nd → Bool} {f : Nat} {st l r : List Nd} {ns : List ByteArray} {fis : List Int} {k : Int} (h : ahead T f st l = some r) (hc : chainV l = false) : firstOf ns fis k l = k := by
  rcases first_chain (ns := ns) (fis := fis) (k := k) (l := l) (by rintro rfl; cases f <;> cases h) hc (fun _ _ => trivial) with e | e
  · exact e
  · exact absurd e (ahead_chain f st l r h)
end Go.Proofs.YtaaeledleldllaaGreat
namespace Go.Proofs.YtaaeledleldllaaGreat
open Go.RowKit

theorem ins_perm (e : REdge) (l : List REdge) : (insE e l).Perm (e :: l) := by
  unfold insE
  refine List.perm_middle.trans ?_
  rw [List.takeWhile_append_dropWhile]
theorem look_none : ∀ {ns : List ByteArray} {fis : List Int} {t : ByteArray}, hasB ns t = false → lookN ns fis t = 0
  | [], _, _, _ => by simp [lookN]
  | _ :: _, [], _, _ => by simp [lookN]
  | x :: ns, z :: fis, t, h => by
    simp only [hasB, List.any_cons, Bool.or_eq_false_iff] at h
    rw [lookN, if_neg (by rw [h.1]; simp)]
    exact look_none h.2
theorem look_off {ns : List ByteArray} {fis : List Int} (hl : fis.length = ns.length) {x : ByteArray} {z : Int} {t : ByteArray} (h : (x.toList == t.toList) = false) : lookN (ns ++ [x]) (fis ++ [z]) t = lookN ns fis t := by
  rw [look_snoc hl, h]
  cases hb : hasB ns t
  · rw [look_none hb]; simp
  · simp
theorem first_off {T : Nd → Bool} : ∀ (f : Nat) (st l r : List Nd) (ns : List ByteArray) (fis : List Int) (x : ByteArray) (z k : Int), ahead T f st l = some r → fis.length = ns.length → backB false st x = false → firstOf (ns ++ [x]) (fis ++ [z]) k l = firstOf ns fis k l := by
  intro f
  induction f with
  | zero =>
    intro st l r ns fis x z k h hl hx
    cases l with
    | nil => rfl
    | cons n l =>
      unfold firstOf
      by_cases h1 : (n.op == 1) = true
      · rw [if_pos h1, if_pos h1]
        rw [ahead_1 (by simpa using h1)] at h
        split at h
        · rename_i hb
          simp only [Bool.and_eq_true] at hb
          refine look_off hl ?_
          cases he : (x.toList == n.name.toList)
          · rfl
          · rw [toList_eq_iff.1 he, hb.2] at hx; cases hx
        · cases h
      · rw [if_neg h1, if_neg h1]
        by_cases h2 : (n.op == 2) = true
        · rw [ahead_20 (by simpa using h2)] at h; cases h
        · rw [if_neg h2, if_neg h2]
  | succ f ih =>
    intro st l r ns fis x z k h hl hx
    cases l with
    | nil => rfl
    | cons n l =>
      unfold firstOf
      by_cases h1 : (n.op == 1) = true
      · rw [if_pos h1, if_pos h1]
        rw [ahead_1 (by simpa using h1)] at h
        split at h
        · rename_i hb
          simp only [Bool.and_eq_true] at hb
          refine look_off hl ?_
          cases he : (x.toList == n.name.toList)
          · rfl
          · rw [toList_eq_iff.1 he, hb.2] at hx; cases hx
        · cases h
      · rw [if_neg h1, if_neg h1]
        by_cases h2 : (n.op == 2) = true
        · rw [if_pos h2, if_pos h2]
          rw [ahead_2 (by simpa using h2)] at h
          split at h
          · refine ih (n :: st) l r ns fis x z k h hl ?_
            rw [backB, if_pos h2]
            split
            · rfl
            · exact hx
          · cases h
        · rw [if_neg h2, if_neg h2]
structure Same (st : List Nd) (fs : ByteArray → Int) (sts : List RState) (eds E : List REdge) (o : List Nd × Wv) (p : List Nd × List RState × List REdge) (r : List Nd) : Prop where
  ex : ∃ new fs' sts' E', o = (r, ⟨sts', eds ++ new, fs'⟩) ∧ p = (r, sts', E') ∧ E'.Perm (E ++ new) ∧ (∀ t, withinB st t = true → fs' t = fs t) ∧ sts.length ≤ sts'.length
def WvOk (f : Nat) : Prop := ∀ (st l r : List Nd) (fs : ByteArray → Int) (sts : List RState) (eds E : List REdge) (ns : List ByteArray) (fis : List Int), ahead (talkS true) f st l = some r → StOk st → Inv st l fs ns fis →
  (wv f l ⟨sts, eds, fs⟩).1 = firstOf ns fis sts.length l ∧ Same st fs sts eds E (wv f l ⟨sts, eds, fs⟩).2 (sv f ns fis l (sts, E)) r
theorem same_here {st l : List Nd} {fs : ByteArray → Int} {sts : List RState} {eds E : List REdge} (x : List RState) : Same st fs sts eds E (l, ⟨sts ++ x, eds, fs⟩) (l, sts ++ x, E) l :=
  ⟨[], fs, sts ++ x, E, by simp, rfl, by simp, fun _ _ => rfl, by simp⟩
theorem kids_same {f : Nat} (hf : WvOk f) {st : List Nd} {ns : List ByteArray} {fis : List Int} (hst : StOk st) (hns : ns = recsOf st) (hl : fis.length = ns.length) (hsaid : ∀ t, backB false st t = true → withinB st t = true) (s : Int) :
    ∀ (m : Nat) (ls : List ByteArray) (l r : List Nd) (fs : ByteArray → Int) (sts : List RState) (eds E : List REdge), kidsBy (ahead (talkS true) f st) m ls l = some r → (∀ t, withinB st t = true → fs t = lookN ns fis t) →
      Same st fs sts eds E (wvKids (wv f) s m l ⟨sts, eds, fs⟩) (svKids (sv f ns fis) (fun l k => firstOf ns fis k l) s m l (sts, E)) r
  | 0, ls, l, r, fs, sts, eds, E, h, _ => by
    rw [kidsBy] at h
    injection h with h
    subst h
    exact ⟨[], fs, sts, E, by simp [wvKids], by simp [svKids], by simp, fun _ _ => rfl, Nat.le_refl _⟩
  | m + 1, ls, [], r, fs, sts, eds, E, h, _ => by cases h
  | m + 1, ls, c :: l, r, fs, sts, eds, E, h, hag => by
    rw [kidsBy] at h
    split at h
    · split at h
      · cases h
      · rename_i r1 hr1
        have hinv : Inv st l fs ns fis := ⟨hns, hl, fun t ht => hag t (hsaid t ht), fun _ t ht => hag t ht⟩
        obtain ⟨e1, new1, fs1, sts1, E1, ho, hp, hpe, hfs, hsz⟩ := hf st l r1 fs sts eds (insE ⟨s, c.name, c.sort, firstOf ns fis sts.length l⟩ E) ns fis hr1 hst hinv
        obtain ⟨new2, fs2, sts2, E2, ho2, hp2, hpe2, hfs2, hsz2⟩ := kids_same hf hst hns hl hsaid s m (ls ++ [c.name]) r1 r fs1 sts1 ((eds ++ new1) ++ [⟨s, c.name, c.sort, firstOf ns fis sts.length l⟩]) E1 h (fun t ht => (hfs t ht).trans (hag t ht))
        refine ⟨new1 ++ [⟨s, c.name, c.sort, firstOf ns fis sts.length l⟩] ++ new2, fs2, sts2, E2, ?_, ?_, ?_, fun t ht => (hfs2 t ht).trans (hfs t ht), Nat.le_trans hsz hsz2⟩
        · rw [wvKids, e1, ho]
          simp only
          rw [ho2]
          simp [List.append_assoc]
        · rw [svKids]
          simp only
          rw [hp]
          exact hp2
        · refine hpe2.trans ?_
          refine (List.Perm.append_right new2 (hpe.trans (List.Perm.append_right new1 (ins_perm _ _)))).trans ?_
          rw [List.append_assoc, ← List.append_assoc E]
          refine List.Perm.trans ?_ (List.Perm.of_eq (by simp [List.append_assoc] : (E ++ new1) ++ ([⟨s, c.name, c.sort, firstOf ns fis sts.length l⟩] ++ new2) = _))
          show (_ :: (E ++ (new1 ++ new2))).Perm _
          rw [← List.append_assoc]
          exact (List.perm_middle (a := (⟨s, c.name, c.sort, firstOf ns fis sts.length l⟩ : REdge)) (l₁ := E ++ new1) (l₂ := new2)).symm
    · cases h
end Go.Proofs.YtaaeledleldllaaGreat
namespace Go.Proofs.YtaaeledleldllaaGreat
open Go.RowKit

theorem said_within (st : List Nd) (hst : StOk st) (t : ByteArray) (h : backB false st t = true) : withinB st t = true := by
  rw [back_false st t hst] at h
  rw [within_eq]
  simp only [hasB, List.any_eq_true] at h ⊢
  obtain ⟨x, hx, hx2⟩ := h
  exact ⟨x, List.mem_of_mem_take hx, hx2⟩
theorem inv_rec {n : Nd} {st l : List Nd} {fs : ByteArray → Int} {ns : List ByteArray} {fis : List Int} {len z : Int} (hop : n.op = 2) (hno : withinB st n.name = false) (hst : StOk st) (h : Inv st (n :: l) fs ns fis) (hz : chainV l = false → z = len) :
    Inv (n :: st) l (fun x => if x = n.name then len else fs x) (ns ++ [n.name]) (fis ++ [z]) := by
  have hb : (n.op == 2) = true := by rw [hop]; rfl
  have hcv : chainV (n :: l) = chainV l := by rw [chainV, if_neg (by rw [hop]; decide), if_pos hb]
  have hnb : hasB ns n.name = false := by rw [h.names, ← within_eq]; exact hno
  have hin : ∀ t, withinB st t = true → hasB ns t = true := fun t ht => by rw [h.names, ← within_eq]; exact ht
  refine ⟨by rw [recsOf, if_pos hb, h.names], by simp [h.len], fun t ht => ?_, fun hc t ht => ?_⟩
  · rw [backB, if_pos hb] at ht
    split at ht
    · cases ht
    · rename_i hne
      have hw := said_within st hst t ht
      have hnt : t ≠ n.name := fun e => by rw [e, hno] at hw; cases hw
      show (if t = n.name then len else fs t) = _
      rw [if_neg hnt, look_snoc h.len, if_pos (hin t hw)]
      exact h.said t ht
  · show (if t = n.name then len else fs t) = _
    rw [look_snoc h.len]
    by_cases hnt : t = n.name
    · rw [if_pos hnt, hnt, hnb, hz hc]
      simp
    · rw [if_neg hnt]
      have hw : withinB st t = true := by
        rw [withinB, List.any_cons, Bool.or_eq_true] at ht
        rcases ht with ht | ht
        · simp only [Bool.and_eq_true] at ht
          exact absurd (toList_eq_iff.1 ht.2).symm hnt
        · exact ht
      rw [if_pos (hin t hw)]
      exact h.open_ (by rw [hcv]; exact hc) t hw
theorem wv_ok : ∀ f : Nat, WvOk f := by
  intro f
  induction f with
  | zero =>
    intro st l r fs sts eds E ns fis h hst hinv
    cases l with
    | nil => cases h
    | cons n l =>
      rw [wv, sv, firstOf]
      by_cases h1 : (n.op == 1) = true
      · rw [if_pos h1, if_pos h1, if_pos h1]
        rw [ahead_1 (by simpa using h1)] at h
        split at h
        · rename_i hb
          simp only [Bool.and_eq_true] at hb
          injection h with h
          subst h
          exact ⟨hinv.said _ hb.2, by simpa using same_here (st := st) (l := l) (fs := fs) (sts := sts) (eds := eds) (E := E) []⟩
        · cases h
      · rw [if_neg h1, if_neg h1, if_neg h1]
        by_cases h0 : n.op = 0
        · rw [ahead_0 h0] at h
          split at h
          · injection h with h
            subst h
            rw [if_neg (by rw [h0]; decide)]
            exact ⟨rfl, same_here _⟩
          · cases h
        · rw [ahead_t0 h0 (by simpa using h1)] at h; cases h
  | succ f ih =>
    intro st l r fs sts eds E ns fis h hst hinv
    cases l with
    | nil => cases h
    | cons n l =>
      rw [wv, sv, firstOf]
      by_cases h1 : (n.op == 1) = true
      · rw [if_pos h1, if_pos h1, if_pos h1]
        rw [ahead_1 (by simpa using h1)] at h
        split at h
        · rename_i hb
          simp only [Bool.and_eq_true] at hb
          injection h with h
          subst h
          exact ⟨hinv.said _ hb.2, by simpa using same_here (st := st) (l := l) (fs := fs) (sts := sts) (eds := eds) (E := E) []⟩
        · cases h
      · rw [if_neg h1, if_neg h1, if_neg h1]
        by_cases h2 : (n.op == 2) = true
        · rw [if_pos h2, if_pos h2, if_pos h2]
          have h2' : n.op = 2 := by simpa using h2
          rw [ahead_2 h2'] at h
          split at h
          · rename_i hb
            simp only [Bool.and_eq_true, Bool.not_eq_true'] at hb
            have hno := hb.2
            have hst' : StOk (n :: st) := ⟨.inr ⟨h2', by rw [← within_eq]; exact hno⟩, hst⟩
            have hbk : backB false (n :: st) n.name = false := by rw [backB, if_pos h2, if_pos (by simp)]
            have hz0 := first_off f (n :: st) l r ns fis n.name 0 sts.length h hinv.len hbk
            have hi := inv_rec (len := (sts.length : Int)) (z := firstOf (ns ++ [n.name]) (fis ++ [0]) sts.length l) h2' hno hst hinv (fun hc => first_len h hc)
            obtain ⟨e1, new, fs', sts', E', ho, hp, hpe, hfs, hsz⟩ := ih (n :: st) l r _ sts eds E _ _ h hst' hi
            refine ⟨e1.trans (first_off f (n :: st) l r ns fis n.name _ sts.length h hinv.len hbk), new, fs', sts', E', ho, hp, hpe, fun t ht => ?_, hsz⟩
            have hnt : t ≠ n.name := fun e => by rw [e, hno] at ht; cases ht
            have := hfs t (by rw [withinB, List.any_cons]; rw [withinB] at ht; rw [ht]; simp)
            rw [this]
            show (if t = n.name then _ else fs t) = _
            rw [if_neg hnt]
          · cases h
        · rw [if_neg h2, if_neg h2, if_neg h2]
          have hwn : ∀ t, withinB (n :: st) t = withinB st t := fun t => by rw [withinB, List.any_cons, Bool.eq_false_iff.2 h2]; simp [withinB]
          have hcv : chainV (n :: l) = false := by rw [chainV, if_neg h1, if_neg h2]
          by_cases h0 : n.op = 0
          · rw [ahead_0 h0] at h
            split at h
            · rename_i hb
              injection h with h
              subst h
              have hm : n.many.toNat = 0 := by
                simp only [endB, Bool.and_eq_true, beq_iff_eq] at hb
                rw [hb.1.2]; rfl
              rw [hm, wvKids, svKids]
              exact ⟨rfl, same_here _⟩
            · cases h
          · rw [ahead_t h0 (by simpa using h1) (by simpa using h2)] at h
            split at h
            · have hst' : StOk (n :: st) := ⟨.inl (by simpa using h2), hst⟩
              have hr : recsOf (n :: st) = recsOf st := by rw [recsOf, if_neg h2]
              obtain ⟨new, fs', sts', E', ho, hp, hpe, hfs, hsz⟩ := kids_same ih (st := n :: st) (ns := ns) (fis := fis) hst' (by rw [hr]; exact hinv.names) hinv.len (fun t ht => said_within _ hst' t ht) (sts.length : Int) n.many.toNat [] l r fs (sts ++ [⟨kindW n.op, n.peer⟩]) eds E h (fun t ht => hinv.open_ hcv t (by rw [← hwn]; exact ht))
              refine ⟨rfl, new, fs', sts', E', ho, hp, hpe, fun t ht => hfs t (by rw [hwn]; exact ht), ?_⟩
              have : (sts ++ [(⟨kindW n.op, n.peer⟩ : RState)]).length = sts.length + 1 := by simp
              omega
            · cases h
structure News (lo hi : Nat) (new : List REdge) : Prop where
  rng : ∀ e ∈ new, (lo : Int) ≤ e.src ∧ e.src < (hi : Int)
  two : new.Pairwise fun a b => ¬ (a.src = b.src ∧ a.label = b.label)
def NewOk (f : Nat) : Prop := ∀ (st l r : List Nd) (fs : ByteArray → Int) (sts : List RState) (eds : List REdge), ahead (talkS true) f st l = some r →
  ∃ new fs' sts' i, wv f l ⟨sts, eds, fs⟩ = (i, r, ⟨sts', eds ++ new, fs'⟩) ∧ sts.length ≤ sts'.length ∧ News sts.length sts'.length new
theorem kids_new {f : Nat} (hf : NewOk f) (st : List Nd) (s : Nat) :
    ∀ (m : Nat) (ls : List ByteArray) (l r : List Nd) (fs : ByteArray → Int) (sts : List RState) (eds : List REdge), kidsBy (ahead (talkS true) f st) m ls l = some r → s < sts.length →
      ∃ new fs' sts', wvKids (wv f) (s : Int) m l ⟨sts, eds, fs⟩ = (r, ⟨sts', eds ++ new, fs'⟩) ∧ sts.length ≤ sts'.length ∧ (∀ e ∈ new, (e.src = (s : Int) ∧ hasB ls e.label = false) ∨ ((sts.length : Int) ≤ e.src ∧ e.src < (sts'.length : Int))) ∧ new.Pairwise (fun a b => ¬ (a.src = b.src ∧ a.label = b.label))
  | 0, ls, l, r, fs, sts, eds, h, _ => by
    rw [kidsBy] at h
    injection h with h
    subst h
    exact ⟨[], fs, sts, by simp [wvKids], Nat.le_refl _, by simp, List.Pairwise.nil⟩
  | m + 1, ls, [], r, fs, sts, eds, h, _ => by cases h
  | m + 1, ls, c :: l, r, fs, sts, eds, h, hs => by
    rw [kidsBy] at h
    split at h
    · rename_i hcb
      simp only [Bool.and_eq_true, Bool.not_eq_true'] at hcb
      split at h
      · cases h
      · rename_i r1 hr1
        obtain ⟨new1, fs1, sts1, i, ho, hsz, hn⟩ := hf st l r1 fs sts eds hr1
        obtain ⟨new2, fs2, sts2, ho2, hsz2, hr2, hp2⟩ := kids_new hf st s m (ls ++ [c.name]) r1 r fs1 sts1 ((eds ++ new1) ++ [⟨(s : Int), c.name, c.sort, i⟩]) h (by omega)
        refine ⟨new1 ++ [⟨(s : Int), c.name, c.sort, i⟩] ++ new2, fs2, sts2, ?_, by omega, fun e he => ?_, ?_⟩
        · rw [wvKids, ho]
          simp only
          rw [ho2]
          simp [List.append_assoc]
        · rw [List.mem_append, List.mem_append] at he
          rcases he with (he | he) | he
          · have := hn.rng e he; right; omega
          · simp at he; subst he; left; exact ⟨rfl, hcb.2⟩
          · rcases hr2 e he with ⟨q1, q2⟩ | q
            · left
              rw [has_append, Bool.or_eq_false_iff] at q2
              exact ⟨q1, q2.1⟩
            · right; omega
        · rw [List.pairwise_append, List.pairwise_append]
          refine ⟨⟨hn.two, List.pairwise_singleton _ _, fun a ha b hb hk => ?_⟩, hp2, fun a ha b hb hk => ?_⟩
          · simp at hb; subst hb
            have := hn.rng a ha
            simp only at hk
            omega
          · rw [List.mem_append] at ha
            rcases ha with ha | ha
            · have q := hn.rng a ha
              rcases hr2 b hb with ⟨q1, _⟩ | q1
              · omega
              · omega
            · simp at ha; subst ha
              simp only at hk
              rcases hr2 b hb with ⟨_, q2⟩ | q1
              · rw [has_append, Bool.or_eq_false_iff] at q2
                have := q2.2
                rw [hk.2] at this
                simp [hasB] at this
              · omega
    · cases h
theorem new_ok : ∀ f : Nat, NewOk f := by
  intro f
  induction f with
  | zero =>
    intro st l r fs sts eds h
    cases l with
    | nil => cases h
    | cons n l =>
      rw [wv]
      by_cases h1 : (n.op == 1) = true
      · rw [if_pos h1]
        rw [ahead_1 (by simpa using h1)] at h
        split at h
        · injection h with h
          subst h
          exact ⟨[], fs, sts, fs n.name, by simp, Nat.le_refl _, by simp, List.Pairwise.nil⟩
        · cases h
      · rw [if_neg h1]
        by_cases h0 : n.op = 0
        · rw [ahead_0 h0] at h
          split at h
          · injection h with h
            subst h
            exact ⟨[], fs, _, _, by rw [List.append_nil], by simp, by simp, List.Pairwise.nil⟩
          · cases h
        · rw [ahead_t0 h0 (by simpa using h1)] at h; cases h
  | succ f ih =>
    intro st l r fs sts eds h
    cases l with
    | nil => cases h
    | cons n l =>
      rw [wv]
      by_cases h1 : (n.op == 1) = true
      · rw [if_pos h1]
        rw [ahead_1 (by simpa using h1)] at h
        split at h
        · injection h with h
          subst h
          exact ⟨[], fs, sts, fs n.name, by simp, Nat.le_refl _, by simp, List.Pairwise.nil⟩
        · cases h
      · rw [if_neg h1]
        by_cases h2 : (n.op == 2) = true
        · rw [if_pos h2]
          rw [ahead_2 (by simpa using h2)] at h
          split at h
          · exact ih (n :: st) l r _ sts eds h
          · cases h
        · rw [if_neg h2]
          by_cases h0 : n.op = 0
          · rw [ahead_0 h0] at h
            split at h
            · rename_i hb
              injection h with h
              subst h
              have hm : n.many.toNat = 0 := by
                simp only [endB, Bool.and_eq_true, beq_iff_eq] at hb
                rw [hb.1.2]; rfl
              rw [hm, wvKids]
              exact ⟨[], fs, _, _, by rw [List.append_nil], by simp, by simp, List.Pairwise.nil⟩
            · cases h
          · rw [ahead_t h0 (by simpa using h1) (by simpa using h2)] at h
            split at h
            · obtain ⟨new, fs', sts', ho, hsz, hr, hp⟩ := kids_new ih (n :: st) sts.length n.many.toNat [] l r fs (sts ++ [⟨kindW n.op, n.peer⟩]) eds h (by simp)
              have hle : (sts ++ [(⟨kindW n.op, n.peer⟩ : RState)]).length = sts.length + 1 := by simp
              rw [hle] at hsz hr
              refine ⟨new, fs', sts', _, by rw [ho], by omega, fun e he => ?_, hp⟩
              rcases hr e he with ⟨q, _⟩ | q
              · omega
              · omega
            · cases h
end Go.Proofs.YtaaeledleldllaaGreat
namespace Go.Proofs.YtaaeledleldllaaGreat
open Go.RowKit

def Up (l : List REdge) : Prop := l.Pairwise fun a b => mlessE b a = false
theorem bl_irrefl : ∀ x : List UInt8, Op.bytesLess x x = false
  | [] => rfl
  | a :: x => by simp [Op.bytesLess, bl_irrefl x]
theorem bl_trans : ∀ x y z : List UInt8, Op.bytesLess x y = true → Op.bytesLess y z = true → Op.bytesLess x z = true
  | _, [], _, h, _ => by simp [Op.bytesLess] at h
  | _, _ :: _, [], _, h => by simp [Op.bytesLess] at h
  | [], _ :: _, _ :: _, _, _ => rfl
  | a :: x, b :: y, c :: z, h1, h2 => by
    simp only [Op.bytesLess, Bool.or_eq_true, Bool.and_eq_true, decide_eq_true_eq, beq_iff_eq] at h1 h2 ⊢
    rcases h1 with h1 | ⟨rfl, h1⟩
    · rcases h2 with h2 | ⟨rfl, h2⟩
      · exact .inl (UInt8.lt_trans h1 h2)
      · exact .inl h1
    · rcases h2 with h2 | ⟨rfl, h2⟩
      · exact .inl h2
      · exact .inr ⟨rfl, bl_trans x y z h1 h2⟩
theorem bl_total : ∀ x y : List UInt8, Op.bytesLess x y = false → Op.bytesLess y x = false → x = y
  | [], [], _, _ => rfl
  | [], _ :: _, h, _ => by simp [Op.bytesLess] at h
  | _ :: _, [], _, h => by simp [Op.bytesLess] at h
  | a :: x, b :: y, h1, h2 => by
    simp only [Op.bytesLess, Bool.or_eq_false_iff, Bool.and_eq_false_iff, decide_eq_false_iff_not, UInt8.not_lt] at h1 h2
    have hab : a = b := UInt8.le_antisymm h2.1 h1.1
    subst hab
    have e1 : Op.bytesLess x y = false := by rcases h1.2 with h | h <;> simp_all
    have e2 : Op.bytesLess y x = false := by rcases h2.2 with h | h <;> simp_all
    rw [bl_total x y e1 e2]
theorem el_trans {a b c : REdge} (h1 : mlessE a b = true) (h2 : mlessE b c = true) : mlessE a c = true := by
  simp only [mlessE, Bool.or_eq_true, Bool.and_eq_true, decide_eq_true_eq, beq_iff_eq] at h1 h2 ⊢
  rcases h1 with h1 | ⟨e1, h1⟩
  · rcases h2 with h2 | ⟨e2, h2⟩
    · exact .inl (by omega)
    · exact .inl (by omega)
  · rcases h2 with h2 | ⟨e2, h2⟩
    · exact .inl (by omega)
    · exact .inr ⟨by omega, bl_trans _ _ _ h1 h2⟩
theorem el_total {a b : REdge} (h1 : mlessE a b = false) (h2 : mlessE b a = false) : a.src = b.src ∧ a.label = b.label := by
  simp only [mlessE, Bool.or_eq_false_iff, Bool.and_eq_false_iff, decide_eq_false_iff_not] at h1 h2
  have hs : a.src = b.src := by omega
  refine ⟨hs, ?_⟩
  have e1 : Op.bytesLess a.label.toList b.label.toList = false := by rcases h1.2 with h | h; simp [hs] at h; exact h
  have e2 : Op.bytesLess b.label.toList a.label.toList = false := by rcases h2.2 with h | h; simp [hs] at h; exact h
  exact toList_eq_iff.1 (by rw [bl_total _ _ e1 e2]; simp)
theorem el_irrefl (a : REdge) : mlessE a a = false := by simp [mlessE, bl_irrefl]
theorem el_ge {a b c : REdge} (h1 : mlessE b a = false) (h2 : mlessE c b = false) : mlessE c a = false := by
  cases h : mlessE c a
  · rfl
  · exfalso
    cases hb : mlessE a b
    · obtain ⟨q1, q2⟩ := el_total hb h1
      have : mlessE c b = mlessE c a := by simp [mlessE, q1, q2]
      rw [this, h] at h2; cases h2
    · rw [el_trans h hb] at h2; cases h2
theorem up_ins (e : REdge) : ∀ {l : List REdge}, Up l → Up (insE e l)
  | [], _ => by simp [insE, Up]
  | x :: l, h => by
    unfold insE
    rw [List.takeWhile_cons, List.dropWhile_cons]
    obtain ⟨h1, h2⟩ := List.pairwise_cons.1 h
    by_cases hx : mlessE x e = true
    · rw [if_pos hx, if_pos hx, List.cons_append]
      have ih := up_ins e h2
      refine List.pairwise_cons.2 ⟨fun y hy => ?_, ih⟩
      have hy' : y ∈ e :: l := (ins_perm e l).mem_iff.1 hy
      rcases List.mem_cons.1 hy' with rfl | hy'
      · cases hq : mlessE y x
        · rfl
        · have := el_trans hx hq; rw [el_irrefl] at this; cases this
      · exact h1 y hy'
    · rw [if_neg hx, if_neg hx, List.nil_append]
      refine List.pairwise_cons.2 ⟨fun y hy => ?_, h⟩
      have hx' : mlessE x e = false := by simpa using hx
      rcases List.mem_cons.1 hy with rfl | hy
      · exact hx'
      · exact el_ge hx' (h1 y hy)
theorem up_kids {go : List Nd → List RState × List REdge → List Nd × List RState × List REdge} {fst : List Nd → Nat → Int} (hgo : ∀ l S, Up S.2 → Up (go l S).2.2) (s : Int) : ∀ (m : Nat) (l : List Nd) (S : List RState × List REdge), Up S.2 → Up (svKids go fst s m l S).2.2
  | 0, _, _, h => h
  | _ + 1, [], _, h => h
  | m + 1, c :: l, S, h => by
    rw [svKids]
    exact up_kids hgo s m _ _ (hgo _ _ (up_ins _ h))
theorem up_sv : ∀ (f : Nat) (ns : List ByteArray) (fis : List Int) (l : List Nd) (S : List RState × List REdge), Up S.2 → Up (sv f ns fis l S).2.2 := by
  intro f
  induction f with
  | zero =>
    intro ns fis l S h
    cases l with
    | nil => exact h
    | cons n l => rw [sv]; split <;> exact h
  | succ f ih =>
    intro ns fis l S h
    cases l with
    | nil => exact h
    | cons n l =>
      rw [sv]
      split
      · exact h
      · split
        · exact ih _ _ _ _ h
        · exact up_kids (ih ns fis) _ _ _ _ h
theorem up_one : ∀ {l l' : List REdge}, l.Perm l' → l.Pairwise (fun a b => ¬ (a.src = b.src ∧ a.label = b.label)) → Up l → Up l' → l = l'
  | [], l', hp, _, _, _ => (List.Perm.nil_eq hp)
  | a :: l, [], hp, _, _, _ => by have := hp.length_eq; simp at this
  | a :: l, b :: l', hp, hd, h1, h2 => by
    have hab : a = b := by
      rcases List.mem_cons.1 (hp.mem_iff.1 (List.mem_cons_self)) with h | h
      · exact h
      · rcases List.mem_cons.1 (hp.mem_iff.2 (List.mem_cons_self (a := b) (l := l'))) with h' | h'
        · exact h'.symm
        · have e1 := (List.pairwise_cons.1 h1).1 b h'
          have e2 := (List.pairwise_cons.1 h2).1 a h
          exact absurd (el_total e2 e1) ((List.pairwise_cons.1 hd).1 b h')
    subst hab
    rw [up_one (List.Perm.cons_inv hp) (List.pairwise_cons.1 hd).2 (List.pairwise_cons.1 h1).2 (List.pairwise_cons.1 h2).2]
def wvO (ns : List Nd) : Int × List Nd × Wv := wv 10 ns ⟨[], [], fun _ => 0⟩
def svO (ns : List Nd) : List Nd × List RState × List REdge := sv 10 [] [] ns ([], [])
def machP (ns : List Nd) : Mach := ⟨(svO ns).2.1, (svO ns).2.2, firstOf [] [] 0 ns⟩
theorem mach_one {ns : List Nd} (h : ahead (talkS true) 10 [] ns = some []) {es : List REdge} (hp : es.Perm (wvO ns).2.2.eds) (hu : Up es) : (wvO ns).2.1 = [] ∧ machP ns = ⟨(wvO ns).2.2.sts, es, (wvO ns).1⟩ := by
  have hinv : Inv [] ns (fun _ => 0) [] [] := ⟨rfl, rfl, (fun t ht => by cases ht), (fun _ t ht => by cases ht)⟩
  obtain ⟨e1, new, fs', sts', E', ho, hq, hpe, _, _⟩ := wv_ok 10 [] ns [] (fun _ => 0) [] [] [] [] [] h trivial hinv
  obtain ⟨new2, fs2, sts2, i, ho2, _, hn⟩ := new_ok 10 [] ns [] (fun _ => 0) [] [] h
  have hw : wvO ns = (i, [], ⟨sts2, [] ++ new2, fs2⟩) := ho2
  have hs : svO ns = ([], sts', E') := hq
  rw [ho2] at ho
  simp only [List.nil_append, Prod.mk.injEq, Wv.mk.injEq, true_and] at ho
  obtain ⟨rfl, rfl, rfl⟩ := ho
  rw [ho2] at e1
  simp only at e1
  refine ⟨by rw [hw], ?_⟩
  have hE : E' = es := by
    refine (up_one (l := es) (l' := E') ?_ ?_ hu ?_).symm
    · rw [hw] at hp
      simp only [List.nil_append] at hp
      exact hp.trans (by simpa using hpe.symm)
    · rw [hw] at hp
      simp only [List.nil_append] at hp
      exact hn.two.perm hp.symm (fun h hk => h ⟨hk.1.symm, hk.2.symm⟩)
    · have := up_sv 10 [] [] ns ([], []) (List.Pairwise.nil)
      have e : (sv 10 [] [] ns ([], [])).2.2 = E' := by rw [hq]
      rwa [e] at this
  unfold machP
  rw [hs, hw, hE, e1]
  rfl
end Go.Proofs.YtaaeledleldllaaGreat
namespace Go.Proofs.YtaaeledleldllaaGreat
open Go.RowKit

def noMach : Mach := ⟨[], [], 0⟩
def moV (sv ev : Value) (m : Mach) (c : Int) : Value := .agg #[sv, ev, .int .i64 m.start, .int .i64 c]
def outM : Obj := .cells #[.slice none 0 0, .slice none 0 0, .int .i64 0, .int .i64 0] 241
structure MrAns (w w' : World) (e : Ending) (m : Mach) (c : Int) : Prop where
  ans : ∃ sv ev, e = .returned (moV sv ev m c) ∧ RStateOwn w' w.heap.size sv m.states ∧ REdgeOwn w' w.heap.size ev m.edges ∧ (∀ b ∈ vblocks sv, b ∉ vblocks ev)
  bel : Below w.heap.size w w'
theorem set4 {B : Nat} {a w : World} (h : Below B a w) (y0 y1 y2 y3 : Value) : Below B a ((((w.setCell ⟨B, 0, none⟩ y0).setCell ⟨B, 1, none⟩ y1).setCell ⟨B, 2, none⟩ y2).setCell ⟨B, 3, none⟩ y3) :=
  (((h.setCell (p := ⟨B, 0, none⟩) (Nat.le_refl _) _).setCell (p := ⟨B, 1, none⟩) (Nat.le_refl _) _).setCell (p := ⟨B, 2, none⟩) (Nat.le_refl _) _).setCell (p := ⟨B, 3, none⟩) (Nat.le_refl _) _
theorem ap4 (w : World) (B : Nat) (y0 y1 y2 y3 : Value) : Apart w ((((w.setCell ⟨B, 0, none⟩ y0).setCell ⟨B, 1, none⟩ y1).setCell ⟨B, 2, none⟩ y2).setCell ⟨B, 3, none⟩ y3) [B] :=
  (((setCell_apart w B 0 y0).setCell 1 y1).setCell 2 y2).setCell 3 y3
end Go.Proofs.YtaaeledleldllaaGreat
namespace Go.Proofs.YtaaeledleldllaaGreat
open Go.RowKit

end Go.Proofs.YtaaeledleldllaaGreat
namespace Go.Proofs.YtaaeledleldllaaGreat
open Go.RowKit Go.Maps
attribute [local go_sem ↓] Go.wp_at_zero Go.wp_at_succ

def endsV (f t : ByteArray) : Value := .agg #[.string f, .string t]
theorem Tryz.laidOutE : laidOutB Tryz.prog = true := by kernel_rfl
theorem Tryz.endsRow : (192 : TypeId) < Tryz.prog.types.size := of_decide_eq_true (by kernel_rfl)
theorem Tryz.endsCells : Tryz.prog.cellsOf 192 = 2 := by kernel_rfl
theorem Tryz.strCellsE : Tryz.prog.cellsOf 9 = 1 := by kernel_rfl
theorem Tryz.endsType : Tryz.prog.keyType 192 = true := by kernel_rfl
theorem ends_keyed : Keyed Tryz.prog 192 := Keyed.of_law (deep_law_laid Tryz.laidOutE (m := 4) (by omega) Tryz.endsRow (by kernel_rfl) (by kernel_rfl))
theorem Tryz.typesTwoE : 2 < Tryz.prog.types.size := of_decide_eq_true (by kernel_rfl)
theorem Tryz.typesManyE : ∃ d, Tryz.prog.types.size + 1 = d + 3 := by
  have h := Tryz.typesTwoE
  generalize Tryz.prog.types.size = n at h
  exact ⟨n - 2, by omega⟩
set_option maxRecDepth 10000 in
theorem ends_key (f t : ByteArray) (hf : f.size ≤ maxLen) (ht : t.size ≤ maxLen) : ∃ kl, keyOf Tryz.prog 192 (endsV f t) = some kl := by
  obtain ⟨d, hd⟩ := Tryz.typesManyE
  have hform : (endsV f t).formed Tryz.prog 192 = true := by
    simp [Value.formed, endsV, Tryz.underlying192, Tryz.endsCells]
  unfold keyOf
  rw [Tryz.underlying192]
  simp only []
  rw [if_pos (by rw [Tryz.endsType, hform]; rfl), hd]
  simp +decide [Program.keyLits, endsV, Value.cells, Tryz.underlying192, Tryz.underlying9, Tryz.endsCells, Tryz.strCellsE, hf, ht]
theorem endsV_inj {f f' t t' : ByteArray} (h : endsV f t = endsV f' t') : f = f' ∧ t = t' := by
  simp [endsV] at h
  exact h
def CntAt (w : World) (l : List RMsg) (b n : Nat) : Prop :=
  ∃ D : DataW Unit, w.ownsMap Tryz.prog 192 (plainElem Tryz.prog 3) b n D ∧ ∀ f t kl, keyOf Tryz.prog 192 (endsV f t) = some kl → D.atKey kl (.lit (.int .i64 0)) = .lit (.int .i64 (cntM f t l : Nat))
theorem cnt_new (w : World) : CntAt (w.alloc (.map #[] 0)) [] w.heap.size 0 :=
  ⟨.map [], World.ownsMap_made w _ _ _, fun f t kl hk => by rfl⟩
theorem CntAt.keep {w w' : World} {ms : List RMsg} {b n : Nat} {l : List Nat} (h : CntAt w ms b n) (ha : Apart w w' l) (hn : b ∉ l) : CntAt w' ms b n := by
  obtain ⟨D, h1, h2⟩ := h
  refine ⟨D, ?_, h2⟩
  obtain ⟨es', clock, he, hr⟩ := h1
  exact ⟨es', clock, (ha.block b (Array.getElem?_eq_some_iff.1 he).1 hn).trans he, hr⟩
theorem cnt_put {w w' : World} {l : List RMsg} {m : RMsg} {b n : Nat} {D : DataW Unit} {kl : Lit} (hown : w.ownsMap Tryz.prog 192 (plainElem Tryz.prog 3) b n D)
    (hD : ∀ f t kl, keyOf Tryz.prog 192 (endsV f t) = some kl → D.atKey kl (.lit (.int .i64 0)) = .lit (.int .i64 (cntM f t l : Nat)))
    (hkey : keyOf Tryz.prog 192 (endsV m.frm m.to) = some kl) (hown' : w'.ownsMap Tryz.prog 192 (plainElem Tryz.prog 3) b (n + 1) (D.put kl (.lit (.int .i64 ((cntM m.frm m.to l : Nat) + 1))))) : CntAt w' (l ++ [m]) b (n + 1) := by
  refine ⟨_, hown', fun f t k' hk' => ?_⟩
  have hmap := hown.isMap
  have hkl := ends_keyed.key hkey
  by_cases he : k' = kl
  · subst he
    obtain ⟨rfl, rfl⟩ := endsV_inj (ends_keyed.inj hk' hkey)
    rw [atKey_put_same hmap hkl, cntM_app, cntM_one, isMsg_self]
    simp
  · rw [atKey_put_other he, hD f t k' hk', cntM_app, cntM_one]
    have : isMsg f t m = false := by
      cases h : isMsg f t m
      · rfl
      · obtain ⟨rfl, rfl⟩ := isMsg_iff.1 h
        rw [hk'] at hkey
        exact absurd (Option.some.inj hkey) he
    rw [this]
    simp
theorem zero_intE (w : World) : (zeroValue 3).run Tryz.prog w = .ok (.int .i64 0) w := Tryz.zeroValue3 w
set_option maxRecDepth 10000 in
theorem cnt_look' {w : World} {l : List RMsg} {b n : Nat} {f t : ByteArray} (h : CntAt w l b n) (hf : f.size ≤ maxLen) (ht : t.size ≤ maxLen) :
    (Instr.lookup 190 (.map (some b)) (endsV f t) false).run Tryz.prog w = .ok (.int .i64 (cntM f t l : Nat)) w := by
  obtain ⟨D, h1, h2⟩ := h
  obtain ⟨kl, hkl⟩ := ends_key f t hf ht
  obtain ⟨c, hrun, hat, -⟩ := h1.lookup_int ends_keyed Tryz.underlying190 Tryz.underlying3 (zero_intE w) hkl
  rw [h2 f t kl hkl] at hat
  injection hat with hat
  injection hat with _ hat
  rw [hat]
  exact hrun
theorem cnt_look {w : World} {l : List RMsg} {b n : Nat} {f t : ByteArray} (h : CntAt w l b n) (hf : f.size ≤ maxLen) (ht : t.size ≤ maxLen) {c : Nat} (hc : cntM f t l = c) :
    (Instr.lookup 190 (.map (some b)) (.agg #[.string f, .string t]) false).run Tryz.prog w = .ok (.int .i64 (c : Nat)) w := by
  subst hc
  have h1 := cnt_look' h hf ht
  unfold endsV at h1
  exact h1
theorem Tryz.infoEnds : (Tryz.prog.info? 192).map (fun i => (i.zero, i.size, i.bytes)) = some (some (.agg #[.string ByteArray.empty, .string ByteArray.empty]), 2, 32) := by kernel_rfl
set_option maxHeartbeats 400000 in
theorem ends_of (m : RMsg) (w : World) : Calls Tryz.prog 135 #[m.val] w fun e w' => e = .returned (.agg #[.string m.frm, .string m.to]) ∧ Below w.heap.size w w' := by
  have hi : (Tryz.prog.info? 192).map (·.size) = some 2 := by
    obtain ⟨i0, hi, _, hz1, _⟩ := info_parts Tryz.infoEnds
    rw [hi]; simp [hz1]
  have HI := hide hi
  clear hi
  unfold RMsg.val
  go_enter Tryz.func135, Tryz.ntmps135
  go_wp2_with fail
  refine bodyPost_ret_by (results_cell_row rfl _ _ (w.heap.size + 1) 192 #[.string m.frm, .string m.to] (0, 0) _ rfl ?_ Tryz.underlying192 rfl HI.out) rfl ⟨rfl, (malloc1 _ _).trans ((malloc1 _ _).mono (by simp))⟩
  rw [mheap_new _ _ _ (by simp)]
theorem Apart.weakN {w w' : World} {l : List Nat} (h : Apart w w' []) : Apart w w' l := ⟨h.os, h.tape, h.output, h.size, fun b hb _ => h.block b hb (by simp)⟩
theorem Apart.sameN {w w' : World} {b : Nat} (h : Apart w w' ([b] ++ [b])) : Apart w w' [b] := ⟨h.os, h.tape, h.output, h.size, fun k hk hn => h.block k hk (by simp at hn; simp [hn])⟩
end Go.Proofs.YtaaeledleldllaaGreat
namespace Go.Proofs.YtaaeledleldllaaGreat
open Go.RowKit Go.Maps Go.ChangeMaps Go.MapKept
open Go.WideElems (Fit entry_then_store)

set_option maxRecDepth 10000 in
theorem ends_law : Go.WideMaps.KeyLaw Tryz.prog 192 := deep_law_laid Tryz.laidOutE (m := 4) (by omega) Tryz.endsRow (by kernel_rfl) (by kernel_rfl)
set_option maxRecDepth 10000 in
theorem cnt_bump {w : World} {l : List RMsg} {b n c : Nat} {m : RMsg} (h : CntAt w l b n) (hok : m.ok) (hn : n < 1000) (hc : cntM m.frm m.to l = c) (hc3 : c ≤ 3) :
    ∃ v0 st W4 W5, (Instr.mapEntry 190 (.map (some b)) (.agg #[.string m.frm, .string m.to])).run Tryz.prog w = .ok (.tuple #[v0, st]) W4 ∧
      (Instr.lookup 190 (.map (some b)) (.agg #[.string m.frm, .string m.to]) false).run Tryz.prog W4 = .ok (.int .i64 (c : Nat)) W4 ∧
      (Instr.entryStore 190 (.map (some b)) st (.int .i64 (IntKind.i64.wrap ((c : Int) + 1)))).run Tryz.prog W4 = .ok () W5 ∧ CntAt W5 (l ++ [m]) b (n + 1) ∧ Apart w W5 [b] := by
  have hwr : IntKind.i64.wrap ((c : Int) + 1) = (c : Int) + 1 := by rw [IntKind.wrap_i64]; omega
  rw [hwr]
  have hl0 := cnt_look h hok.1 hok.2.1 hc
  obtain ⟨kl, hkl⟩ := ends_key m.frm m.to hok.1 hok.2.1
  unfold endsV at hkl
  obtain ⟨D, hown, hD⟩ := h
  have hown0 := hown
  obtain ⟨es, clock, hb, F, hs, rfl⟩ := hown
  obtain ⟨v0, st, es1, clock1, hme, hdj, hst⟩ := entry_then_store ends_law Tryz.underlying190 zero_intE hb F hkl
  have hb4 : (setBlock w b (.map es1 clock1)).heap[b]? = some (.map es1 clock1) := heap_setBlock_same hb _
  obtain ⟨es', clock', hs5, hup⟩ := hst _ (.int .i64 ((c : Int) + 1)) hb4
  refine ⟨v0, _, _, _, hme, ?_, hs5, ?_, ?_⟩
  · obtain ⟨es2, clock2, hs6, hup0⟩ := hst _ (.int .i64 0) hb4
    have hkd : Keyed Tryz.prog 192 := ends_keyed
    rcases hkd.find w hkl es.toList F.keys with ⟨h1, h2⟩ | ⟨j, e0, h1, h2, h3⟩
    · have r1 : (Instr.mapEntry 190 (.map (some b)) (.agg #[.string m.frm, .string m.to])).run Tryz.prog w = .ok (.tuple #[.int .i64 0, goInt clock]) (setBlock w b (.map (es.push ⟨.agg #[.string m.frm, .string m.to], .int .i64 0, clock⟩) (clock + 1))) := by
        simp [Instr.mapEntry, run_underlying Tryz.underlying190, MapKept.run_getObj_map hb, hkd.check w false hkl, h1, MapKept.run_setObj_map _ hb, Result.andThen, setBlock]
      have r2 : (Instr.mapUpdate 190 (.map (some b)) (.agg #[.string m.frm, .string m.to]) (.int .i64 0)).run Tryz.prog w = .ok () (setBlock w b (.map (es.push ⟨.agg #[.string m.frm, .string m.to], .int .i64 0, clock⟩) (clock + 1))) := by
        simp [Instr.mapUpdate, run_underlying Tryz.underlying190, MapKept.run_getObj_map hb, hkd.check w false hkl, h1, MapKept.run_setObj_map _ hb, Result.andThen, setBlock]
      have r3 : (Instr.lookup 190 (.map (some b)) (.agg #[.string m.frm, .string m.to]) false).run Tryz.prog w = .ok (.int .i64 0) w := by
        simp [Instr.lookup, run_underlying Tryz.underlying190, MapKept.run_getObj_map hb, hkd.check w es.isEmpty hkl, h1, Result.andThen]
      have r3' := Result.ok.inj (hl0.symm.trans r3)
      have r3 := (Value.int.inj r3'.1).2
      have hme := (Result.ok.inj (r1.symm.trans hme)).2
      obtain ⟨w', hrun, hown', hgr⟩ := hown0.update ends_keyed Tryz.underlying190 (by unfold maxLen; omega) hkl (plainElem_int (H := Unit) Tryz.underlying3 (a := 0) (by decide))
      have hrun := (Result.ok.inj (r2.symm.trans hrun)).2
      rw [hme] at hrun
      rw [hrun]
      refine cnt_look (l := l) (n := n + 1) ⟨_, hown', fun f t k' hk' => ?_⟩ hok.1 hok.2.1 hc
      by_cases he : k' = kl
      · subst he
        obtain ⟨rfl, rfl⟩ := endsV_inj (ends_keyed.inj hk' (by unfold endsV; exact hkl))
        rw [atKey_put_same hown0.isMap (ends_keyed.key hkl), hc, r3]
      · rw [atKey_put_other he]
        exact hD f t k' hk'
    · have hj : es[j]? = some e0 := by simpa using h2
      have hsame : es.modify j (fun e => { e with key := .agg #[.string m.frm, .string m.to] }) = es := by
        apply Array.ext'
        rw [Array.toList_modify]
        apply List.ext_getElem?
        intro i
        rw [List.getElem?_modify]
        by_cases hi : j = i
        · subst hi
          rw [h2]
          simp [← h3]
        · simp [hi]
      have r1 : (Instr.mapEntry 190 (.map (some b)) (.agg #[.string m.frm, .string m.to])).run Tryz.prog w = .ok (.tuple #[e0.val, goInt e0.born]) (setBlock w b (.map es clock)) := by
        simp [Instr.mapEntry, run_underlying Tryz.underlying190, MapKept.run_getObj_map hb, hkd.check w false hkl, h1, hj, h3, hkd.stays w hkl, hsame, MapKept.run_setObj_map _ hb, Result.andThen, setBlock]
      have hme := (Result.ok.inj (r1.symm.trans hme)).2
      rw [← hme]
      exact cnt_look (l := l) (n := n) ⟨_, ⟨es, clock, heap_setBlock_same hb _, F, hs, rfl⟩, hD⟩ hok.1 hok.2.1 hc
  · obtain ⟨w', hrun, hown', hgr⟩ := hown0.update ends_keyed Tryz.underlying190 (by unfold maxLen; omega) hkl (plainElem_int (H := Unit) Tryz.underlying3 (a := (c : Int) + 1) (by simp [Lit.wf, IntKind.min, IntKind.max, IntKind.signed, IntKind.bits]; omega))
    have hrun := (Result.ok.inj (hup.symm.trans hrun)).2
    have hb' : w'.heap[b]? = some (.map es' clock') := by rw [← hrun]; exact heap_setBlock_same hb _
    have : CntAt w' (l ++ [m]) b (n + 1) := cnt_put hown0 hD hkl (by rw [hc]; exact hown')
    obtain ⟨D2, ⟨es3, clock3, hb3, F3, hs3, rfl⟩, hD3⟩ := this
    rw [hb'] at hb3
    refine ⟨_, ⟨es3, clock3, ?_, F3, hs3, rfl⟩, hD3⟩
    rw [← hb3]
    exact heap_setBlock_same hb4 _
  · refine ⟨rfl, rfl, rfl, by simp [setBlock], fun k hk hkn => ?_⟩
    have hkb : k ≠ b := by simpa using hkn
    rw [heap_setBlock_other hb4 _ hkb, heap_setBlock_other hb _ hkb]
end Go.Proofs.YtaaeledleldllaaGreat
