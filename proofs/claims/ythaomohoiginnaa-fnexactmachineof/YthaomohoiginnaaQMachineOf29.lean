/- The machine of a right part: both sides make the same, but for the edges' order. -/
import Derived.Test.YthaomohoiginnaaQMachineOf28
namespace Go.Proofs.Ythaomohoiginnaa
open Go.RowKit

theorem ins_perm (e : REdge) (l : List REdge) : (insE e l).Perm (e :: l) := by
  unfold insE
  refine List.perm_middle.trans ?_
  rw [List.takeWhile_append_dropWhile]
theorem look_none : ∀ {ns : List ByteArray} {fis : List Int} {t : ByteArray}, hasB ns t = false → lookN ns fis t = 0
  | [], _, _, _ => by simp [lookN]
  | _ :: _, [], _, _ => by simp [lookN]
  | x :: ns, z :: fis, t, h => by
    simp only [hasB, List.any_cons, Bool.or_eq_false_iff] at h
    rw [lookN, if_neg (by rw [h.1]; simp)]
    exact look_none h.2
theorem look_off {ns : List ByteArray} {fis : List Int} (hl : fis.length = ns.length) {x : ByteArray} {z : Int} {t : ByteArray} (h : (x.toList == t.toList) = false) : lookN (ns ++ [x]) (fis ++ [z]) t = lookN ns fis t := by
  rw [look_snoc hl, h]
  cases hb : hasB ns t
  · rw [look_none hb]; simp
  · simp
theorem first_off {T : Nd → Bool} : ∀ (f : Nat) (st l r : List Nd) (ns : List ByteArray) (fis : List Int) (x : ByteArray) (z k : Int), ahead T f st l = some r → fis.length = ns.length → backB false st x = false → firstOf (ns ++ [x]) (fis ++ [z]) k l = firstOf ns fis k l := by
  intro f
  induction f with
  | zero =>
    intro st l r ns fis x z k h hl hx
    cases l with
    | nil => rfl
    | cons n l =>
      unfold firstOf
      by_cases h1 : (n.op == 1) = true
      · rw [if_pos h1, if_pos h1]
        rw [ahead_1 (by simpa using h1)] at h
        split at h
        · rename_i hb
          simp only [Bool.and_eq_true] at hb
          refine look_off hl ?_
          cases he : (x.toList == n.name.toList)
          · rfl
          · rw [toList_eq_iff.1 he, hb.2] at hx; cases hx
        · cases h
      · rw [if_neg h1, if_neg h1]
        by_cases h2 : (n.op == 2) = true
        · rw [ahead_20 (by simpa using h2)] at h; cases h
        · rw [if_neg h2, if_neg h2]
  | succ f ih =>
    intro st l r ns fis x z k h hl hx
    cases l with
    | nil => rfl
    | cons n l =>
      unfold firstOf
      by_cases h1 : (n.op == 1) = true
      · rw [if_pos h1, if_pos h1]
        rw [ahead_1 (by simpa using h1)] at h
        split at h
        · rename_i hb
          simp only [Bool.and_eq_true] at hb
          refine look_off hl ?_
          cases he : (x.toList == n.name.toList)
          · rfl
          · rw [toList_eq_iff.1 he, hb.2] at hx; cases hx
        · cases h
      · rw [if_neg h1, if_neg h1]
        by_cases h2 : (n.op == 2) = true
        · rw [if_pos h2, if_pos h2]
          rw [ahead_2 (by simpa using h2)] at h
          split at h
          · refine ih (n :: st) l r ns fis x z k h hl ?_
            rw [backB, if_pos h2]
            split
            · rfl
            · exact hx
          · cases h
        · rw [if_neg h2, if_neg h2]
/-- what both make of what begins with l -/
structure Same (st : List Nd) (fs : ByteArray → Int) (sts : List RState) (eds E : List REdge) (o : List Nd × Wv) (p : List Nd × List RState × List REdge) (r : List Nd) : Prop where
  ex : ∃ new fs' sts' E', o = (r, ⟨sts', eds ++ new, fs'⟩) ∧ p = (r, sts', E') ∧ E'.Perm (E ++ new) ∧ (∀ t, withinB st t = true → fs' t = fs t) ∧ sts.length ≤ sts'.length
def WvOk (f : Nat) : Prop := ∀ (st l r : List Nd) (fs : ByteArray → Int) (sts : List RState) (eds E : List REdge) (ns : List ByteArray) (fis : List Int), ahead (talkS true) f st l = some r → StOk st → Inv st l fs ns fis →
  (wv f l ⟨sts, eds, fs⟩).1 = firstOf ns fis sts.length l ∧ Same st fs sts eds E (wv f l ⟨sts, eds, fs⟩).2 (sv f ns fis l (sts, E)) r
theorem same_here {st l : List Nd} {fs : ByteArray → Int} {sts : List RState} {eds E : List REdge} (x : List RState) : Same st fs sts eds E (l, ⟨sts ++ x, eds, fs⟩) (l, sts ++ x, E) l :=
  ⟨[], fs, sts ++ x, E, by simp, rfl, by simp, fun _ _ => rfl, by simp⟩
theorem kids_same {f : Nat} (hf : WvOk f) {st : List Nd} {ns : List ByteArray} {fis : List Int} (hst : StOk st) (hns : ns = recsOf st) (hl : fis.length = ns.length) (hsaid : ∀ t, backB false st t = true → withinB st t = true) (s : Int) :
    ∀ (m : Nat) (ls : List ByteArray) (l r : List Nd) (fs : ByteArray → Int) (sts : List RState) (eds E : List REdge), kidsBy (ahead (talkS true) f st) m ls l = some r → (∀ t, withinB st t = true → fs t = lookN ns fis t) →
      Same st fs sts eds E (wvKids (wv f) s m l ⟨sts, eds, fs⟩) (svKids (sv f ns fis) (fun l k => firstOf ns fis k l) s m l (sts, E)) r
  | 0, ls, l, r, fs, sts, eds, E, h, _ => by
    rw [kidsBy] at h
    injection h with h
    subst h
    exact ⟨[], fs, sts, E, by simp [wvKids], by simp [svKids], by simp, fun _ _ => rfl, Nat.le_refl _⟩
  | m + 1, ls, [], r, fs, sts, eds, E, h, _ => by cases h
  | m + 1, ls, c :: l, r, fs, sts, eds, E, h, hag => by
    rw [kidsBy] at h
    split at h
    · split at h
      · cases h
      · rename_i r1 hr1
        have hinv : Inv st l fs ns fis := ⟨hns, hl, fun t ht => hag t (hsaid t ht), fun _ t ht => hag t ht⟩
        obtain ⟨e1, new1, fs1, sts1, E1, ho, hp, hpe, hfs, hsz⟩ := hf st l r1 fs sts eds (insE ⟨s, c.name, c.sort, firstOf ns fis sts.length l⟩ E) ns fis hr1 hst hinv
        obtain ⟨new2, fs2, sts2, E2, ho2, hp2, hpe2, hfs2, hsz2⟩ := kids_same hf hst hns hl hsaid s m (ls ++ [c.name]) r1 r fs1 sts1 ((eds ++ new1) ++ [⟨s, c.name, c.sort, firstOf ns fis sts.length l⟩]) E1 h (fun t ht => (hfs t ht).trans (hag t ht))
        refine ⟨new1 ++ [⟨s, c.name, c.sort, firstOf ns fis sts.length l⟩] ++ new2, fs2, sts2, E2, ?_, ?_, ?_, fun t ht => (hfs2 t ht).trans (hfs t ht), Nat.le_trans hsz hsz2⟩
        · rw [wvKids, e1, ho]
          simp only
          rw [ho2]
          simp [List.append_assoc]
        · rw [svKids]
          simp only
          rw [hp]
          exact hp2
        · refine hpe2.trans ?_
          refine (List.Perm.append_right new2 (hpe.trans (List.Perm.append_right new1 (ins_perm _ _)))).trans ?_
          rw [List.append_assoc, ← List.append_assoc E]
          refine List.Perm.trans ?_ (List.Perm.of_eq (by simp [List.append_assoc] : (E ++ new1) ++ ([⟨s, c.name, c.sort, firstOf ns fis sts.length l⟩] ++ new2) = _))
          show (_ :: (E ++ (new1 ++ new2))).Perm _
          rw [← List.append_assoc]
          exact (List.perm_middle (a := (⟨s, c.name, c.sort, firstOf ns fis sts.length l⟩ : REdge)) (l₁ := E ++ new1) (l₂ := new2)).symm
    · cases h
end Go.Proofs.Ythaomohoiginnaa
/- The machine of a right part: both sides make the same. -/
namespace Go.Proofs.Ythaomohoiginnaa
open Go.RowKit

theorem said_within (st : List Nd) (hst : StOk st) (t : ByteArray) (h : backB false st t = true) : withinB st t = true := by
  rw [back_false st t hst] at h
  rw [within_eq]
  simp only [hasB, List.any_eq_true] at h ⊢
  obtain ⟨x, hx, hx2⟩ := h
  exact ⟨x, List.mem_of_mem_take hx, hx2⟩
theorem inv_rec {n : Nd} {st l : List Nd} {fs : ByteArray → Int} {ns : List ByteArray} {fis : List Int} {len z : Int} (hop : n.op = 2) (hno : withinB st n.name = false) (hst : StOk st) (h : Inv st (n :: l) fs ns fis) (hz : chainV l = false → z = len) :
    Inv (n :: st) l (fun x => if x = n.name then len else fs x) (ns ++ [n.name]) (fis ++ [z]) := by
  have hb : (n.op == 2) = true := by rw [hop]; rfl
  have hcv : chainV (n :: l) = chainV l := by rw [chainV, if_neg (by rw [hop]; decide), if_pos hb]
  have hnb : hasB ns n.name = false := by rw [h.names, ← within_eq]; exact hno
  have hin : ∀ t, withinB st t = true → hasB ns t = true := fun t ht => by rw [h.names, ← within_eq]; exact ht
  refine ⟨by rw [recsOf, if_pos hb, h.names], by simp [h.len], fun t ht => ?_, fun hc t ht => ?_⟩
  · rw [backB, if_pos hb] at ht
    split at ht
    · cases ht
    · rename_i hne
      have hw := said_within st hst t ht
      have hnt : t ≠ n.name := fun e => by rw [e, hno] at hw; cases hw
      show (if t = n.name then len else fs t) = _
      rw [if_neg hnt, look_snoc h.len, if_pos (hin t hw)]
      exact h.said t ht
  · show (if t = n.name then len else fs t) = _
    rw [look_snoc h.len]
    by_cases hnt : t = n.name
    · rw [if_pos hnt, hnt, hnb, hz hc]
      simp
    · rw [if_neg hnt]
      have hw : withinB st t = true := by
        rw [withinB, List.any_cons, Bool.or_eq_true] at ht
        rcases ht with ht | ht
        · simp only [Bool.and_eq_true] at ht
          exact absurd (toList_eq_iff.1 ht.2).symm hnt
        · exact ht
      rw [if_pos (hin t hw)]
      exact h.open_ (by rw [hcv]; exact hc) t hw
theorem wv_ok : ∀ f : Nat, WvOk f := by
  intro f
  induction f with
  | zero =>
    intro st l r fs sts eds E ns fis h hst hinv
    cases l with
    | nil => cases h
    | cons n l =>
      rw [wv, sv, firstOf]
      by_cases h1 : (n.op == 1) = true
      · rw [if_pos h1, if_pos h1, if_pos h1]
        rw [ahead_1 (by simpa using h1)] at h
        split at h
        · rename_i hb
          simp only [Bool.and_eq_true] at hb
          injection h with h
          subst h
          exact ⟨hinv.said _ hb.2, by simpa using same_here (st := st) (l := l) (fs := fs) (sts := sts) (eds := eds) (E := E) []⟩
        · cases h
      · rw [if_neg h1, if_neg h1, if_neg h1]
        by_cases h0 : n.op = 0
        · rw [ahead_0 h0] at h
          split at h
          · injection h with h
            subst h
            rw [if_neg (by rw [h0]; decide)]
            exact ⟨rfl, same_here _⟩
          · cases h
        · rw [ahead_t0 h0 (by simpa using h1)] at h; cases h
  | succ f ih =>
    intro st l r fs sts eds E ns fis h hst hinv
    cases l with
    | nil => cases h
    | cons n l =>
      rw [wv, sv, firstOf]
      by_cases h1 : (n.op == 1) = true
      · rw [if_pos h1, if_pos h1, if_pos h1]
        rw [ahead_1 (by simpa using h1)] at h
        split at h
        · rename_i hb
          simp only [Bool.and_eq_true] at hb
          injection h with h
          subst h
          exact ⟨hinv.said _ hb.2, by simpa using same_here (st := st) (l := l) (fs := fs) (sts := sts) (eds := eds) (E := E) []⟩
        · cases h
      · rw [if_neg h1, if_neg h1, if_neg h1]
        by_cases h2 : (n.op == 2) = true
        · rw [if_pos h2, if_pos h2, if_pos h2]
          have h2' : n.op = 2 := by simpa using h2
          rw [ahead_2 h2'] at h
          split at h
          · rename_i hb
            simp only [Bool.and_eq_true, Bool.not_eq_true'] at hb
            have hno := hb.2
            have hst' : StOk (n :: st) := ⟨.inr ⟨h2', by rw [← within_eq]; exact hno⟩, hst⟩
            have hbk : backB false (n :: st) n.name = false := by rw [backB, if_pos h2, if_pos (by simp)]
            have hz0 := first_off f (n :: st) l r ns fis n.name 0 sts.length h hinv.len hbk
            have hi := inv_rec (len := (sts.length : Int)) (z := firstOf (ns ++ [n.name]) (fis ++ [0]) sts.length l) h2' hno hst hinv (fun hc => first_len h hc)
            obtain ⟨e1, new, fs', sts', E', ho, hp, hpe, hfs, hsz⟩ := ih (n :: st) l r _ sts eds E _ _ h hst' hi
            refine ⟨e1.trans (first_off f (n :: st) l r ns fis n.name _ sts.length h hinv.len hbk), new, fs', sts', E', ho, hp, hpe, fun t ht => ?_, hsz⟩
            have hnt : t ≠ n.name := fun e => by rw [e, hno] at ht; cases ht
            have := hfs t (by rw [withinB, List.any_cons]; rw [withinB] at ht; rw [ht]; simp)
            rw [this]
            show (if t = n.name then _ else fs t) = _
            rw [if_neg hnt]
          · cases h
        · rw [if_neg h2, if_neg h2, if_neg h2]
          have hwn : ∀ t, withinB (n :: st) t = withinB st t := fun t => by rw [withinB, List.any_cons, Bool.eq_false_iff.2 h2]; simp [withinB]
          have hcv : chainV (n :: l) = false := by rw [chainV, if_neg h1, if_neg h2]
          by_cases h0 : n.op = 0
          · rw [ahead_0 h0] at h
            split at h
            · rename_i hb
              injection h with h
              subst h
              have hm : n.many.toNat = 0 := by
                simp only [endB, Bool.and_eq_true, beq_iff_eq] at hb
                rw [hb.1.2]; rfl
              rw [hm, wvKids, svKids]
              exact ⟨rfl, same_here _⟩
            · cases h
          · rw [ahead_t h0 (by simpa using h1) (by simpa using h2)] at h
            split at h
            · have hst' : StOk (n :: st) := ⟨.inl (by simpa using h2), hst⟩
              have hr : recsOf (n :: st) = recsOf st := by rw [recsOf, if_neg h2]
              obtain ⟨new, fs', sts', E', ho, hp, hpe, hfs, hsz⟩ := kids_same ih (st := n :: st) (ns := ns) (fis := fis) hst' (by rw [hr]; exact hinv.names) hinv.len (fun t ht => said_within _ hst' t ht) (sts.length : Int) n.many.toNat [] l r fs (sts ++ [⟨kindW n.op, n.peer⟩]) eds E h (fun t ht => hinv.open_ hcv t (by rw [← hwn]; exact ht))
              refine ⟨rfl, new, fs', sts', E', ho, hp, hpe, fun t ht => hfs t (by rw [hwn]; exact ht), ?_⟩
              have : (sts ++ [(⟨kindW n.op, n.peer⟩ : RState)]).length = sts.length + 1 := by simp
              omega
            · cases h
/- the edges: whose, and no two alike -/
structure News (lo hi : Nat) (new : List REdge) : Prop where
  rng : ∀ e ∈ new, (lo : Int) ≤ e.src ∧ e.src < (hi : Int)
  two : new.Pairwise fun a b => ¬ (a.src = b.src ∧ a.label = b.label)
def NewOk (f : Nat) : Prop := ∀ (st l r : List Nd) (fs : ByteArray → Int) (sts : List RState) (eds : List REdge), ahead (talkS true) f st l = some r →
  ∃ new fs' sts' i, wv f l ⟨sts, eds, fs⟩ = (i, r, ⟨sts', eds ++ new, fs'⟩) ∧ sts.length ≤ sts'.length ∧ News sts.length sts'.length new
theorem kids_new {f : Nat} (hf : NewOk f) (st : List Nd) (s : Nat) :
    ∀ (m : Nat) (ls : List ByteArray) (l r : List Nd) (fs : ByteArray → Int) (sts : List RState) (eds : List REdge), kidsBy (ahead (talkS true) f st) m ls l = some r → s < sts.length →
      ∃ new fs' sts', wvKids (wv f) (s : Int) m l ⟨sts, eds, fs⟩ = (r, ⟨sts', eds ++ new, fs'⟩) ∧ sts.length ≤ sts'.length ∧ (∀ e ∈ new, (e.src = (s : Int) ∧ hasB ls e.label = false) ∨ ((sts.length : Int) ≤ e.src ∧ e.src < (sts'.length : Int))) ∧ new.Pairwise (fun a b => ¬ (a.src = b.src ∧ a.label = b.label))
  | 0, ls, l, r, fs, sts, eds, h, _ => by
    rw [kidsBy] at h
    injection h with h
    subst h
    exact ⟨[], fs, sts, by simp [wvKids], Nat.le_refl _, by simp, List.Pairwise.nil⟩
  | m + 1, ls, [], r, fs, sts, eds, h, _ => by cases h
  | m + 1, ls, c :: l, r, fs, sts, eds, h, hs => by
    rw [kidsBy] at h
    split at h
    · rename_i hcb
      simp only [Bool.and_eq_true, Bool.not_eq_true'] at hcb
      split at h
      · cases h
      · rename_i r1 hr1
        obtain ⟨new1, fs1, sts1, i, ho, hsz, hn⟩ := hf st l r1 fs sts eds hr1
        obtain ⟨new2, fs2, sts2, ho2, hsz2, hr2, hp2⟩ := kids_new hf st s m (ls ++ [c.name]) r1 r fs1 sts1 ((eds ++ new1) ++ [⟨(s : Int), c.name, c.sort, i⟩]) h (by omega)
        refine ⟨new1 ++ [⟨(s : Int), c.name, c.sort, i⟩] ++ new2, fs2, sts2, ?_, by omega, fun e he => ?_, ?_⟩
        · rw [wvKids, ho]
          simp only
          rw [ho2]
          simp [List.append_assoc]
        · rw [List.mem_append, List.mem_append] at he
          rcases he with (he | he) | he
          · have := hn.rng e he; right; omega
          · simp at he; subst he; left; exact ⟨rfl, hcb.2⟩
          · rcases hr2 e he with ⟨q1, q2⟩ | q
            · left
              rw [has_append, Bool.or_eq_false_iff] at q2
              exact ⟨q1, q2.1⟩
            · right; omega
        · rw [List.pairwise_append, List.pairwise_append]
          refine ⟨⟨hn.two, List.pairwise_singleton _ _, fun a ha b hb hk => ?_⟩, hp2, fun a ha b hb hk => ?_⟩
          · simp at hb; subst hb
            have := hn.rng a ha
            simp only at hk
            omega
          · rw [List.mem_append] at ha
            rcases ha with ha | ha
            · have q := hn.rng a ha
              rcases hr2 b hb with ⟨q1, _⟩ | q1
              · omega
              · omega
            · simp at ha; subst ha
              simp only at hk
              rcases hr2 b hb with ⟨_, q2⟩ | q1
              · rw [has_append, Bool.or_eq_false_iff] at q2
                have := q2.2
                rw [hk.2] at this
                simp [hasB] at this
              · omega
    · cases h
theorem new_ok : ∀ f : Nat, NewOk f := by
  intro f
  induction f with
  | zero =>
    intro st l r fs sts eds h
    cases l with
    | nil => cases h
    | cons n l =>
      rw [wv]
      by_cases h1 : (n.op == 1) = true
      · rw [if_pos h1]
        rw [ahead_1 (by simpa using h1)] at h
        split at h
        · injection h with h
          subst h
          exact ⟨[], fs, sts, fs n.name, by simp, Nat.le_refl _, by simp, List.Pairwise.nil⟩
        · cases h
      · rw [if_neg h1]
        by_cases h0 : n.op = 0
        · rw [ahead_0 h0] at h
          split at h
          · injection h with h
            subst h
            exact ⟨[], fs, _, _, by rw [List.append_nil], by simp, by simp, List.Pairwise.nil⟩
          · cases h
        · rw [ahead_t0 h0 (by simpa using h1)] at h; cases h
  | succ f ih =>
    intro st l r fs sts eds h
    cases l with
    | nil => cases h
    | cons n l =>
      rw [wv]
      by_cases h1 : (n.op == 1) = true
      · rw [if_pos h1]
        rw [ahead_1 (by simpa using h1)] at h
        split at h
        · injection h with h
          subst h
          exact ⟨[], fs, sts, fs n.name, by simp, Nat.le_refl _, by simp, List.Pairwise.nil⟩
        · cases h
      · rw [if_neg h1]
        by_cases h2 : (n.op == 2) = true
        · rw [if_pos h2]
          rw [ahead_2 (by simpa using h2)] at h
          split at h
          · exact ih (n :: st) l r _ sts eds h
          · cases h
        · rw [if_neg h2]
          by_cases h0 : n.op = 0
          · rw [ahead_0 h0] at h
            split at h
            · rename_i hb
              injection h with h
              subst h
              have hm : n.many.toNat = 0 := by
                simp only [endB, Bool.and_eq_true, beq_iff_eq] at hb
                rw [hb.1.2]; rfl
              rw [hm, wvKids]
              exact ⟨[], fs, _, _, by rw [List.append_nil], by simp, by simp, List.Pairwise.nil⟩
            · cases h
          · rw [ahead_t h0 (by simpa using h1) (by simpa using h2)] at h
            split at h
            · obtain ⟨new, fs', sts', ho, hsz, hr, hp⟩ := kids_new ih (n :: st) sts.length n.many.toNat [] l r fs (sts ++ [⟨kindW n.op, n.peer⟩]) eds h (by simp)
              have hle : (sts ++ [(⟨kindW n.op, n.peer⟩ : RState)]).length = sts.length + 1 := by simp
              rw [hle] at hsz hr
              refine ⟨new, fs', sts', _, by rw [ho], by omega, fun e he => ?_, hp⟩
              rcases hr e he with ⟨q, _⟩ | q
              · omega
              · omega
            · cases h
end Go.Proofs.Ythaomohoiginnaa
