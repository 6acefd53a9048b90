import Derived.Test.YtlbcnmcfljaijaaQF18
import Derived.Test.YtlbcnmcfljaijaaQF00
import Derived.Test.YtlbcnmcfljaijaaQF15
import Derived.Deep.RegionLaw
import Derived.Test.YtlbcnmcfljaijaaQF11
import Derived.Test.YtlbcnmcfljaijaaQF07
namespace Go.Proofs.Ytlbcnmcfljaijaa
open Go.RowKit

def ba (l : List UInt8) : ByteArray := ⟨l.toArray⟩
def sortT (n : Int) : ByteArray := if n == 0 then ba [110, 111, 110, 101] else if n == 1 then ba [105, 110, 116] else ba [116, 101, 120, 116]
def talkT (n : Nd) : ByteArray := if n.op == 5 then n.peer ++ ba [33] else if n.op == 6 then n.peer ++ ba [63] else n.name ++ ba [62] ++ n.peer
def caseT (c : Nd) (t : ByteArray) : ByteArray := c.name ++ ba [40] ++ sortT c.sort ++ ba [41, 46] ++ t
def joinC : List ByteArray → ByteArray
  | [] => ByteArray.empty
  | [t] => t
  | t :: u :: ts => t ++ ba [44] ++ joinC (u :: ts)
def casesF (go : List Nd → ByteArray × List Nd) : Nat → List Nd → List ByteArray × List Nd
  | 0, l => ([], l)
  | _ + 1, [] => ([], [])
  | m + 1, c :: l => (caseT c (go l).1 :: (casesF go m (go l).2).1, (casesF go m (go l).2).2)
def textF : Nat → List Nd → ByteArray × List Nd
  | _, [] => (ByteArray.empty, [])
  | 0, n :: l => if n.op == 1 then (n.name, l) else (ba [101, 110, 100], l)
  | f + 1, n :: l =>
    if n.op == 0 then (ba [101, 110, 100], l)
    else if n.op == 1 then (n.name, l)
    else if n.op == 2 then (ba [114, 101, 99] ++ ba [32] ++ n.name ++ ba [46] ++ (textF f l).1, (textF f l).2)
    else (talkT n ++ ba [123] ++ joinC (casesF (textF f) n.many.toNat l).1 ++ ba [125], (casesF (textF f) n.many.toNat l).2)

def StW (st : List Nd) : Prop := ∀ n ∈ st, n.op = 2 → n.name.size ≤ 20
theorem word20 {t : ByteArray} (h : wordB t = true) : t.size ≤ 20 := by
  simp only [wordB, nameB, Bool.and_eq_true, decide_eq_true_eq] at h
  exact h.1.1.2
theorem back20 : ∀ (st : List Nd) (said : Bool) (t : ByteArray), StW st → backB said st t = true → t.size ≤ 20
  | [], _, _, _, h => by cases h
  | n :: st, said, t, hw, h => by
    rw [backB] at h
    have hw' : StW st := fun x hx => hw x (List.mem_cons_of_mem _ hx)
    split at h
    · rename_i h2
      split at h
      · rename_i he
        rw [beq_iff_eq] at he h2
        have := hw n (by simp) h2
        rwa [tl_inj he] at this
      · exact back20 st said t hw' h
    · exact back20 st true t hw' h

def sumSz (ts : List ByteArray) : Nat := (ts.map fun t => t.size + 1).sum
theorem sz_app (a b : ByteArray) : (a ++ b).size = a.size + b.size := ByteArray.size_append
theorem sz_ba (l : List UInt8) : (ba l).size = l.length := by show l.toArray.size = _; simp
theorem joinC_sz : ∀ ts : List ByteArray, (joinC ts).size ≤ sumSz ts
  | [] => Nat.zero_le _
  | [t] => by simp [joinC, sumSz]
  | t :: u :: ts => by
    have ih := joinC_sz (u :: ts)
    have e : sumSz (t :: u :: ts) = t.size + 1 + sumSz (u :: ts) := by simp [sumSz]
    rw [joinC, sz_app, sz_app, sz_ba, e]
    simp only [List.length_cons, List.length_nil]
    omega
theorem sort_sz (n : Int) : (sortT n).size ≤ 4 := by
  rw [sortT]; split
  · simp [sz_ba]
  · split <;> simp [sz_ba]
theorem case_sz {c : Nd} (h : caseB c = true) (t : ByteArray) : (caseT c t).size + 1 ≤ 28 + t.size := by
  have h20 : c.name.size ≤ 20 := by
    simp only [caseB, Bool.and_eq_true] at h
    exact word20 h.1.2
  have := sort_sz c.sort
  rw [caseT, sz_app, sz_app, sz_app, sz_app, sz_ba, sz_ba]
  simp only [List.length_cons, List.length_nil]
  omega
theorem talk_sz {part : Bool} {n : Nd} (h : talkS part n = true) : (talkT n).size ≤ 41 := by
  have hs := h
  simp only [talkS, Bool.and_eq_true] at hs
  have hp := word20 hs.1.1.1
  rw [talkT]
  split
  · rw [sz_app, sz_ba]; simp only [List.length_cons, List.length_nil]; omega
  · split
    · rw [sz_app, sz_ba]; simp only [List.length_cons, List.length_nil]; omega
    · have hn : n.name.size ≤ 20 := by
        cases part
        · simp at hs; exact word20 hs.2.1.2
        · simp at hs; rcases hs.2.2 with h5 | h5 <;> simp_all
      rw [sz_app, sz_app, sz_ba]; simp only [List.length_cons, List.length_nil]; omega

theorem kids_text {go : List Nd → Option (List Nd)} {tf : List Nd → ByteArray × List Nd} (hg : ∀ l r, go l = some r → (tf l).2 = r ∧ (tf l).1.size + 43 * r.length ≤ 43 * l.length) :
    ∀ (m : Nat) (ls : List ByteArray) (l r : List Nd), kidsBy go m ls l = some r → (casesF tf m l).2 = r ∧ sumSz (casesF tf m l).1 + 43 * r.length ≤ 43 * l.length ∧ (casesF tf m l).1.length = m
  | 0, _, l, r, h => by cases h; exact ⟨rfl, by simp [casesF, sumSz], rfl⟩
  | _ + 1, _, [], r, h => by cases h
  | m + 1, ls, n :: l, r, h => by
    rw [kidsBy] at h
    split at h
    · rename_i hc
      split at h
      · cases h
      · rename_i r' hr'
        obtain ⟨e1, s1⟩ := hg _ _ hr'
        obtain ⟨e2, s2, n2⟩ := kids_text hg m _ _ _ h
        have hcb : caseB n = true := by simp at hc; exact hc.1
        have hcs := case_sz hcb (tf l).1
        rw [casesF, e1]
        refine ⟨e2, ?_, by simp [n2]⟩
        have e : sumSz (caseT n (tf l).1 :: (casesF tf m r').1) = (caseT n (tf l).1).size + 1 + sumSz (casesF tf m r').1 := by simp [sumSz]
        rw [e]
        simp only [List.length_cons]
        omega
    · cases h
theorem ahead_text (part : Bool) : ∀ (f : Nat) (st l r : List Nd), StW st → ahead (talkS part) f st l = some r → (textF f l).2 = r ∧ (textF f l).1.size + 43 * r.length ≤ 43 * l.length := by
  intro f
  induction f with
  | zero =>
    intro st l r hw h
    cases l with
    | nil => cases h
    | cons n l =>
      rw [ahead] at h
      repeat' split at h
      all_goals first
        | (cases h; done)
        | (rename_i h0 _; cases h; rw [beq_iff_eq] at h0; refine ⟨by simp [textF, h0], ?_⟩; simp only [textF, h0]; simp [sz_ba]; omega)
        | (rename_i h0 h1 hv; cases h; rw [beq_iff_eq] at h1; simp only [Bool.and_eq_true] at hv; have := back20 st false n.name hw hv.2; refine ⟨by simp [textF, h1], ?_⟩; simp only [textF, h1]; simp; omega)
  | succ f ih =>
    intro st l r hw h
    cases l with
    | nil => cases h
    | cons n l =>
      rw [ahead] at h
      split at h
      · rename_i h0
        split at h
        · cases h
          rw [textF, if_pos h0]
          refine ⟨rfl, ?_⟩
          simp [sz_ba]; omega
        · cases h
      · rename_i h0
        split at h
        · rename_i h1
          split at h
          · rename_i hv
            cases h
            simp only [Bool.and_eq_true] at hv
            have := back20 st false n.name hw hv.2
            rw [textF, if_neg h0, if_pos h1]
            refine ⟨rfl, ?_⟩
            simp; omega
          · cases h
        · rename_i h1
          split at h
          · rename_i h2
            split at h
            · rename_i hv
              simp only [Bool.and_eq_true] at hv
              have hwn : wordB n.name = true := by have := hv.1; simp only [recB, Bool.and_eq_true] at this; exact this.2
              have h20 := word20 hwn
              have hw' : StW (n :: st) := by
                intro x hx h2
                rcases List.mem_cons.1 hx with e | e
                · rw [e]; exact h20
                · exact hw x e h2
              obtain ⟨e1, s1⟩ := ih (n :: st) l r hw' h
              rw [textF, if_neg h0, if_neg h1, if_pos h2]
              refine ⟨e1, ?_⟩
              simp only [sz_app, sz_ba, List.length_cons, List.length_nil]
              omega
            · cases h
          · rename_i h2
            split at h
            · rename_i ht
              have h2' : n.op ≠ 2 := fun e => h2 (by rw [e]; rfl)
              have hw' : StW (n :: st) := by
                intro x hx h2
                rcases List.mem_cons.1 hx with e | e
                · rw [e] at h2; exact absurd h2 h2'
                · exact hw x e h2
              obtain ⟨e1, s1, _⟩ := kids_text (fun l r => ih (n :: st) l r hw') _ _ _ _ h
              have hts := talk_sz ht
              have hj := joinC_sz (casesF (textF f) n.many.toNat l).1
              rw [textF, if_neg h0, if_neg h1, if_neg h2]
              refine ⟨e1, ?_⟩
              simp only [sz_app, sz_ba, List.length_cons, List.length_nil]
              omega
            · cases h
end Go.Proofs.Ytlbcnmcfljaijaa
namespace Go.Proofs.Ytlbcnmcfljaijaa
open Go.RowKit

def NumsAt (w : World) (v : Value) (ls : List Int) : Prop :=
  ∃ ao cap, v = .slice ao ls.length cap ∧ ls.length ≤ cap ∧ ls.length ≤ 4294967296 ∧ (ls ≠ [] → ∃ b o, ao = some ⟨b, o, none⟩ ∧ ∀ i (h : i < ls.length), w.cell? ⟨b, o + i, none⟩ = some (.int .i64 ls[i]))
theorem NumsAt.carry {w w' : World} {v : Value} {ls : List Int} (h : NumsAt w v ls) (hb : Below w.heap.size w w') : NumsAt w' v ls := by
  obtain ⟨ao, cap, h1, h2, h3, h4⟩ := h
  refine ⟨ao, cap, h1, h2, h3, fun hne => ?_⟩
  obtain ⟨b, o, e, hr⟩ := h4 hne
  refine ⟨b, o, e, fun i hi => ?_⟩
  exact (hb.cell (p := ⟨b, _, none⟩) (World.block_lt_of_cell? w _ (hr i hi))).trans (hr i hi)
end Go.Proofs.Ytlbcnmcfljaijaa
namespace Go.Proofs.Ytlbcnmcfljaijaa
open Go.RowKit

end Go.Proofs.Ytlbcnmcfljaijaa
namespace Go.Proofs.Ytlbcnmcfljaijaa
open Go.RowKit
attribute [local go_sem ↓] Go.wp_at_zero Go.wp_at_succ

def Short (l : List Nd) : Prop := ∀ n ∈ l, n.name.size ≤ 1048576 ∧ n.peer.size ≤ 1048576
structure Fits (l : List Nd) (W : Wv) (nf : Nat) : Prop where
  sts : W.sts.length + l.length ≤ 900
  eds : W.eds.length + l.length ≤ 900
  nfs : nf + l.length ≤ 900
end Go.Proofs.Ytlbcnmcfljaijaa
namespace Go.Proofs.Ytlbcnmcfljaijaa
open Go.RowKit
attribute [local go_sem ↓] Go.wp_at_zero Go.wp_at_succ

end Go.Proofs.Ytlbcnmcfljaijaa
namespace Go.Proofs.Ytlbcnmcfljaijaa
open Go.RowKit
attribute [local go_sem ↓] Go.wp_at_zero Go.wp_at_succ

end Go.Proofs.Ytlbcnmcfljaijaa
namespace Go.Proofs.Ytlbcnmcfljaijaa
open Go.RowKit

structure FitS (L : Nat) (S : List RState × List REdge) (k : Nat) : Prop where
  s : ∀ x ∈ S.1, x.fit
  e : ∀ x ∈ S.2, x.fit
  n1 : S.1.length + k ≤ L
  n2 : S.2.length + k ≤ L
theorem insE_mem {e x : REdge} {l : List REdge} (h : x ∈ insE e l) : x = e ∨ x ∈ l := by
  unfold insE at h
  rcases List.mem_append.1 h with h | h
  · exact .inr ((List.takeWhile_sublist _).subset h)
  · rcases List.mem_cons.1 h with rfl | h
    · exact .inl rfl
    · exact .inr ((List.dropWhile_sublist _).subset h)
theorem insE_lenM (e : REdge) (l : List REdge) : (insE e l).length = l.length + 1 := by
  unfold insE
  have := congrArg List.length (List.takeWhile_append_dropWhile (p := fun x => mlessE x e) (l := l))
  rw [List.length_append] at this
  rw [List.length_append, List.length_cons]
  omega
theorem kids_fit {L : Nat} {go : List Nd → List RState × List REdge → List Nd × List RState × List REdge} {fst : List Nd → Nat → Int} {s : Int}
    (hgo : ∀ (l : List Nd) (S : List RState × List REdge), (∀ n ∈ l, n.fit) → FitS L S l.length → (∀ n ∈ (go l S).1, n.fit) ∧ FitS L (go l S).2 (go l S).1.length) :
    ∀ (k : Nat) (l : List Nd) (S : List RState × List REdge), (∀ n ∈ l, n.fit) → FitS L S l.length → (∀ n ∈ (svKids go fst s k l S).1, n.fit) ∧ FitS L (svKids go fst s k l S).2 (svKids go fst s k l S).1.length
  | 0, l, S, hl, hS => ⟨hl, hS⟩
  | _ + 1, [], S, hl, hS => ⟨hl, hS⟩
  | k + 1, c :: l, S, hl, hS => by
    rw [svKids]
    have hc := hl c List.mem_cons_self
    have h1 : FitS L (S.1, insE ⟨s, c.name, c.sort, fst l S.1.length⟩ S.2) l.length := by
      have n1 := hS.n1
      have n2 := hS.n2
      rw [List.length_cons] at n1 n2
      refine ⟨hS.s, fun x hx => ?_, ?_, ?_⟩
      · rcases insE_mem hx with rfl | hx
        · exact hc.1
        · exact hS.e x hx
      · show S.1.length + l.length ≤ L; omega
      · show (insE _ S.2).length + l.length ≤ L; rw [insE_lenM]; omega
    obtain ⟨g1, g2⟩ := hgo l _ (fun n hn => hl n (List.mem_cons_of_mem _ hn)) h1
    exact kids_fit hgo k _ _ g1 g2
theorem sv_fit {L : Nat} : ∀ (f : Nat) (ns : List ByteArray) (fis : List Int) (l : List Nd) (S : List RState × List REdge), (∀ n ∈ l, n.fit) → FitS L S l.length → (∀ n ∈ (sv f ns fis l S).1, n.fit) ∧ FitS L (sv f ns fis l S).2 (sv f ns fis l S).1.length
  | 0, _, _, [], S, hl, hS => ⟨hl, hS⟩
  | _ + 1, _, _, [], S, hl, hS => ⟨hl, hS⟩
  | 0, ns, fis, n :: l, S, hl, hS => by
    have hr : ∀ m ∈ l, m.fit := fun m hm => hl m (List.mem_cons_of_mem _ hm)
    have n1 := hS.n1
    have n2 := hS.n2
    rw [List.length_cons] at n1 n2
    rw [sv]
    split
    · exact ⟨hr, hS.s, hS.e, by show S.1.length + l.length ≤ L; omega, by show S.2.length + l.length ≤ L; omega⟩
    · refine ⟨hr, fun x hx => ?_, hS.e, ?_, by show S.2.length + l.length ≤ L; omega⟩
      · rcases List.mem_append.1 hx with hx | hx
        · exact hS.s x hx
        · simp at hx; subst hx; exact (hl n List.mem_cons_self).2
      · show (S.1 ++ [_]).length + l.length ≤ L; rw [List.length_append, List.length_singleton]; omega
  | f + 1, ns, fis, n :: l, S, hl, hS => by
    have hr : ∀ m ∈ l, m.fit := fun m hm => hl m (List.mem_cons_of_mem _ hm)
    have n1 := hS.n1
    have n2 := hS.n2
    rw [List.length_cons] at n1 n2
    rw [sv]
    split
    · exact ⟨hr, hS.s, hS.e, by show S.1.length + l.length ≤ L; omega, by show S.2.length + l.length ≤ L; omega⟩
    · split
      · exact sv_fit f _ _ l S hr ⟨hS.s, hS.e, by omega, by omega⟩
      · refine kids_fit (fun l' S' => sv_fit f ns fis l' S') _ l _ hr ⟨fun x hx => ?_, hS.e, ?_, by show S.2.length + l.length ≤ L; omega⟩
        · rcases List.mem_append.1 hx with hx | hx
          · exact hS.s x hx
          · simp at hx; subst hx; exact (hl n List.mem_cons_self).2
        · show (S.1 ++ [_]).length + l.length ≤ L; rw [List.length_append, List.length_singleton]; omega
theorem machP_fit {ns : List Nd} (h : ∀ n ∈ ns, n.fit) : (∀ x ∈ (machP ns).states, x.fit) ∧ (∀ x ∈ (machP ns).edges, x.fit) ∧ (machP ns).states.length ≤ ns.length ∧ (machP ns).edges.length ≤ ns.length := by
  have hs := (sv_fit (L := ns.length) 10 [] [] ns ([], []) h ⟨fun x hx => (by cases hx), fun x hx => (by cases hx), by simp, by simp⟩).2
  have n1 := hs.n1
  have n2 := hs.n2
  exact ⟨hs.s, hs.e, Nat.le_trans (Nat.le_add_right _ _) n1, Nat.le_trans (Nat.le_add_right _ _) n2⟩
end Go.Proofs.Ytlbcnmcfljaijaa
namespace Go.Proofs.Ytlbcnmcfljaijaa
open Go.RowKit

def fitL (l : List Nd) : Prop := ∀ n ∈ l, n.fit
theorem fit_app {l r : List Nd} : fitL (l ++ r) ↔ fitL l ∧ fitL r := by
  unfold fitL
  simp only [List.mem_append]
  exact ⟨fun h => ⟨fun n hn => h n (.inl hn), fun n hn => h n (.inr hn)⟩, fun h n hn => hn.elim (h.1 n) (h.2 n)⟩
theorem fit_cons {n : Nd} {l : List Nd} : fitL (n :: l) ↔ n.fit ∧ fitL l := by
  unfold fitL
  simp only [List.mem_cons]
  exact ⟨fun h => ⟨h n (.inl rfl), fun m hm => h m (.inr hm)⟩, fun h m hm => hm.elim (fun e => e ▸ h.1) (h.2 m)⟩
theorem fit_nil : fitL [] := fun _ h => by cases h
section
variable {α : Type} {f : α → List Nd}
theorem brs_set : ∀ {l : List (Br α)} {i : Nat} {b : Br α} (c : Br α), l[i]? = some b → (brsBy f (l.set i c)).length + (f b.p).length = (brsBy f l).length + (f c.p).length ∧ (fitL (brsBy f l) → fitL [⟨4, c.l, noT, 0, c.s⟩] → fitL (f c.p) → fitL (brsBy f (l.set i c)))
  | [], i, b, c, h => by simp at h
  | a :: l, 0, b, c, h => by
    simp at h
    subst h
    rw [List.set_cons_zero, brs_cons, brs_cons]
    refine ⟨by simp only [List.length_cons, List.length_append]; omega, fun h1 h2 h3 => ?_⟩
    rw [fit_cons, fit_app] at *
    exact ⟨h2.1, h3, h1.2.2⟩
  | a :: l, i + 1, b, c, h => by
    rw [List.getElem?_cons_succ] at h
    obtain ⟨h1, h2⟩ := brs_set c h
    rw [List.set_cons_succ, brs_cons, brs_cons]
    refine ⟨by simp only [List.length_cons, List.length_append]; omega, fun h3 h4 h5 => ?_⟩
    rw [fit_cons, fit_app] at h3 ⊢
    exact ⟨h3.1, h3.2.1, h2 h3.2.2 h4 h5⟩
theorem brs_get : ∀ {l : List (Br α)} {i : Nat} {b : Br α}, l[i]? = some b → (f b.p).length + 1 ≤ (brsBy f l).length ∧ (fitL (brsBy f l) → fitL [⟨4, b.l, noT, 0, b.s⟩] ∧ fitL (f b.p))
  | [], i, b, h => by simp at h
  | a :: l, 0, b, h => by
    simp at h
    subst h
    rw [brs_cons]
    refine ⟨by simp only [List.length_cons, List.length_append]; omega, fun h1 => ?_⟩
    rw [fit_cons, fit_app] at h1
    exact ⟨fit_cons.2 ⟨h1.1, fit_nil⟩, h1.2.1⟩
  | a :: l, i + 1, b, h => by
    rw [List.getElem?_cons_succ] at h
    obtain ⟨h1, h2⟩ := brs_get h
    rw [brs_cons]
    refine ⟨by simp only [List.length_cons, List.length_append]; omega, fun h3 => ?_⟩
    rw [fit_cons, fit_app] at h3
    exact h2 h3.2.2
def SzOk (a b c : List Nd) : Prop := c.length ≤ a.length + b.length ∧ (fitL a → fitL b → fitL c)
theorem sz_left (a b : List Nd) : SzOk a b a := ⟨by omega, fun h _ => h⟩
theorem mergeBy_sz {mg : α → α → Option α} (hmg : ∀ x y z, mg x y = some z → SzOk (f x) (f y) (f z)) : ∀ (ds acc l : List (Br α)), mergeBy mg acc ds = some l → SzOk (brsBy f acc) (brsBy f ds) (brsBy f l)
  | [], acc, l, h => by
    rw [mergeBy] at h
    injection h with h
    subst h
    exact sz_left _ _
  | d :: ds, acc, l, h => by
    rw [mergeBy] at h
    rw [brs_cons]
    split at h
    · obtain ⟨h1, h2⟩ := mergeBy_sz hmg ds _ l h
      rw [brs_app] at h1 h2
      have e : brsBy f [d] = ⟨4, d.l, noT, 0, d.s⟩ :: f d.p := by rw [brs_cons]; simp [brsBy]
      rw [e] at h1 h2
      refine ⟨by simp only [List.length_append, List.length_cons] at *; omega, fun ha hb => ?_⟩
      rw [fit_cons, fit_app] at hb
      exact h2 (fit_app.2 ⟨ha, fit_cons.2 ⟨hb.1, hb.2.1⟩⟩) hb.2.2
    · rename_i i hi
      split at h
      · cases h
      · rename_i b hb
        split at h
        · cases h
        · rename_i q hq
          split at h
          · obtain ⟨h1, h2⟩ := mergeBy_sz hmg ds _ l h
            obtain ⟨h3, h4⟩ := hmg b.p d.p q hq
            obtain ⟨h5, h6⟩ := brs_set (f := f) ⟨b.l, b.s, q⟩ hb
            obtain ⟨h7, h8⟩ := brs_get (f := f) hb
            refine ⟨by simp only [List.length_append, List.length_cons] at *; omega, fun ha hc => ?_⟩
            rw [fit_cons, fit_app] at hc
            exact h2 (h6 ha (h8 ha).1 (h4 (h8 ha).2 hc.2.1)) hc.2.2
          · cases h
theorem mergeAll_sz {mg : α → α → Option α} (hmg : ∀ x y z, mg x y = some z → SzOk (f x) (f y) (f z)) : ∀ (r : List (Br α)) (x z : α), mergeAll mg x r = some z → SzOk (f x) (brsBy f r) (f z)
  | [], x, z, h => by rw [mergeAll] at h; injection h with h; subst h; exact sz_left _ _
  | b :: r, x, z, h => by
    rw [mergeAll] at h
    split at h
    · cases h
    · rename_i q hq
      obtain ⟨h1, h2⟩ := mergeAll_sz hmg r q z h
      obtain ⟨h3, h4⟩ := hmg x b.p q hq
      rw [brs_cons]
      refine ⟨by simp only [List.length_cons, List.length_append]; omega, fun ha hb => ?_⟩
      rw [fit_cons, fit_app] at hb
      exact h2 (h4 ha hb.2.1) hb.2.2
end
theorem hear_some {n : Nat} {p : Pn (n + 1)} {a : ByteArray} {l : List (Br (Pn n))} (h : hearN p = some (a, l)) : ∃ b, p = .talk ⟨6, b, a⟩ l := by
  revert h
  refine Pn.cases (P := fun p => hearN p = some (a, l) → ∃ b, p = .talk ⟨6, b, a⟩ l) (fun x h => ?_) (fun x q h => ?_) (fun t l' h => ?_) p
  · cases h
  · cases h
  · have h' : (if t.op == 6 then some (t.b, l') else none) = some (a, l) := h
    split at h'
    · rename_i h6
      injection h' with h'
      injection h' with e1 e2
      obtain ⟨op, x, y⟩ := t
      dsimp only at e1 h6
      have h6' : op = 6 := by simpa using h6
      subst e1
      subst e2
      subst h6'
      exact ⟨x, rfl⟩
    · cases h'
theorem merge_sz : ∀ (n : Nat) (x y z : Pn n), mergeN n x y = some z → SzOk (rowN n x) (rowN n y) (rowN n z) := by
  intro n
  induction n with
  | zero =>
    intro x y z h
    rw [mergeN] at h
    split at h
    · injection h with h; subst h; exact sz_left _ _
    · cases h
  | succ n ih =>
    intro x y z h
    rw [mergeN] at h
    split at h
    · injection h with h; subst h; exact sz_left _ _
    · split at h
      · rename_i a cs b ds hx hy
        split at h
        · split at h
          · rename_i l hl
            split at h
            · injection h with h
              subst h
              obtain ⟨x', rfl⟩ := hear_some hx
              obtain ⟨y', rfl⟩ := hear_some hy
              obtain ⟨h1, h2⟩ := mergeBy_sz ih ds cs l hl
              rw [row_talk, row_talk, row_talk]
              refine ⟨by simp only [List.length_cons]; omega, fun ha hb => ?_⟩
              rw [fit_cons] at ha hb ⊢
              exact ⟨⟨by simp [noT], ha.1.2⟩, h2 ha.2 hb.2⟩
            · cases h
          · cases h
        · cases h
      · cases h
def PartOk (a c : List Nd) : Prop := c.length ≤ a.length ∧ (fitL a → fitL c)
theorem parts_sz {α : Type} {f : α → List Nd} {g : α → Option α} {Q : α → Prop} (hg : ∀ x y, Q x → g x = some y → PartOk (f x) (f y)) : ∀ (l r : List (Br α)), (∀ b ∈ l, Q b.p) → partsBy g l = some r → PartOk (brsBy f l) (brsBy f r) ∧ r.length = l.length
  | [], r, _, h => by rw [partsBy] at h; injection h with h; subst h; exact ⟨⟨Nat.le_refl _, id⟩, rfl⟩
  | b :: l, r, hq, h => by
    rw [partsBy] at h
    split at h
    · cases h
    · rename_i q hq'
      split at h
      · cases h
      · rename_i r' hr'
        injection h with h
        subst h
        obtain ⟨h1, h2⟩ := hg b.p q (hq b (by simp)) hq'
        obtain ⟨⟨h3, h4⟩, h5⟩ := parts_sz hg l r' (fun c hc => hq c (by simp [hc])) hr'
        rw [brs_cons, brs_cons]
        refine ⟨⟨by simp only [List.length_cons, List.length_append]; omega, fun ha => ?_⟩, by simp only [List.length_cons]; omega⟩
        rw [fit_cons, fit_app] at ha ⊢
        exact ⟨ha.1, h2 ha.2.1, h4 ha.2.2⟩
theorem part_sz (role : ByteArray) : ∀ (n : Nat) (p q : Pn n), planN n p → partN role n p = some q → PartOk (rowN n p) (rowN n q) := by
  intro n
  induction n with
  | zero => intro p q _ h; rw [partN] at h; injection h with h; subst h; exact ⟨Nat.le_refl _, id⟩
  | succ n ih =>
    intro p
    refine Pn.cases (P := fun p => ∀ q, planN (n + 1) p → partN role (n + 1) p = some q → PartOk (rowN (n + 1) p) (rowN (n + 1) q)) (fun x q _ h => ?_) (fun x p q hp h => ?_) (fun t l q hp h => ?_) p
    · have h' : some (Pn.leaf x) = some q := h
      injection h' with h'; subst h'; exact ⟨Nat.le_refl _, id⟩
    · have h' : (if idleL role (rowN (n + 1) (.loop x p)) then some (Pn.leaf none) else (partN role n p).map (Pn.loop x)) = some q := h
      have hp' : planN n p := hp
      split at h'
      · injection h' with h'
        subst h'
        rw [row_loop, row_leaf]
        refine ⟨by simp only [leafRow, List.length_cons, List.length_nil]; omega, fun _ => fit_cons.2 ⟨by simp [Nd.fit, noT], fit_nil⟩⟩
      · cases hq : partN role n p with
        | none => rw [hq] at h'; cases h'
        | some q' =>
          rw [hq] at h'
          simp only [Option.map_some, Option.some.injEq] at h'
          subst h'
          obtain ⟨h1, h2⟩ := ih p q' hp' hq
          rw [row_loop, row_loop]
          refine ⟨by simp only [List.length_cons]; omega, fun ha => ?_⟩
          rw [fit_cons] at ha ⊢
          exact ⟨ha.1, h2 ha.2⟩
    · have h' : (match partsBy (partN role n) l with
        | none => none
        | some r => if role.toList == t.a.toList then some (Pn.talk ⟨5, noT, t.b⟩ r) else if role.toList == t.b.toList then some (.talk ⟨6, noT, t.a⟩ r) else
          match r with
          | [] => none
          | c :: r => (mergeAll (mergeN n) c.p r).map (upN n)) = some q := h
      have hp' : t.op = 3 ∧ (t.a.toList == t.b.toList) = false ∧ 1 ≤ l.length ∧ l.length ≤ 4 ∧ ∀ b ∈ l, planN n b.p := hp
      split at h'
      · cases h'
      · rename_i r hr
        obtain ⟨⟨h1, h2⟩, h3⟩ := parts_sz (Q := planN n) (fun x y hx hy => ih x y hx hy) l r hp'.2.2.2.2 hr
        rw [row_talk]
        split at h'
        · injection h' with h'
          subst h'
          rw [row_talk]
          refine ⟨by simp only [List.length_cons]; omega, fun ha => ?_⟩
          rw [fit_cons] at ha ⊢
          exact ⟨⟨by simp [noT], ha.1.2⟩, h2 ha.2⟩
        · split at h'
          · injection h' with h'
            subst h'
            rw [row_talk]
            refine ⟨by simp only [List.length_cons]; omega, fun ha => ?_⟩
            rw [fit_cons] at ha ⊢
            exact ⟨⟨by simp [noT], ha.1.1⟩, h2 ha.2⟩
          · split at h'
            · cases h'
            · rename_i c r
              cases hm : mergeAll (mergeN n) c.p r with
              | none => rw [hm] at h'; cases h'
              | some z =>
                rw [hm] at h'
                simp only [Option.map_some, Option.some.injEq] at h'
                subst h'
                obtain ⟨h4, h5⟩ := mergeAll_sz (merge_sz n) r c.p z hm
                rw [up_row]
                rw [brs_cons] at h1 h2
                refine ⟨by simp only [List.length_cons, List.length_append] at *; omega, fun ha => ?_⟩
                have := h2 (fit_cons.1 ha).2
                rw [fit_cons, fit_app] at this
                exact h5 this.2.1 this.2.2
end Go.Proofs.Ytlbcnmcfljaijaa
namespace Go.Proofs.Ytlbcnmcfljaijaa
open Go.RowKit Go.Maps
attribute [local go_sem ↓] Go.wp_at_zero Go.wp_at_succ

set_option maxRecDepth 100000 in
set_option maxHeartbeats 1000000 in
theorem follow_i (m : Mach) (l : List RAct) (v u : Value) (w : World) (hf : m.fit) (hr : ∀ a ∈ l, a.rng ∧ a.ok) (hv : MachAt w v m) (hu : RActSl w w.heap.size u l) :
    Calls Try.prog 5 #[v, u] w fun e w' => e = .returned (.int .i64 (followR m l)) ∧ Below w.heap.size w w' := by
  have HF := hide hf
  have HAR := hide hr
  have HV : Hid (∀ W, Below w.heap.size w W → MachAt W v m) := hide (fun W hb => hv.carry hb)
  obtain ⟨sv, ev, rfl, hs, he⟩ := hv
  obtain ⟨sa, sc, rfl, -⟩ := hs
  obtain ⟨ea, ec, rfl, -⟩ := he
  obtain ⟨la, lc, rfl, hl1, hl2, hl3⟩ := hu
  have HLR := hide hl3
  obtain ⟨q1, hq1⟩ : ∃ q1, machB m = q1 := ⟨_, rfl⟩
  have HQ1 := hide hq1
  have HR0 : Hid (followR m l = if decide (l.length ≤ 60) && q1 then followK m m.start l 0 else -1) := hide (by rw [followR, hq1])
  clear hq1 hf hl3 hr
  have HGO : Hid (∀ W A, W = w.alloc A → Below w.heap.size w W) := hide (fun W A hW => by rw [hW]; exact malloc1 _ _)
  by_cases h60 : 60 < l.length
  · have HR : Hid (followR m l = -1) := hide (by rw [HR0.out, decide_eq_false (by omega)]; rfl)
    have h60' : decide (60 < (l.length : Int)) = true := decide_eq_true (by omega)
    go_enter Try.func5, Try.ntmps5
    go_wp2_with (refine wp_text_from 10 (fun W hW => ?_); have hne := grown_some W; have f0 := grown_cell (w := W) (b := w.heap.size) (o := 0) (v := .slice sa m.states.length sc) (by rw [hW]; simp); have f1 := grown_cell (w := W) (b := w.heap.size) (o := 1) (v := .slice ea m.edges.length ec) (by rw [hW]; simp); have f2 := grown_cell (w := W) (b := w.heap.size) (o := 2) (v := .int .i64 m.start) (by rw [hW]; simp); have HBW := hide (HGO.out W _ hW); have hlw : w.heap.size < W.heap.size := (by rw [hW]; simp); clear hW; (repeat (go_big_quiet_step (first
        | (go_at_call 18; exact grown_more (machine_right_at HQ1.out _ _ HF.out ((HV.out _ HBW.out).carry (Grown.bel _))))))); refine wpQuiet_nil ?_; intro w1 hw1; have b0 := f0 ⟨w1, hw1⟩; have b1 := f1 ⟨w1, hw1⟩; have b2 := f2 ⟨w1, hw1⟩; dsimp only at b0 b1 b2; have HW : Hid (Below w.heap.size w w1) := hide (HBW.out.trans (hw1.mono HBW.out.size)); have hlw1 : w.heap.size < w1.heap.size := Nat.lt_of_lt_of_le hlw hw1.size; have HW1 := hide hw1; clear hw1 hne f0 f1 f2)
    go_ret
    exact ⟨ret_int HR.out, HW.out⟩
  · have h60' : decide (60 < (l.length : Int)) = false := decide_eq_false (by omega)
    have HD : Hid (decide (l.length ≤ 60) = true) := hide (decide_eq_true (by omega))
    cases q1
    · have HR : Hid (followR m l = -1) := hide (by rw [HR0.out, HD.out]; rfl)
      go_enter Try.func5, Try.ntmps5
      go_wp2_with (refine wp_text_from 10 (fun W hW => ?_); have hne := grown_some W; have f0 := grown_cell (w := W) (b := w.heap.size) (o := 0) (v := .slice sa m.states.length sc) (by rw [hW]; simp); have f1 := grown_cell (w := W) (b := w.heap.size) (o := 1) (v := .slice ea m.edges.length ec) (by rw [hW]; simp); have f2 := grown_cell (w := W) (b := w.heap.size) (o := 2) (v := .int .i64 m.start) (by rw [hW]; simp); have HBW := hide (HGO.out W _ hW); have hlw : w.heap.size < W.heap.size := (by rw [hW]; simp); clear hW; (repeat (go_big_quiet_step (first
        | (go_at_call 18; exact grown_more (machine_right_at HQ1.out _ _ HF.out ((HV.out _ HBW.out).carry (Grown.bel _))))))); refine wpQuiet_nil ?_; intro w1 hw1; have b0 := f0 ⟨w1, hw1⟩; have b1 := f1 ⟨w1, hw1⟩; have b2 := f2 ⟨w1, hw1⟩; dsimp only at b0 b1 b2; have HW : Hid (Below w.heap.size w w1) := hide (HBW.out.trans (hw1.mono HBW.out.size)); have hlw1 : w.heap.size < w1.heap.size := Nat.lt_of_lt_of_le hlw hw1.size; have HW1 := hide hw1; clear hw1 hne f0 f1 f2)
      go_ret
      exact ⟨ret_int HR.out, HW.out⟩
    · have HR : Hid (followR m l = followK m m.start l 0) := hide (by rw [HR0.out, HD.out]; rfl)
      have HRG := hide (fun s a => stepF_range HQ1.out s a)
      have HSR := hide (start_range HQ1.out)
      have HN40 := hide (mach_40 HQ1.out)
      go_enter Try.func5, Try.ntmps5
      go_wp2_with (first
        | (refine wp_text_from 10 (fun W hW => ?_); have hne := grown_some W; have f0 := grown_cell (w := W) (b := w.heap.size) (o := 0) (v := .slice sa m.states.length sc) (by rw [hW]; simp); have f1 := grown_cell (w := W) (b := w.heap.size) (o := 1) (v := .slice ea m.edges.length ec) (by rw [hW]; simp); have f2 := grown_cell (w := W) (b := w.heap.size) (o := 2) (v := .int .i64 m.start) (by rw [hW]; simp); have HBW := hide (HGO.out W _ hW); have hlw : w.heap.size < W.heap.size := (by rw [hW]; simp); clear hW; (repeat (go_big_quiet_step (first
        | (go_at_call 18; exact grown_more (machine_right_at HQ1.out _ _ HF.out ((HV.out _ HBW.out).carry (Grown.bel _))))))); refine wpQuiet_nil ?_; intro w1 hw1; have b0 := f0 ⟨w1, hw1⟩; have b1 := f1 ⟨w1, hw1⟩; have b2 := f2 ⟨w1, hw1⟩; dsimp only at b0 b1 b2; have HW : Hid (Below w.heap.size w w1) := hide (HBW.out.trans (hw1.mono HBW.out.size)); have hlw1 : w.heap.size < w1.heap.size := Nat.lt_of_lt_of_le hlw hw1.size; have HW1 := hide hw1; clear hw1 hne f0 f1 f2)
        | (go_at_call 19; refine (graph_of m _ _ HQ1.out HF.out (HV.out _ HW.out)).mono ?_; rintro e w2 ⟨sv, b, rfl, hs2, hg2, -, hb2⟩; obtain ⟨p2, c2, rfl⟩ := hs2.shape; have HG2 := hide hg2; have HB2 : Hid (Below w1.heap.size w1 w2) := hide hb2; have d2 := (hb2.cell (p := ⟨w.heap.size, 2, none⟩) hlw1).trans b2; have hlw2 : w.heap.size < w2.heap.size := Nat.lt_of_lt_of_le hlw1 hb2.size; clear hs2 hg2 hb2))
      refine wp_letter (fun W3 hW3 => ?_)
      have HW3 : Hid (Below w.heap.size w W3) := hide (by rw [hW3]; exact (HW.out.trans (HB2.out.mono HW.out.size)).trans ((malloc1 _ _).mono (Nat.le_of_lt hlw2)))
      have k0 : W3.cell? ⟨w2.heap.size, 0, none⟩ = some (.slice p2 m.states.length c2) := by rw [hW3]; simp
      have k1 : W3.cell? ⟨w2.heap.size, 1, none⟩ = some (.map (some b)) := by rw [hW3]; simp
      have hz3 : w2.heap.size < W3.heap.size := by rw [hW3]; simp
      have HG3 : Hid (GraphAt W3 m m.edges b m.edges.length) := hide (by rw [hW3]; exact HG2.out.keep (below_apart (malloc1 _ _)) (by simp))
      clear hW3
      go_loopw [6, 23] (fun st i wr => ∃ (k : Nat) (z : Int), k ≤ l.length ∧ i = .int .i64 k ∧ st = .int .i64 z ∧ 0 ≤ z ∧ z < (m.states.length : Int) ∧ followK m z (l.drop k) k = followK m m.start l 0 ∧ Below W3.heap.size W3 wr) (fun _ i _ => l.length - (intOf i).toNat)
      case atStart => exact ⟨0, m.start, Nat.zero_le _, rfl, rfl, HSR.out.1, HSR.out.2, rfl, Below.refl _ _⟩
      case round =>
        obtain ⟨k, z, hk, rfl, rfl, hz0, hz1, hfk, hbel⟩ := hrel
        have HFK := hide hfk
        have HBEL := hide hbel
        have c0 := (hbel.cell (p := ⟨w2.heap.size, 0, none⟩) hz3).trans k0
        have c1 := (hbel.cell (p := ⟨w2.heap.size, 1, none⟩) hz3).trans k1
        have hzr : w2.heap.size < wr.heap.size := Nat.lt_of_lt_of_le hz3 hbel.size
        have HGR := hide (HG3.out.keep (below_apart hbel) (by simp))
        have HWR : Hid (Below w.heap.size w wr) := hide (HW3.out.trans (hbel.mono HW3.out.size))
        clear hfk hbel
        by_cases hlt : k < l.length
        · obtain ⟨bl, o, rfl, hbB, hrow⟩ := HLR.out (by intro h; simp [h] at hlt)
          have hnode := (hrow.get k hlt).carry hbB HWR.out
          obtain ⟨a1, ha1⟩ : ∃ a1, a1 = l[k] := ⟨_, rfl⟩
          have HA1 := hide (HAR.out a1 (by rw [ha1]; exact List.getElem_mem hlt))
          rw [← ha1] at hnode
          obtain ⟨nx, hnx⟩ : ∃ nx, stepF m z a1 = nx := ⟨_, rfl⟩
          have HNX := hide hnx
          have hrg := HRG.out z a1
          rw [hnx] at hrg
          have HST : Hid (followK m z (l.drop k) k = if nx < 0 then -1 - (k : Int) else followK m nx (l.drop (k + 1)) (k + 1)) := hide (by rw [follow_drop hlt, ← ha1, hnx])
          obtain ⟨e0, e1, e2, e3⟩ := hnode
          have HZB : Hid (i64B z) := hide (by have := HN40.out; constructor <;> omega)
          have rc0 := fun A => ((malloc1 wr A).cell (p := ⟨w2.heap.size, 0, none⟩) hzr).trans c0
          have rc1 := fun A => ((malloc1 wr A).cell (p := ⟨w2.heap.size, 1, none⟩) hzr).trans c1
          clear ha1 hrow hnx
          rcases hrg with hneg | ⟨hp0, hp1⟩
          · subst hneg
            go_wp2_with (go_at_call 20; refine (graph_step (a := a1) HNX.out HQ1.out _ _ _ _ _ _ (HGR.out.keep (below_apart (malloc1 _ _)) (by simp)) HZB.out HA1.out.1 HA1.out.2).mono ?_; rintro e w4 ⟨rfl, hb4⟩; have HB4 : Hid (Below wr.heap.size wr w4) := hide ((malloc1 _ _).trans (hb4.mono (by simp))); clear hb4)
            go_ret
            exact ⟨ret_int (by rw [HR.out, ← HFK.out, HST.out]; simp), HWR.out.trans (HB4.out.mono HWR.out.size)⟩
          · have hnx1 : (nx == -1) = false := by simp; omega
            go_wp2_with (go_at_call 20; refine (graph_step (a := a1) HNX.out HQ1.out _ _ _ _ _ _ (HGR.out.keep (below_apart (malloc1 _ _)) (by simp)) HZB.out HA1.out.1 HA1.out.2).mono ?_; rintro e w4 ⟨rfl, hb4⟩; have HB4 : Hid (Below wr.heap.size wr w4) := hide ((malloc1 _ _).trans (hb4.mono (by simp))); clear hb4)
            go_roundw
            case rel => exact ⟨k + 1, nx, hlt, by go_num, rfl, hp0, hp1, by rw [← HFK.out, HST.out, if_neg (by omega)], HBEL.out.trans (HB4.out.mono HBEL.out.size)⟩
            case measure => simp [intOf]; omega
        · go_wp2_with fail
          go_ret
          refine ⟨ret_int ?_, HWR.out⟩
          rw [HR.out, ← HFK.out, List.drop_eq_nil_of_le (by omega)]
          rfl
end Go.Proofs.Ytlbcnmcfljaijaa
