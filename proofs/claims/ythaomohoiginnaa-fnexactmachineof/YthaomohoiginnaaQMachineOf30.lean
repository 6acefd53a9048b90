/- The machine of a right part: the edges in their order. -/
import Derived.Test.YthaomohoiginnaaQMachineOf29
namespace Go.Proofs.Ythaomohoiginnaa
open Go.RowKit

def Up (l : List REdge) : Prop := l.Pairwise fun a b => mlessE b a = false
theorem bl_irrefl : ∀ x : List UInt8, Op.bytesLess x x = false
  | [] => rfl
  | a :: x => by simp [Op.bytesLess, bl_irrefl x]
theorem bl_trans : ∀ x y z : List UInt8, Op.bytesLess x y = true → Op.bytesLess y z = true → Op.bytesLess x z = true
  | _, [], _, h, _ => by simp [Op.bytesLess] at h
  | _, _ :: _, [], _, h => by simp [Op.bytesLess] at h
  | [], _ :: _, _ :: _, _, _ => rfl
  | a :: x, b :: y, c :: z, h1, h2 => by
    simp only [Op.bytesLess, Bool.or_eq_true, Bool.and_eq_true, decide_eq_true_eq, beq_iff_eq] at h1 h2 ⊢
    rcases h1 with h1 | ⟨rfl, h1⟩
    · rcases h2 with h2 | ⟨rfl, h2⟩
      · exact .inl (UInt8.lt_trans h1 h2)
      · exact .inl h1
    · rcases h2 with h2 | ⟨rfl, h2⟩
      · exact .inl h2
      · exact .inr ⟨rfl, bl_trans x y z h1 h2⟩
theorem bl_total : ∀ x y : List UInt8, Op.bytesLess x y = false → Op.bytesLess y x = false → x = y
  | [], [], _, _ => rfl
  | [], _ :: _, h, _ => by simp [Op.bytesLess] at h
  | _ :: _, [], _, h => by simp [Op.bytesLess] at h
  | a :: x, b :: y, h1, h2 => by
    simp only [Op.bytesLess, Bool.or_eq_false_iff, Bool.and_eq_false_iff, decide_eq_false_iff_not, UInt8.not_lt] at h1 h2
    have hab : a = b := UInt8.le_antisymm h2.1 h1.1
    subst hab
    have e1 : Op.bytesLess x y = false := by rcases h1.2 with h | h <;> simp_all
    have e2 : Op.bytesLess y x = false := by rcases h2.2 with h | h <;> simp_all
    rw [bl_total x y e1 e2]
theorem el_trans {a b c : REdge} (h1 : mlessE a b = true) (h2 : mlessE b c = true) : mlessE a c = true := by
  simp only [mlessE, Bool.or_eq_true, Bool.and_eq_true, decide_eq_true_eq, beq_iff_eq] at h1 h2 ⊢
  rcases h1 with h1 | ⟨e1, h1⟩
  · rcases h2 with h2 | ⟨e2, h2⟩
    · exact .inl (by omega)
    · exact .inl (by omega)
  · rcases h2 with h2 | ⟨e2, h2⟩
    · exact .inl (by omega)
    · exact .inr ⟨by omega, bl_trans _ _ _ h1 h2⟩
theorem el_total {a b : REdge} (h1 : mlessE a b = false) (h2 : mlessE b a = false) : a.src = b.src ∧ a.label = b.label := by
  simp only [mlessE, Bool.or_eq_false_iff, Bool.and_eq_false_iff, decide_eq_false_iff_not] at h1 h2
  have hs : a.src = b.src := by omega
  refine ⟨hs, ?_⟩
  have e1 : Op.bytesLess a.label.toList b.label.toList = false := by rcases h1.2 with h | h; simp [hs] at h; exact h
  have e2 : Op.bytesLess b.label.toList a.label.toList = false := by rcases h2.2 with h | h; simp [hs] at h; exact h
  exact toList_eq_iff.1 (by rw [bl_total _ _ e1 e2]; simp)
theorem el_irrefl (a : REdge) : mlessE a a = false := by simp [mlessE, bl_irrefl]
/-- not less, one behind the other -/
theorem el_ge {a b c : REdge} (h1 : mlessE b a = false) (h2 : mlessE c b = false) : mlessE c a = false := by
  cases h : mlessE c a
  · rfl
  · exfalso
    cases hb : mlessE a b
    · obtain ⟨q1, q2⟩ := el_total hb h1
      have : mlessE c b = mlessE c a := by simp [mlessE, q1, q2]
      rw [this, h] at h2; cases h2
    · rw [el_trans h hb] at h2; cases h2
theorem up_ins (e : REdge) : ∀ {l : List REdge}, Up l → Up (insE e l)
  | [], _ => by simp [insE, Up]
  | x :: l, h => by
    unfold insE
    rw [List.takeWhile_cons, List.dropWhile_cons]
    obtain ⟨h1, h2⟩ := List.pairwise_cons.1 h
    by_cases hx : mlessE x e = true
    · rw [if_pos hx, if_pos hx, List.cons_append]
      have ih := up_ins e h2
      refine List.pairwise_cons.2 ⟨fun y hy => ?_, ih⟩
      have hy' : y ∈ e :: l := (ins_perm e l).mem_iff.1 hy
      rcases List.mem_cons.1 hy' with rfl | hy'
      · cases hq : mlessE y x
        · rfl
        · have := el_trans hx hq; rw [el_irrefl] at this; cases this
      · exact h1 y hy'
    · rw [if_neg hx, if_neg hx, List.nil_append]
      refine List.pairwise_cons.2 ⟨fun y hy => ?_, h⟩
      have hx' : mlessE x e = false := by simpa using hx
      rcases List.mem_cons.1 hy with rfl | hy
      · exact hx'
      · exact el_ge hx' (h1 y hy)
theorem up_kids {go : List Nd → List RState × List REdge → List Nd × List RState × List REdge} {fst : List Nd → Nat → Int} (hgo : ∀ l S, Up S.2 → Up (go l S).2.2) (s : Int) : ∀ (m : Nat) (l : List Nd) (S : List RState × List REdge), Up S.2 → Up (svKids go fst s m l S).2.2
  | 0, _, _, h => h
  | _ + 1, [], _, h => h
  | m + 1, c :: l, S, h => by
    rw [svKids]
    exact up_kids hgo s m _ _ (hgo _ _ (up_ins _ h))
theorem up_sv : ∀ (f : Nat) (ns : List ByteArray) (fis : List Int) (l : List Nd) (S : List RState × List REdge), Up S.2 → Up (sv f ns fis l S).2.2 := by
  intro f
  induction f with
  | zero =>
    intro ns fis l S h
    cases l with
    | nil => exact h
    | cons n l => rw [sv]; split <;> exact h
  | succ f ih =>
    intro ns fis l S h
    cases l with
    | nil => exact h
    | cons n l =>
      rw [sv]
      split
      · exact h
      · split
        · exact ih _ _ _ _ h
        · exact up_kids (ih ns fis) _ _ _ _ h
theorem up_one : ∀ {l l' : List REdge}, l.Perm l' → l.Pairwise (fun a b => ¬ (a.src = b.src ∧ a.label = b.label)) → Up l → Up l' → l = l'
  | [], l', hp, _, _, _ => (List.Perm.nil_eq hp)
  | a :: l, [], hp, _, _, _ => by have := hp.length_eq; simp at this
  | a :: l, b :: l', hp, hd, h1, h2 => by
    have hab : a = b := by
      rcases List.mem_cons.1 (hp.mem_iff.1 (List.mem_cons_self)) with h | h
      · exact h
      · rcases List.mem_cons.1 (hp.mem_iff.2 (List.mem_cons_self (a := b) (l := l'))) with h' | h'
        · exact h'.symm
        · have e1 := (List.pairwise_cons.1 h1).1 b h'
          have e2 := (List.pairwise_cons.1 h2).1 a h
          exact absurd (el_total e2 e1) ((List.pairwise_cons.1 hd).1 b h')
    subst hab
    rw [up_one (List.Perm.cons_inv hp) (List.pairwise_cons.1 hd).2 (List.pairwise_cons.1 h1).2 (List.pairwise_cons.1 h2).2]
def wvO (ns : List Nd) : Int × List Nd × Wv := wv 10 ns ⟨[], [], fun _ => 0⟩
def svO (ns : List Nd) : List Nd × List RState × List REdge := sv 10 [] [] ns ([], [])
def machP (ns : List Nd) : Mach := ⟨(svO ns).2.1, (svO ns).2.2, firstOf [] [] 0 ns⟩
theorem mach_one {ns : List Nd} (h : ahead (talkS true) 10 [] ns = some []) {es : List REdge} (hp : es.Perm (wvO ns).2.2.eds) (hu : Up es) : (wvO ns).2.1 = [] ∧ machP ns = ⟨(wvO ns).2.2.sts, es, (wvO ns).1⟩ := by
  have hinv : Inv [] ns (fun _ => 0) [] [] := ⟨rfl, rfl, (fun t ht => by cases ht), (fun _ t ht => by cases ht)⟩
  obtain ⟨e1, new, fs', sts', E', ho, hq, hpe, _, _⟩ := wv_ok 10 [] ns [] (fun _ => 0) [] [] [] [] [] h trivial hinv
  obtain ⟨new2, fs2, sts2, i, ho2, _, hn⟩ := new_ok 10 [] ns [] (fun _ => 0) [] [] h
  have hw : wvO ns = (i, [], ⟨sts2, [] ++ new2, fs2⟩) := ho2
  have hs : svO ns = ([], sts', E') := hq
  rw [ho2] at ho
  simp only [List.nil_append, Prod.mk.injEq, Wv.mk.injEq, true_and] at ho
  obtain ⟨rfl, rfl, rfl⟩ := ho
  rw [ho2] at e1
  simp only at e1
  refine ⟨by rw [hw], ?_⟩
  have hE : E' = es := by
    refine (up_one (l := es) (l' := E') ?_ ?_ hu ?_).symm
    · rw [hw] at hp
      simp only [List.nil_append] at hp
      exact hp.trans (by simpa using hpe.symm)
    · rw [hw] at hp
      simp only [List.nil_append] at hp
      exact hn.two.perm hp.symm (fun h hk => h ⟨hk.1.symm, hk.2.symm⟩)
    · have := up_sv 10 [] [] ns ([], []) (List.Pairwise.nil)
      have e : (sv 10 [] [] ns ([], [])).2.2 = E' := by rw [hq]
      rwa [e] at this
  unfold machP
  rw [hs, hw, hE, e1]
  rfl
end Go.Proofs.Ythaomohoiginnaa
/- The machine of a right part: how much is made. -/
namespace Go.Proofs.Ythaomohoiginnaa
open Go.RowKit

structure Grows (l r : List Nd) (W W' : Wv) : Prop where
  sts : W'.sts.length + r.length ≤ W.sts.length + l.length
  eds : W'.eds.length + r.length ≤ W.eds.length + l.length
def LenOk (f : Nat) : Prop := ∀ (st l r : List Nd) (W : Wv), ahead (talkS true) f st l = some r → (wv f l W).2.1 = r ∧ Grows l r W (wv f l W).2.2
theorem kids_len {f : Nat} (hf : LenOk f) (st : List Nd) (s : Int) : ∀ (m : Nat) (ls : List ByteArray) (l r : List Nd) (W : Wv), kidsBy (ahead (talkS true) f st) m ls l = some r → (wvKids (wv f) s m l W).1 = r ∧ Grows l r W (wvKids (wv f) s m l W).2
  | 0, ls, l, r, W, h => by
    rw [kidsBy] at h
    injection h with h
    subst h
    exact ⟨rfl, by simp [wvKids], by simp [wvKids]⟩
  | m + 1, ls, [], r, W, h => by cases h
  | m + 1, ls, c :: l, r, W, h => by
    rw [kidsBy] at h
    split at h
    · split at h
      · cases h
      · rename_i r1 hr1
        obtain ⟨e1, g1⟩ := hf st l r1 W hr1
        rw [wvKids, e1]
        obtain ⟨e2, g2⟩ := kids_len hf st s m (ls ++ [c.name]) r1 r ⟨(wv f l W).2.2.sts, (wv f l W).2.2.eds ++ [⟨s, c.name, c.sort, (wv f l W).1⟩], (wv f l W).2.2.fs⟩ h
        refine ⟨e2, ?_, ?_⟩
        · have := g1.sts; have := g2.sts; simp only [List.length_cons] at *; omega
        · have := g1.eds; have := g2.eds; simp only [List.length_cons, List.length_append, List.length_nil] at *; omega
    · cases h
theorem len_ok : ∀ f : Nat, LenOk f := by
  intro f
  induction f with
  | zero =>
    intro st l r W h
    cases l with
    | nil => cases h
    | cons n l =>
      rw [wv]
      by_cases h1 : (n.op == 1) = true
      · rw [if_pos h1]
        rw [ahead_1 (by simpa using h1)] at h
        split at h
        · injection h with h
          subst h
          exact ⟨rfl, by simp, by simp⟩
        · cases h
      · rw [if_neg h1]
        by_cases h0 : n.op = 0
        · rw [ahead_0 h0] at h
          split at h
          · injection h with h
            subst h
            exact ⟨rfl, by simp; omega, by simp⟩
          · cases h
        · rw [ahead_t0 h0 (by simpa using h1)] at h; cases h
  | succ f ih =>
    intro st l r W h
    cases l with
    | nil => cases h
    | cons n l =>
      rw [wv]
      by_cases h1 : (n.op == 1) = true
      · rw [if_pos h1]
        rw [ahead_1 (by simpa using h1)] at h
        split at h
        · injection h with h
          subst h
          exact ⟨rfl, by simp, by simp⟩
        · cases h
      · rw [if_neg h1]
        by_cases h2 : (n.op == 2) = true
        · rw [if_pos h2]
          rw [ahead_2 (by simpa using h2)] at h
          split at h
          · obtain ⟨e, g⟩ := ih (n :: st) l r ⟨W.sts, W.eds, fun x => if x = n.name then (W.sts.length : Int) else W.fs x⟩ h
            refine ⟨e, ?_, ?_⟩
            · have := g.sts; simp only [List.length_cons] at *; omega
            · have := g.eds; simp only [List.length_cons] at *; omega
          · cases h
        · rw [if_neg h2]
          by_cases h0 : n.op = 0
          · rw [ahead_0 h0] at h
            split at h
            · rename_i hb
              injection h with h
              subst h
              have hm : n.many.toNat = 0 := by
                simp only [endB, Bool.and_eq_true, beq_iff_eq] at hb
                rw [hb.1.2]; rfl
              rw [hm, wvKids]
              exact ⟨rfl, by simp; omega, by simp⟩
            · cases h
          · rw [ahead_t h0 (by simpa using h1) (by simpa using h2)] at h
            split at h
            · obtain ⟨e, g⟩ := kids_len ih (n :: st) (W.sts.length : Int) n.many.toNat [] l r ⟨W.sts ++ [⟨kindW n.op, n.peer⟩], W.eds, W.fs⟩ h
              refine ⟨e, ?_, ?_⟩
              · have := g.sts; simp only [List.length_cons, List.length_append, List.length_nil] at *; omega
              · have := g.eds; simp only [List.length_cons] at *; omega
            · cases h
end Go.Proofs.Ythaomohoiginnaa
