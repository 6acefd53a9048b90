import Derived.Test.YtlbcnmcfljaijaaQF06
import Derived.Test.YtlbcnmcfljaijaaQF04
namespace Go.Proofs.Ytlbcnmcfljaijaa
open Go.RowKit

structure Wv where
  sts : List RState
  eds : List REdge
  fs : ByteArray → Int
def kindW (op : Int) : Int := if op == 5 then 1 else if op == 6 then 2 else 0
def wvKids (go : List Nd → Wv → Int × List Nd × Wv) (s : Int) : Nat → List Nd → Wv → List Nd × Wv
  | 0, l, W => (l, W)
  | _ + 1, [], W => ([], W)
  | k + 1, c :: l, W => wvKids go s k (go l W).2.1 ⟨(go l W).2.2.sts, (go l W).2.2.eds ++ [⟨s, c.name, c.sort, (go l W).1⟩], (go l W).2.2.fs⟩
def wv : Nat → List Nd → Wv → Int × List Nd × Wv
  | _, [], W => (0, [], W)
  | 0, n :: l, W => if n.op == 1 then (W.fs n.name, l, W) else ((W.sts.length : Int), l, ⟨W.sts ++ [⟨kindW n.op, n.peer⟩], W.eds, W.fs⟩)
  | f + 1, n :: l, W => if n.op == 1 then (W.fs n.name, l, W)
    else if n.op == 2 then wv f l ⟨W.sts, W.eds, fun x => if x = n.name then (W.sts.length : Int) else W.fs x⟩
    else ((W.sts.length : Int), wvKids (wv f) (W.sts.length : Int) n.many.toNat l ⟨W.sts ++ [⟨kindW n.op, n.peer⟩], W.eds, W.fs⟩)
def lookN : List ByteArray → List Int → ByteArray → Int
  | x :: ns, z :: fis, t => if x.toList == t.toList then z else lookN ns fis t
  | _, _, _ => 0
def firstOf (ns : List ByteArray) (fis : List Int) (len : Int) : List Nd → Int
  | [] => 0
  | n :: l => if n.op == 1 then lookN ns fis n.name else if n.op == 2 then firstOf ns fis len l else len
def insE (e : REdge) (l : List REdge) : List REdge := l.takeWhile (fun x => mlessE x e) ++ e :: l.dropWhile (fun x => mlessE x e)
def svKids (go : List Nd → List RState × List REdge → List Nd × List RState × List REdge) (fst : List Nd → Nat → Int) (s : Int) : Nat → List Nd → List RState × List REdge → List Nd × List RState × List REdge
  | 0, l, S => (l, S)
  | _ + 1, [], S => ([], S)
  | k + 1, c :: l, S => svKids go fst s k (go l (S.1, insE ⟨s, c.name, c.sort, fst l S.1.length⟩ S.2)).1 (go l (S.1, insE ⟨s, c.name, c.sort, fst l S.1.length⟩ S.2)).2
def sv : Nat → List ByteArray → List Int → List Nd → List RState × List REdge → List Nd × List RState × List REdge
  | _, _, _, [], S => ([], S)
  | 0, _, _, n :: l, S => if n.op == 1 then (l, S) else (l, S.1 ++ [⟨kindW n.op, n.peer⟩], S.2)
  | f + 1, ns, fis, n :: l, S => if n.op == 1 then (l, S)
    else if n.op == 2 then sv f (ns ++ [n.name]) (fis ++ [firstOf (ns ++ [n.name]) (fis ++ [0]) S.1.length l]) l S
    else svKids (sv f ns fis) (fun l k => firstOf ns fis k l) (S.1.length : Int) n.many.toNat l (S.1 ++ [⟨kindW n.op, n.peer⟩], S.2)
def chainV : List Nd → Bool
  | [] => false
  | n :: l => if n.op == 1 then true else if n.op == 2 then chainV l else false
structure Inv (st l : List Nd) (fs : ByteArray → Int) (ns : List ByteArray) (fis : List Int) : Prop where
  names : ns = recsOf st
  len : fis.length = ns.length
  said : ∀ t, backB false st t = true → fs t = lookN ns fis t
  open_ : chainV l = false → ∀ t, withinB st t = true → fs t = lookN ns fis t
theorem ahead_chain {T : Nd → Bool} : ∀ (f : Nat) (st l r : List Nd), ahead T f st l = some r → ¬ (∀ n ∈ l, n.op = 2) := by
  intro f
  induction f with
  | zero =>
    intro st l r h hall
    cases l with
    | nil => cases h
    | cons n l =>
      have h2 := hall n (by simp)
      rw [ahead_20 h2] at h; cases h
  | succ f ih =>
    intro st l r h hall
    cases l with
    | nil => cases h
    | cons n l =>
      have h2 := hall n (by simp)
      rw [ahead_2 h2] at h
      split at h
      · exact ih _ _ _ h (fun m hm => hall m (by simp [hm]))
      · cases h
end Go.Proofs.Ytlbcnmcfljaijaa
namespace Go.Proofs.Ytlbcnmcfljaijaa
open Go.RowKit

theorem look_none : ∀ {ns : List ByteArray} {fis : List Int} {t : ByteArray}, hasB ns t = false → lookN ns fis t = 0
  | [], _, _, _ => by simp [lookN]
  | _ :: _, [], _, _ => by simp [lookN]
  | x :: ns, z :: fis, t, h => by
    simp only [hasB, List.any_cons, Bool.or_eq_false_iff] at h
    rw [lookN, if_neg (by rw [h.1]; simp)]
    exact look_none h.2
structure Same (st : List Nd) (fs : ByteArray → Int) (sts : List RState) (eds E : List REdge) (o : List Nd × Wv) (p : List Nd × List RState × List REdge) (r : List Nd) : Prop where
  ex : ∃ new fs' sts' E', o = (r, ⟨sts', eds ++ new, fs'⟩) ∧ p = (r, sts', E') ∧ E'.Perm (E ++ new) ∧ (∀ t, withinB st t = true → fs' t = fs t) ∧ sts.length ≤ sts'.length
end Go.Proofs.Ytlbcnmcfljaijaa
namespace Go.Proofs.Ytlbcnmcfljaijaa
open Go.RowKit

structure News (lo hi : Nat) (new : List REdge) : Prop where
  rng : ∀ e ∈ new, (lo : Int) ≤ e.src ∧ e.src < (hi : Int)
  two : new.Pairwise fun a b => ¬ (a.src = b.src ∧ a.label = b.label)
end Go.Proofs.Ytlbcnmcfljaijaa
namespace Go.Proofs.Ytlbcnmcfljaijaa
open Go.RowKit

def svO (ns : List Nd) : List Nd × List RState × List REdge := sv 10 [] [] ns ([], [])
def machP (ns : List Nd) : Mach := ⟨(svO ns).2.1, (svO ns).2.2, firstOf [] [] 0 ns⟩
end Go.Proofs.Ytlbcnmcfljaijaa
