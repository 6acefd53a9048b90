import Derived.Test.YtlbcnmcfljaijaaQF19
import Derived.Test.YtlbcnmcfljaijaaQF07
namespace Go.Proofs.Ytlbcnmcfljaijaa
open Go.RowKit

def hdM (ms : List ByteArray) : ByteArray := ms.headD noT
def skM (t : List UInt8) : List ByteArray → Option (List ByteArray)
  | [] => none
  | m :: ms => if m.toList == t then some ms else none
def sortI (w : ByteArray) : Int := if w.toList == [110, 111, 110, 101] then 0 else if w.toList == [105, 110, 116] then 1 else if w.toList == [116, 101, 120, 116] then 2 else -1
def bump (l : List Nd) (i : Nat) : List Nd := l.modify i fun n => { n with many := n.many + 1 }
structure Rs where
  pos : Nat
  ms : List ByteArray
  l : List Nd
  op : List Nat
def talkTo (ms : List ByteArray) (l : List Nd) (op : List Nat) (n : Nd) : Sum (Option (List Nd)) Rs := match skM [123] ms with
  | some ms' => .inr ⟨1, ms', l ++ [n], l.length :: op⟩
  | none => .inl none
def startS (ms : List ByteArray) (l : List Nd) (op : List Nat) : Sum (Option (List Nd)) Rs :=
  if (hdM ms).toList == [101, 110, 100] then .inr ⟨2, ms.tail, l ++ [⟨0, noT, noT, 0, 0⟩], op⟩
  else match (if (hdM ms).toList == [114, 101, 99] then skM [32] ms.tail else none) with
  | some ms2 => match skM [46] ms2.tail with
    | some ms3 => .inr ⟨0, ms3, l ++ [⟨2, hdM ms2, noT, 0, 0⟩], op⟩
    | none => .inl none
  | none => match skM [62] ms.tail with
    | some ms2 => talkTo ms2.tail l op ⟨3, hdM ms, hdM ms2, 0, 0⟩
    | none => match skM [33] ms.tail with
      | some ms2 => talkTo ms2 l op ⟨5, noT, hdM ms, 0, 0⟩
      | none => match skM [63] ms.tail with
        | some ms2 => talkTo ms2 l op ⟨6, noT, hdM ms, 0, 0⟩
        | none => .inr ⟨2, ms.tail, l ++ [⟨1, hdM ms, noT, 0, 0⟩], op⟩
def labelS (ms : List ByteArray) (l : List Nd) (op : List Nat) : Sum (Option (List Nd)) Rs := match skM [40] ms.tail with
  | some ms2 => match skM [41] ms2.tail with
    | some ms3 => match skM [46] ms3 with
      | some ms4 => .inr ⟨0, ms4, bump l (op.headD 0) ++ [⟨4, hdM ms, noT, 0, sortI (hdM ms2)⟩], op⟩
      | none => .inl none
    | none => .inl none
  | none => .inl none
def behindS (ms : List ByteArray) (l : List Nd) : List Nat → Sum (Option (List Nd)) Rs
  | [] => .inl (if ms.isEmpty then some l else none)
  | o :: op => match skM [44] ms with
    | some ms' => .inr ⟨1, ms', l, o :: op⟩
    | none => match skM [125] ms with
      | some ms' => .inr ⟨2, ms', l, op⟩
      | none => .inl none
def stepR (s : Rs) : Sum (Option (List Nd)) Rs := if s.pos = 0 then startS s.ms s.l s.op else if s.pos = 1 then labelS s.ms s.l s.op else behindS s.ms s.l s.op
def runR : Nat → Rs → Option (List Nd)
  | 0, _ => none
  | f + 1, s => match stepR s with
    | .inl r => r
    | .inr s' => runR f s'
def measR (s : Rs) : Nat := 3 * s.ms.length + (if s.pos = 2 then 0 else 1)
theorem skM_some {t : List UInt8} {ms ms' : List ByteArray} (h : skM t ms = some ms') : ms = ba t :: ms' := by
  cases ms with
  | nil => cases h
  | cons m ms =>
    rw [skM] at h
    split at h
    · rename_i he
      injection h with h
      subst h
      rw [beq_iff_eq] at he
      congr 1
      apply tl_inj
      rw [he, Go.ByteArray.toList_eq]
      simp [ba]
    · cases h
theorem skM_ba (t : List UInt8) (ms : List ByteArray) : skM t (ba t :: ms) = some ms := by
  rw [skM, if_pos (by rw [beq_iff_eq, Go.ByteArray.toList_eq]; simp [ba])]
theorem skM_len {t : List UInt8} {ms ms' : List ByteArray} (h : skM t ms = some ms') : ms.length = ms'.length + 1 := by rw [skM_some h]; rfl
theorem tail_le (ms : List ByteArray) : ms.tail.length ≤ ms.length := by cases ms <;> simp
theorem step_meas {s s' : Rs} (h : stepR s = .inr s') : measR s' < measR s := by
  obtain ⟨pos, ms, l, op⟩ := s
  have hT := tail_le ms
  unfold stepR at h
  dsimp only at h
  split at h
  · rename_i h0
    subst h0
    have key : ∀ ms2 n, ms2.length + 1 ≤ ms.length → talkTo ms2 l op n = .inr s' → measR s' < 3 * ms.length + 1 := fun ms2 n h1 h2 => by
      unfold talkTo at h2
      split at h2
      · rename_i ms3 h3
        have := skM_len h3
        injection h2 with h2
        subst h2
        simp [measR]
        omega
      · cases h2
    unfold startS at h
    simp only [measR, if_neg (show ¬ (0 : Nat) = 2 by omega)]
    have hne : ∀ t : List UInt8, t ≠ [] → ((hdM ms).toList == t) = true → ms.tail.length + 1 = ms.length := fun t ht he => by
      cases ms with
      | nil => rw [beq_iff_eq] at he; exact absurd (he.symm.trans (by rw [Go.ByteArray.toList_eq]; rfl)) ht
      | cons a b => simp
    split at h
    · rename_i he
      have := hne _ (by simp) he
      injection h with h
      subst h
      simp
      omega
    · split at h
      · rename_i ms2 h2
        split at h2
        · have e2 := skM_len h2
          have e2' := tail_le ms2
          split at h
          · rename_i ms3 h3
            have := skM_len h3
            injection h with h
            subst h
            simp
            omega
          · cases h
        · cases h2
      · split at h
        · rename_i ms2 h2
          have e2 := skM_len h2
          have e2' := tail_le ms2
          exact key _ _ (by omega) h
        · split at h
          · rename_i ms2 h2
            have e2 := skM_len h2
            exact key _ _ (by omega) h
          · split at h
            · rename_i ms2 h2
              have e2 := skM_len h2
              exact key _ _ (by omega) h
            · injection h with h
              subst h
              simp
              omega
  · split at h
    · rename_i h0 h1
      subst h1
      unfold labelS at h
      split at h
      · rename_i ms2 h2
        have e2 := skM_len h2
        have e2' := tail_le ms2
        split at h
        · rename_i ms3 h3
          have e3 := skM_len h3
          split at h
          · rename_i ms4 h4
            have e4 := skM_len h4
            injection h with h
            subst h
            simp [measR]
            omega
          · cases h
        · cases h
      · cases h
    · rename_i h0 h1
      have hm : 3 * ms.length ≤ measR ⟨pos, ms, l, op⟩ := by simp [measR]
      cases op with
      | nil => cases h
      | cons o op =>
        rw [behindS] at h
        split at h
        · rename_i ms' h2
          have e2 := skM_len h2
          injection h with h
          subst h
          refine Nat.lt_of_lt_of_le ?_ hm
          simp [measR]
          omega
        · split at h
          · rename_i ms' h2
            have e2 := skM_len h2
            injection h with h
            subst h
            refine Nat.lt_of_lt_of_le ?_ hm
            simp [measR]
            omega
          · cases h
theorem run_more : ∀ (f f' : Nat) (s : Rs), measR s < f → measR s < f' → runR f s = runR f' s := by
  intro f
  induction f with
  | zero => intro f' s h; omega
  | succ f ih =>
    intro f' s h h'
    cases f' with
    | zero => omega
    | succ f' =>
      rw [runR, runR]
      cases hs : stepR s with
      | inl r => rfl
      | inr s' =>
        have := step_meas hs
        exact ih f' s' (by omega) (by omega)
def readR (s : Rs) : Option (List Nd) := runR (measR s + 1) s
theorem read_step {s s' : Rs} (h : stepR s = .inr s') : readR s = readR s' := by
  unfold readR
  have hm := step_meas h
  rw [runR, h]
  exact run_more _ _ _ (by omega) (by omega)
end Go.Proofs.Ytlbcnmcfljaijaa
namespace Go.Proofs.Ytlbcnmcfljaijaa
open Go.RowKit

def goodN (n : Nd) : Prop := n.op = 0 ∨ (n.op = 1 ∧ wordB n.name = true) ∨ (n.op = 2 ∧ wordB n.name = true) ∨ (n.op = 3 ∧ wordB n.name = true ∧ wordB n.peer = true) ∨ (n.op = 4 ∧ wordB n.name = true ∧ sortB n.sort = true) ∨ ((n.op = 5 ∨ n.op = 6) ∧ wordB n.peer = true)
def tokS (n : Nd) : List ByteArray :=
  if n.op = 0 then [ba [101, 110, 100]] else if n.op = 1 then [n.name] else if n.op = 2 then [ba [114, 101, 99], ba [32], n.name, ba [46]]
  else if n.op = 5 then [n.peer, ba [33], ba [123]] else if n.op = 6 then [n.peer, ba [63], ba [123]] else [n.name, ba [62], n.peer, ba [123]]
def tokC (n : Nd) : List ByteArray := [n.name, ba [40], sortT n.sort, ba [41], ba [46]]
theorem wordT_ne {t : ByteArray} (h : wordB t = true) : t.toList ≠ [] := fun e => by
  simp only [wordB, nameB, Bool.and_eq_true, decide_eq_true_eq] at h
  have : t.size = 0 := by
    have h2 : t.toList.length = t.size := by rw [Go.ByteArray.toList_eq]; rfl
    rw [e] at h2
    exact h2.symm
  omega
end Go.Proofs.Ytlbcnmcfljaijaa
namespace Go.Proofs.Ytlbcnmcfljaijaa
open Go.RowKit

structure OkR (s : Rs) : Prop where
  lt : ∀ i ∈ s.op, i < s.l.length
  pw : s.op.Pairwise (· > ·)
  ne : s.pos = 1 → s.op ≠ []
theorem bump_len (l : List Nd) (i : Nat) : (bump l i).length = l.length := by simp [bump]
theorem step_start {s : Rs} (h : s.pos = 0) : stepR s = startS s.ms s.l s.op := by unfold stepR; rw [if_pos h]
theorem step_label {s : Rs} (h : s.pos = 1) : stepR s = labelS s.ms s.l s.op := by unfold stepR; rw [if_neg (by omega), if_pos h]
theorem step_behind {s : Rs} (h : s.pos ≠ 0) (h' : s.pos ≠ 1) : stepR s = behindS s.ms s.l s.op := by unfold stepR; rw [if_neg h, if_neg h']
end Go.Proofs.Ytlbcnmcfljaijaa
