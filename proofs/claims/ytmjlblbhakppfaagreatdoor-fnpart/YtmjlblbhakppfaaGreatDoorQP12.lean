import Derived.Test.YtmjlblbhakppfaaGreatDoorQP11
import Derived.Test.YtmjlblbhakppfaaGreatDoorQP06
namespace Go.Proofs.YtmjlblbhakppfaaGreatDoor
open Go.RowKit

def hdM (ms : List ByteArray) : ByteArray := ms.headD noT
def skM (t : List UInt8) : List ByteArray → Option (List ByteArray)
  | [] => none
  | m :: ms => if m.toList == t then some ms else none
def sortI (w : ByteArray) : Int := if w.toList == [110, 111, 110, 101] then 0 else if w.toList == [105, 110, 116] then 1 else if w.toList == [116, 101, 120, 116] then 2 else -1
def bump (l : List Nd) (i : Nat) : List Nd := l.modify i fun n => { n with many := n.many + 1 }
structure Rs where
  pos : Nat
  ms : List ByteArray
  l : List Nd
  op : List Nat
def talkTo (ms : List ByteArray) (l : List Nd) (op : List Nat) (n : Nd) : Sum (Option (List Nd)) Rs := match skM [123] ms with
  | some ms' => .inr ⟨1, ms', l ++ [n], l.length :: op⟩
  | none => .inl none
def startS (ms : List ByteArray) (l : List Nd) (op : List Nat) : Sum (Option (List Nd)) Rs :=
  if (hdM ms).toList == [101, 110, 100] then .inr ⟨2, ms.tail, l ++ [⟨0, noT, noT, 0, 0⟩], op⟩
  else match (if (hdM ms).toList == [114, 101, 99] then skM [32] ms.tail else none) with
  | some ms2 => match skM [46] ms2.tail with
    | some ms3 => .inr ⟨0, ms3, l ++ [⟨2, hdM ms2, noT, 0, 0⟩], op⟩
    | none => .inl none
  | none => match skM [62] ms.tail with
    | some ms2 => talkTo ms2.tail l op ⟨3, hdM ms, hdM ms2, 0, 0⟩
    | none => match skM [33] ms.tail with
      | some ms2 => talkTo ms2 l op ⟨5, noT, hdM ms, 0, 0⟩
      | none => match skM [63] ms.tail with
        | some ms2 => talkTo ms2 l op ⟨6, noT, hdM ms, 0, 0⟩
        | none => .inr ⟨2, ms.tail, l ++ [⟨1, hdM ms, noT, 0, 0⟩], op⟩
def labelS (ms : List ByteArray) (l : List Nd) (op : List Nat) : Sum (Option (List Nd)) Rs := match skM [40] ms.tail with
  | some ms2 => match skM [41] ms2.tail with
    | some ms3 => match skM [46] ms3 with
      | some ms4 => .inr ⟨0, ms4, bump l (op.headD 0) ++ [⟨4, hdM ms, noT, 0, sortI (hdM ms2)⟩], op⟩
      | none => .inl none
    | none => .inl none
  | none => .inl none
def behindS (ms : List ByteArray) (l : List Nd) : List Nat → Sum (Option (List Nd)) Rs
  | [] => .inl (if ms.isEmpty then some l else none)
  | o :: op => match skM [44] ms with
    | some ms' => .inr ⟨1, ms', l, o :: op⟩
    | none => match skM [125] ms with
      | some ms' => .inr ⟨2, ms', l, op⟩
      | none => .inl none
def stepR (s : Rs) : Sum (Option (List Nd)) Rs := if s.pos = 0 then startS s.ms s.l s.op else if s.pos = 1 then labelS s.ms s.l s.op else behindS s.ms s.l s.op
def runR : Nat → Rs → Option (List Nd)
  | 0, _ => none
  | f + 1, s => match stepR s with
    | .inl r => r
    | .inr s' => runR f s'
def measR (s : Rs) : Nat := 3 * s.ms.length + (if s.pos = 2 then 0 else 1)
theorem skM_some {t : List UInt8} {ms ms' : List ByteArray} (h : skM t ms = some ms') : ms = ba t :: ms' := by
  cases ms with
  | nil => cases h
  | cons m ms =>
    rw [skM] at h
    split at h
    · rename_i he
      injection h with h
      subst h
      rw [beq_iff_eq] at he
      congr 1
      apply tl_inj
      rw [he, Go.ByteArray.toList_eq]
      simp [ba]
    · cases h
theorem skM_ba (t : List UInt8) (ms : List ByteArray) : skM t (ba t :: ms) = some ms := by
  rw [skM, if_pos (by rw [beq_iff_eq, Go.ByteArray.toList_eq]; simp [ba])]
theorem skM_len {t : List UInt8} {ms ms' : List ByteArray} (h : skM t ms = some ms') : ms.length = ms'.length + 1 := by rw [skM_some h]; rfl
theorem tail_le (ms : List ByteArray) : ms.tail.length ≤ ms.length := by cases ms <;> simp
theorem step_meas {s s' : Rs} (h : stepR s = .inr s') : measR s' < measR s := by
  obtain ⟨pos, ms, l, op⟩ := s
  have hT := tail_le ms
  unfold stepR at h
  dsimp only at h
  split at h
  · rename_i h0
    subst h0
    have key : ∀ ms2 n, ms2.length + 1 ≤ ms.length → talkTo ms2 l op n = .inr s' → measR s' < 3 * ms.length + 1 := fun ms2 n h1 h2 => by
      unfold talkTo at h2
      split at h2
      · rename_i ms3 h3
        have := skM_len h3
        injection h2 with h2
        subst h2
        simp [measR]
        omega
      · cases h2
    unfold startS at h
    simp only [measR, if_neg (show ¬ (0 : Nat) = 2 by omega)]
    have hne : ∀ t : List UInt8, t ≠ [] → ((hdM ms).toList == t) = true → ms.tail.length + 1 = ms.length := fun t ht he => by
      cases ms with
      | nil => rw [beq_iff_eq] at he; exact absurd (he.symm.trans (by rw [Go.ByteArray.toList_eq]; rfl)) ht
      | cons a b => simp
    split at h
    · rename_i he
      have := hne _ (by simp) he
      injection h with h
      subst h
      simp
      omega
    · split at h
      · rename_i ms2 h2
        split at h2
        · have e2 := skM_len h2
          have e2' := tail_le ms2
          split at h
          · rename_i ms3 h3
            have := skM_len h3
            injection h with h
            subst h
            simp
            omega
          · cases h
        · cases h2
      · split at h
        · rename_i ms2 h2
          have e2 := skM_len h2
          have e2' := tail_le ms2
          exact key _ _ (by omega) h
        · split at h
          · rename_i ms2 h2
            have e2 := skM_len h2
            exact key _ _ (by omega) h
          · split at h
            · rename_i ms2 h2
              have e2 := skM_len h2
              exact key _ _ (by omega) h
            · injection h with h
              subst h
              simp
              omega
  · split at h
    · rename_i h0 h1
      subst h1
      unfold labelS at h
      split at h
      · rename_i ms2 h2
        have e2 := skM_len h2
        have e2' := tail_le ms2
        split at h
        · rename_i ms3 h3
          have e3 := skM_len h3
          split at h
          · rename_i ms4 h4
            have e4 := skM_len h4
            injection h with h
            subst h
            simp [measR]
            omega
          · cases h
        · cases h
      · cases h
    · rename_i h0 h1
      have hm : 3 * ms.length ≤ measR ⟨pos, ms, l, op⟩ := by simp [measR]
      cases op with
      | nil => cases h
      | cons o op =>
        rw [behindS] at h
        split at h
        · rename_i ms' h2
          have e2 := skM_len h2
          injection h with h
          subst h
          refine Nat.lt_of_lt_of_le ?_ hm
          simp [measR]
          omega
        · split at h
          · rename_i ms' h2
            have e2 := skM_len h2
            injection h with h
            subst h
            refine Nat.lt_of_lt_of_le ?_ hm
            simp [measR]
            omega
          · cases h
theorem run_more : ∀ (f f' : Nat) (s : Rs), measR s < f → measR s < f' → runR f s = runR f' s := by
  intro f
  induction f with
  | zero => intro f' s h; omega
  | succ f ih =>
    intro f' s h h'
    cases f' with
    | zero => omega
    | succ f' =>
      rw [runR, runR]
      cases hs : stepR s with
      | inl r => rfl
      | inr s' =>
        have := step_meas hs
        exact ih f' s' (by omega) (by omega)
def readR (s : Rs) : Option (List Nd) := runR (measR s + 1) s
theorem read_step {s s' : Rs} (h : stepR s = .inr s') : readR s = readR s' := by
  unfold readR
  have hm := step_meas h
  rw [runR, h]
  exact run_more _ _ _ (by omega) (by omega)
theorem read_halt {s : Rs} {r : Option (List Nd)} (h : stepR s = .inl r) : readR s = r := by
  unfold readR
  rw [runR, h]
end Go.Proofs.YtmjlblbhakppfaaGreatDoor
namespace Go.Proofs.YtmjlblbhakppfaaGreatDoor
open Go.RowKit

def goodN (n : Nd) : Prop := n.op = 0 ∨ (n.op = 1 ∧ wordB n.name = true) ∨ (n.op = 2 ∧ wordB n.name = true) ∨ (n.op = 3 ∧ wordB n.name = true ∧ wordB n.peer = true) ∨ (n.op = 4 ∧ wordB n.name = true ∧ sortB n.sort = true) ∨ ((n.op = 5 ∨ n.op = 6) ∧ wordB n.peer = true)
def tokS (n : Nd) : List ByteArray :=
  if n.op = 0 then [ba [101, 110, 100]] else if n.op = 1 then [n.name] else if n.op = 2 then [ba [114, 101, 99], ba [32], n.name, ba [46]]
  else if n.op = 5 then [n.peer, ba [33], ba [123]] else if n.op = 6 then [n.peer, ba [63], ba [123]] else [n.name, ba [62], n.peer, ba [123]]
def tokC (n : Nd) : List ByteArray := [n.name, ba [40], sortT n.sort, ba [41], ba [46]]
def nextP (n : Nd) : Nat := if n.op = 0 then 2 else if n.op = 1 then 2 else if n.op = 2 then 0 else 1
def nextO (k : Nat) (op : List Nat) (n : Nd) : List Nat := if n.op = 0 then op else if n.op = 1 then op else if n.op = 2 then op else k :: op
theorem wordT_ne {t : ByteArray} (h : wordB t = true) : t.toList ≠ [] := fun e => by
  simp only [wordB, nameB, Bool.and_eq_true, decide_eq_true_eq] at h
  have : t.size = 0 := by
    have h2 : t.toList.length = t.size := by rw [Go.ByteArray.toList_eq]; rfl
    rw [e] at h2
    exact h2.symm
  omega
theorem hd_cons {ms : List ByteArray} (h : (hdM ms).toList ≠ []) : ms = hdM ms :: ms.tail := by
  cases ms with
  | nil => exact absurd (by rw [hdM, List.headD_nil, Go.ByteArray.toList_eq]; rfl) h
  | cons a b => rfl
theorem toL_ba {a : ByteArray} {t : List UInt8} (h : (a.toList == t) = true) : a = ba t := by
  rw [beq_iff_eq] at h
  apply tl_inj
  rw [h, Go.ByteArray.toList_eq]
  simp [ba]
theorem start_tok {ms : List ByteArray} {l : List Nd} {op : List Nat} {s' : Rs} (h : startS ms l op = .inr s') : ∃ n : Nd, n.many = 0 ∧ n.op ≠ 4 ∧ s'.l = l ++ [n] ∧ s'.pos = nextP n ∧ s'.op = nextO l.length op n ∧ (goodN n → ms = tokS n ++ s'.ms) := by
  have key : ∀ ms2 n, n.many = 0 → (n.op = 3 ∨ n.op = 5 ∨ n.op = 6) → talkTo ms2 l op n = .inr s' → n.many = 0 ∧ n.op ≠ 4 ∧ s'.l = l ++ [n] ∧ s'.pos = nextP n ∧ s'.op = nextO l.length op n ∧ ms2 = ba [123] :: s'.ms := fun ms2 n h0 h1 h2 => by
    unfold talkTo at h2
    split at h2
    · rename_i ms3 h3
      injection h2 with h2
      subst h2
      refine ⟨h0, by omega, rfl, ?_, ?_, skM_some h3⟩
      · unfold nextP; rcases h1 with e | e | e <;> rw [e] <;> rfl
      · unfold nextO; rcases h1 with e | e | e <;> rw [e] <;> rfl
    · cases h2
  unfold startS at h
  split at h
  · rename_i he
    injection h with h
    subst h
    refine ⟨⟨0, noT, noT, 0, 0⟩, rfl, by simp, rfl, rfl, rfl, fun _ => ?_⟩
    have hne : (hdM ms).toList ≠ [] := by rw [beq_iff_eq] at he; rw [he]; simp
    show ms = [ba [101, 110, 100]] ++ ms.tail
    rw [← toL_ba he]
    exact hd_cons hne
  · split at h
    · rename_i ms2 h2
      split at h2
      · rename_i he
        split at h
        · rename_i ms3 h3
          injection h with h
          subst h
          refine ⟨⟨2, hdM ms2, noT, 0, 0⟩, rfl, by simp, rfl, rfl, rfl, fun hg => ?_⟩
          have hw : wordB (hdM ms2) = true := by
            rcases hg with e | ⟨e, _⟩ | ⟨_, e⟩ | ⟨e, _⟩ | ⟨e, _⟩ | ⟨e | e, _⟩ <;> first | exact e | (exact absurd e (by simp))
          have hne : (hdM ms).toList ≠ [] := by rw [beq_iff_eq] at he; rw [he]; simp
          show ms = [ba [114, 101, 99], ba [32], hdM ms2, ba [46]] ++ ms3
          rw [← toL_ba he]
          have e1 := hd_cons hne
          rw [skM_some h2, hd_cons (wordT_ne hw), skM_some h3] at e1
          exact e1
        · cases h
      · cases h2
    · split at h
      · rename_i ms2 h2
        obtain ⟨k1, k2, k3, k4, k5, k6⟩ := key _ _ rfl (.inl rfl) h
        refine ⟨_, k1, k2, k3, k4, k5, fun hg => ?_⟩
        have hw : wordB (hdM ms) = true ∧ wordB (hdM ms2) = true := by
          rcases hg with e | ⟨e, _⟩ | ⟨e, _⟩ | ⟨_, e⟩ | ⟨e, _⟩ | ⟨e | e, _⟩ <;> first | exact e | (exact absurd e (by simp))
        show ms = [hdM ms, ba [62], hdM ms2, ba [123]] ++ s'.ms
        have e1 := hd_cons (wordT_ne hw.1)
        rw [skM_some h2, hd_cons (wordT_ne hw.2), k6] at e1
        exact e1
      · split at h
        · rename_i ms2 h2
          obtain ⟨k1, k2, k3, k4, k5, k6⟩ := key _ _ rfl (.inr (.inl rfl)) h
          refine ⟨_, k1, k2, k3, k4, k5, fun hg => ?_⟩
          have hw : wordB (hdM ms) = true := by
            rcases hg with e | ⟨e, _⟩ | ⟨e, _⟩ | ⟨e, _⟩ | ⟨e, _⟩ | ⟨_, e⟩ <;> first | exact e | (exact absurd e (by simp))
          show ms = [hdM ms, ba [33], ba [123]] ++ s'.ms
          have e1 := hd_cons (wordT_ne hw)
          rw [skM_some h2, k6] at e1
          exact e1
        · split at h
          · rename_i ms2 h2
            obtain ⟨k1, k2, k3, k4, k5, k6⟩ := key _ _ rfl (.inr (.inr rfl)) h
            refine ⟨_, k1, k2, k3, k4, k5, fun hg => ?_⟩
            have hw : wordB (hdM ms) = true := by
              rcases hg with e | ⟨e, _⟩ | ⟨e, _⟩ | ⟨e, _⟩ | ⟨e, _⟩ | ⟨_, e⟩ <;> first | exact e | (exact absurd e (by simp))
            show ms = [hdM ms, ba [63], ba [123]] ++ s'.ms
            have e1 := hd_cons (wordT_ne hw)
            rw [skM_some h2, k6] at e1
            exact e1
          · injection h with h
            subst h
            refine ⟨⟨1, hdM ms, noT, 0, 0⟩, rfl, by simp, rfl, rfl, rfl, fun hg => ?_⟩
            have hw : wordB (hdM ms) = true := by
              rcases hg with e | ⟨_, e⟩ | ⟨e, _⟩ | ⟨e, _⟩ | ⟨e, _⟩ | ⟨e | e, _⟩ <;> first | exact e | (exact absurd e (by simp))
            exact hd_cons (wordT_ne hw)
theorem sort_word {w : ByteArray} (h : sortB (sortI w) = true) : w = sortT (sortI w) := by
  unfold sortI at h ⊢
  split
  · rename_i e; exact toL_ba e
  · split
    · rename_i e; exact toL_ba e
    · split
      · rename_i e; exact toL_ba e
      · rename_i h1 h2 h3
        rw [if_neg h1, if_neg h2, if_neg h3] at h
        exact absurd h (by decide)
theorem sortT_ne (n : Int) : (sortT n).toList ≠ [] := by
  unfold sortT
  split
  · rw [Go.ByteArray.toList_eq]; simp [ba]
  · split <;> (rw [Go.ByteArray.toList_eq]; simp [ba])
theorem label_tok {ms : List ByteArray} {l : List Nd} {op : List Nat} {s' : Rs} (h : labelS ms l op = .inr s') : ∃ n : Nd, n.op = 4 ∧ n.many = 0 ∧ s'.l = bump l (op.headD 0) ++ [n] ∧ s'.pos = 0 ∧ s'.op = op ∧ (goodN n → ms = tokC n ++ s'.ms) := by
  unfold labelS at h
  split at h
  · rename_i ms2 h2
    split at h
    · rename_i ms3 h3
      split at h
      · rename_i ms4 h4
        injection h with h
        subst h
        refine ⟨⟨4, hdM ms, noT, 0, sortI (hdM ms2)⟩, rfl, rfl, rfl, rfl, rfl, fun hg => ?_⟩
        have hw : wordB (hdM ms) = true ∧ sortB (sortI (hdM ms2)) = true := by
          rcases hg with e | ⟨e, _⟩ | ⟨e, _⟩ | ⟨e, _⟩ | ⟨_, e⟩ | ⟨e | e, _⟩ <;> first | exact e | (exact absurd e (by simp))
        show ms = [hdM ms, ba [40], sortT (sortI (hdM ms2)), ba [41], ba [46]] ++ ms4
        have e1 := hd_cons (wordT_ne hw.1)
        have e2 := sort_word hw.2
        have hne : (hdM ms2).toList ≠ [] := by rw [e2]; exact sortT_ne _
        rw [skM_some h2, hd_cons hne, skM_some h3, skM_some h4] at e1
        rw [← e2]
        exact e1
      · cases h
    · cases h
  · cases h
end Go.Proofs.YtmjlblbhakppfaaGreatDoor
namespace Go.Proofs.YtmjlblbhakppfaaGreatDoor
open Go.RowKit

def extR (l L : List Nd) (op : List Nat) : Prop := l.length ≤ L.length ∧ ∀ i (h : i < l.length) (h2 : i < L.length), L[i].op = l[i].op ∧ L[i].name = l[i].name ∧ L[i].peer = l[i].peer ∧ L[i].sort = l[i].sort ∧ l[i].many ≤ L[i].many ∧ (i ∉ op → L[i].many = l[i].many)
structure OkR (s : Rs) : Prop where
  lt : ∀ i ∈ s.op, i < s.l.length
  pw : s.op.Pairwise (· > ·)
  ne : s.pos = 1 → s.op ≠ []
theorem bump_len (l : List Nd) (i : Nat) : (bump l i).length = l.length := by simp [bump]
theorem bump_get (l : List Nd) (i j : Nat) (h : j < l.length) : (bump l i)[j]'(by rw [bump_len]; exact h) = if i = j then { l[j] with many := l[j].many + 1 } else l[j] := by
  simp only [bump, List.getElem_modify]
theorem next_mem {k : Nat} {op : List Nat} {n : Nd} {i : Nat} (h : i ∈ nextO k op n) : i = k ∨ i ∈ op := by
  unfold nextO at h
  split at h
  · exact .inr h
  · split at h
    · exact .inr h
    · split at h
      · exact .inr h
      · exact List.mem_cons.1 h
theorem next_pw {k : Nat} {op : List Nat} {n : Nd} (h : op.Pairwise (· > ·)) (hk : ∀ i ∈ op, i < k) : (nextO k op n).Pairwise (· > ·) := by
  unfold nextO
  split
  · exact h
  · split
    · exact h
    · split
      · exact h
      · exact List.pairwise_cons.2 ⟨fun i hi => hk i hi, h⟩
theorem next_ne {k : Nat} {op : List Nat} {n : Nd} (h : nextP n = 1) : nextO k op n ≠ [] := by
  unfold nextP at h
  unfold nextO
  split at h
  · cases h
  · split at h
    · cases h
    · split at h
      · cases h
      · rename_i h0 h1 h2
        rw [if_neg h0, if_neg h1, if_neg h2]
        simp
theorem step_start {s : Rs} (h : s.pos = 0) : stepR s = startS s.ms s.l s.op := by unfold stepR; rw [if_pos h]
theorem step_label {s : Rs} (h : s.pos = 1) : stepR s = labelS s.ms s.l s.op := by unfold stepR; rw [if_neg (by omega), if_pos h]
theorem step_behind {s : Rs} (h : s.pos ≠ 0) (h' : s.pos ≠ 1) : stepR s = behindS s.ms s.l s.op := by unfold stepR; rw [if_neg h, if_neg h']
theorem behind_inr {ms : List ByteArray} {l : List Nd} {op : List Nat} {s' : Rs} (h : behindS ms l op = .inr s') : ∃ o op', op = o :: op' ∧ ((ms = ba [44] :: s'.ms ∧ s' = ⟨1, s'.ms, l, op⟩) ∨ (ms = ba [125] :: s'.ms ∧ s' = ⟨2, s'.ms, l, op'⟩)) := by
  cases op with
  | nil => cases h
  | cons o op =>
    refine ⟨o, op, rfl, ?_⟩
    rw [behindS] at h
    split at h
    · rename_i ms' h2
      injection h with h
      subst h
      exact .inl ⟨skM_some h2, rfl⟩
    · split at h
      · rename_i ms' h2
        injection h with h
        subst h
        exact .inr ⟨skM_some h2, rfl⟩
      · cases h
theorem ok_step {s s' : Rs} (hok : OkR s) (h : stepR s = .inr s') : OkR s' := by
  by_cases h0 : s.pos = 0
  · rw [step_start h0] at h
    obtain ⟨n, -, -, hl, hp, ho, -⟩ := start_tok h
    refine ⟨fun i hi => ?_, by rw [ho]; exact next_pw hok.pw hok.lt, fun e => by rw [ho]; exact next_ne (hp ▸ e)⟩
    rw [ho] at hi
    rw [hl, List.length_append]
    rcases next_mem hi with e | e
    · subst e; simp
    · have := hok.lt i e; omega
  · by_cases h1 : s.pos = 1
    · rw [step_label h1] at h
      obtain ⟨n, -, -, hl, hp, ho, -⟩ := label_tok h
      refine ⟨fun i hi => ?_, by rw [ho]; exact hok.pw, fun e => by rw [ho]; exact hok.ne h1⟩
      rw [ho] at hi
      rw [hl, List.length_append, bump_len]
      have := hok.lt i hi
      omega
    · rw [step_behind h0 h1] at h
      obtain ⟨o, op', e, h | h⟩ := behind_inr h
      · rw [h.2]
        exact ⟨hok.lt, hok.pw, fun _ => by rw [e]; simp⟩
      · rw [h.2]
        have hp := hok.pw
        rw [e] at hp
        exact ⟨fun i hi => hok.lt i (by rw [e]; exact List.mem_cons_of_mem _ hi), (List.pairwise_cons.1 hp).2, fun h => by cases h⟩
theorem start_none {ms : List ByteArray} {l : List Nd} {op : List Nat} {r : Option (List Nd)} (h : startS ms l op = .inl r) : r = none := by
  have key : ∀ ms2 n, talkTo ms2 l op n = .inl r → r = none := fun ms2 n h2 => by
    unfold talkTo at h2
    split at h2
    · cases h2
    · injection h2 with h2; exact h2.symm
  unfold startS at h
  split at h
  · cases h
  · split at h
    · split at h
      · cases h
      · injection h with h; exact h.symm
    · split at h
      · exact key _ _ h
      · split at h
        · exact key _ _ h
        · split at h
          · exact key _ _ h
          · cases h
theorem label_none {ms : List ByteArray} {l : List Nd} {op : List Nat} {r : Option (List Nd)} (h : labelS ms l op = .inl r) : r = none := by
  unfold labelS at h
  split at h
  · split at h
    · split at h
      · cases h
      · injection h with h; exact h.symm
    · injection h with h; exact h.symm
  · injection h with h; exact h.symm
theorem behind_inl {ms : List ByteArray} {l L : List Nd} {op : List Nat} (h : behindS ms l op = .inl (some L)) : op = [] ∧ ms = [] ∧ L = l := by
  cases op with
  | nil =>
    rw [behindS] at h
    injection h with h
    cases ms with
    | nil => injection h with h; exact ⟨rfl, rfl, h.symm⟩
    | cons a b => cases h
  | cons o op =>
    rw [behindS] at h
    split at h
    · cases h
    · split at h
      · cases h
      · injection h with h; cases h
theorem read_keep : ∀ (k : Nat) (s : Rs) (L : List Nd), measR s < k → OkR s → readR s = some L → extR s.l L s.op := by
  intro k
  induction k with
  | zero => intro s L h; omega
  | succ k ih =>
    intro s L hk hok hr
    cases hs : stepR s with
    | inl r =>
      rw [read_halt hs] at hr
      subst hr
      by_cases h0 : s.pos = 0
      · rw [step_start h0] at hs
        cases start_none hs
      · by_cases h1 : s.pos = 1
        · rw [step_label h1] at hs
          cases label_none hs
        · rw [step_behind h0 h1] at hs
          obtain ⟨-, -, e⟩ := behind_inl hs
          rw [e]
          exact ⟨Nat.le_refl _, fun i h h2 => ⟨rfl, rfl, rfl, rfl, Int.le_refl _, fun _ => rfl⟩⟩
    | inr s' =>
      have hm := step_meas hs
      have hok' := ok_step hok hs
      rw [read_step hs] at hr
      obtain ⟨e1, e2⟩ := ih s' L (by omega) hok' hr
      by_cases h0 : s.pos = 0
      · rw [step_start h0] at hs
        obtain ⟨n, -, -, hl, hp, ho, -⟩ := start_tok hs
        rw [hl, List.length_append] at e1
        refine ⟨by omega, fun i h h2 => ?_⟩
        have h3 := e2 i (by rw [hl, List.length_append]; omega) h2
        have e3 : s'.l[i]'(by rw [hl, List.length_append]; omega) = s.l[i] := by simp only [hl]; exact List.getElem_append_left h
        rw [e3] at h3
        refine ⟨h3.1, h3.2.1, h3.2.2.1, h3.2.2.2.1, h3.2.2.2.2.1, fun hi => h3.2.2.2.2.2 (fun hm' => ?_)⟩
        rw [ho] at hm'
        rcases next_mem hm' with e | e
        · omega
        · exact hi e
      · by_cases h1 : s.pos = 1
        · rw [step_label h1] at hs
          obtain ⟨n, -, -, hl, hp, ho, -⟩ := label_tok hs
          rw [hl, List.length_append, bump_len] at e1
          refine ⟨by omega, fun i h h2 => ?_⟩
          have hlt' : i < s'.l.length := by rw [hl, List.length_append, bump_len]; omega
          have h3 := e2 i hlt' h2
          have e3 : s'.l[i] = if s.op.headD 0 = i then { s.l[i] with many := s.l[i].many + 1 } else s.l[i] := by
            simp only [hl]
            rw [List.getElem_append_left (by rw [bump_len]; exact h)]
            exact bump_get _ _ _ h
          rw [e3, ho] at h3
          by_cases hi : s.op.headD 0 = i
          · rw [if_pos hi] at h3
            refine ⟨h3.1, h3.2.1, h3.2.2.1, h3.2.2.2.1, by have := h3.2.2.2.2.1; dsimp only at this; omega, fun hn => absurd ?_ hn⟩
            have := hok.ne h1
            cases hop : s.op with
            | nil => exact absurd hop this
            | cons o op => rw [hop] at hi; simp at hi; rw [hi]; exact List.mem_cons_self
          · rw [if_neg hi] at h3
            exact h3
        · rw [step_behind h0 h1] at hs
          obtain ⟨o, op', e, h | h⟩ := behind_inr hs
          · rw [h.2] at e1 e2
            exact ⟨e1, e2⟩
          · rw [h.2] at e1 e2
            refine ⟨e1, fun i hi h2 => ?_⟩
            have h3 := e2 i hi h2
            exact ⟨h3.1, h3.2.1, h3.2.2.1, h3.2.2.2.1, h3.2.2.2.2.1, fun hn => h3.2.2.2.2.2 (fun hm' => hn (by rw [e]; exact List.mem_cons_of_mem _ hm'))⟩
theorem nd_same {a b c : Nd} (h1 : a.op = b.op ∧ a.name = b.name ∧ a.peer = b.peer ∧ a.sort = b.sort) (h2 : a.op = c.op ∧ a.name = c.name ∧ a.peer = c.peer ∧ a.sort = c.sort) (h3 : b.many = 0) (h4 : c.many = 0) : b = c := by
  obtain ⟨o, x, y, m, s⟩ := b
  obtain ⟨o', x', y', m', s'⟩ := c
  obtain ⟨a1, a2, a3, a4⟩ := h1
  obtain ⟨b1, b2, b3, b4⟩ := h2
  simp only at a1 a2 a3 a4 b1 b2 b3 b4 h3 h4
  subst h3 h4
  rw [← a1, ← a2, ← a3, ← a4, ← b1, ← b2, ← b3, ← b4]
theorem good_same {a b : Nd} (h : a.op = b.op ∧ a.name = b.name ∧ a.peer = b.peer ∧ a.sort = b.sort) (hg : goodN a) : goodN b := by
  unfold goodN at hg ⊢
  rw [h.1, h.2.1, h.2.2.1, h.2.2.2] at hg
  exact hg
theorem last_same {s' : Rs} {L l0 : List Nd} {n : Nd} (hl : s'.l = l0 ++ [n]) (h : extR s'.l L s'.op) : ∃ hlt : l0.length < L.length, L[l0.length].op = n.op ∧ L[l0.length].name = n.name ∧ L[l0.length].peer = n.peer ∧ L[l0.length].sort = n.sort := by
  obtain ⟨e1, e2⟩ := h
  rw [hl, List.length_append] at e1
  have hlt : l0.length < L.length := by simp at e1; omega
  have h3 := e2 l0.length (by rw [hl, List.length_append]; simp) hlt
  have e3 : s'.l[l0.length]'(by rw [hl, List.length_append]; simp) = n := by simp only [hl]; simp
  rw [e3] at h3
  exact ⟨hlt, h3.1, h3.2.1, h3.2.2.1, h3.2.2.2.1⟩
theorem lock_step : ∀ (k : Nat) (s1 s2 : Rs) (L : List Nd), measR s1 < k → s1.pos = s2.pos → s1.l = s2.l → s1.op = s2.op → OkR s1 → readR s1 = some L → readR s2 = some L → (∀ n ∈ L, goodN n) → s1.ms = s2.ms := by
  intro k
  induction k with
  | zero => intro s1 s2 L h; omega
  | succ k ih =>
    intro s1 s2 L hk hp hl ho hok hr1 hr2 hg
    have hok2 : OkR s2 := ⟨by rw [← ho, ← hl]; exact hok.lt, by rw [← ho]; exact hok.pw, by rw [← ho, ← hp]; exact hok.ne⟩
    by_cases h0 : s1.pos = 0
    · have h0' : s2.pos = 0 := by rw [← hp]; exact h0
      cases hs1 : stepR s1 with
      | inl r => rw [read_halt hs1] at hr1; subst hr1; rw [step_start h0] at hs1; cases start_none hs1
      | inr t1 =>
        cases hs2 : stepR s2 with
        | inl r => rw [read_halt hs2] at hr2; subst hr2; rw [step_start h0'] at hs2; cases start_none hs2
        | inr t2 =>
          rw [read_step hs1] at hr1
          rw [read_step hs2] at hr2
          have hm := step_meas hs1
          have k1 := ok_step hok hs1
          have k2 := ok_step hok2 hs2
          have x1 := read_keep _ t1 L (Nat.lt_succ_self _) k1 hr1
          have x2 := read_keep _ t2 L (Nat.lt_succ_self _) k2 hr2
          rw [step_start h0] at hs1
          rw [step_start h0'] at hs2
          obtain ⟨n1, a1, -, a2, a3, a4, a5⟩ := start_tok hs1
          obtain ⟨n2, b1, -, b2, b3, b4, b5⟩ := start_tok hs2
          rw [← hl] at b2 b4
          rw [← ho] at b4
          obtain ⟨hlt, y1⟩ := last_same a2 x1
          obtain ⟨_, y2⟩ := last_same b2 x2
          have en := nd_same y1 y2 a1 b1
          subst en
          have hgn := good_same y1 (hg _ (List.getElem_mem hlt))
          rw [a5 hgn, b5 hgn, ih t1 t2 L (by omega) (by rw [a3, b3]) (by rw [a2, b2]) (by rw [a4, b4]) k1 hr1 hr2 hg]
    · by_cases h1 : s1.pos = 1
      · have h1' : s2.pos = 1 := by rw [← hp]; exact h1
        cases hs1 : stepR s1 with
        | inl r => rw [read_halt hs1] at hr1; subst hr1; rw [step_label h1] at hs1; cases label_none hs1
        | inr t1 =>
          cases hs2 : stepR s2 with
          | inl r => rw [read_halt hs2] at hr2; subst hr2; rw [step_label h1'] at hs2; cases label_none hs2
          | inr t2 =>
            rw [read_step hs1] at hr1
            rw [read_step hs2] at hr2
            have hm := step_meas hs1
            have k1 := ok_step hok hs1
            have k2 := ok_step hok2 hs2
            have x1 := read_keep _ t1 L (Nat.lt_succ_self _) k1 hr1
            have x2 := read_keep _ t2 L (Nat.lt_succ_self _) k2 hr2
            rw [step_label h1] at hs1
            rw [step_label h1'] at hs2
            obtain ⟨n1, -, a1, a2, a3, a4, a5⟩ := label_tok hs1
            obtain ⟨n2, -, b1, b2, b3, b4, b5⟩ := label_tok hs2
            rw [← hl, ← ho] at b2
            rw [← ho] at b4
            obtain ⟨hlt, y1⟩ := last_same a2 x1
            obtain ⟨_, y2⟩ := last_same b2 x2
            have en := nd_same y1 y2 a1 b1
            subst en
            have hgn := good_same y1 (hg _ (List.getElem_mem hlt))
            rw [a5 hgn, b5 hgn, ih t1 t2 L (by omega) (by rw [a3, b3]) (by rw [a2, b2]) (by rw [a4, b4]) k1 hr1 hr2 hg]
      · have h0' : s2.pos ≠ 0 := by rw [← hp]; exact h0
        have h1' : s2.pos ≠ 1 := by rw [← hp]; exact h1
        cases hs1 : stepR s1 with
        | inl r =>
          rw [read_halt hs1] at hr1
          subst hr1
          rw [step_behind h0 h1] at hs1
          obtain ⟨e1, e2, -⟩ := behind_inl hs1
          cases hs2 : stepR s2 with
          | inl r =>
            rw [read_halt hs2] at hr2
            subst hr2
            rw [step_behind h0' h1'] at hs2
            rw [e2, (behind_inl hs2).2.1]
          | inr t2 =>
            rw [step_behind h0' h1'] at hs2
            obtain ⟨o, op', e, -⟩ := behind_inr hs2
            rw [← ho, e1] at e
            cases e
        | inr t1 =>
          cases hs2 : stepR s2 with
          | inl r =>
            rw [read_halt hs2] at hr2
            subst hr2
            rw [step_behind h0' h1'] at hs2
            rw [step_behind h0 h1] at hs1
            obtain ⟨o, op', e, -⟩ := behind_inr hs1
            rw [ho, (behind_inl hs2).1] at e
            cases e
          | inr t2 =>
            rw [read_step hs1] at hr1
            rw [read_step hs2] at hr2
            have hm := step_meas hs1
            have k1 := ok_step hok hs1
            have k2 := ok_step hok2 hs2
            have clash : ∀ (u1 u2 : Rs) (o : Nat) (op' : List Nat), s1.op = o :: op' → u1 = ⟨1, u1.ms, s1.l, s1.op⟩ → u2 = ⟨2, u2.ms, s1.l, op'⟩ → OkR u1 → OkR u2 → readR u1 = some L → readR u2 = some L → False := fun u1 u2 o op' eo eu1 eu2 ok1 ok2 r1 r2 => by
              have hlt : o < s1.l.length := hok.lt o (by rw [eo]; exact List.mem_cons_self)
              have hno : o ∉ op' := fun hm' => by
                have hp := hok.pw
                rw [eo] at hp
                exact absurd ((List.pairwise_cons.1 hp).1 o hm') (by omega)
              have x2 := read_keep _ u2 L (Nat.lt_succ_self _) ok2 r2
              rw [eu2] at x2
              cases hs : stepR u1 with
              | inl r => rw [read_halt hs] at r1; subst r1; rw [step_label (by rw [eu1])] at hs; cases label_none hs
              | inr v1 =>
                have okv := ok_step ok1 hs
                rw [read_step hs] at r1
                have xv := read_keep _ v1 L (Nat.lt_succ_self _) okv r1
                rw [step_label (by rw [eu1])] at hs
                obtain ⟨n, -, -, hvl, -, -, -⟩ := label_tok hs
                have e1 : u1.l = s1.l := by rw [eu1]
                have e2 : u1.op.headD 0 = o := by rw [eu1, eo]; rfl
                rw [e1, e2] at hvl
                have hL : o < L.length := Nat.lt_of_lt_of_le hlt x2.1
                have y2 := (x2.2 o hlt hL).2.2.2.2.2 hno
                have hvlt : o < v1.l.length := by rw [hvl, List.length_append, bump_len]; omega
                have yv := (xv.2 o hvlt hL).2.2.2.2.1
                have ev : v1.l[o] = { s1.l[o] with many := s1.l[o].many + 1 } := by
                  simp only [hvl]
                  rw [List.getElem_append_left (by rw [bump_len]; exact hlt), bump_get _ _ _ hlt, if_pos rfl]
                rw [ev] at yv
                dsimp only at yv y2
                omega
            rw [step_behind h0 h1] at hs1
            rw [step_behind h0' h1'] at hs2
            obtain ⟨o, op', e, h | h⟩ := behind_inr hs1
            · obtain ⟨o2, op2, e2, h' | h'⟩ := behind_inr hs2
              · rw [h.1, h'.1, ih t1 t2 L (by omega) (by rw [h.2, h'.2]) (by rw [h.2, h'.2]; exact hl) (by rw [h.2, h'.2]; exact ho) k1 hr1 hr2 hg]
              · rw [← ho, e] at e2
                injection e2 with e3 e4
                exact (clash t1 t2 o op' e h.2 (by rw [h'.2, ← e4, ← hl]) k1 k2 hr1 hr2).elim
            · obtain ⟨o2, op2, e2, h' | h'⟩ := behind_inr hs2
              · rw [← ho, e] at e2
                injection e2 with e3 e4
                exact (clash t2 t1 o op' e (by rw [h'.2, ← hl, ← ho]) h.2 k2 k1 hr2 hr1).elim
              · have e5 : op' = op2 := by rw [← ho, e] at e2; injection e2
                rw [h.1, h'.1, ih t1 t2 L (by omega) (by rw [h.2, h'.2]) (by rw [h.2, h'.2]; exact hl) (by rw [h.2, h'.2]; exact e5) k1 hr1 hr2 hg]
end Go.Proofs.YtmjlblbhakppfaaGreatDoor
