/- What a right machine is; the small functions of the specification that ask for it. -/
import Derived.Test.YthaomohoiginnaaQMachineOf23
import Derived.Test.YthaomohoiginnaaQMachineOf03
import Derived.Test.YthaomohoiginnaaQMachineOf04
namespace Go.Proofs.Ythaomohoiginnaa
open Go.RowKit

theorem ms_is (n lo hi : Int) (w : World) :
    Calls Try.prog 71 #[.int .i64 n, .int .i64 lo, .int .i64 hi] w fun e w' => e = .returned (.bool (decide (lo ≤ n) && decide (n ≤ hi))) ∧ w' = w := by
  by_cases h : lo ≤ n
  all_goals
    go_enter Try.func71, Try.ntmps71
    go_wp2_with fail
    go_ret
    refine ⟨ret_bool ?_, rfl⟩
    simp [*]
    try omega
def inB (n lo hi : Int) : Bool := decide (lo ≤ n) && decide (n ≤ hi)
theorem ms_in (n lo hi : Int) (w : World) :
    Calls Try.prog 71 #[.int .i64 n, .int .i64 lo, .int .i64 hi] w fun e w' => e = .returned (.bool (inB n lo hi)) ∧ w' = w := ms_is n lo hi w
theorem ms_sort (n : Int) (w : World) :
    Calls Try.prog 72 #[.int .i64 n] w fun e w' => e = .returned (.bool (inB n 0 2)) ∧ w' = w := by
  go_enter Try.func72, Try.ntmps72
  go_wp2_with (go_at_call 71; refine (ms_in _ _ _ _).mono ?_; rintro e w' ⟨rfl, rfl⟩)
  go_ret
  exact ⟨ret_bool rfl, rfl⟩
def mlessE (a b : REdge) : Bool := decide (a.src < b.src) || (a.src == b.src && Op.bytesLess a.label.toList b.label.toList)
theorem ms_less (a b : REdge) (w : World) :
    Calls Try.prog 73 #[a.val, b.val] w fun e w' => e = .returned (.bool (mlessE a b)) ∧ Below w.heap.size w w' := by
  have HE := hide (show mlessE a b = (decide (a.src < b.src) || (a.src == b.src && Op.bytesLess a.label.toList b.label.toList)) from rfl)
  unfold REdge.val
  by_cases h1 : a.src < b.src
  · go_enter Try.func73, Try.ntmps73
    go_wp2_with fail
    all_goals
      go_ret
      refine ⟨ret_bool ?_, (malloc1 _ _).trans ((malloc1 _ _).mono (by simp))⟩
      rw [HE.out]; simp [*]
  · have h1' : decide (a.src < b.src) = false := decide_eq_false h1
    cases h2 : (a.src == b.src)
    all_goals
      have H2 := hide h2
      have H1 := hide h1'
      go_enter Try.func73, Try.ntmps73
      go_wp2_with fail
      all_goals
        go_ret
        refine ⟨ret_bool ?_, (malloc1 _ _).trans ((malloc1 _ _).mono (by simp))⟩
        rw [HE.out, H2.out, H1.out]; simp
def mstB (x : RState) : Bool := if x.kind == 0 then x.peer.toList == [] else nameB x.peer && inB x.kind 0 2
def kindAt (m : Mach) (s : Int) : Int := match m.states[s.toNat]? with
  | some x => x.kind
  | none => 0
def medB (m : Mach) (e : REdge) : Bool := inB e.src 0 ((m.states.length : Int) - 1) && (inB e.dst 0 ((m.states.length : Int) - 1) && (nameB e.label && (inB e.sort 0 2 && !(kindAt m e.src == 0))))
def edgeOk (m : Mach) (i : Nat) : Bool := match m.edges[i]? with
  | none => true
  | some e => medB m e && (match i, m.edges[i - 1]? with
    | 0, _ => true
    | _ + 1, some e' => mlessE e' e
    | _ + 1, none => true)
def headB (m : Mach) : Bool := inB (m.states.length : Int) 1 40 && (decide (m.edges.length ≤ 80) && inB m.start 0 ((m.states.length : Int) - 1))
def machB (m : Mach) : Bool := headB m && (m.states.all mstB && (List.range m.edges.length).all (edgeOk m))

/- the same contracts, their answer given ahead -/
theorem ms_in_at {q : Bool} {n lo hi : Int} (h : inB n lo hi = q) (w : World) :
    Calls Try.prog 71 #[.int .i64 n, .int .i64 lo, .int .i64 hi] w fun e w' => e = .returned (.bool q) ∧ w' = w := by subst h; exact ms_in n lo hi w
theorem ms_sort_at {q : Bool} {n : Int} (h : inB n 0 2 = q) (w : World) :
    Calls Try.prog 72 #[.int .i64 n] w fun e w' => e = .returned (.bool q) ∧ w' = w := by subst h; exact ms_sort n w
theorem ms_less_at {q : Bool} {a b : REdge} (h : mlessE a b = q) (w : World) :
    Calls Try.prog 73 #[a.val, b.val] w fun e w' => e = .returned (.bool q) ∧ Below w.heap.size w w' := by subst h; exact ms_less a b w
theorem spec_name_at {q : Bool} {s : ByteArray} (h : nameB s = q) (hs : s.size ≤ maxLen) (w : World) :
    Calls Try.prog 60 #[.string s] w fun e w' => e = .returned (.bool q) ∧ w' = w := by subst h; exact spec_name s w hs
end Go.Proofs.Ythaomohoiginnaa
/- The machine of a right part: what both sides make, pure. -/
namespace Go.Proofs.Ythaomohoiginnaa
open Go.RowKit

structure Wv where
  sts : List RState
  eds : List REdge
  fs : ByteArray → Int
def kindW (op : Int) : Int := if op == 5 then 1 else if op == 6 then 2 else 0
def wvKids (go : List Nd → Wv → Int × List Nd × Wv) (s : Int) : Nat → List Nd → Wv → List Nd × Wv
  | 0, l, W => (l, W)
  | _ + 1, [], W => ([], W)
  | k + 1, c :: l, W => wvKids go s k (go l W).2.1 ⟨(go l W).2.2.sts, (go l W).2.2.eds ++ [⟨s, c.name, c.sort, (go l W).1⟩], (go l W).2.2.fs⟩
/-- the program's: edges as they come, the first states by name -/
def wv : Nat → List Nd → Wv → Int × List Nd × Wv
  | _, [], W => (0, [], W)
  | 0, n :: l, W => if n.op == 1 then (W.fs n.name, l, W) else ((W.sts.length : Int), l, ⟨W.sts ++ [⟨kindW n.op, n.peer⟩], W.eds, W.fs⟩)
  | f + 1, n :: l, W => if n.op == 1 then (W.fs n.name, l, W)
    else if n.op == 2 then wv f l ⟨W.sts, W.eds, fun x => if x = n.name then (W.sts.length : Int) else W.fs x⟩
    else ((W.sts.length : Int), wvKids (wv f) (W.sts.length : Int) n.many.toNat l ⟨W.sts ++ [⟨kindW n.op, n.peer⟩], W.eds, W.fs⟩)
def lookN : List ByteArray → List Int → ByteArray → Int
  | x :: ns, z :: fis, t => if x.toList == t.toList then z else lookN ns fis t
  | _, _, _ => 0
def firstOf (ns : List ByteArray) (fis : List Int) (len : Int) : List Nd → Int
  | [] => 0
  | n :: l => if n.op == 1 then lookN ns fis n.name else if n.op == 2 then firstOf ns fis len l else len
def insE (e : REdge) (l : List REdge) : List REdge := l.takeWhile (fun x => mlessE x e) ++ e :: l.dropWhile (fun x => mlessE x e)
def svKids (go : List Nd → List RState × List REdge → List Nd × List RState × List REdge) (fst : List Nd → Nat → Int) (s : Int) : Nat → List Nd → List RState × List REdge → List Nd × List RState × List REdge
  | 0, l, S => (l, S)
  | _ + 1, [], S => ([], S)
  | k + 1, c :: l, S => svKids go fst s k (go l (S.1, insE ⟨s, c.name, c.sort, fst l S.1.length⟩ S.2)).1 (go l (S.1, insE ⟨s, c.name, c.sort, fst l S.1.length⟩ S.2)).2
/-- the specification's: each edge in its place, the first states by what stands around -/
def sv : Nat → List ByteArray → List Int → List Nd → List RState × List REdge → List Nd × List RState × List REdge
  | _, _, _, [], S => ([], S)
  | 0, _, _, n :: l, S => if n.op == 1 then (l, S) else (l, S.1 ++ [⟨kindW n.op, n.peer⟩], S.2)
  | f + 1, ns, fis, n :: l, S => if n.op == 1 then (l, S)
    else if n.op == 2 then sv f (ns ++ [n.name]) (fis ++ [firstOf (ns ++ [n.name]) (fis ++ [0]) S.1.length l]) l S
    else svKids (sv f ns fis) (fun l k => firstOf ns fis k l) (S.1.length : Int) n.many.toNat l (S.1 ++ [⟨kindW n.op, n.peer⟩], S.2)
/-- is what comes first, past the recursions, a variable? -/
def chainV : List Nd → Bool
  | [] => false
  | n :: l => if n.op == 1 then true else if n.op == 2 then chainV l else false
structure Inv (st l : List Nd) (fs : ByteArray → Int) (ns : List ByteArray) (fis : List Int) : Prop where
  names : ns = recsOf st
  len : fis.length = ns.length
  said : ∀ t, backB false st t = true → fs t = lookN ns fis t
  open_ : chainV l = false → ∀ t, withinB st t = true → fs t = lookN ns fis t
theorem toList_eq_iff {a b : ByteArray} : (a.toList == b.toList) = true ↔ a = b := by
  constructor
  · intro h
    have h := beq_iff_eq.1 h
    rw [Go.ByteArray.toList_eq, Go.ByteArray.toList_eq] at h
    apply ByteArray.ext
    exact Array.ext' h
  · rintro rfl; simp
theorem look_snoc {ns : List ByteArray} {fis : List Int} (hl : fis.length = ns.length) (x : ByteArray) (z : Int) (t : ByteArray) : lookN (ns ++ [x]) (fis ++ [z]) t = if hasB ns t then lookN ns fis t else if x.toList == t.toList then z else 0 := by
  induction ns generalizing fis with
  | nil =>
    have : fis = [] := List.length_eq_zero_iff.1 hl
    subst this
    simp [lookN, hasB]
  | cons y ns ih =>
    match fis, hl with
    | u :: fis, hl =>
      have hl' : fis.length = ns.length := by simpa using hl
      rw [List.cons_append, List.cons_append, lookN, ih hl', lookN]
      by_cases h : (y.toList == t.toList) = true
      · rw [if_pos h, if_pos (by simp [hasB] at h ⊢; simp [h]), if_pos h]
      · rw [if_neg h]
        have : hasB (y :: ns) t = hasB ns t := by simp only [hasB, List.any_cons]; rw [Bool.eq_false_iff.2 h]; rfl
        rw [this, if_neg h]
theorem first_chain {ns : List ByteArray} {fis : List Int} {k : Int} : ∀ {l : List Nd}, l ≠ [] → chainV l = false → (∀ n ∈ l, True) → firstOf ns fis k l = k ∨ (∀ n ∈ l, n.op = 2)
  | [], h, _, _ => absurd rfl h
  | n :: l, _, hc, _ => by
    unfold chainV at hc
    unfold firstOf
    by_cases h1 : (n.op == 1) = true
    · rw [if_pos h1] at hc; cases hc
    · rw [if_neg h1] at hc ⊢
      by_cases h2 : (n.op == 2) = true
      · rw [if_pos h2] at hc ⊢
        cases l with
        | nil => right; intro m hm; simp at hm; subst hm; simpa using h2
        | cons m l =>
          rcases first_chain (ns := ns) (fis := fis) (k := k) (l := m :: l) (by simp) hc (fun _ _ => trivial) with h | h
          · exact .inl h
          · right
            intro x hx
            rcases List.mem_cons.1 hx with rfl | hx
            · simpa using h2
            · exact h x hx
      · rw [if_neg h2]; exact .inl rfl
/-- a right row does not end in recursions alone -/
theorem ahead_chain {T : Nd → Bool} : ∀ (f : Nat) (st l r : List Nd), ahead T f st l = some r → ¬ (∀ n ∈ l, n.op = 2) := by
  intro f
  induction f with
  | zero =>
    intro st l r h hall
    cases l with
    | nil => cases h
    | cons n l =>
      have h2 := hall n (by simp)
      rw [ahead_20 h2] at h; cases h
  | succ f ih =>
    intro st l r h hall
    cases l with
    | nil => cases h
    | cons n l =>
      have h2 := hall n (by simp)
      rw [ahead_2 h2] at h
      split at h
      · exact ih _ _ _ h (fun m hm => hall m (by simp [hm]))
      · cases h
theorem first_len {T : Nd → Bool} {f : Nat} {st l r : List Nd} {ns : List ByteArray} {fis : List Int} {k : Int} (h : ahead T f st l = some r) (hc : chainV l = false) : firstOf ns fis k l = k := by
  rcases first_chain (ns := ns) (fis := fis) (k := k) (l := l) (by rintro rfl; cases f <;> cases h) hc (fun _ _ => trivial) with e | e
  · exact e
  · exact absurd e (ahead_chain f st l r h)
end Go.Proofs.Ythaomohoiginnaa
