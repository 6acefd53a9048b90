/- The specification: the part of a role in a right plan. -/
import Derived.Test.YtmlkfnclniamiaaQPartOf37
import Derived.Test.YtmlkfnclniamiaaQPartOf24
namespace Go.Proofs.Ytmlkfnclniamiaa
open Go.RowKit
attribute [local go_sem ↓] Go.wp_at_zero Go.wp_at_succ

set_option maxRecDepth 100000 in
set_option maxHeartbeats 2000000 in
theorem of_talk (role : ByteArray) (n : Nat) (ih : OfCalls role n) (a b : ByteArray) (l : List (Br (Pn n))) (hpl : planN (n + 1) (.talk ⟨3, a, b⟩ l)) (all post : List Nd) (pos : Nat) (v : Value) (w : World) (S : Nat → Prop) (hS : ∀ g, S g → g < w.heap.size) (hl : all.length ≤ 40) (h : all.drop pos = rowN (n + 1) (.talk ⟨3, a, b⟩ l) ++ post) (hv : RdS w S v all) : Calls Try.prog 51 #[v, .int .i64 pos, .string role] w fun e w' => OfAns (n + 1) (rowN (n + 1) (.talk ⟨3, a, b⟩ l)).length w w' e (partN role (n + 1) (.talk ⟨3, a, b⟩ l)) := by
  have HW : Hid (∀ (W : World), Below w.heap.size w W → (∀ g, S g → g < W.heap.size) ∧ RdS W S v all) := hide (fun W hW => ⟨fun g hg => Nat.lt_of_lt_of_le (hS g hg) hW.size, hv.on hS hW⟩)
  obtain ⟨q1, hq1⟩ : ∃ q, (a.toList == role.toList) = q := ⟨_, rfl⟩
  obtain ⟨q2, hq2⟩ : ∃ q, (b.toList == role.toList) = q := ⟨_, rfl⟩
  have HCA : Hid ((q1 || q2) = true → ∀ W, Below w.heap.size w W → Calls Try.prog 76 #[v, .int .i64 pos, .string role] W fun e w' => OfAns (n + 1) (rowN (n + 1) (.talk ⟨3, a, b⟩ l)).length W w' e (partN role (n + 1) (.talk ⟨3, a, b⟩ l))) := hide (fun hq W hW => s_cases role n ih a b l hpl (by
    rw [beq_flip role a, beq_flip role b, hq1, hq2]
    cases q1
    · exact .inr hq
    · exact .inl rfl) all post pos v W S (HW.out W hW).1 hl h (HW.out W hW).2)
  have HOT : Hid ((q1 || q2) = false → ∀ W, Below w.heap.size w W → Calls Try.prog 77 #[v, .int .i64 pos, .string role] W fun e w' => OfAns (n + 1) (rowN (n + 1) (.talk ⟨3, a, b⟩ l)).length W w' e (partN role (n + 1) (.talk ⟨3, a, b⟩ l))) := hide (fun hq W hW => by
    cases q1
    · cases q2
      · exact s_others role n ih a b l hpl (by rw [beq_flip, hq1]) (by rw [beq_flip, hq2]) all post pos v W S (HW.out W hW).1 hl h (HW.out W hW).2
      · cases hq
    · cases hq)
  obtain ⟨P, hP⟩ : ∃ P, partN role (n + 1) (.talk ⟨3, a, b⟩ l) = P := ⟨_, rfl⟩
  obtain ⟨len, hlen⟩ : ∃ len, (rowN (n + 1) (.talk ⟨3, a, b⟩ l)).length = len := ⟨_, rfl⟩
  rw [hP, hlen] at HCA HOT ⊢
  have HDN : Hid (∀ (W w' : World) (e : Ending), w.heap.size ≤ W.heap.size → Below w.heap.size w W → OfAns (n + 1) len W w' e P → OfAns (n + 1) len w w' e P) := hide (fun W w' e hz hb ⟨q, r, h1, h2, h3, h4, h5, h6⟩ => ⟨q, r, h1, h2.up (fun g hg => ⟨Nat.le_trans hz hg.1, hg.2⟩), h3, h4, h5, hb.trans (h6.mono hz)⟩)
  rw [row_talk] at h
  obtain ⟨hp, hn, h1⟩ := drop_next h
  obtain ⟨ao, cap, rfl, hc, hm, -, hrow⟩ := hv
  obtain ⟨g, o, rfl, hg, hrow⟩ := hrow (fun e => by rw [e] at hp; simp at hp)
  have hnode := hrow.get pos hp
  rw [hn] at hnode
  obtain ⟨c0, c1, c2, c3, c4⟩ := hnode
  dsimp only at c0 c1 c2 c3 c4
  have hgw := hS g hg
  obtain ⟨M, hM⟩ : ∃ M, all.length = M := ⟨_, rfl⟩
  rw [hM] at hp hl hc HCA HOT ⊢
  clear hrow hn h h1 hS hM ih hpl HW hP hlen
  cases q1
  · cases q2
    · go_enter Try.func51, Try.ntmps51
      go_wp2_with (go_at_call 77; refine (HOT.out rfl _ (malloc1 _ _)).mono ?_; intro e w1 h1; have h1' := HDN.out _ _ _ (by simp) (malloc1 _ _) h1; obtain ⟨q, r, rfl, h2, h3, h4, h5, h6⟩ := h1'; have H1 := hide (And.intro h2 (And.intro h3 (And.intro h4 (And.intro h5 h6)))); obtain ⟨a2, c2', rfl, -⟩ := h2; clear h1 h3 h4 h5 h6)
      go_ret2
      exact ⟨_, r, rfl, H1.out⟩
    · go_enter Try.func51, Try.ntmps51
      go_wp2_with (go_at_call 76; refine (HCA.out rfl _ (malloc1 _ _)).mono ?_; intro e w1 h1; have h1' := HDN.out _ _ _ (by simp) (malloc1 _ _) h1; obtain ⟨q, r, rfl, h2, h3, h4, h5, h6⟩ := h1'; have H1 := hide (And.intro h2 (And.intro h3 (And.intro h4 (And.intro h5 h6)))); obtain ⟨a2, c2', rfl, -⟩ := h2; clear h1 h3 h4 h5 h6)
      go_ret2
      exact ⟨_, r, rfl, H1.out⟩
  · go_enter Try.func51, Try.ntmps51
    go_wp2_with (go_at_call 76; refine (HCA.out rfl _ (malloc1 _ _)).mono ?_; intro e w1 h1; have h1' := HDN.out _ _ _ (by simp) (malloc1 _ _) h1; obtain ⟨q, r, rfl, h2, h3, h4, h5, h6⟩ := h1'; have H1 := hide (And.intro h2 (And.intro h3 (And.intro h4 (And.intro h5 h6)))); obtain ⟨a2, c2', rfl, -⟩ := h2; clear h1 h3 h4 h5 h6)
    go_ret2
    exact ⟨_, r, rfl, H1.out⟩
theorem of_calls (role : ByteArray) : ∀ n : Nat, OfCalls role n := by
  intro n
  induction n with
  | zero => intro p all post pos v w S hS _ hl h hv; exact leaf_ans hS hl h hv rfl
  | succ n ih =>
    intro p
    refine Pn.cases (P := fun p => ∀ (all post : List Nd) (pos : Nat) (v : Value) (w : World) (S : Nat → Prop), (∀ g, S g → g < w.heap.size) → planN (n + 1) p → all.length ≤ 40 → all.drop pos = rowN (n + 1) p ++ post → RdS w S v all → Calls Try.prog 51 #[v, .int .i64 pos, .string role] w fun e w' => OfAns (n + 1) (rowN (n + 1) p).length w w' e (partN role (n + 1) p)) (fun x all post pos v w S hS _ hl h hv => leaf_ans hS hl h hv rfl) (fun x q all post pos v w S hS hp hl h hv => of_loop role n ih x q hp all post pos v w S hS hl h hv) (fun t l all post pos v w S hS hp hl h hv => ?_) p
    obtain ⟨op, a, b⟩ := t
    have hp' : op = 3 ∧ (a.toList == b.toList) = false ∧ 1 ≤ l.length ∧ l.length ≤ 4 ∧ ∀ b ∈ l, planN n b.p := hp
    obtain ⟨rfl, -⟩ := hp'
    exact of_talk role n ih a b l hp all post pos v w S hS hl h hv
/-- what PartOf tells -/
def PoIs (ns : List Nd) (role : ByteArray) (T : List Nd) (C : Int) : Prop :=
  ((400 < ns.length ∨ 8000 < role.size) ∧ T = [] ∧ C = 2) ∨
  (ns.length ≤ 400 ∧ role.size ≤ 8000 ∧ ((rightB false ns && nameB role) = false ∧ T = [] ∧ C = 1 ∨
    (rightB false ns && nameB role) = true ∧ ∃ p : Pn 10, ns = rowN 10 p ∧ planN 10 p ∧ ns.length ≤ 40 ∧ ((partN role 10 p = none ∧ T = [] ∧ C = 11) ∨ ∃ z, partN role 10 p = some z ∧ T = rowN 10 z ∧ C = 0)))
theorem plan_ahead {ns : List Nd} (h : rightB false ns = true) : ahead (talkS false) 10 [] ns = some [] ∧ ns.length ≤ 40 := by
  rw [rightB] at h
  simp only [Bool.and_eq_true, decide_eq_true_eq, beq_iff_eq] at h
  refine ⟨?_, h.1⟩
  cases hr : ahead (talkS false) 10 [] ns with
  | none => rw [hr] at h; simp at h
  | some r => rw [hr] at h; simp at h; rw [h.2.1]
theorem po_ex (ns : List Nd) (role : ByteArray) : ∃ T C, PoIs ns role T C ∧ T.length ≤ 40 := by
  by_cases h : 400 < ns.length ∨ 8000 < role.size
  · exact ⟨[], 2, .inl ⟨h, rfl, rfl⟩, by simp⟩
  · have h1 : ns.length ≤ 400 := by omega
    have h2 : role.size ≤ 8000 := by omega
    cases hr : (rightB false ns && nameB role) with
    | false => exact ⟨[], 1, .inr ⟨h1, h2, .inl ⟨hr, rfl, rfl⟩⟩, by simp⟩
    | true =>
      have hr' := hr
      rw [Bool.and_eq_true] at hr'
      obtain ⟨ha, h40⟩ := plan_ahead hr'.1
      obtain ⟨p, e, hp⟩ := parse 10 [] ns [] ha
      rw [List.append_nil] at e
      cases hm : partN role 10 p with
      | none => exact ⟨[], 11, .inr ⟨h1, h2, .inr ⟨hr, p, e, hp, h40, .inl ⟨hm, rfl, rfl⟩⟩⟩, by simp⟩
      | some z => exact ⟨rowN 10 z, 0, .inr ⟨h1, h2, .inr ⟨hr, p, e, hp, h40, .inr ⟨z, hm, rfl, rfl⟩⟩⟩, by have := (part_sz role 10 p z hp hm).1; rw [← e] at this; omega⟩
end Go.Proofs.Ytmlkfnclniamiaa
/- The program's pieces of a plan: pieceAhead. -/
namespace Go.Proofs.Ytmlkfnclniamiaa
open Go.RowKit
attribute [local go_sem ↓] Go.wp_at_zero Go.wp_at_succ

/-- what pieceAhead answers -/
def Pieced (w w' : World) (B : Nat) (e : Ending) (n : Nat) (p : Pn n) (r : List Nd) : Prop := ∃ u v', e = .returned (.tuple #[u, v']) ∧ PcAt w' (btw w.heap.size w'.heap.size) n p u ∧ SlAt w' B v' r ∧ Below w.heap.size w w'
/-- the same of an end or a variable -/
def PiecedL (w w' : World) (B : Nat) (e : Ending) (x : Option ByteArray) (r : List Nd) : Prop := ∃ u v', e = .returned (.tuple #[u, v']) ∧ leafAt x u ∧ SlAt w' B v' r ∧ Below w.heap.size w w'
def PieceCalls (n : Nat) (p : Pn n) : Prop := ∀ (r : List Nd) (v : Value) (w : World) (B : Nat), B ≤ w.heap.size → SlAt w B v (rowN n p ++ r) → Calls Try.prog 53 #[v] w fun e w' => Pieced w w' B e n p r
set_option maxRecDepth 100000 in
set_option maxHeartbeats 1000000 in
theorem piece_end (r : List Nd) (v : Value) (w : World) (B : Nat) (hB : B ≤ w.heap.size) (hv : SlAt w B v (leafRow none ++ r)) : Calls Try.prog 53 #[v] w fun e w' => PiecedL w w' B e none r := by
  rw [leafRow, List.cons_append, List.nil_append] at hv
  obtain ⟨ao, cap, rfl, hc1, hc2, hr⟩ := hv
  obtain ⟨b, o, rfl, hb, hrow⟩ := hr (by simp)
  have HT : Hid (∀ ao, (cap ≠ 1 → ao = some ⟨b, o + 5, none⟩) → SlAt w B (.slice ao r.length (cap - 1)) r) := hide (fun ao ha => SlAt.tail hb hrow hc1 hc2 ao ha)
  have HBS := hide hB
  simp only [List.length_cons] at hc1
  obtain ⟨⟨c0, c1, c2, c3, c4⟩, -⟩ := hrow
  dsimp only at c0 c1 c2 c3 c4
  have hbw : b < w.heap.size := World.block_lt_of_cell? w _ c0
  clear hr
  by_cases hcap : cap = 1
  · subst hcap
    obtain rfl : r = [] := List.length_eq_zero_iff.1 (by omega)
    go_enter Try.func53, Try.ntmps53
    go_wp2_with fail
    go_region
    go_wp2_with fail
    go_ret2
    exact ⟨_, _, rfl, rfl, (HT.out _ (fun h => absurd rfl h)).carry ((alloc1 w _).drew.mono HBS.out), (alloc1 w _).drew⟩
  · go_enter Try.func53, Try.ntmps53
    go_wp2_with fail
    go_region
    go_wp2_with fail
    go_ret2
    exact ⟨_, _, rfl, rfl, (HT.out _ (fun _ => rfl)).carry ((alloc1 w _).drew.mono HBS.out), (alloc1 w _).drew⟩
set_option maxRecDepth 100000 in
set_option maxHeartbeats 1000000 in
theorem piece_var (x : ByteArray) (r : List Nd) (v : Value) (w : World) (B : Nat) (hB : B ≤ w.heap.size) (hv : SlAt w B v (leafRow (some x) ++ r)) : Calls Try.prog 53 #[v] w fun e w' => PiecedL w w' B e (some x) r := by
  rw [leafRow, List.cons_append, List.nil_append] at hv
  obtain ⟨ao, cap, rfl, hc1, hc2, hr⟩ := hv
  obtain ⟨b, o, rfl, hb, hrow⟩ := hr (by simp)
  have HT : Hid (∀ ao, (cap ≠ 1 → ao = some ⟨b, o + 5, none⟩) → SlAt w B (.slice ao r.length (cap - 1)) (r)) := hide (fun ao ha => SlAt.tail hb hrow hc1 hc2 ao ha)
  have HBS := hide hB
  simp only [List.length_cons] at hc1
  obtain ⟨⟨c0, c1, c2, c3, c4⟩, -⟩ := hrow
  dsimp only at c0 c1 c2 c3 c4
  have hbw : b < w.heap.size := World.block_lt_of_cell? w _ c0
  clear hr
  by_cases hcap : cap = 1
  · subst hcap
    obtain rfl : r = [] := List.length_eq_zero_iff.1 (by omega)
    go_enter Try.func53, Try.ntmps53
    go_wp2_with fail
    go_region
    go_wp2_with fail
    go_ret2
    exact ⟨_, _, rfl, rfl, (HT.out _ (fun h => absurd rfl h)).carry ((alloc1 w _).drew.mono HBS.out), (alloc1 w _).drew⟩
  · go_enter Try.func53, Try.ntmps53
    go_wp2_with fail
    go_region
    go_wp2_with fail
    go_ret2
    exact ⟨_, _, rfl, rfl, (HT.out _ (fun _ => rfl)).carry ((alloc1 w _).drew.mono HBS.out), (alloc1 w _).drew⟩
set_option maxRecDepth 100000 in
set_option maxHeartbeats 1000000 in
theorem piece_loop (n : Nat) (x : ByteArray) (p : Pn n) (hp : PieceCalls n p) (r : List Nd) (v : Value) (w : World) (B : Nat) (hB : B ≤ w.heap.size) (hv : SlAt w B v (rowN (n + 1) (.loop x p) ++ r)) : Calls Try.prog 53 #[v] w fun e w' => Pieced w w' B e (n + 1) (.loop x p) r := by
  rw [row_loop, List.cons_append] at hv
  obtain ⟨ao, cap, rfl, hc1, hc2, hr⟩ := hv
  obtain ⟨b, o, rfl, hb, hrow⟩ := hr (by simp)
  have HT : Hid (∀ ao, (cap ≠ 1 → ao = some ⟨b, o + 5, none⟩) → SlAt w B (.slice ao (rowN n p ++ r).length (cap - 1)) ((rowN n p ++ r))) := hide (fun ao ha => SlAt.tail hb hrow hc1 hc2 ao ha)
  have HBS := hide hB
  simp only [List.length_cons] at hc1
  obtain ⟨⟨c0, c1, c2, c3, c4⟩, -⟩ := hrow
  dsimp only at c0 c1 c2 c3 c4
  have hbw : b < w.heap.size := World.block_lt_of_cell? w _ c0
  clear hr
  have hpos := row_pos n p
  have hcap : cap ≠ 1 := by simp only [List.length_append] at hc1; omega
  have HC : Hid (Calls Try.prog 53 #[.slice (some ⟨b, o + 5, none⟩) (rowN n p ++ r).length (cap - 1)] (w.alloc (.cells #[.int .i64 2, .string x, .string noT, .int .i64 0, .int .i64 0] 53)).drew fun e w' => Pieced (w.alloc (.cells #[.int .i64 2, .string x, .string noT, .int .i64 0, .int .i64 0] 53)).drew w' B e n p r) := hide (hp r _ _ B (by simp; omega) ((HT.out _ (fun _ => rfl)).carry ((alloc1 w _).drew.mono HBS.out)))
  obtain ⟨N, hN⟩ : ∃ N, (rowN n p ++ r).length = N := ⟨_, rfl⟩
  rw [hN] at HC hc1
  rw [List.length_cons, hN]
  clear hN hp hpos
  go_enter Try.func53, Try.ntmps53
  go_wp2_with fail
  go_region
  go_wp2_with (go_at_call 53; refine HC.out.mono ?_; rintro e w2 ⟨u, v2, rfl, h1, h2, h3⟩; have H1 := hide h1; have H2 := hide h2; have H3 : Hid (Below w.heap.size w w2) := hide ((alloc1 w _).drew.trans (h3.mono (by simp))); have d1 := (h3.cell (p := ⟨w.heap.size, 1, none⟩) (by simp)); simp at d1; obtain ⟨ao2, cap2, rfl, -⟩ := h2; obtain ⟨t2, a2, rfl⟩ := h1.shape; clear h1 h3)
  go_ret2
  exact ⟨_, _, rfl, ⟨_, rfl, H1.out.wide (by simp)⟩, H2.out, H3.out⟩
/-- what branchesAhead answers -/
def Branched (w w' : World) (B : Nat) (e : Ending) (n : Nat) (cs : List (Br (Pn n))) (r : List Nd) : Prop := ∃ u v', e = .returned (.tuple #[u, v']) ∧ BrS w' (btw w.heap.size w'.heap.size) u cs ∧ SlAt w' B v' r ∧ Below w.heap.size w w'
def BranchCalls (n : Nat) (cs : List (Br (Pn n))) : Prop := ∀ (r : List Nd) (v : Value) (w : World) (B : Nat), B ≤ w.heap.size → SlAt w B v (brsBy (rowN n) cs ++ r) → Calls Try.prog 80 #[v, .int .i64 (cs.length : Int)] w fun e w' => Branched w w' B e n cs r
set_option maxRecDepth 100000 in
set_option maxHeartbeats 1000000 in
theorem piece_msg (n : Nat) (x y : ByteArray) (cs : List (Br (Pn n))) (hlen : 1 ≤ cs.length) (hp : BranchCalls n cs) (r : List Nd) (v : Value) (w : World) (B : Nat) (hB : B ≤ w.heap.size) (hv : SlAt w B v (rowN (n + 1) (.talk ⟨3, x, y⟩ cs) ++ r)) : Calls Try.prog 53 #[v] w fun e w' => Pieced w w' B e (n + 1) (.talk ⟨3, x, y⟩ cs) r := by
  rw [row_talk, List.cons_append] at hv
  obtain ⟨ao, cap, rfl, hc1, hc2, hr⟩ := hv
  obtain ⟨b, o, rfl, hb, hrow⟩ := hr (by simp)
  have HT : Hid (∀ ao, (cap ≠ 1 → ao = some ⟨b, o + 5, none⟩) → SlAt w B (.slice ao (brsBy (rowN n) cs ++ r).length (cap - 1)) (brsBy (rowN n) cs ++ r)) := hide (fun ao ha => SlAt.tail hb hrow hc1 hc2 ao ha)
  have HBS := hide hB
  simp only [List.length_cons] at hc1
  obtain ⟨⟨c0, c1, c2, c3, c4⟩, -⟩ := hrow
  dsimp only at c0 c1 c2 c3 c4
  have hbw : b < w.heap.size := World.block_lt_of_cell? w _ c0
  have hpos : 0 < (brsBy (rowN n) cs).length := by
    cases cs with
    | nil => simp at hlen
    | cons => rw [brs_cons]; simp
  have hcap : cap ≠ 1 := by simp only [List.length_append] at hc1; omega
  obtain ⟨M, hM⟩ : ∃ M, cs.length = M := ⟨_, rfl⟩
  have HC : Hid (Calls Try.prog 80 #[.slice (some ⟨b, o + 5, none⟩) (brsBy (rowN n) cs ++ r).length (cap - 1), .int .i64 (M : Int)] (w.alloc (.cells #[.int .i64 3, .string x, .string y, .int .i64 (M : Int), .int .i64 0] 53)).drew fun e w' => Branched (w.alloc (.cells #[.int .i64 3, .string x, .string y, .int .i64 (M : Int), .int .i64 0] 53)).drew w' B e n cs r) := hide (by rw [← hM]; exact hp r _ _ B (by simp; omega) ((HT.out _ (fun _ => rfl)).carry ((alloc1 w _).drew.mono HBS.out)))
  obtain ⟨N, hN⟩ : ∃ N, (brsBy (rowN n) cs ++ r).length = N := ⟨_, rfl⟩
  rw [hN] at HC hc1
  rw [hM] at c3
  rw [List.length_cons, hN]
  clear hN hp hpos hM hlen hr
  go_enter Try.func53, Try.ntmps53
  go_wp2_with fail
  go_region
  go_wp2_with (go_at_call 80; refine HC.out.mono ?_; rintro e w2 ⟨u, v2, rfl, h1, h2, h3⟩; have H1 := hide h1; have H2 := hide h2; have H3 : Hid (Below w.heap.size w w2) := hide ((alloc1 w _).drew.trans (h3.mono (by simp))); have d1 := (h3.cell (p := ⟨w.heap.size, 1, none⟩) (by simp)); have d2 := (h3.cell (p := ⟨w.heap.size, 2, none⟩) (by simp)); simp at d1 d2; obtain ⟨ao2, cap2, rfl, -⟩ := h2; obtain ⟨ao3, cap3, rfl, -⟩ := h1; clear h3)
  go_ret2
  exact ⟨_, _, rfl, ⟨_, rfl, H1.out.wide (by simp)⟩, H2.out, H3.out⟩
end Go.Proofs.Ytmlkfnclniamiaa
