/- l02Text: at every right beginning. -/
import Derived.Test.YtmjlblbhakppfaaGreatDoorQB20
import Derived.Test.YtmjlblbhakppfaaGreatDoorQB07
import Derived.Test.YtmjlblbhakppfaaGreatDoorQB08
import Derived.Laws.Concat
namespace Go.Proofs.YtmjlblbhakppfaaGreatDoor
open Go.RowKit

theorem s_sortText (n : Int) (w : World) (h0 : 0 ≤ n) (h2 : n ≤ 2) :
    Calls Tryz.prog 109 #[.int .i64 n] w fun e w' => e = .returned (.string (sortT n)) ∧ Below w.heap.size w w' := by
  rcases (show n = 0 ∨ n = 1 ∨ n = 2 by omega) with h | h | h
  all_goals
    subst h
    go_enter Tryz.func109, Tryz.ntmps109
    go_wp2_with fail
    go_ret
    exact ⟨ret_str rfl, alloc1 _ _⟩

/-- a row in memory, as a slice's value -/
def ArrAt (w : World) (v : Value) (all : List Nd) : Prop :=
  ∃ b o cap, v = .slice (some ⟨b, o, none⟩) all.length cap ∧ all.length ≤ cap ∧ all.length ≤ 4294967296 ∧ RowAt w b o all ∧ b < w.heap.size
theorem ArrAt.carry {w w' : World} {v : Value} {all : List Nd} (h : ArrAt w v all) (hb : Below w.heap.size w w') : ArrAt w' v all := by
  obtain ⟨b, o, cap, e, h1, h2, h3, h4⟩ := h
  exact ⟨b, o, cap, e, h1, h2, h3.carry h4 hb, Nat.lt_of_lt_of_le h4 hb.size⟩

theorem joinC_snoc : ∀ {acc : List ByteArray} {x : ByteArray}, acc ≠ [] → joinC (acc ++ [x]) = joinC acc ++ ba [44] ++ x
  | [], _, h => absurd rfl h
  | [t], x, _ => rfl
  | t :: u :: ts, x, _ => by
    have ih := joinC_snoc (acc := u :: ts) (x := x) (by simp)
    rw [joinC, List.cons_append, List.cons_append, joinC]
    rw [← List.cons_append, ih]
    apply ba_ext
    simp
theorem step_concat {P : Program} {ops : Array Oper} {o : Oper} {a : Act} {w : World} {K : Act → World → Prop} {Q : Exit → Act → World → Prop} {E : Prop}
    (hg : o.guard = none) (x y : Operand) (ty tz : TypeId) (hop : o.op = Op.binOp BinOp.add ty x y tz) (s t : ByteArray) (hx : a.eval x = .string s) (hy : a.eval y = .string t) (hb : s.size + t.size ≤ 100000)
    (hK : K (a.put o.dst (.string (s ++ t))) w) :
    if Region.wanted o (yielded ops a.tmps) = true then Oper.wp P o a w K Q else E := by
  have hw : Region.wanted o (yielded ops a.tmps) = true := by simp [Region.wanted, hg]
  rw [if_pos hw]
  unfold Oper.wp
  have hr := run_string_add_sum (P := P) w s t (by omega)
  have he : (eqGuard BinOp.add ty x y (.string s) (.string t)).run P w = .ok () w := by simp [eqGuard]
  simp [execOp, hop, hx, hy, Go.binOp, Result.andThen]
  rw [he]
  simp only [hr]
  exact hK

def STextCalls (part : Bool) (f : Nat) : Prop := ∀ (st all r : List Nd) (pos : Nat) (a : Int) (v : Value) (w : World), st.length + f = 10 → StW st → a = pos → pos ≤ all.length → all.length ≤ 40 → ahead (talkS part) f st (all.drop pos) = some r → ArrAt w v all →
  Calls Tryz.prog 79 #[v, .int .i64 a] w fun e w' => e = .returned (.tuple #[.string (textF f (all.drop pos)).1, .int .i64 ((all.length - r.length : Nat) : Int)]) ∧ Below w.heap.size w w'

end Go.Proofs.YtmjlblbhakppfaaGreatDoor
/- textAhead, a step: the Node at hand is of this kind. -/
namespace Go.Proofs.YtmjlblbhakppfaaGreatDoor
open Go.RowKit

set_option maxRecDepth 100000 in
set_option maxHeartbeats 1000000 in
theorem itext3_b (part : Bool) (f : Nat) (hih : ∀ g, f = g + 1 → ITextCalls part g) (st : List Nd) (name peer : ByteArray) (many sort : Int) (l1 r : List Nd) (w : World) (B b o cap : Nat) (hlen : st.length + f = 10) (hst : StW st) (h40 : l1.length + 1 ≤ 40) (ha : ahead (talkS part) f st (⟨3, name, peer, many, sort⟩ :: l1) = some r) (hB : B ≤ w.heap.size) (hbB : b < B) (hc1 : l1.length + 1 ≤ cap) (hc2 : cap ≤ 9223372036854775807 ∧ l1.length < 4294967296) (hcap : cap ≠ 1) (hrow : RowAt w b o (⟨3, name, peer, many, sort⟩ :: l1)) (hsw : SortW w) :
    Calls Tryz.prog 38 #[.slice (some ⟨b, o, none⟩) (l1.length + 1) cap] w fun e w' => (∃ v', e = .returned (.tuple #[.string (textF f (⟨3, name, peer, many, sort⟩ :: l1)).1, v']) ∧ SlAt w' B v' r) ∧ Below w.heap.size w w' := by
  have HR := hide hrow
  have HL := hide hlen
  have HST := hide hst
  have HA := hide ha
  have HB := hide hB
  have HBB := hide hbB
  have HSW := hide hsw
  have HSX : Hid (SlAt w B (.slice (some ⟨b, o + 5, none⟩) l1.length (cap - 1)) l1) := hide (SlAt.tail hbB hrow (by simp; omega) hc2 _ (fun _ => rfl))
  obtain ⟨⟨c0, c1, c2, c3, c4⟩, -⟩ := hrow
  dsimp only at c0 c1 c2 c3 c4
  have hbw : b < w.heap.size := World.block_lt_of_cell? w _ c0
  clear hlen hst ha hB hbB hsw
  obtain ⟨g, hg, hgo, hts, hstw⟩ : ∃ g, f = g + 1 ∧ kidsBy (ahead (talkS part) g (⟨3, name, peer, many, sort⟩ :: st)) many.toNat [] l1 = some r ∧ talkS part ⟨3, name, peer, many, sort⟩ = true ∧ StW (⟨3, name, peer, many, sort⟩ :: st) := by
    have h := HA.out
    cases f with
    | zero => rw [ahead_t0 (by simp) (by simp)] at h; cases h
    | succ g =>
      rw [ahead_t (by simp) (by simp) (by simp)] at h
      split at h
      · rename_i hv
        exact ⟨g, rfl, h, hv, fun x hx h2 => by
          rcases List.mem_cons.1 hx with e | e
          · rw [e] at h2; simp at h2
          · exact HST.out x e h2⟩
      · cases h
  subst hg
  have HIH := hide (hih g rfl)
  have HGO := hide hgo
  have HSTW := hide hstw
  have hsz := talk_sz hts
  have hm14 : 1 ≤ many.toNat ∧ many.toNat ≤ 4 ∧ many = (many.toNat : Int) := by simp only [talkS, manyB, Bool.and_eq_true, decide_eq_true_eq] at hts; omega
  have hpz : peer.size ≤ 20 := by simp only [talkS, Bool.and_eq_true] at hts; exact word20 hts.1.1.1
  have hnz : name.size ≤ 20 := by
    simp only [talkS, Bool.and_eq_true] at hts
    cases part
    · simp at hts <;> first | exact word20 hts.2.1 | exact word20 hts.2.1.2
    · simp at hts <;> (
        have h0 : name.data.toList = [] := by rw [← Go.ByteArray.toList_eq]; simp [hts]
        have h3 : name.size = name.data.toList.length := rfl
        rw [h3, h0]; simp)
  obtain ⟨e1, s1, n1⟩ := kids_text (fun l r => ahead_text part g _ l r hstw) _ _ _ _ hgo
  obtain ⟨m, hmm⟩ : ∃ m, many.toNat = m := ⟨_, rfl⟩
  rw [hmm] at hm14 s1
  obtain ⟨hm1, hm4, hmI⟩ := hm14
  have HMM := hide hmm
  subst hmI
  obtain ⟨t1, ht1⟩ : ∃ t1, joinC (casesF (textF g) m l1).1 = t1 := ⟨_, rfl⟩
  have HT1 := hide ht1
  have htz : t1.size ≤ 1720 := by rw [← ht1]; have := joinC_sz (casesF (textF g) m l1).1; omega
  have HGO2 : Hid (kidsBy (ahead (talkS part) g (⟨3, name, peer, m, sort⟩ :: st)) m [] l1 = some r) := hide (by have := HGO.out; rwa [HMM.out] at this)
  obtain ⟨tt, htt⟩ : ∃ tt, talkT ⟨3, name, peer, m, sort⟩ = tt := ⟨_, rfl⟩
  have HTT := hide htt
  have httz : tt.size ≤ 41 := by rw [← htt]; exact hsz
  have HRE : Hid ((textF (g + 1) (⟨3, name, peer, m, sort⟩ :: l1)).1 = tt ++ ba [123] ++ t1 ++ ba [125]) := hide (by rw [← HTT.out, ← HT1.out]; rfl)
  clear hih hgo hstw e1 s1 n1 ht1 hts htt hmm hsz HGO HA
  go_enter Tryz.func38, Tryz.ntmps38
  go_wp2_with fail
  go_region
  go_wp2_with (first
    | (go_at_call 67; refine (cases_text part g HIH.out (⟨3, name, peer, m, sort⟩ :: st) l1 r m _ _ B (by have := HL.out; simp; omega) HSTW.out (by omega) ⟨hm1, hm4⟩ HGO2.out (Nat.le_trans HB.out (Below.size (B := w.heap.size) (by repeat (first | exact alloc1 _ _ | exact Below.refl _ _ | refine Below.drew ?_)))) (HSX.out.carry (Below.mono (by repeat (first | exact alloc1 _ _ | exact Below.refl _ _ | refine Below.drew ?_)) HB.out)) (HSW.out.carry (by repeat (first | exact alloc1 _ _ | exact Below.refl _ _ | refine Below.drew ?_)))).mono ?_; rintro e w1 ⟨⟨v1, rfl, hs1⟩, hb1⟩; rw [HT1.out]; obtain ⟨d0, d1, d2, d3, d4⟩ := NodeAt.carry (B := _) (boxed w ⟨3, name, peer, m, sort⟩ 45) (by simp) hb1; dsimp only at d0 d1 d2 d3 d4; have hs1' : w.heap.size < w1.heap.size := (by have := hb1.size; simp at this; omega); have HS1 := hide hs1; obtain ⟨ao2, cap2, rfl, hs2⟩ := hs1; have HB1 : Hid (Below w.heap.size w w1) := hide (Below.trans (a := w) (b := _) (by repeat (first | exact alloc1 _ _ | exact Below.refl _ _ | refine Below.drew ?_)) (hb1.mono (by simp))); clear hb1 hs2)
    | (go_at_call 68; refine (i_talkText ⟨3, name, peer, m, sort⟩ _ (by simp only; omega) (by simp only; omega)).mono ?_; rintro e w2 ⟨rfl, hb2⟩; rw [HTT.out]; have HB2 := hide hb2; clear hb2)
    | (go_at_call 66; refine (join4 tt (ba [123]) t1 (ba [125]) _ _ (by first | rfl | simp) (by rw [sz_ba, sz_ba]; simp only [List.length_cons, List.length_nil]; omega)).mono ?_; rintro e w3 ⟨rfl, hb3⟩; have HB3 := hide hb3; clear hb3))
  go_ret2
  refine ⟨⟨_, by rw [HRE.out]; rfl, (HS1.out.carry (HB2.out.mono (Nat.le_trans HB.out HB1.out.size))).carry (HB3.out.mono (Nat.le_trans HB.out (Nat.le_trans HB1.out.size HB2.out.size)))⟩, (HB1.out.trans (HB2.out.mono HB1.out.size)).trans (HB3.out.mono (Nat.le_trans HB1.out.size HB2.out.size))⟩

set_option maxRecDepth 100000 in
set_option maxHeartbeats 1000000 in
theorem itext3_a (part : Bool) (f : Nat) (hih : ∀ g, f = g + 1 → ITextCalls part g) (st : List Nd) (name peer : ByteArray) (many sort : Int) (l1 r : List Nd) (w : World) (B b o cap : Nat) (hlen : st.length + f = 10) (hst : StW st) (h40 : l1.length + 1 ≤ 40) (ha : ahead (talkS part) f st (⟨3, name, peer, many, sort⟩ :: l1) = some r) (hB : B ≤ w.heap.size) (hbB : b < B) (hc1 : l1.length + 1 ≤ cap) (hc2 : cap ≤ 9223372036854775807 ∧ l1.length < 4294967296) (hcap : cap = 1) (hrow : RowAt w b o (⟨3, name, peer, many, sort⟩ :: l1)) (hsw : SortW w) :
    Calls Tryz.prog 38 #[.slice (some ⟨b, o, none⟩) (l1.length + 1) cap] w fun e w' => (∃ v', e = .returned (.tuple #[.string (textF f (⟨3, name, peer, many, sort⟩ :: l1)).1, v']) ∧ SlAt w' B v' r) ∧ Below w.heap.size w w' := by
  have HR := hide hrow
  have HL := hide hlen
  have HST := hide hst
  have HA := hide ha
  have HB := hide hB
  have HBB := hide hbB
  have HSW := hide hsw
  have HSX : Hid (SlAt w B (.slice (some ⟨b, o, none⟩) 0 0) l1) := hide (by rw [List.length_eq_zero_iff.1 (show l1.length = 0 by omega)]; exact ⟨_, _, rfl, Nat.le_refl _, by simp, fun h => absurd rfl h⟩)
  subst hcap
  obtain ⟨⟨c0, c1, c2, c3, c4⟩, -⟩ := hrow
  dsimp only at c0 c1 c2 c3 c4
  have hbw : b < w.heap.size := World.block_lt_of_cell? w _ c0
  clear hlen hst ha hB hbB hsw
  obtain ⟨g, hg, hgo, hts, hstw⟩ : ∃ g, f = g + 1 ∧ kidsBy (ahead (talkS part) g (⟨3, name, peer, many, sort⟩ :: st)) many.toNat [] l1 = some r ∧ talkS part ⟨3, name, peer, many, sort⟩ = true ∧ StW (⟨3, name, peer, many, sort⟩ :: st) := by
    have h := HA.out
    cases f with
    | zero => rw [ahead_t0 (by simp) (by simp)] at h; cases h
    | succ g =>
      rw [ahead_t (by simp) (by simp) (by simp)] at h
      split at h
      · rename_i hv
        exact ⟨g, rfl, h, hv, fun x hx h2 => by
          rcases List.mem_cons.1 hx with e | e
          · rw [e] at h2; simp at h2
          · exact HST.out x e h2⟩
      · cases h
  subst hg
  have HIH := hide (hih g rfl)
  have HGO := hide hgo
  have HSTW := hide hstw
  have hsz := talk_sz hts
  have hm14 : 1 ≤ many.toNat ∧ many.toNat ≤ 4 ∧ many = (many.toNat : Int) := by simp only [talkS, manyB, Bool.and_eq_true, decide_eq_true_eq] at hts; omega
  have hpz : peer.size ≤ 20 := by simp only [talkS, Bool.and_eq_true] at hts; exact word20 hts.1.1.1
  have hnz : name.size ≤ 20 := by
    simp only [talkS, Bool.and_eq_true] at hts
    cases part
    · simp at hts <;> first | exact word20 hts.2.1 | exact word20 hts.2.1.2
    · simp at hts <;> (
        have h0 : name.data.toList = [] := by rw [← Go.ByteArray.toList_eq]; simp [hts]
        have h3 : name.size = name.data.toList.length := rfl
        rw [h3, h0]; simp)
  obtain ⟨e1, s1, n1⟩ := kids_text (fun l r => ahead_text part g _ l r hstw) _ _ _ _ hgo
  obtain ⟨m, hmm⟩ : ∃ m, many.toNat = m := ⟨_, rfl⟩
  rw [hmm] at hm14 s1
  obtain ⟨hm1, hm4, hmI⟩ := hm14
  have HMM := hide hmm
  subst hmI
  obtain ⟨t1, ht1⟩ : ∃ t1, joinC (casesF (textF g) m l1).1 = t1 := ⟨_, rfl⟩
  have HT1 := hide ht1
  have htz : t1.size ≤ 1720 := by rw [← ht1]; have := joinC_sz (casesF (textF g) m l1).1; omega
  have HGO2 : Hid (kidsBy (ahead (talkS part) g (⟨3, name, peer, m, sort⟩ :: st)) m [] l1 = some r) := hide (by have := HGO.out; rwa [HMM.out] at this)
  obtain ⟨tt, htt⟩ : ∃ tt, talkT ⟨3, name, peer, m, sort⟩ = tt := ⟨_, rfl⟩
  have HTT := hide htt
  have httz : tt.size ≤ 41 := by rw [← htt]; exact hsz
  have HRE : Hid ((textF (g + 1) (⟨3, name, peer, m, sort⟩ :: l1)).1 = tt ++ ba [123] ++ t1 ++ ba [125]) := hide (by rw [← HTT.out, ← HT1.out]; rfl)
  clear hih hgo hstw e1 s1 n1 ht1 hts htt hmm hsz HGO HA
  go_enter Tryz.func38, Tryz.ntmps38
  go_wp2_with fail
  go_region
  go_wp2_with (first
    | (go_at_call 67; refine (cases_text part g HIH.out (⟨3, name, peer, m, sort⟩ :: st) l1 r m _ _ B (by have := HL.out; simp; omega) HSTW.out (by omega) ⟨hm1, hm4⟩ HGO2.out (Nat.le_trans HB.out (Below.size (B := w.heap.size) (by repeat (first | exact alloc1 _ _ | exact Below.refl _ _ | refine Below.drew ?_)))) (HSX.out.carry (Below.mono (by repeat (first | exact alloc1 _ _ | exact Below.refl _ _ | refine Below.drew ?_)) HB.out)) (HSW.out.carry (by repeat (first | exact alloc1 _ _ | exact Below.refl _ _ | refine Below.drew ?_)))).mono ?_; rintro e w1 ⟨⟨v1, rfl, hs1⟩, hb1⟩; rw [HT1.out]; obtain ⟨d0, d1, d2, d3, d4⟩ := NodeAt.carry (B := _) (boxed w ⟨3, name, peer, m, sort⟩ 45) (by simp) hb1; dsimp only at d0 d1 d2 d3 d4; have hs1' : w.heap.size < w1.heap.size := (by have := hb1.size; simp at this; omega); have HS1 := hide hs1; obtain ⟨ao2, cap2, rfl, hs2⟩ := hs1; have HB1 : Hid (Below w.heap.size w w1) := hide (Below.trans (a := w) (b := _) (by repeat (first | exact alloc1 _ _ | exact Below.refl _ _ | refine Below.drew ?_)) (hb1.mono (by simp))); clear hb1 hs2)
    | (go_at_call 68; refine (i_talkText ⟨3, name, peer, m, sort⟩ _ (by simp only; omega) (by simp only; omega)).mono ?_; rintro e w2 ⟨rfl, hb2⟩; rw [HTT.out]; have HB2 := hide hb2; clear hb2)
    | (go_at_call 66; refine (join4 tt (ba [123]) t1 (ba [125]) _ _ (by first | rfl | simp) (by rw [sz_ba, sz_ba]; simp only [List.length_cons, List.length_nil]; omega)).mono ?_; rintro e w3 ⟨rfl, hb3⟩; have HB3 := hide hb3; clear hb3))
  go_ret2
  refine ⟨⟨_, by rw [HRE.out]; rfl, (HS1.out.carry (HB2.out.mono (Nat.le_trans HB.out HB1.out.size))).carry (HB3.out.mono (Nat.le_trans HB.out (Nat.le_trans HB1.out.size HB2.out.size)))⟩, (HB1.out.trans (HB2.out.mono HB1.out.size)).trans (HB3.out.mono (Nat.le_trans HB1.out.size HB2.out.size))⟩
end Go.Proofs.YtmjlblbhakppfaaGreatDoor
/- NodesOf: the messages of a right plan. -/
namespace Go.Proofs.YtmjlblbhakppfaaGreatDoor
open Go.RowKit

def msgs (ns : List Nd) : Nat := (ns.filter fun n => n.op == 3).length
def nodesV (ns : List Nd) : Int := if rightB false ns then (msgs ns : Int) else 0
theorem msgs_next {ns : List Nd} {k : Nat} (h : k < ns.length) : msgs (ns.take (k + 1)) = msgs (ns.take k) + (if ns[k].op == 3 then 1 else 0) := by
  rw [msgs, List.take_succ_eq_append_getElem h, List.filter_append, List.length_append]
  cases e : (ns[k].op == 3) <;> simp [msgs, e]
theorem msgs_le (ns : List Nd) : msgs ns ≤ ns.length := List.length_filter_le _ _

set_option maxHeartbeats 400000 in
theorem nodes_of (ns : List Nd) (v : Value) (w : World) (fit : ∀ n ∈ ns, n.fit) (hv : SlAt w w.heap.size v ns) :
    Calls Tryz.prog 20 #[v] w fun e w' => e = .returned (.int .i64 (nodesV ns)) ∧ Below w.heap.size w w' := by
  have HV := hide hv
  have HF := hide fit
  have hlm := hv.lenm
  obtain ⟨ao, cap, rfl, hc, hm, hr⟩ := hv
  have HR := hide hr
  obtain ⟨rb, hrb⟩ : ∃ rb, rightB false ns = rb := ⟨_, rfl⟩
  have HRB := hide hrb
  clear hr fit hrb
  cases rb
  · go_enter Tryz.func20, Tryz.ntmps20
    go_wp2_with (go_at_call 12; refine (plan_right ns _ _ HF.out HV.out).mono ?_; rintro e w1 ⟨rfl, hb1⟩; rw [HRB.out]; have HB1 := hide hb1; clear hb1)
    go_ret
    exact ⟨ret_int (by simp [nodesV, HRB.out]), HB1.out⟩
  · go_enter Tryz.func20, Tryz.ntmps20
    go_wp2_with (go_at_call 12; refine (plan_right ns _ _ HF.out HV.out).mono ?_; rintro e w1 ⟨rfl, hb1⟩; rw [HRB.out]; have HB1 := hide hb1; clear hb1)
    go_loopw [3, 11] (fun c i wr => ∃ k : Nat, k ≤ ns.length ∧ i = .int .i64 k ∧ c = .int .i64 (msgs (ns.take k) : Int) ∧ Below w.heap.size w wr)
      (fun _ i _ => ns.length - (intOf i).toNat)
    case atStart => exact ⟨0, Nat.zero_le _, rfl, rfl, HB1.out⟩
    case round =>
      obtain ⟨k, hk, rfl, rfl, hbel⟩ := hrel
      have HBEL := hide hbel
      have hszr := hbel.size
      have hmk : msgs (ns.take k) ≤ 4294967296 := by have := msgs_le (ns.take k); simp at this; omega
      clear hbel
      obtain ⟨m0, hm0⟩ : ∃ m0, msgs (ns.take k) = m0 := ⟨_, rfl⟩
      rw [hm0] at hmk ⊢
      have HM0 := hide hm0
      clear hm0
      by_cases hlt : k < ns.length
      · obtain ⟨b, o, rfl, hbB, hrow⟩ := HR.out (by intro h; simp [h] at hlt)
        have hnode := (hrow.get k hlt).carry hbB HBEL.out
        obtain ⟨n1, hn1⟩ : ∃ n1, n1 = ns[k] := ⟨_, rfl⟩
        rw [← hn1] at hnode
        have HN := hide (show msgs (ns.take (k + 1)) = m0 + (if n1.op == 3 then 1 else 0) by rw [msgs_next hlt, HM0.out, hn1])
        clear hn1 hrow
        have hbw : b < wr.heap.size := hnode.lt
        obtain ⟨c0, c1, c2, c3, c4⟩ := hnode
        obtain ⟨op3, hop3⟩ : ∃ op3, (n1.op == 3) = op3 := ⟨_, rfl⟩
        have HO3 := hide hop3
        cases op3
        · go_wp2_with fail
          go_roundw
          case rel => exact ⟨k + 1, by omega, by go_num, by rw [HN.out, HO3.out]; rfl, HBEL.out.trans ((alloc1 _ _).mono hszr)⟩
          case measure => simp [intOf]; omega
        · go_wp2_with fail
          go_roundw
          case rel => exact ⟨k + 1, by omega, by go_num, by rw [HN.out, HO3.out]; rfl, HBEL.out.trans ((alloc1 _ _).mono hszr)⟩
          case measure => simp [intOf]; omega
      · go_wp2_with fail
        go_ret
        refine ⟨ret_int ?_, HBEL.out⟩
        have := HM0.out
        rw [List.take_of_length_le (by omega)] at this
        simp [nodesV, HRB.out, this]

set_option maxHeartbeats 400000 in
theorem s_nodesOf (ns : List Nd) (v : Value) (w : World) (fit : ∀ n ∈ ns, n.fit) (hv : SlAt w w.heap.size v ns) :
    Calls Tryz.prog 21 #[v] w fun e w' => e = .returned (.int .i64 (nodesV ns)) ∧ Below w.heap.size w w' := by
  have HV := hide hv
  have HF := hide fit
  have hlm := hv.lenm
  obtain ⟨ao, cap, rfl, hc, hm, hr⟩ := hv
  have HR := hide hr
  obtain ⟨rb, hrb⟩ : ∃ rb, rightB false ns = rb := ⟨_, rfl⟩
  have HRB := hide hrb
  have HR40 := hide (show rb = true → ns.length ≤ 40 from fun h => by rw [h, rightB] at hrb; simp at hrb; exact hrb.1)
  clear hr fit hrb
  go_enter Tryz.func21, Tryz.ntmps21
  go_wp2_with fail
  go_loopw [3, 4] (fun c i wr => ∃ k : Nat, k ≤ ns.length ∧ i = .int .i64 k ∧ c = .int .i64 (msgs (ns.take k) : Int) ∧ (0 < k → rb = true) ∧ Below w.heap.size w wr)
    (fun _ i _ => ns.length - (intOf i).toNat)
  case atStart => exact ⟨0, Nat.zero_le _, rfl, rfl, fun h => absurd h (by omega), Below.refl _ _⟩
  case round =>
    obtain ⟨k, hk, rfl, rfl, hpos, hbel⟩ := hrel
    have HPOS := hide hpos
    have HBEL := hide hbel
    have hszr := hbel.size
    have hmk : msgs (ns.take k) ≤ 4294967296 := by have := msgs_le (ns.take k); simp at this; omega
    clear hbel hpos
    obtain ⟨m0, hm0⟩ : ∃ m0, msgs (ns.take k) = m0 := ⟨_, rfl⟩
    rw [hm0] at hmk ⊢
    have HM0 := hide hm0
    clear hm0
    by_cases hlt : k < ns.length
    · by_cases h400 : ns.length ≤ 400
      · cases rb
        · go_wp2_with (go_at_call 13; refine (s_planRight ns _ _ HF.out ((HV.out.carry HBEL.out).up HBEL.out.size)).mono ?_; rintro e w1 ⟨rfl, hb1⟩; rw [HRB.out]; have HB1 := hide hb1; clear hb1)
          go_ret
          refine ⟨ret_int ?_, HBEL.out.trans (HB1.out.mono hszr)⟩
          have hk0 : k = 0 := by
            rcases Nat.eq_zero_or_pos k with h | h
            · exact h
            · exact absurd (HPOS.out h) (by decide)
          have := HM0.out
          rw [hk0] at this
          simp [nodesV, HRB.out, ← this, msgs]
        · obtain ⟨b, o, rfl, hbB, hrow⟩ := HR.out (by intro h; simp [h] at hlt)
          have hnode := (hrow.get k hlt).carry hbB HBEL.out
          obtain ⟨n1, hn1⟩ : ∃ n1, n1 = ns[k] := ⟨_, rfl⟩
          rw [← hn1] at hnode
          have HN := hide (show msgs (ns.take (k + 1)) = m0 + (if n1.op == 3 then 1 else 0) by rw [msgs_next hlt, HM0.out, hn1])
          clear hn1 hrow
          have hbw : b < wr.heap.size := hnode.lt
          have HND := hide hnode
          clear hnode
          obtain ⟨op3, hop3⟩ : ∃ op3, (n1.op == 3) = op3 := ⟨_, rfl⟩
          have HO3 := hide hop3
          cases op3
          all_goals
            go_wp2_with (go_at_call 13; refine (s_planRight ns _ _ HF.out ((HV.out.carry HBEL.out).up HBEL.out.size)).mono ?_; rintro e w1 ⟨rfl, hb1⟩; rw [HRB.out]; obtain ⟨c0, c1, c2, c3, c4⟩ := HND.out.carry hbw hb1; have HB1 := hide hb1; clear hb1)
            go_roundw
            case rel => exact ⟨k + 1, by omega, by go_num, by rw [HN.out, HO3.out]; rfl, by simp, HBEL.out.trans (HB1.out.mono hszr)⟩
            case measure => simp [intOf]; omega
      · go_wp2_with fail
        go_ret
        refine ⟨ret_int ?_, HBEL.out⟩
        have hrf : rb = false := by
          cases hh : rb
          · rfl
          · have := HR40.out hh; omega
        have hk0 : k = 0 := by
          rcases Nat.eq_zero_or_pos k with h | h
          · exact h
          · rw [HPOS.out h] at hrf; cases hrf
        have := HM0.out
        rw [hk0] at this
        rw [nodesV, HRB.out, hrf, ← this]; rfl
    · go_wp2_with fail
      go_ret
      refine ⟨ret_int ?_, HBEL.out⟩
      have h1 := HM0.out
      rw [List.take_of_length_le (by omega)] at h1
      cases hh : rb
      · have hk0 : k = 0 := by
          rcases Nat.eq_zero_or_pos k with h | h
          · exact h
          · rw [HPOS.out h] at hh; cases hh
        have h0 : ns = [] := List.length_eq_zero_iff.1 (by omega)
        rw [nodesV, HRB.out, hh, ← h1, h0]; rfl
      · rw [nodesV, HRB.out, hh, h1]; rfl
end Go.Proofs.YtmjlblbhakppfaaGreatDoor
