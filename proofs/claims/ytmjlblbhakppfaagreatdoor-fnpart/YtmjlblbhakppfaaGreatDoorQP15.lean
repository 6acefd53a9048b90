import Derived.Test.YtmjlblbhakppfaaGreatDoorQP12
import Derived.Test.YtmjlblbhakppfaaGreatDoorQP14
import Derived.Test.YtmjlblbhakppfaaGreatDoorQP04
import Derived.Test.YtmjlblbhakppfaaGreatDoorQP05
import Derived.Laws.Concat
import Derived.Test.YtmjlblbhakppfaaGreatDoorQP13
import Derived.Test.YtmjlblbhakppfaaGreatDoorQP00
import Derived.Sort.OwnSorted
namespace Go.Proofs.YtmjlblbhakppfaaGreatDoor
open Go.RowKit

def joinT : List (List ByteArray) → List ByteArray
  | [] => []
  | [t] => t
  | t :: u :: ts => t ++ ba [44] :: joinT (u :: ts)
def casesT (go : List Nd → List ByteArray × List Nd) : Nat → List Nd → List (List ByteArray) × List Nd
  | 0, l => ([], l)
  | _ + 1, [] => ([], [])
  | m + 1, c :: l => ((tokC c ++ (go l).1) :: (casesT go m (go l).2).1, (casesT go m (go l).2).2)
def tokF : Nat → List Nd → List ByteArray × List Nd
  | _, [] => ([], [])
  | 0, n :: l => if n.op == 1 then ([n.name], l) else ([ba [101, 110, 100]], l)
  | f + 1, n :: l =>
    if n.op == 0 then ([ba [101, 110, 100]], l)
    else if n.op == 1 then ([n.name], l)
    else if n.op == 2 then (tokS n ++ (tokF f l).1, (tokF f l).2)
    else (tokS n ++ joinT (casesT (tokF f) n.many.toNat l).1 ++ [ba [125]], (casesT (tokF f) n.many.toNat l).2)
def catT (ts : List ByteArray) : ByteArray := ts.foldr (· ++ ·) ByteArray.empty
theorem cat_nil : catT [] = ByteArray.empty := rfl
theorem cat_cons (a : ByteArray) (ts : List ByteArray) : catT (a :: ts) = a ++ catT ts := rfl
theorem cat_app (a b : List ByteArray) : catT (a ++ b) = catT a ++ catT b := by
  induction a with
  | nil => rw [List.nil_append, cat_nil, ByteArray.empty_append]
  | cons x a ih => rw [List.cons_append, cat_cons, ih, cat_cons, ByteArray.append_assoc]
theorem cat_one (a : ByteArray) : catT [a] = a := by rw [cat_cons, cat_nil, ByteArray.append_empty]
theorem join_cat : ∀ ts : List (List ByteArray), joinC (ts.map catT) = catT (joinT ts)
  | [] => rfl
  | [t] => rfl
  | t :: u :: ts => by
    have ih := join_cat (u :: ts)
    rw [List.map_cons, List.map_cons, joinC, joinT, cat_app, cat_cons, ← ih, List.map_cons, ByteArray.append_assoc]
theorem case_cat {tf : List Nd → ByteArray × List Nd} {kf : List Nd → List ByteArray × List Nd} (h : ∀ l, tf l = (catT (kf l).1, (kf l).2)) : ∀ (m : Nat) (l : List Nd), casesF tf m l = ((casesT kf m l).1.map catT, (casesT kf m l).2)
  | 0, l => rfl
  | _ + 1, [] => rfl
  | m + 1, c :: l => by
    rw [casesF, casesT, h l, case_cat h m]
    simp only [List.map_cons, Prod.mk.injEq, List.cons.injEq, and_true]
    rw [caseT, cat_app]
    simp only [tokC, cat_cons, cat_nil, ByteArray.append_empty]
    rw [show ba [41, 46] = ba [41] ++ ba [46] from rfl]
    simp only [ByteArray.append_assoc]
theorem tok_text : ∀ (f : Nat) (l : List Nd), textF f l = (catT (tokF f l).1, (tokF f l).2) := by
  intro f
  induction f with
  | zero =>
    intro l
    cases l with
    | nil => rfl
    | cons n l =>
      rw [textF, tokF]
      split
      · rw [cat_one]
      · rw [cat_one]
  | succ f ih =>
    intro l
    cases l with
    | nil => rfl
    | cons n l =>
      rw [textF, tokF]
      split
      · rw [cat_one]
      · rename_i h0
        split
        · rw [cat_one]
        · rename_i h1
          split
          · rename_i h2
            rw [beq_iff_eq] at h2
            rw [ih l]
            simp only [Prod.mk.injEq, and_true]
            rw [cat_app, tokS, if_neg (by omega), if_neg (by omega), if_pos h2]
            simp only [cat_cons, cat_nil, ByteArray.append_empty, ByteArray.append_assoc]
          · rename_i h2
            rw [beq_iff_eq] at h0 h1 h2
            rw [case_cat ih]
            simp only [Prod.mk.injEq, and_true]
            rw [cat_app, cat_app, cat_one, join_cat, tokS, if_neg h0, if_neg h1, if_neg h2, talkT]
            by_cases h5 : n.op = 5
            · rw [if_pos (by rw [beq_iff_eq]; exact h5), if_pos h5]
              simp only [cat_cons, cat_nil, ByteArray.append_empty, ByteArray.append_assoc]
            · rw [if_neg (by rw [beq_iff_eq]; exact h5), if_neg h5]
              by_cases h6 : n.op = 6
              · rw [if_pos (by rw [beq_iff_eq]; exact h6), if_pos h6]
                simp only [cat_cons, cat_nil, ByteArray.append_empty, ByteArray.append_assoc]
              · rw [if_neg (by rw [beq_iff_eq]; exact h6), if_neg h6]
                simp only [cat_cons, cat_nil, ByteArray.append_empty, ByteArray.append_assoc]
theorem ba_list (t : List UInt8) : (ba t).toList = t := by rw [Go.ByteArray.toList_eq]; simp [ba]
theorem skM_ne {t u : List UInt8} (h : u ≠ t) (ms : List ByteArray) : skM t (ba u :: ms) = none := by
  rw [skM, if_neg (by rw [beq_iff_eq, ba_list]; exact h)]
def offM (ms : List ByteArray) : Prop := ms = [] ∨ (∃ r, ms = ba [44] :: r) ∨ ∃ r, ms = ba [125] :: r
theorem off_sk {ms : List ByteArray} (h : offM ms) {t : List UInt8} (h1 : t ≠ [44]) (h2 : t ≠ [125]) : skM t ms = none := by
  rcases h with rfl | ⟨r, rfl⟩ | ⟨r, rfl⟩
  · rfl
  · exact skM_ne (Ne.symm h1) _
  · exact skM_ne (Ne.symm h2) _
theorem word_end {x : ByteArray} (h : wordB x = true) : (x.toList == [101, 110, 100]) = false ∧ (x.toList == [114, 101, 99]) = false := by
  simp only [wordB, Bool.and_eq_true, Bool.not_eq_true'] at h
  exact h.2
theorem st_end (ms : List ByteArray) (L : List Nd) (op : List Nat) : stepR ⟨0, ba [101, 110, 100] :: ms, L, op⟩ = .inr ⟨2, ms, L ++ [⟨0, noT, noT, 0, 0⟩], op⟩ := by
  rw [step_start rfl]
  unfold startS
  rw [if_pos (by rw [beq_iff_eq]; exact ba_list _)]
  rfl
theorem st_var {x : ByteArray} (hx : wordB x = true) {ms : List ByteArray} (ho : offM ms) (L : List Nd) (op : List Nat) : stepR ⟨0, x :: ms, L, op⟩ = .inr ⟨2, ms, L ++ [⟨1, x, noT, 0, 0⟩], op⟩ := by
  rw [step_start rfl]
  unfold startS
  simp only [hdM, List.headD_cons, List.tail_cons, (word_end hx).1, (word_end hx).2, Bool.false_eq_true, if_false, off_sk ho (t := [62]) (by decide) (by decide), off_sk ho (t := [33]) (by decide) (by decide), off_sk ho (t := [63]) (by decide) (by decide)]
theorem st_rec {x : ByteArray} (ms : List ByteArray) (L : List Nd) (op : List Nat) : stepR ⟨0, ba [114, 101, 99] :: ba [32] :: x :: ba [46] :: ms, L, op⟩ = .inr ⟨0, ms, L ++ [⟨2, x, noT, 0, 0⟩], op⟩ := by
  rw [step_start rfl]
  unfold startS
  have e1 : ((ba [114, 101, 99]).toList == [101, 110, 100]) = false := by rw [ba_list]; decide
  have e2 : ((ba [114, 101, 99]).toList == [114, 101, 99]) = true := by rw [ba_list]; decide
  simp only [hdM, List.headD_cons, List.tail_cons, e1, e2, Bool.false_eq_true, if_false, if_true, skM_ba]
theorem st_talk {n : Nd} (h : (n.op = 3 ∧ wordB n.name = true) ∨ (n.op = 5 ∧ n.name = noT ∧ wordB n.peer = true) ∨ (n.op = 6 ∧ n.name = noT ∧ wordB n.peer = true)) (ms : List ByteArray) (L : List Nd) (op : List Nat) : stepR ⟨0, tokS n ++ ms, L, op⟩ = .inr ⟨1, ms, L ++ [⟨n.op, n.name, n.peer, 0, 0⟩], L.length :: op⟩ := by
  rw [step_start rfl]
  rcases h with ⟨h, hw⟩ | ⟨h, hn, hw⟩ | ⟨h, hn, hw⟩
  · have e : tokS n = [n.name, ba [62], n.peer, ba [123]] := by unfold tokS; rw [if_neg (by omega), if_neg (by omega), if_neg (by omega), if_neg (by omega), if_neg (by omega)]
    rw [e]
    unfold startS
    simp only [h, hdM, List.cons_append, List.nil_append, List.headD_cons, List.tail_cons, (word_end hw).1, (word_end hw).2, Bool.false_eq_true, if_false, skM_ba, talkTo]
  · have e : tokS n = [n.peer, ba [33], ba [123]] := by unfold tokS; rw [if_neg (by omega), if_neg (by omega), if_neg (by omega), if_pos h]
    rw [e]
    unfold startS
    simp only [h, hn, hdM, List.cons_append, List.nil_append, List.headD_cons, List.tail_cons, (word_end hw).1, (word_end hw).2, Bool.false_eq_true, if_false, skM_ba, talkTo, skM_ne (show ([33] : List UInt8) ≠ [62] by decide)]
  · have e : tokS n = [n.peer, ba [63], ba [123]] := by unfold tokS; rw [if_neg (by omega), if_neg (by omega), if_neg (by omega), if_neg (by omega), if_pos h]
    rw [e]
    unfold startS
    simp only [h, hn, hdM, List.cons_append, List.nil_append, List.headD_cons, List.tail_cons, (word_end hw).1, (word_end hw).2, Bool.false_eq_true, if_false, skM_ba, talkTo, skM_ne (show ([63] : List UInt8) ≠ [62] by decide), skM_ne (show ([63] : List UInt8) ≠ [33] by decide)]
theorem sort_back {s : Int} (h : sortB s = true) : sortI (sortT s) = s := by
  simp only [sortB, Bool.and_eq_true, decide_eq_true_eq] at h
  have : s = 0 ∨ s = 1 ∨ s = 2 := by omega
  rcases this with rfl | rfl | rfl <;> (unfold sortT sortI; simp [ba_list])
theorem st_case {c : Nd} (h : caseB c = true) (ms : List ByteArray) (L : List Nd) (i : Nat) (op : List Nat) : stepR ⟨1, tokC c ++ ms, L, i :: op⟩ = .inr ⟨0, ms, bump L i ++ [c], i :: op⟩ := by
  rw [step_label rfl]
  unfold labelS tokC
  simp only [caseB, Bool.and_eq_true, beq_iff_eq] at h
  obtain ⟨⟨⟨⟨h1, h2⟩, h3⟩, h4⟩, h5⟩ := h
  simp only [hdM, List.cons_append, List.nil_append, List.headD_cons, List.tail_cons, skM_ba, sort_back h5]
  obtain ⟨o, x, y, m, s⟩ := c
  simp only at h1 h2 h3
  subst h1 h3
  have : y = noT := tl_inj (by rw [h2]; rw [Go.ByteArray.toList_eq]; rfl)
  rw [this]
theorem st_comma (ms : List ByteArray) (L : List Nd) (i : Nat) (op : List Nat) : stepR ⟨2, ba [44] :: ms, L, i :: op⟩ = .inr ⟨1, ms, L, i :: op⟩ := by
  rw [step_behind (by simp) (by simp), behindS, skM_ba]
theorem st_close (ms : List ByteArray) (L : List Nd) (i : Nat) (op : List Nat) : stepR ⟨2, ba [125] :: ms, L, i :: op⟩ = .inr ⟨2, ms, L, op⟩ := by
  rw [step_behind (by simp) (by simp), behindS, skM_ne (by decide), skM_ba]
end Go.Proofs.YtmjlblbhakppfaaGreatDoor
namespace Go.Proofs.YtmjlblbhakppfaaGreatDoor
open Go.RowKit

theorem s_sortText (n : Int) (w : World) (h0 : 0 ≤ n) (h2 : n ≤ 2) :
    Calls Tryz.prog 109 #[.int .i64 n] w fun e w' => e = .returned (.string (sortT n)) ∧ Below w.heap.size w w' := by
  rcases (show n = 0 ∨ n = 1 ∨ n = 2 by omega) with h | h | h
  all_goals
    subst h
    go_enter Tryz.func109, Tryz.ntmps109
    go_wp2_with fail
    go_ret
    exact ⟨ret_str rfl, alloc1 _ _⟩

def ArrAt (w : World) (v : Value) (all : List Nd) : Prop :=
  ∃ b o cap, v = .slice (some ⟨b, o, none⟩) all.length cap ∧ all.length ≤ cap ∧ all.length ≤ 4294967296 ∧ RowAt w b o all ∧ b < w.heap.size
theorem ArrAt.carry {w w' : World} {v : Value} {all : List Nd} (h : ArrAt w v all) (hb : Below w.heap.size w w') : ArrAt w' v all := by
  obtain ⟨b, o, cap, e, h1, h2, h3, h4⟩ := h
  exact ⟨b, o, cap, e, h1, h2, h3.carry h4 hb, Nat.lt_of_lt_of_le h4 hb.size⟩

theorem joinC_snoc : ∀ {acc : List ByteArray} {x : ByteArray}, acc ≠ [] → joinC (acc ++ [x]) = joinC acc ++ ba [44] ++ x
  | [], _, h => absurd rfl h
  | [t], x, _ => rfl
  | t :: u :: ts, x, _ => by
    have ih := joinC_snoc (acc := u :: ts) (x := x) (by simp)
    rw [joinC, List.cons_append, List.cons_append, joinC]
    rw [← List.cons_append, ih]
    apply ba_ext
    simp
def STextCalls (part : Bool) (f : Nat) : Prop := ∀ (st all r : List Nd) (pos : Nat) (a : Int) (v : Value) (w : World), st.length + f = 10 → StW st → a = pos → pos ≤ all.length → all.length ≤ 40 → ahead (talkS part) f st (all.drop pos) = some r → ArrAt w v all →
  Calls Tryz.prog 79 #[v, .int .i64 a] w fun e w' => e = .returned (.tuple #[.string (textF f (all.drop pos)).1, .int .i64 ((all.length - r.length : Nat) : Int)]) ∧ Below w.heap.size w w'

end Go.Proofs.YtmjlblbhakppfaaGreatDoor
namespace Go.Proofs.YtmjlblbhakppfaaGreatDoor
open Go.RowKit

set_option maxRecDepth 100000 in
set_option maxHeartbeats 1000000 in
theorem itext5_b (part : Bool) (f : Nat) (hih : ∀ g, f = g + 1 → ITextCalls part g) (st : List Nd) (name peer : ByteArray) (many sort : Int) (l1 r : List Nd) (w : World) (B b o cap : Nat) (hlen : st.length + f = 10) (hst : StW st) (h40 : l1.length + 1 ≤ 40) (ha : ahead (talkS part) f st (⟨5, name, peer, many, sort⟩ :: l1) = some r) (hB : B ≤ w.heap.size) (hbB : b < B) (hc1 : l1.length + 1 ≤ cap) (hc2 : cap ≤ 9223372036854775807 ∧ l1.length < 4294967296) (hcap : cap ≠ 1) (hrow : RowAt w b o (⟨5, name, peer, many, sort⟩ :: l1)) (hsw : SortW w) :
    Calls Tryz.prog 38 #[.slice (some ⟨b, o, none⟩) (l1.length + 1) cap] w fun e w' => (∃ v', e = .returned (.tuple #[.string (textF f (⟨5, name, peer, many, sort⟩ :: l1)).1, v']) ∧ SlAt w' B v' r) ∧ Below w.heap.size w w' := by
  have HR := hide hrow
  have HL := hide hlen
  have HST := hide hst
  have HA := hide ha
  have HB := hide hB
  have HBB := hide hbB
  have HSW := hide hsw
  have HSX : Hid (SlAt w B (.slice (some ⟨b, o + 5, none⟩) l1.length (cap - 1)) l1) := hide (SlAt.tail hbB hrow (by simp; omega) hc2 _ (fun _ => rfl))
  obtain ⟨⟨c0, c1, c2, c3, c4⟩, -⟩ := hrow
  dsimp only at c0 c1 c2 c3 c4
  have hbw : b < w.heap.size := World.block_lt_of_cell? w _ c0
  clear hlen hst ha hB hbB hsw
  obtain ⟨g, hg, hgo, hts, hstw⟩ : ∃ g, f = g + 1 ∧ kidsBy (ahead (talkS part) g (⟨5, name, peer, many, sort⟩ :: st)) many.toNat [] l1 = some r ∧ talkS part ⟨5, name, peer, many, sort⟩ = true ∧ StW (⟨5, name, peer, many, sort⟩ :: st) := by
    have h := HA.out
    cases f with
    | zero => rw [ahead_t0 (by simp) (by simp)] at h; cases h
    | succ g =>
      rw [ahead_t (by simp) (by simp) (by simp)] at h
      split at h
      · rename_i hv
        exact ⟨g, rfl, h, hv, fun x hx h2 => by
          rcases List.mem_cons.1 hx with e | e
          · rw [e] at h2; simp at h2
          · exact HST.out x e h2⟩
      · cases h
  subst hg
  have HIH := hide (hih g rfl)
  have HGO := hide hgo
  have HSTW := hide hstw
  have hsz := talk_sz hts
  have hm14 : 1 ≤ many.toNat ∧ many.toNat ≤ 4 ∧ many = (many.toNat : Int) := by simp only [talkS, manyB, Bool.and_eq_true, decide_eq_true_eq] at hts; omega
  have hpz : peer.size ≤ 20 := by simp only [talkS, Bool.and_eq_true] at hts; exact word20 hts.1.1.1
  have hnz : name.size ≤ 20 := by
    simp only [talkS, Bool.and_eq_true] at hts
    cases part
    · simp at hts <;> first | exact word20 hts.2.1 | exact word20 hts.2.1.2
    · simp at hts <;> (
        have h0 : name.data.toList = [] := by rw [← Go.ByteArray.toList_eq]; simp [hts]
        have h3 : name.size = name.data.toList.length := rfl
        rw [h3, h0]; simp)
  obtain ⟨e1, s1, n1⟩ := kids_text (fun l r => ahead_text part g _ l r hstw) _ _ _ _ hgo
  obtain ⟨m, hmm⟩ : ∃ m, many.toNat = m := ⟨_, rfl⟩
  rw [hmm] at hm14 s1
  obtain ⟨hm1, hm4, hmI⟩ := hm14
  have HMM := hide hmm
  subst hmI
  obtain ⟨t1, ht1⟩ : ∃ t1, joinC (casesF (textF g) m l1).1 = t1 := ⟨_, rfl⟩
  have HT1 := hide ht1
  have htz : t1.size ≤ 1720 := by rw [← ht1]; have := joinC_sz (casesF (textF g) m l1).1; omega
  have HGO2 : Hid (kidsBy (ahead (talkS part) g (⟨5, name, peer, m, sort⟩ :: st)) m [] l1 = some r) := hide (by have := HGO.out; rwa [HMM.out] at this)
  obtain ⟨tt, htt⟩ : ∃ tt, talkT ⟨5, name, peer, m, sort⟩ = tt := ⟨_, rfl⟩
  have HTT := hide htt
  have httz : tt.size ≤ 41 := by rw [← htt]; exact hsz
  have HRE : Hid ((textF (g + 1) (⟨5, name, peer, m, sort⟩ :: l1)).1 = tt ++ ba [123] ++ t1 ++ ba [125]) := hide (by rw [← HTT.out, ← HT1.out]; rfl)
  clear hih hgo hstw e1 s1 n1 ht1 hts htt hmm hsz HGO HA
  go_enter Tryz.func38, Tryz.ntmps38
  go_wp2_with fail
  go_region
  go_wp2_with (first
    | (go_at_call 67; refine (cases_text part g HIH.out (⟨5, name, peer, m, sort⟩ :: st) l1 r m _ _ B (by have := HL.out; simp; omega) HSTW.out (by omega) ⟨hm1, hm4⟩ HGO2.out (Nat.le_trans HB.out (Below.size (B := w.heap.size) (by repeat (first | exact alloc1 _ _ | exact Below.refl _ _ | refine Below.drew ?_)))) (HSX.out.carry (Below.mono (by repeat (first | exact alloc1 _ _ | exact Below.refl _ _ | refine Below.drew ?_)) HB.out)) (HSW.out.carry (by repeat (first | exact alloc1 _ _ | exact Below.refl _ _ | refine Below.drew ?_)))).mono ?_; rintro e w1 ⟨⟨v1, rfl, hs1⟩, hb1⟩; rw [HT1.out]; obtain ⟨d0, d1, d2, d3, d4⟩ := NodeAt.carry (B := _) (boxed w ⟨5, name, peer, m, sort⟩ 45) (by simp) hb1; dsimp only at d0 d1 d2 d3 d4; have hs1' : w.heap.size < w1.heap.size := (by have := hb1.size; simp at this; omega); have HS1 := hide hs1; obtain ⟨ao2, cap2, rfl, hs2⟩ := hs1; have HB1 : Hid (Below w.heap.size w w1) := hide (Below.trans (a := w) (b := _) (by repeat (first | exact alloc1 _ _ | exact Below.refl _ _ | refine Below.drew ?_)) (hb1.mono (by simp))); clear hb1 hs2)
    | (go_at_call 68; refine (i_talkText ⟨5, name, peer, m, sort⟩ _ (by simp only; omega) (by simp only; omega)).mono ?_; rintro e w2 ⟨rfl, hb2⟩; rw [HTT.out]; have HB2 := hide hb2; clear hb2)
    | (go_at_call 66; refine (join4 tt (ba [123]) t1 (ba [125]) _ _ (by first | rfl | simp) (by rw [sz_ba, sz_ba]; simp only [List.length_cons, List.length_nil]; omega)).mono ?_; rintro e w3 ⟨rfl, hb3⟩; have HB3 := hide hb3; clear hb3))
  go_ret2
  refine ⟨⟨_, by rw [HRE.out]; rfl, (HS1.out.carry (HB2.out.mono (Nat.le_trans HB.out HB1.out.size))).carry (HB3.out.mono (Nat.le_trans HB.out (Nat.le_trans HB1.out.size HB2.out.size)))⟩, (HB1.out.trans (HB2.out.mono HB1.out.size)).trans (HB3.out.mono (Nat.le_trans HB1.out.size HB2.out.size))⟩

set_option maxRecDepth 100000 in
set_option maxHeartbeats 1000000 in
theorem itext5_a (part : Bool) (f : Nat) (hih : ∀ g, f = g + 1 → ITextCalls part g) (st : List Nd) (name peer : ByteArray) (many sort : Int) (l1 r : List Nd) (w : World) (B b o cap : Nat) (hlen : st.length + f = 10) (hst : StW st) (h40 : l1.length + 1 ≤ 40) (ha : ahead (talkS part) f st (⟨5, name, peer, many, sort⟩ :: l1) = some r) (hB : B ≤ w.heap.size) (hbB : b < B) (hc1 : l1.length + 1 ≤ cap) (hc2 : cap ≤ 9223372036854775807 ∧ l1.length < 4294967296) (hcap : cap = 1) (hrow : RowAt w b o (⟨5, name, peer, many, sort⟩ :: l1)) (hsw : SortW w) :
    Calls Tryz.prog 38 #[.slice (some ⟨b, o, none⟩) (l1.length + 1) cap] w fun e w' => (∃ v', e = .returned (.tuple #[.string (textF f (⟨5, name, peer, many, sort⟩ :: l1)).1, v']) ∧ SlAt w' B v' r) ∧ Below w.heap.size w w' := by
  have HR := hide hrow
  have HL := hide hlen
  have HST := hide hst
  have HA := hide ha
  have HB := hide hB
  have HBB := hide hbB
  have HSW := hide hsw
  have HSX : Hid (SlAt w B (.slice (some ⟨b, o, none⟩) 0 0) l1) := hide (by rw [List.length_eq_zero_iff.1 (show l1.length = 0 by omega)]; exact ⟨_, _, rfl, Nat.le_refl _, by simp, fun h => absurd rfl h⟩)
  subst hcap
  obtain ⟨⟨c0, c1, c2, c3, c4⟩, -⟩ := hrow
  dsimp only at c0 c1 c2 c3 c4
  have hbw : b < w.heap.size := World.block_lt_of_cell? w _ c0
  clear hlen hst ha hB hbB hsw
  obtain ⟨g, hg, hgo, hts, hstw⟩ : ∃ g, f = g + 1 ∧ kidsBy (ahead (talkS part) g (⟨5, name, peer, many, sort⟩ :: st)) many.toNat [] l1 = some r ∧ talkS part ⟨5, name, peer, many, sort⟩ = true ∧ StW (⟨5, name, peer, many, sort⟩ :: st) := by
    have h := HA.out
    cases f with
    | zero => rw [ahead_t0 (by simp) (by simp)] at h; cases h
    | succ g =>
      rw [ahead_t (by simp) (by simp) (by simp)] at h
      split at h
      · rename_i hv
        exact ⟨g, rfl, h, hv, fun x hx h2 => by
          rcases List.mem_cons.1 hx with e | e
          · rw [e] at h2; simp at h2
          · exact HST.out x e h2⟩
      · cases h
  subst hg
  have HIH := hide (hih g rfl)
  have HGO := hide hgo
  have HSTW := hide hstw
  have hsz := talk_sz hts
  have hm14 : 1 ≤ many.toNat ∧ many.toNat ≤ 4 ∧ many = (many.toNat : Int) := by simp only [talkS, manyB, Bool.and_eq_true, decide_eq_true_eq] at hts; omega
  have hpz : peer.size ≤ 20 := by simp only [talkS, Bool.and_eq_true] at hts; exact word20 hts.1.1.1
  have hnz : name.size ≤ 20 := by
    simp only [talkS, Bool.and_eq_true] at hts
    cases part
    · simp at hts <;> first | exact word20 hts.2.1 | exact word20 hts.2.1.2
    · simp at hts <;> (
        have h0 : name.data.toList = [] := by rw [← Go.ByteArray.toList_eq]; simp [hts]
        have h3 : name.size = name.data.toList.length := rfl
        rw [h3, h0]; simp)
  obtain ⟨e1, s1, n1⟩ := kids_text (fun l r => ahead_text part g _ l r hstw) _ _ _ _ hgo
  obtain ⟨m, hmm⟩ : ∃ m, many.toNat = m := ⟨_, rfl⟩
  rw [hmm] at hm14 s1
  obtain ⟨hm1, hm4, hmI⟩ := hm14
  have HMM := hide hmm
  subst hmI
  obtain ⟨t1, ht1⟩ : ∃ t1, joinC (casesF (textF g) m l1).1 = t1 := ⟨_, rfl⟩
  have HT1 := hide ht1
  have htz : t1.size ≤ 1720 := by rw [← ht1]; have := joinC_sz (casesF (textF g) m l1).1; omega
  have HGO2 : Hid (kidsBy (ahead (talkS part) g (⟨5, name, peer, m, sort⟩ :: st)) m [] l1 = some r) := hide (by have := HGO.out; rwa [HMM.out] at this)
  obtain ⟨tt, htt⟩ : ∃ tt, talkT ⟨5, name, peer, m, sort⟩ = tt := ⟨_, rfl⟩
  have HTT := hide htt
  have httz : tt.size ≤ 41 := by rw [← htt]; exact hsz
  have HRE : Hid ((textF (g + 1) (⟨5, name, peer, m, sort⟩ :: l1)).1 = tt ++ ba [123] ++ t1 ++ ba [125]) := hide (by rw [← HTT.out, ← HT1.out]; rfl)
  clear hih hgo hstw e1 s1 n1 ht1 hts htt hmm hsz HGO HA
  go_enter Tryz.func38, Tryz.ntmps38
  go_wp2_with fail
  go_region
  go_wp2_with (first
    | (go_at_call 67; refine (cases_text part g HIH.out (⟨5, name, peer, m, sort⟩ :: st) l1 r m _ _ B (by have := HL.out; simp; omega) HSTW.out (by omega) ⟨hm1, hm4⟩ HGO2.out (Nat.le_trans HB.out (Below.size (B := w.heap.size) (by repeat (first | exact alloc1 _ _ | exact Below.refl _ _ | refine Below.drew ?_)))) (HSX.out.carry (Below.mono (by repeat (first | exact alloc1 _ _ | exact Below.refl _ _ | refine Below.drew ?_)) HB.out)) (HSW.out.carry (by repeat (first | exact alloc1 _ _ | exact Below.refl _ _ | refine Below.drew ?_)))).mono ?_; rintro e w1 ⟨⟨v1, rfl, hs1⟩, hb1⟩; rw [HT1.out]; obtain ⟨d0, d1, d2, d3, d4⟩ := NodeAt.carry (B := _) (boxed w ⟨5, name, peer, m, sort⟩ 45) (by simp) hb1; dsimp only at d0 d1 d2 d3 d4; have hs1' : w.heap.size < w1.heap.size := (by have := hb1.size; simp at this; omega); have HS1 := hide hs1; obtain ⟨ao2, cap2, rfl, hs2⟩ := hs1; have HB1 : Hid (Below w.heap.size w w1) := hide (Below.trans (a := w) (b := _) (by repeat (first | exact alloc1 _ _ | exact Below.refl _ _ | refine Below.drew ?_)) (hb1.mono (by simp))); clear hb1 hs2)
    | (go_at_call 68; refine (i_talkText ⟨5, name, peer, m, sort⟩ _ (by simp only; omega) (by simp only; omega)).mono ?_; rintro e w2 ⟨rfl, hb2⟩; rw [HTT.out]; have HB2 := hide hb2; clear hb2)
    | (go_at_call 66; refine (join4 tt (ba [123]) t1 (ba [125]) _ _ (by first | rfl | simp) (by rw [sz_ba, sz_ba]; simp only [List.length_cons, List.length_nil]; omega)).mono ?_; rintro e w3 ⟨rfl, hb3⟩; have HB3 := hide hb3; clear hb3))
  go_ret2
  refine ⟨⟨_, by rw [HRE.out]; rfl, (HS1.out.carry (HB2.out.mono (Nat.le_trans HB.out HB1.out.size))).carry (HB3.out.mono (Nat.le_trans HB.out (Nat.le_trans HB1.out.size HB2.out.size)))⟩, (HB1.out.trans (HB2.out.mono HB1.out.size)).trans (HB3.out.mono (Nat.le_trans HB1.out.size HB2.out.size))⟩
end Go.Proofs.YtmjlblbhakppfaaGreatDoor
namespace Go.Proofs.YtmjlblbhakppfaaGreatDoor
open Go.RowKit

set_option maxRecDepth 100000 in
set_option maxHeartbeats 1000000 in
theorem itext6_b (part : Bool) (f : Nat) (hih : ∀ g, f = g + 1 → ITextCalls part g) (st : List Nd) (name peer : ByteArray) (many sort : Int) (l1 r : List Nd) (w : World) (B b o cap : Nat) (hlen : st.length + f = 10) (hst : StW st) (h40 : l1.length + 1 ≤ 40) (ha : ahead (talkS part) f st (⟨6, name, peer, many, sort⟩ :: l1) = some r) (hB : B ≤ w.heap.size) (hbB : b < B) (hc1 : l1.length + 1 ≤ cap) (hc2 : cap ≤ 9223372036854775807 ∧ l1.length < 4294967296) (hcap : cap ≠ 1) (hrow : RowAt w b o (⟨6, name, peer, many, sort⟩ :: l1)) (hsw : SortW w) :
    Calls Tryz.prog 38 #[.slice (some ⟨b, o, none⟩) (l1.length + 1) cap] w fun e w' => (∃ v', e = .returned (.tuple #[.string (textF f (⟨6, name, peer, many, sort⟩ :: l1)).1, v']) ∧ SlAt w' B v' r) ∧ Below w.heap.size w w' := by
  have HR := hide hrow
  have HL := hide hlen
  have HST := hide hst
  have HA := hide ha
  have HB := hide hB
  have HBB := hide hbB
  have HSW := hide hsw
  have HSX : Hid (SlAt w B (.slice (some ⟨b, o + 5, none⟩) l1.length (cap - 1)) l1) := hide (SlAt.tail hbB hrow (by simp; omega) hc2 _ (fun _ => rfl))
  obtain ⟨⟨c0, c1, c2, c3, c4⟩, -⟩ := hrow
  dsimp only at c0 c1 c2 c3 c4
  have hbw : b < w.heap.size := World.block_lt_of_cell? w _ c0
  clear hlen hst ha hB hbB hsw
  obtain ⟨g, hg, hgo, hts, hstw⟩ : ∃ g, f = g + 1 ∧ kidsBy (ahead (talkS part) g (⟨6, name, peer, many, sort⟩ :: st)) many.toNat [] l1 = some r ∧ talkS part ⟨6, name, peer, many, sort⟩ = true ∧ StW (⟨6, name, peer, many, sort⟩ :: st) := by
    have h := HA.out
    cases f with
    | zero => rw [ahead_t0 (by simp) (by simp)] at h; cases h
    | succ g =>
      rw [ahead_t (by simp) (by simp) (by simp)] at h
      split at h
      · rename_i hv
        exact ⟨g, rfl, h, hv, fun x hx h2 => by
          rcases List.mem_cons.1 hx with e | e
          · rw [e] at h2; simp at h2
          · exact HST.out x e h2⟩
      · cases h
  subst hg
  have HIH := hide (hih g rfl)
  have HGO := hide hgo
  have HSTW := hide hstw
  have hsz := talk_sz hts
  have hm14 : 1 ≤ many.toNat ∧ many.toNat ≤ 4 ∧ many = (many.toNat : Int) := by simp only [talkS, manyB, Bool.and_eq_true, decide_eq_true_eq] at hts; omega
  have hpz : peer.size ≤ 20 := by simp only [talkS, Bool.and_eq_true] at hts; exact word20 hts.1.1.1
  have hnz : name.size ≤ 20 := by
    simp only [talkS, Bool.and_eq_true] at hts
    cases part
    · simp at hts <;> first | exact word20 hts.2.1 | exact word20 hts.2.1.2
    · simp at hts <;> (
        have h0 : name.data.toList = [] := by rw [← Go.ByteArray.toList_eq]; simp [hts]
        have h3 : name.size = name.data.toList.length := rfl
        rw [h3, h0]; simp)
  obtain ⟨e1, s1, n1⟩ := kids_text (fun l r => ahead_text part g _ l r hstw) _ _ _ _ hgo
  obtain ⟨m, hmm⟩ : ∃ m, many.toNat = m := ⟨_, rfl⟩
  rw [hmm] at hm14 s1
  obtain ⟨hm1, hm4, hmI⟩ := hm14
  have HMM := hide hmm
  subst hmI
  obtain ⟨t1, ht1⟩ : ∃ t1, joinC (casesF (textF g) m l1).1 = t1 := ⟨_, rfl⟩
  have HT1 := hide ht1
  have htz : t1.size ≤ 1720 := by rw [← ht1]; have := joinC_sz (casesF (textF g) m l1).1; omega
  have HGO2 : Hid (kidsBy (ahead (talkS part) g (⟨6, name, peer, m, sort⟩ :: st)) m [] l1 = some r) := hide (by have := HGO.out; rwa [HMM.out] at this)
  obtain ⟨tt, htt⟩ : ∃ tt, talkT ⟨6, name, peer, m, sort⟩ = tt := ⟨_, rfl⟩
  have HTT := hide htt
  have httz : tt.size ≤ 41 := by rw [← htt]; exact hsz
  have HRE : Hid ((textF (g + 1) (⟨6, name, peer, m, sort⟩ :: l1)).1 = tt ++ ba [123] ++ t1 ++ ba [125]) := hide (by rw [← HTT.out, ← HT1.out]; rfl)
  clear hih hgo hstw e1 s1 n1 ht1 hts htt hmm hsz HGO HA
  go_enter Tryz.func38, Tryz.ntmps38
  go_wp2_with fail
  go_region
  go_wp2_with (first
    | (go_at_call 67; refine (cases_text part g HIH.out (⟨6, name, peer, m, sort⟩ :: st) l1 r m _ _ B (by have := HL.out; simp; omega) HSTW.out (by omega) ⟨hm1, hm4⟩ HGO2.out (Nat.le_trans HB.out (Below.size (B := w.heap.size) (by repeat (first | exact alloc1 _ _ | exact Below.refl _ _ | refine Below.drew ?_)))) (HSX.out.carry (Below.mono (by repeat (first | exact alloc1 _ _ | exact Below.refl _ _ | refine Below.drew ?_)) HB.out)) (HSW.out.carry (by repeat (first | exact alloc1 _ _ | exact Below.refl _ _ | refine Below.drew ?_)))).mono ?_; rintro e w1 ⟨⟨v1, rfl, hs1⟩, hb1⟩; rw [HT1.out]; obtain ⟨d0, d1, d2, d3, d4⟩ := NodeAt.carry (B := _) (boxed w ⟨6, name, peer, m, sort⟩ 45) (by simp) hb1; dsimp only at d0 d1 d2 d3 d4; have hs1' : w.heap.size < w1.heap.size := (by have := hb1.size; simp at this; omega); have HS1 := hide hs1; obtain ⟨ao2, cap2, rfl, hs2⟩ := hs1; have HB1 : Hid (Below w.heap.size w w1) := hide (Below.trans (a := w) (b := _) (by repeat (first | exact alloc1 _ _ | exact Below.refl _ _ | refine Below.drew ?_)) (hb1.mono (by simp))); clear hb1 hs2)
    | (go_at_call 68; refine (i_talkText ⟨6, name, peer, m, sort⟩ _ (by simp only; omega) (by simp only; omega)).mono ?_; rintro e w2 ⟨rfl, hb2⟩; rw [HTT.out]; have HB2 := hide hb2; clear hb2)
    | (go_at_call 66; refine (join4 tt (ba [123]) t1 (ba [125]) _ _ (by first | rfl | simp) (by rw [sz_ba, sz_ba]; simp only [List.length_cons, List.length_nil]; omega)).mono ?_; rintro e w3 ⟨rfl, hb3⟩; have HB3 := hide hb3; clear hb3))
  go_ret2
  refine ⟨⟨_, by rw [HRE.out]; rfl, (HS1.out.carry (HB2.out.mono (Nat.le_trans HB.out HB1.out.size))).carry (HB3.out.mono (Nat.le_trans HB.out (Nat.le_trans HB1.out.size HB2.out.size)))⟩, (HB1.out.trans (HB2.out.mono HB1.out.size)).trans (HB3.out.mono (Nat.le_trans HB1.out.size HB2.out.size))⟩

set_option maxRecDepth 100000 in
set_option maxHeartbeats 1000000 in
theorem itext6_a (part : Bool) (f : Nat) (hih : ∀ g, f = g + 1 → ITextCalls part g) (st : List Nd) (name peer : ByteArray) (many sort : Int) (l1 r : List Nd) (w : World) (B b o cap : Nat) (hlen : st.length + f = 10) (hst : StW st) (h40 : l1.length + 1 ≤ 40) (ha : ahead (talkS part) f st (⟨6, name, peer, many, sort⟩ :: l1) = some r) (hB : B ≤ w.heap.size) (hbB : b < B) (hc1 : l1.length + 1 ≤ cap) (hc2 : cap ≤ 9223372036854775807 ∧ l1.length < 4294967296) (hcap : cap = 1) (hrow : RowAt w b o (⟨6, name, peer, many, sort⟩ :: l1)) (hsw : SortW w) :
    Calls Tryz.prog 38 #[.slice (some ⟨b, o, none⟩) (l1.length + 1) cap] w fun e w' => (∃ v', e = .returned (.tuple #[.string (textF f (⟨6, name, peer, many, sort⟩ :: l1)).1, v']) ∧ SlAt w' B v' r) ∧ Below w.heap.size w w' := by
  have HR := hide hrow
  have HL := hide hlen
  have HST := hide hst
  have HA := hide ha
  have HB := hide hB
  have HBB := hide hbB
  have HSW := hide hsw
  have HSX : Hid (SlAt w B (.slice (some ⟨b, o, none⟩) 0 0) l1) := hide (by rw [List.length_eq_zero_iff.1 (show l1.length = 0 by omega)]; exact ⟨_, _, rfl, Nat.le_refl _, by simp, fun h => absurd rfl h⟩)
  subst hcap
  obtain ⟨⟨c0, c1, c2, c3, c4⟩, -⟩ := hrow
  dsimp only at c0 c1 c2 c3 c4
  have hbw : b < w.heap.size := World.block_lt_of_cell? w _ c0
  clear hlen hst ha hB hbB hsw
  obtain ⟨g, hg, hgo, hts, hstw⟩ : ∃ g, f = g + 1 ∧ kidsBy (ahead (talkS part) g (⟨6, name, peer, many, sort⟩ :: st)) many.toNat [] l1 = some r ∧ talkS part ⟨6, name, peer, many, sort⟩ = true ∧ StW (⟨6, name, peer, many, sort⟩ :: st) := by
    have h := HA.out
    cases f with
    | zero => rw [ahead_t0 (by simp) (by simp)] at h; cases h
    | succ g =>
      rw [ahead_t (by simp) (by simp) (by simp)] at h
      split at h
      · rename_i hv
        exact ⟨g, rfl, h, hv, fun x hx h2 => by
          rcases List.mem_cons.1 hx with e | e
          · rw [e] at h2; simp at h2
          · exact HST.out x e h2⟩
      · cases h
  subst hg
  have HIH := hide (hih g rfl)
  have HGO := hide hgo
  have HSTW := hide hstw
  have hsz := talk_sz hts
  have hm14 : 1 ≤ many.toNat ∧ many.toNat ≤ 4 ∧ many = (many.toNat : Int) := by simp only [talkS, manyB, Bool.and_eq_true, decide_eq_true_eq] at hts; omega
  have hpz : peer.size ≤ 20 := by simp only [talkS, Bool.and_eq_true] at hts; exact word20 hts.1.1.1
  have hnz : name.size ≤ 20 := by
    simp only [talkS, Bool.and_eq_true] at hts
    cases part
    · simp at hts <;> first | exact word20 hts.2.1 | exact word20 hts.2.1.2
    · simp at hts <;> (
        have h0 : name.data.toList = [] := by rw [← Go.ByteArray.toList_eq]; simp [hts]
        have h3 : name.size = name.data.toList.length := rfl
        rw [h3, h0]; simp)
  obtain ⟨e1, s1, n1⟩ := kids_text (fun l r => ahead_text part g _ l r hstw) _ _ _ _ hgo
  obtain ⟨m, hmm⟩ : ∃ m, many.toNat = m := ⟨_, rfl⟩
  rw [hmm] at hm14 s1
  obtain ⟨hm1, hm4, hmI⟩ := hm14
  have HMM := hide hmm
  subst hmI
  obtain ⟨t1, ht1⟩ : ∃ t1, joinC (casesF (textF g) m l1).1 = t1 := ⟨_, rfl⟩
  have HT1 := hide ht1
  have htz : t1.size ≤ 1720 := by rw [← ht1]; have := joinC_sz (casesF (textF g) m l1).1; omega
  have HGO2 : Hid (kidsBy (ahead (talkS part) g (⟨6, name, peer, m, sort⟩ :: st)) m [] l1 = some r) := hide (by have := HGO.out; rwa [HMM.out] at this)
  obtain ⟨tt, htt⟩ : ∃ tt, talkT ⟨6, name, peer, m, sort⟩ = tt := ⟨_, rfl⟩
  have HTT := hide htt
  have httz : tt.size ≤ 41 := by rw [← htt]; exact hsz
  have HRE : Hid ((textF (g + 1) (⟨6, name, peer, m, sort⟩ :: l1)).1 = tt ++ ba [123] ++ t1 ++ ba [125]) := hide (by rw [← HTT.out, ← HT1.out]; rfl)
  clear hih hgo hstw e1 s1 n1 ht1 hts htt hmm hsz HGO HA
  go_enter Tryz.func38, Tryz.ntmps38
  go_wp2_with fail
  go_region
  go_wp2_with (first
    | (go_at_call 67; refine (cases_text part g HIH.out (⟨6, name, peer, m, sort⟩ :: st) l1 r m _ _ B (by have := HL.out; simp; omega) HSTW.out (by omega) ⟨hm1, hm4⟩ HGO2.out (Nat.le_trans HB.out (Below.size (B := w.heap.size) (by repeat (first | exact alloc1 _ _ | exact Below.refl _ _ | refine Below.drew ?_)))) (HSX.out.carry (Below.mono (by repeat (first | exact alloc1 _ _ | exact Below.refl _ _ | refine Below.drew ?_)) HB.out)) (HSW.out.carry (by repeat (first | exact alloc1 _ _ | exact Below.refl _ _ | refine Below.drew ?_)))).mono ?_; rintro e w1 ⟨⟨v1, rfl, hs1⟩, hb1⟩; rw [HT1.out]; obtain ⟨d0, d1, d2, d3, d4⟩ := NodeAt.carry (B := _) (boxed w ⟨6, name, peer, m, sort⟩ 45) (by simp) hb1; dsimp only at d0 d1 d2 d3 d4; have hs1' : w.heap.size < w1.heap.size := (by have := hb1.size; simp at this; omega); have HS1 := hide hs1; obtain ⟨ao2, cap2, rfl, hs2⟩ := hs1; have HB1 : Hid (Below w.heap.size w w1) := hide (Below.trans (a := w) (b := _) (by repeat (first | exact alloc1 _ _ | exact Below.refl _ _ | refine Below.drew ?_)) (hb1.mono (by simp))); clear hb1 hs2)
    | (go_at_call 68; refine (i_talkText ⟨6, name, peer, m, sort⟩ _ (by simp only; omega) (by simp only; omega)).mono ?_; rintro e w2 ⟨rfl, hb2⟩; rw [HTT.out]; have HB2 := hide hb2; clear hb2)
    | (go_at_call 66; refine (join4 tt (ba [123]) t1 (ba [125]) _ _ (by first | rfl | simp) (by rw [sz_ba, sz_ba]; simp only [List.length_cons, List.length_nil]; omega)).mono ?_; rintro e w3 ⟨rfl, hb3⟩; have HB3 := hide hb3; clear hb3))
  go_ret2
  refine ⟨⟨_, by rw [HRE.out]; rfl, (HS1.out.carry (HB2.out.mono (Nat.le_trans HB.out HB1.out.size))).carry (HB3.out.mono (Nat.le_trans HB.out (Nat.le_trans HB1.out.size HB2.out.size)))⟩, (HB1.out.trans (HB2.out.mono HB1.out.size)).trans (HB3.out.mono (Nat.le_trans HB1.out.size HB2.out.size))⟩
end Go.Proofs.YtmjlblbhakppfaaGreatDoor
namespace Go.Proofs.YtmjlblbhakppfaaGreatDoor
open Go.RowKit Go.Sort

def bytesOf (t : ByteArray) : List UInt8 := t.toList
theorem enc_bytes (t : ByteArray) : encStr (bytesOf t) = .string t := by
  rw [bytesOf, Go.ByteArray.toList_eq]
theorem map_enc (ls : List ByteArray) : (ls.map bytesOf).map encStr = ls.map Value.string := by
  rw [List.map_map]
  apply List.map_congr_left
  intro t _
  exact enc_bytes t
theorem sort_roles {part : Bool} {ns : List Nd} (h : ∀ n ∈ ns, nodeB (talkS part) n = true) : ((rolesI ns).map bytesOf).mergeSort (fun x y => decide (x ≤ y)) = (rolesS ns).map bytesOf := by
  obtain ⟨hs, hp⟩ := roles_perm h
  have h1 := List.pairwise_mergeSort (le := fun (x y : List UInt8) => decide (x ≤ y)) (fun a b c h1 h2 => by simp at *; exact List.le_trans h1 h2) (fun a b => by simp; exact List.le_total a b) ((rolesI ns).map bytesOf)
  have h2 : ((rolesS ns).map bytesOf).Pairwise (fun x y => decide (x ≤ y) = true) := by
    rw [List.pairwise_map]
    refine hs.imp ?_
    intro a b hab
    rw [less_iff] at hab
    simp
    exact List.le_of_lt hab
  refine List.Perm.eq_of_pairwise ?_ h1 h2 ((List.mergeSort_perm _ _).trans (hp.map _))
  intro a b _ _ h3 h4
  simp at h3 h4
  exact List.le_antisymm h3 h4

theorem sort_own (ls ts : List ByteArray) (v : Value) (w : World) (base : Nat) (hown : w.ownsRow base 9 1 v ls.length (ls.map Value.string)) (hl : ls.length ≤ 1000) (hsort : (ls.map bytesOf).mergeSort (fun x y => decide (x ≤ y)) = ts.map bytesOf) :
    Calls Tryz.prog 45 #[v] w fun e w' => e = .returned (.tuple #[]) ∧ w'.ownsRow base 9 1 v ts.length (ts.map Value.string) ∧ w.grownBy w' v.ownBlock := by
  have hlen : ts.length = ls.length := by
    have := congrArg List.length hsort
    rw [List.length_mergeSort, List.length_map, List.length_map] at this
    exact this.symm
  obtain ⟨hxl, hv⟩ := hown
  rcases hv with ⟨rfl, h0⟩ | ⟨g, cap, cur, rfl, hg, hh, hn, hcap, hsz, htake⟩
  · have e : ls = [] := List.length_eq_zero_iff.1 h0
    subst e
    have e2 : ts = [] := List.length_eq_zero_iff.1 hlen
    subst e2
    refine (Tryz.slices_Sort_string_none none 0 w).mono ?_
    rintro e w' ⟨rfl, rfl⟩
    exact ⟨rfl, World.ownsRow_nil _ _ _ _, ⟨rfl, rfl, rfl, Nat.le_refl _, fun _ _ _ => rfl⟩⟩
  · have hlt : g < w.heap.size := (Array.getElem?_eq_some_iff.1 hh).1
    have hs := Tryz.slices_Sort_string g 0 cap (ls.map bytesOf) w (holds_of_block hh (by rw [List.length_map, map_enc]; simpa using htake)) hlt (by rw [List.length_map]; omega)
    rw [List.length_map] at hs
    refine hs.mono ?_
    rintro e w' ⟨rfl, n, os, rfl⟩
    refine ⟨rfl, ?_, grownBy_sorted _⟩
    rw [hsort]
    have ho := ownsRow_sorted (n := n) (os := os) (base := base) (ss := ls.map bytesOf) (ts := ts.map bytesOf) (by rw [List.length_map, List.length_map]; exact hlen) hg hh (by rw [List.length_map]; exact hn) hcap hsz
    rw [map_enc, List.length_map] at ho
    rw [hlen]
    exact ho
end Go.Proofs.YtmjlblbhakppfaaGreatDoor
namespace Go.Proofs.YtmjlblbhakppfaaGreatDoor
open Go.RowKit

def rolesV (ns : List Nd) : List ByteArray := if rightB false ns then rolesS ns else []
theorem right_nodes {part : Bool} {ns : List Nd} (h : rightB part ns = true) : ∀ n ∈ ns, nodeB (talkS part) n = true := by
  rw [rightB] at h
  simp only [Bool.and_eq_true] at h
  exact ahead_all h.2.1
theorem right_len {part : Bool} {ns : List Nd} (h : rightB part ns = true) : ns.length ≤ 40 := by
  rw [rightB] at h
  simp only [Bool.and_eq_true, decide_eq_true_eq] at h
  exact h.1
theorem right_roles {part : Bool} {ns : List Nd} (h : rightB part ns = true) : (rolesS ns).length ≤ 4 := by
  rw [rightB] at h
  simp only [Bool.and_eq_true, decide_eq_true_eq] at h
  exact h.2.2

theorem own_down {w : World} {base base' e size : Nat} {v : Value} {n : Nat} {xs : List Value} (h : w.ownsRow base e size v n xs) (hb : base' ≤ base) : w.ownsRow base' e size v n xs := by
  obtain ⟨h1, hv⟩ := h
  refine ⟨h1, ?_⟩
  rcases hv with hv | ⟨g, cap, cur, rfl, hg, r⟩
  · exact .inl hv
  · exact .inr ⟨g, cap, cur, rfl, by omega, r⟩

set_option maxHeartbeats 400000 in
theorem roles_of (ns : List Nd) (v : Value) (w : World) (fit : ∀ n ∈ ns, n.fit) (hv : SlAt w w.heap.size v ns) :
    Calls Tryz.prog 9 #[v] w fun e w' => ∃ v', e = .returned v' ∧ w'.ownsRow w.heap.size 9 1 v' (rolesV ns).length ((rolesV ns).map Value.string) ∧ Below w.heap.size w w' := by
  have HV := hide hv
  have HF := hide fit
  have hlm := hv.lenm
  obtain ⟨ao, cap, rfl, hc, hm, hr⟩ := hv
  obtain ⟨rb, hrb⟩ : ∃ rb, rightB false ns = rb := ⟨_, rfl⟩
  have HRB := hide hrb
  clear hr fit hrb
  cases rb
  · have HE : Hid (rolesV ns = []) := hide (by rw [rolesV, HRB.out]; rfl)
    go_enter Tryz.func9, Tryz.ntmps9
    go_wp2_with (go_at_call 12; refine (plan_right ns _ _ HF.out HV.out).mono ?_; rintro e w1 ⟨rfl, hb1⟩; rw [HRB.out]; have HB1 := hide hb1; clear hb1)
    go_ret
    refine ⟨_, rfl, ?_, HB1.out⟩
    rw [HE.out]
    exact World.ownsRow_nil _ _ _ _
  · have HE : Hid (rolesV ns = rolesS ns) := hide (by rw [rolesV, HRB.out]; rfl)
    have HLE := hide (right_len HRB.out)
    have HSO := hide (sort_roles (right_nodes HRB.out))
    have HLN : Hid ((rolesI ns).length = (rolesS ns).length) := hide (roles_perm (right_nodes HRB.out)).2.length_eq
    go_enter Tryz.func9, Tryz.ntmps9
    go_wp2_with (first | (go_at_call 12; refine (plan_right ns _ _ HF.out HV.out).mono ?_; rintro e w1 ⟨rfl, hb1⟩; rw [HRB.out]; have HB1 := hide hb1; clear hb1) | (go_at_call 44; refine (i_roles clone_calls ns _ _ HF.out ((HV.out.carry HB1.out).up HB1.out.size) HLE.out).mono ?_; rintro e w2 ⟨v2, rfl, ho2, hb2⟩; have HO2 := hide ho2; have HB2 : Hid (Below w.heap.size w w2) := hide (HB1.out.trans (hb2.mono HB1.out.size)); have HZ := hide HB1.out.size; clear ho2 hb2) | (go_at_call 45; refine (sort_own (rolesI ns) (rolesS ns) _ _ _ HO2.out (by have := rolesI_len ns; have := HLE.out; omega) HSO.out).mono ?_; rintro e w3 ⟨rfl, ho3, hg3⟩; have HO3 := hide ho3; have HB3 : Hid (Below w.heap.size w w3) := hide (HB2.out.grown hg3 HB2.out.size (fun k hk => Nat.le_trans HZ.out (own_row HO2.out k hk))); clear ho3 hg3))
    go_ret
    refine ⟨_, rfl, ?_, HB3.out⟩
    rw [HE.out]
    exact own_down HO3.out HZ.out

end Go.Proofs.YtmjlblbhakppfaaGreatDoor
namespace Go.Proofs.YtmjlblbhakppfaaGreatDoor
open Go.RowKit

theorem STexts.texts {w : World} {v : Value} {ls : List ByteArray} (h : STexts w v ls) (hl : ls.length ≤ 4294967296) : TextsAt w v ls := by
  obtain ⟨b, o, cap, rfl, h1, h2, h3⟩ := h
  exact ⟨_, _, rfl, h1, hl, fun _ => ⟨b, o, rfl, h3⟩⟩
theorem word_len {t : ByteArray} (h : wordB t = true) : t.size ≤ 20 := by
  simp only [wordB, nameB, Bool.and_eq_true, decide_eq_true_eq] at h
  exact h.1.1.2
theorem talker_word {n : Nd} (h : nodeB (talkS false) n = true) : ∀ t ∈ talkers n, wordB t = true := by
  intro t ht
  simp only [nodeB, Bool.or_eq_true] at h
  rcases h with (((h | h) | h) | h) | h
  · simp only [endB, Bool.and_eq_true, beq_iff_eq] at h
    simp [talkers, h] at ht
  · simp only [varB, Bool.and_eq_true, beq_iff_eq] at h
    simp [talkers, h] at ht
  · simp only [recB, Bool.and_eq_true, beq_iff_eq] at h
    simp [talkers, h] at ht
  · simp only [caseB, Bool.and_eq_true, beq_iff_eq] at h
    simp [talkers, h] at ht
  · simp only [Bool.and_eq_true] at h
    have hs := h.2
    simp only [talkS, Bool.and_eq_true] at hs
    simp at hs
    simp [talkers, hs] at ht
    rcases ht with h | h
    · rw [h]; exact hs.2.1.2
    · rw [h]; exact hs.1.1.1
theorem fold_mem {ts : List ByteArray} : ∀ {acc : List ByteArray} {t : ByteArray}, t ∈ ts.foldl addI acc → t ∈ acc ∨ t ∈ ts := by
  induction ts with
  | nil => intro acc t h; exact .inl h
  | cons s ts ih =>
    intro acc t h
    rcases ih h with h | h
    · rw [addI] at h
      split at h
      · exact .inl h
      · rcases List.mem_append.1 h with h | h
        · exact .inl h
        · simp at h; exact .inr (by simp [h])
    · exact .inr (List.mem_cons_of_mem _ h)
theorem role_word {ns : List Nd} (h : rightB false ns = true) : ∀ t ∈ rolesS ns, wordB t = true := by
  intro t ht
  have hp := (roles_perm (right_nodes h)).2
  have h1 := hp.mem_iff.2 ht
  rw [rolesI_eq] at h1
  rcases fold_mem h1 with h2 | h2
  · cases h2
  · obtain ⟨n, hn, hnt⟩ := List.mem_flatMap.1 h2
    exact talker_word (right_nodes h n hn) t hnt

def talksV (ns : List Nd) (role : ByteArray) : Bool := hasB (rolesV ns) role
theorem talks_long {ns : List Nd} {role : ByteArray} (h : 8000 < role.size) : talksV ns role = false := by
  rw [← Bool.not_eq_true]
  intro ht
  rw [talksV, has_iff, rolesV] at ht
  split at ht
  · rename_i hr
    have := word_len (role_word hr role ht)
    omega
  · cases ht

set_option maxHeartbeats 400000 in
theorem s_talksIn (ns : List Nd) (role : ByteArray) (v : Value) (w : World) (fit : ∀ n ∈ ns, n.fit) (hro : role.size ≤ maxLen) (hv : SlAt w w.heap.size v ns) :
    Calls Tryz.prog 19 #[v, .string role] w fun e w' => e = .returned (.bool (talksV ns role)) ∧ Below w.heap.size w w' := by
  have HV := hide hv
  have HF := hide fit
  have hlm := hv.lenm
  unfold maxLen at hro
  obtain ⟨ao, cap, rfl, hc, hm, hr⟩ := hv
  obtain ⟨rb, hrb⟩ : ∃ rb, rightB false ns = rb := ⟨_, rfl⟩
  have HRB := hide hrb
  clear hr fit hrb
  by_cases h400 : ns.length ≤ 400
  · by_cases h8 : role.size ≤ 8000
    · cases rb
      · have HE : Hid (talksV ns role = false) := hide (by rw [talksV, rolesV, HRB.out]; rfl)
        go_enter Tryz.func19, Tryz.ntmps19
        go_wp2_with (go_at_call 13; refine (s_planRight ns _ _ HF.out HV.out).mono ?_; rintro e w1 ⟨rfl, hb1⟩; rw [HRB.out]; have HB1 := hide hb1; clear hb1)
        go_ret
        exact ⟨ret_bool HE.out, HB1.out⟩
      · have HE : Hid (talksV ns role = hasB (rolesS ns) role) := hide (by rw [talksV, rolesV, HRB.out]; rfl)
        have HLE := hide (right_len HRB.out)
        have HL4 := hide (right_roles HRB.out)
        go_enter Tryz.func19, Tryz.ntmps19
        go_wp2_with (first | (go_at_call 13; refine (s_planRight ns _ _ HF.out HV.out).mono ?_; rintro e w1 ⟨rfl, hb1⟩; rw [HRB.out]; have HB1 := hide hb1; clear hb1) | (go_at_call 51; refine (s_roles ns _ _ ((HV.out.carry HB1.out).up HB1.out.size) HLE.out).mono ?_; rintro e w2 ⟨v2, rfl, hs2, hb2⟩; have HS2 := hide hs2; have HB2 := hide hb2; clear hs2 hb2) | (go_at_call 53; refine (s_among (rolesS ns) role _ _ (HS2.out.texts (by have := HL4.out; omega))).mono ?_; rintro e w3 ⟨rfl, rfl⟩))
        go_ret
        exact ⟨ret_bool HE.out, HB1.out.trans (HB2.out.mono HB1.out.size)⟩
    · have HE : Hid (talksV ns role = false) := hide (talks_long (by omega))
      go_enter Tryz.func19, Tryz.ntmps19
      go_wp2_with fail
      go_ret
      exact ⟨ret_bool HE.out, Below.refl _ _⟩
  · have HE : Hid (talksV ns role = false) := hide (by
      cases rb
      · rw [talksV, rolesV, HRB.out]; rfl
      · have := right_len HRB.out; omega)
    go_enter Tryz.func19, Tryz.ntmps19
    go_wp2_with fail
    go_ret
    exact ⟨ret_bool HE.out, Below.refl _ _⟩
end Go.Proofs.YtmjlblbhakppfaaGreatDoor
