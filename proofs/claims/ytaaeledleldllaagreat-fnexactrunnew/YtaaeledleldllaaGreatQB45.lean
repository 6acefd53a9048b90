import Derived.Test.YtaaeledleldllaaGreatQB23
import Derived.Test.YtaaeledleldllaaGreatQB44
import Derived.Test.YtaaeledleldllaaGreatQB43
namespace Go.Proofs.YtaaeledleldllaaGreat
open Go.RowKit

abbrev Sk := List (Option ByteArray)
def skOf (st : List Nd) : Sk := st.map fun n => if n.op == 2 then some n.name else none
def wB (sk : Sk) (x : ByteArray) : Bool := sk.any fun o => match o with | some y => y.toList == x.toList | none => false
def bB (said : Bool) : Sk → ByteArray → Bool
  | [], _ => false
  | some y :: sk, x => if y.toList == x.toList then said else bB said sk x
  | none :: sk, x => bB true sk x
theorem within_sk : ∀ (st : List Nd) (x : ByteArray), withinB st x = wB (skOf st) x
  | [], _ => rfl
  | n :: st, x => by
    have ih := within_sk st x
    unfold withinB wB skOf at *
    rw [List.map_cons, List.any_cons, List.any_cons, ih]
    cases h : (n.op == 2)
    · simp
    · simp
theorem back_sk : ∀ (st : List Nd) (s : Bool) (x : ByteArray), backB s st x = bB s (skOf st) x
  | [], _, _ => rfl
  | n :: st, s, x => by
    have ih := back_sk st
    rw [backB]
    show _ = bB s ((if n.op == 2 then some n.name else none) :: skOf st) x
    cases h : (n.op == 2)
    · simp only [Bool.false_eq_true, if_false]
      exact ih true x
    · simp only [if_true]
      rw [bB, ih]
def labs {α : Type} (l : List (Br α)) : Prop := (l.map (·.l)).Nodup ∧ ∀ b ∈ l, wordB b.l = true ∧ sortB b.s = true
def leafG (sk : Sk) : Option ByteArray → Prop
  | none => True
  | some x => bB false sk x = true
def gP (A : Tk → Prop) : (n : Nat) → Sk → Pn n → Prop
  | 0, sk, x => leafG sk x
  | n + 1, sk, p => p.by (leafG sk) (fun x q => wordB x = true ∧ wB sk x = false ∧ gP A n (some x :: sk) q) (fun t l => A t ∧ 1 ≤ l.length ∧ l.length ≤ 4 ∧ labs l ∧ ∀ b ∈ l, gP A n (none :: sk) b.p)
def leafH (sk : Sk) : Option ByteArray → Prop
  | none => True
  | some x => wB sk x = true
def gH (A : Tk → Prop) : (n : Nat) → Sk → Pn n → Prop
  | 0, sk, x => leafH sk x
  | n + 1, sk, p => p.by (leafH sk) (fun x q => wordB x = true ∧ wB sk x = false ∧ gH A n (some x :: sk) q) (fun t l => A t ∧ 1 ≤ l.length ∧ l.length ≤ 4 ∧ labs l ∧ ∀ b ∈ l, gP A n (none :: sk) b.p)

theorem noT_list : (noT.toList == []) = true := by rw [Go.ByteArray.toList_eq]; rfl
theorem nodup_end {l : List ByteArray} {x : ByteArray} (h : l.Nodup) (hx : x ∉ l) : (l ++ [x]).Nodup := by
  rw [List.nodup_append]
  exact ⟨h, by simp, fun a ha b hb e => hx (by simp at hb; rw [← hb, ← e]; exact ha)⟩
theorem kids_g {n : Nat} {A : Tk → Prop} {sk : Sk} {go : List Nd → Option (List Nd)} {Q : Pn n → Prop} (hgo : ∀ (p : Pn n) r r', Q p → go (rowN n p ++ r) = some r' → gP A n sk p ∧ r' = r) : ∀ (l : List (Br (Pn n))) (ls : List ByteArray) (r r' : List Nd), (∀ b ∈ l, Q b.p) → ls.Nodup → kidsBy go l.length ls (brsBy (rowN n) l ++ r) = some r' → (ls ++ l.map (·.l)).Nodup ∧ (∀ b ∈ l, (wordB b.l = true ∧ sortB b.s = true) ∧ gP A n sk b.p) ∧ r' = r
  | [], ls, r, r', _, hn, h => by
    rw [List.length_nil, kidsBy] at h
    injection h with h
    exact ⟨by simpa using hn, fun b hb => (by cases hb), h.symm⟩
  | b :: l, ls, r, r', hq, hn, h => by
    rw [brs_cons, List.length_cons, List.cons_append, kidsBy] at h
    split at h
    · rename_i hc
      rw [Bool.and_eq_true] at hc
      obtain ⟨hc1, hc2⟩ := hc
      split at h
      · cases h
      · rename_i r1 hr1
        rw [List.append_assoc] at hr1
        obtain ⟨hg, rfl⟩ := hgo b.p _ _ (hq b List.mem_cons_self) hr1
        have hx : b.l ∉ ls := fun hm => by rw [has_iff.2 hm] at hc2; cases hc2
        obtain ⟨h1, h2, h3⟩ := kids_g hgo l (ls ++ [b.l]) r r' (fun d hd => hq d (List.mem_cons_of_mem _ hd)) (nodup_end hn hx) h
        refine ⟨by rw [List.map_cons]; simpa using h1, fun d hd => ?_, h3⟩
        rcases List.mem_cons.1 hd with rfl | hd
        · simp only [caseB, Bool.and_eq_true] at hc1
          exact ⟨⟨hc1.1.2, hc1.2⟩, hg⟩
        · exact h2 d hd
    · cases h
theorem g_kids {n : Nat} {A : Tk → Prop} {sk : Sk} {go : List Nd → Option (List Nd)} (hgo : ∀ (p : Pn n) r, gP A n sk p → go (rowN n p ++ r) = some r) : ∀ (l : List (Br (Pn n))) (ls : List ByteArray) (r : List Nd), (ls ++ l.map (·.l)).Nodup → (∀ b ∈ l, (wordB b.l = true ∧ sortB b.s = true) ∧ gP A n sk b.p) → kidsBy go l.length ls (brsBy (rowN n) l ++ r) = some r
  | [], ls, r, _, _ => by rw [List.length_nil, kidsBy]; rfl
  | b :: l, ls, r, hn, h => by
    obtain ⟨⟨hw, hs⟩, hg⟩ := h b (List.mem_cons_self)
    have hx : b.l ∉ ls := fun hm => by
      rw [List.nodup_append] at hn
      exact hn.2.2 _ hm b.l (by simp) rfl
    have hc : (caseB (⟨4, b.l, noT, 0, b.s⟩ : Nd) && !hasB ls b.l) = true := by
      have h1 : hasB ls b.l = false := by
        cases hh : hasB ls b.l with
        | false => rfl
        | true => exact absurd (has_iff.1 hh) hx
      rw [h1]
      simp only [caseB, Bool.and_eq_true]
      refine ⟨⟨⟨⟨⟨by rfl, noT_list⟩, by rfl⟩, hw⟩, hs⟩, by rfl⟩
    rw [brs_cons, List.length_cons, List.cons_append, kidsBy, if_pos hc, List.append_assoc, hgo b.p _ hg]
    exact g_kids hgo l (ls ++ [b.l]) r (by rw [List.map_cons] at hn; simpa using hn) (fun d hd => h d (List.mem_cons_of_mem _ hd))
def tkPlan (t : Tk) : Prop := t.op = 3 ∧ wordB t.a = true ∧ wordB t.b = true ∧ (t.a.toList == t.b.toList) = false
def tkPart (t : Tk) : Prop := (t.op = 5 ∨ t.op = 6) ∧ t.a = noT ∧ wordB t.b = true
theorem g_of_ahead : ∀ (n : Nat) (p : Pn n) (st r r' : List Nd), planN n p → ahead (talkS false) n st (rowN n p ++ r) = some r' → gP tkPlan n (skOf st) p ∧ r' = r := by
  have leaf : ∀ (n : Nat) (x : Option ByteArray) (st r r' : List Nd), ahead (talkS false) n st (leafRow x ++ r) = some r' → leafG (skOf st) x ∧ r' = r := by
    intro n x st r r' h
    cases x with
    | none =>
      rw [leafRow, List.singleton_append, ahead_0 rfl] at h
      rw [if_pos (by simp [endB])] at h
      injection h with h
      exact ⟨trivial, h.symm⟩
    | some x =>
      rw [leafRow, List.singleton_append, ahead_1 rfl] at h
      split at h
      · rename_i hc
        rw [Bool.and_eq_true, back_sk] at hc
        injection h with h
        exact ⟨hc.2, h.symm⟩
      · cases h
  intro n
  induction n with
  | zero => intro p st r r' _ h; exact leaf 0 p st r r' h
  | succ n ih =>
    intro p
    refine Pn.cases (P := fun p => ∀ (st r r' : List Nd), planN (n + 1) p → ahead (talkS false) (n + 1) st (rowN (n + 1) p ++ r) = some r' → gP tkPlan (n + 1) (skOf st) p ∧ r' = r) (fun x => ?_) (fun x q => ?_) (fun t l => ?_) p
    · intro st r r' _ h
      exact leaf (n + 1) x st r r' h
    · intro st r r' hp h
      rw [row_loop, List.cons_append, ahead_2 rfl] at h
      split at h
      · rename_i hc
        rw [Bool.and_eq_true, within_sk] at hc
        obtain ⟨h1, h2⟩ := ih q _ r r' hp h
        simp only [recB, Bool.and_eq_true] at hc
        exact ⟨⟨hc.1.2, by simpa using hc.2, h1⟩, h2⟩
      · cases h
    · intro st r r' hp h
      obtain ⟨h3, hne, hl1, hl4, hbs⟩ := hp
      obtain ⟨op, a, b⟩ := t
      dsimp only at h3
      subst h3
      rw [row_talk, List.cons_append, ahead_t (show (3 : Int) ≠ 0 by decide) (show (3 : Int) ≠ 1 by decide) (show (3 : Int) ≠ 2 by decide)] at h
      split at h
      · rename_i hc
        simp only [talkS, Bool.and_eq_true, Bool.false_eq_true, if_false] at hc
        have hm : ((l.length : Int)).toNat = l.length := by omega
        dsimp only at h
        rw [hm] at h
        obtain ⟨k1, k2, k3⟩ := kids_g (A := tkPlan) (sk := none :: skOf st) (Q := planN n) (fun p r r' hq hh => ih p (⟨3, a, b, (l.length : Int), 0⟩ :: st) r r' hq hh) l [] r r' hbs List.nodup_nil h
        exact ⟨⟨⟨rfl, hc.2.1.2, hc.1.1.1, hne⟩, hl1, hl4, ⟨by simpa using k1, fun b hb => (k2 b hb).1⟩, fun b hb => (k2 b hb).2⟩, k3⟩
      · cases h
theorem ahead_of_g : ∀ (n : Nat) (p : Pn n) (st r : List Nd), gP tkPart n (skOf st) p → ahead (talkS true) n st (rowN n p ++ r) = some r := by
  have leaf : ∀ (n : Nat) (x : Option ByteArray) (st r : List Nd), leafG (skOf st) x → ahead (talkS true) n st (leafRow x ++ r) = some r := by
    intro n x st r h
    cases x with
    | none =>
      rw [leafRow, List.singleton_append, ahead_0 rfl, if_pos (by simp [endB])]
    | some x =>
      rw [leafRow, List.singleton_append, ahead_1 rfl, if_pos]
      rw [Bool.and_eq_true, back_sk]
      exact ⟨by simp [varB], h⟩
  intro n
  induction n with
  | zero => intro p st r h; exact leaf 0 p st r h
  | succ n ih =>
    intro p
    refine Pn.cases (P := fun p => ∀ (st r : List Nd), gP tkPart (n + 1) (skOf st) p → ahead (talkS true) (n + 1) st (rowN (n + 1) p ++ r) = some r) (fun x => ?_) (fun x q => ?_) (fun t l => ?_) p
    · intro st r h
      exact leaf (n + 1) x st r h
    · intro st r h
      obtain ⟨h1, h2, h3⟩ := h
      rw [row_loop, List.cons_append, ahead_2 rfl, if_pos]
      · exact ih q (⟨2, x, noT, 0, 0⟩ :: st) r h3
      · rw [Bool.and_eq_true, within_sk]
        exact ⟨by simp [recB, h1], by simp [h2]⟩
    · intro st r h
      obtain ⟨⟨hop, ha, hw⟩, hl1, hl4, hlb, hbs⟩ := h
      obtain ⟨op, a, b⟩ := t
      dsimp only at hop ha hw
      subst ha
      have h0 : op ≠ 0 := by omega
      have h1 : op ≠ 1 := by omega
      have h2 : op ≠ 2 := by omega
      have hm : ((l.length : Int)).toNat = l.length := by omega
      rw [row_talk, List.cons_append, ahead_t h0 h1 h2, if_pos]
      · dsimp only
        rw [hm]
        refine g_kids (A := tkPart) (sk := none :: skOf st) (fun p r hp => ?_) l [] r (by simpa using hlb.1) (fun b hb => ⟨hlb.2 b hb, hbs b hb⟩)
        have e : none :: skOf st = skOf (⟨op, noT, b, (l.length : Int), 0⟩ :: st) := by
          show _ = (if op == 2 then some noT else none) :: skOf st
          rw [if_neg (by simpa using h2)]
        rw [e] at hp
        exact ih p _ r hp
      · simp only [talkS, manyB, Bool.and_eq_true, if_true, decide_eq_true_eq, Bool.or_eq_true, beq_iff_eq]
        exact ⟨⟨⟨hw, by omega, by omega⟩, trivial⟩, by simp, hop⟩
end Go.Proofs.YtaaeledleldllaaGreat
namespace Go.Proofs.YtaaeledleldllaaGreat
open Go.RowKit

theorem kids_cutS {go : List Nd → Option (List Nd)} {m : Nat} {ls : List ByteArray} {l r : List Nd} (h : kidsBy go (m + 1) ls l = some r) : ∃ c l' r1, l = c :: l' ∧ isSt c = false ∧ go l' = some r1 ∧ kidsBy go m (ls ++ [c.name]) r1 = some r := by
  cases l with
  | nil => cases h
  | cons c l' =>
    rw [kidsBy] at h
    split at h
    · rename_i hc
      split at h
      · cases h
      · rename_i r1 hr1
        refine ⟨c, l', r1, rfl, ?_, hr1, h⟩
        simp only [caseB, Bool.and_eq_true, beq_iff_eq] at hc
        unfold isSt
        rw [hc.1.1.1.1.1]
        rfl
    · cases h
theorem Mk4.cell {w w' : World} {xb : Nat} {R R' : List Nat} (h : Mk4 w w' xb R R') {b o : Nat} {x : Value} (hc : w.cell? ⟨b, o, none⟩ = some x) (hx : b ≠ xb) (hR : b ∉ R) : w'.cell? ⟨b, o, none⟩ = some x :=
  (World.cell?_of_block (a := ⟨b, o, none⟩) (h.block b (World.block_lt_of_cell? w _ hc) hx hR)).trans hc
theorem mk_edged {w3 w4 : World} {xb B base : Nat} {v sv ev ev' : Value} {z : Int} {nv fv : Value} {all : List Nd} {sts : List RState} {eds eds' : List REdge} {ns : List ByteArray} {fis : List Int} (h : MkAt w3 xb B base v sv ev z nv fv all sts eds ns fis) (ho : REdgeOwn w4 w3.heap.size ev' eds') (hc : w4.cell? ⟨xb, 2, none⟩ = some ev') (he : Ed2 w3 w4 xb) :
    MkAt w4 xb B base v sv ev' z nv fv all sts eds' ns fis ∧ Mkept w3 w4 base xb ∧ Mk4 w3 w4 xb (rows4 sv ev nv fv) (rows4 sv ev' nv fv) := by
  have hl := h.low
  have hA := he.ap
  have hK := hA.mkept h.sz (xb := xb) (fun b hb => by simp at hb; exact .inl hb)
  have off : ∀ {u : Value}, Fresh base w3 u → ∀ b ∈ vblocks u, b ∉ [xb] := fun hd b hb hm => by
    simp at hm
    have := hd.lo b hb
    omega
  have new : ∀ {u : Value}, Fresh base w3 u → ∀ b ∈ vblocks u, b ∉ vblocks ev' := fun hd b hb hm => by
    have := hd.hi b hb
    have := ho.fresh.lo b hm
    omega
  have new' : ∀ {u : Value}, Fresh base w3 u → ∀ b ∈ vblocks ev', b ∉ vblocks u := fun hd b hb hm => new hd b hm hb
  refine ⟨⟨⟨fun i x hx => ?_, fun o => he.fz o (h.box.fz o), Nat.lt_of_lt_of_le h.box.lt hA.size⟩, hK.sl hl.1 hl.2 h.sl, h.st.keep hA (off h.st.fresh), owns_down ho h.sz, owns_keep h.nm hA (off (owns_fresh h.nm)), owns_keep h.fi hA (off (owns_fresh h.fi)), ⟨new h.st.fresh, h.four.sn, h.four.sf, new' (owns_fresh h.nm), new' (owns_fresh h.fi), h.four.nf⟩, hl, Nat.le_trans h.sz hA.size⟩, hK, Mk4.apart hA (fun b hb => by simp at hb; exact .inl hb) (fun b hb => ?_)⟩
  · by_cases hi : i = 2
    · subst hi
      simp at hx
      subst hx
      exact hc
    · refine he.oth i x hi (h.box.cell i x ?_)
      match i, hi with
      | 0, _ => exact hx
      | 1, _ => exact hx
      | 3, _ => exact hx
      | 4, _ => exact hx
      | 5, _ => exact hx
      | j + 6, _ => simp at hx
  · rcases mem4.1 hb with q | q | q | q
    · exact .inl (mem4.2 (.inl q))
    · exact .inr (ho.fresh.lo b q)
    · exact .inl (mem4.2 (.inr (.inr (.inl q))))
    · exact .inl (mem4.2 (.inr (.inr (.inr q))))
theorem rows_old {w : World} {xb B base : Nat} {v sv ev : Value} {z : Int} {nv fv : Value} {all : List Nd} {sts : List RState} {eds : List REdge} {ns : List ByteArray} {fis : List Int} (h : MkAt w xb B base v sv ev z nv fv all sts eds ns fis) : ∀ b ∈ rows4 sv ev nv fv, b < w.heap.size := fun b hb => by
  rcases mem4.1 hb with q | q | q | q
  · exact h.st.fresh.hi b q
  · exact h.ed.fresh.hi b q
  · exact (owns_fresh h.nm).hi b q
  · exact (owns_fresh h.fi).hi b q
structure TalkS (w0 wn w : World) (xb B base : Nat) (v : Value) (z : Int) (R : List Nat) (all : List Nd) (ns : List ByteArray) (fis : List Int) (go : List Nd → List RState × List REdge → List Nd × List RState × List REdge) (ka : List Nd → Option (List Nd)) (s : Int) (r : List Nd) (fin : List Nd × List RState × List REdge) (m pos : Nat) (sts : List RState) (eds : List REdge) (sv ev nv fv : Value) : Prop where
  ma : MkAt w xb B base v sv ev z nv fv all sts eds ns fis
  ah : ∃ ls, kidsBy ka m ls (all.drop pos) = some r
  le : pos ≤ all.length
  cnt : cntS all pos = sts.length
  ed : eds.length + (all.length - pos) ≤ 900
  same : svKids go (fun l k => firstOf ns fis k l) s m (all.drop pos) (sts, eds) = fin
  kept : Mkept w0 w base xb
  four : Mk4 wn w xb R (rows4 sv ev nv fv)
theorem sl_row {w : World} {B b o n cap : Nat} {all : List Nd} (h : SlAt w B (.slice (some ⟨b, o, none⟩) n cap) all) (hne : all ≠ []) : RowAt w b o all := by
  obtain ⟨ao', cap', hv', -, -, hr'⟩ := h
  obtain ⟨b', o', hbo, -, hrow'⟩ := hr' hne
  subst hbo
  injection hv' with hv1 _ _
  injection hv1 with hv1
  injection hv1 with hv1 hv2
  subst hv1
  subst hv2
  exact hrow'
theorem far_below {w w' : World} {xb B base : Nat} {v sv ev : Value} {z : Int} {nv fv : Value} {all : List Nd} {sts : List RState} {eds : List REdge} {ns : List ByteArray} {fis : List Int} (h : MkAt w xb B base v sv ev z nv fv all sts eds ns fis) (hb : Below w.heap.size w w') : MkAt w' xb B base v sv ev z nv fv all sts eds ns fis := h.far (Far.ofBelow hb)
theorem talk_round {f : Nat} {st : List Nd} {w0 wn wr : World} {xb B base : Nat} {v : Value} {z : Int} {R : List Nat} {all : List Nd} {ns : List ByteArray} {fis : List Int} {s : Int} {r : List Nd} {fin : List Nd × List RState × List REdge} {m posk : Nat} {stsk : List RState} {edsk : List REdge} {svk evk nvk fvk : Value}
    (h : TalkS w0 wn wr xb B base v z R all ns fis (Go.Proofs.YtaaeledleldllaaGreat.sv f ns fis) (ahead (talkS true) f st) s r fin (m + 1) posk stsk edsk svk evk nvk fvk) (hf : MakeCalls f) (hlen : fis.length = ns.length) (hall : all.length ≤ 40) (hns : ns.length + (f + 1) ≤ 100) :
    ∃ (hpl : posk < all.length) (fstv : Int) (O : List Nd × List RState × List REdge),
      (∀ W, Below wr.heap.size wr W → Calls Tryz.prog 180 #[.pointer (some ⟨xb, 0, none⟩), .int .i64 ((posk : Int) + 1)] W fun e w' => e = .returned (.int .i64 fstv) ∧ Below W.heap.size W w') ∧
      (∀ W ev2, MkAt W xb B base v svk ev2 z nvk fvk all stsk (insE ⟨s, all[posk].name, all[posk].sort, fstv⟩ edsk) ns fis → Calls Tryz.prog 181 #[.pointer (some ⟨xb, 0, none⟩), .int .i64 ((posk : Int) + 1)] W fun e w' => Made W w' xb B base v z (rows4 svk ev2 nvk fvk) all ns fis e O) ∧
      (∀ W W' ev2 sv4 ev4 nv4 fv4, Mkept wr W base xb → Mk4 wr W xb (rows4 svk evk nvk fvk) (rows4 svk ev2 nvk fvk) → MkAt W' xb B base v sv4 ev4 z nv4 fv4 all O.2.1 O.2.2 ns fis → Mkept W W' base xb → Mk4 W W' xb (rows4 svk ev2 nvk fvk) (rows4 sv4 ev4 nv4 fv4) → TalkS w0 wn W' xb B base v z R all ns fis (Go.Proofs.YtaaeledleldllaaGreat.sv f ns fis) (ahead (talkS true) f st) s r fin m (all.length - O.1.length) O.2.1 O.2.2 sv4 ev4 nv4 fv4) ∧ edsk.length ≤ 900 := by
  obtain ⟨ls, hls⟩ := h.ah
  obtain ⟨c, l', r1, hdr, hnc, hka, hkb⟩ := kids_cutS hls
  have hpl : posk < all.length := by
    rcases Nat.lt_or_ge posk all.length with h1 | h1
    · exact h1
    · rw [List.drop_eq_nil_of_le h1] at hdr; cases hdr
  rw [List.drop_eq_getElem_cons hpl] at hdr
  injection hdr with e1 e2
  subst e2
  subst e1
  have hcs2 : cntS all (posk + 1) = stsk.length := by rw [cntS_succ hpl, hnc, ← h.cnt]; rfl
  have hch : ¬ (∀ n ∈ all.drop (posk + 1), n.op = 2) := ahead_chain _ _ _ _ hka
  have hpl2 : posk + 1 < all.length := by
    rcases Nat.lt_or_ge (posk + 1) all.length with h1 | h1
    · exact h1
    · rw [List.drop_eq_nil_of_le h1] at hka; cases f <;> cases hka
  obtain ⟨fstv, hfst⟩ : ∃ x, firstOf ns fis stsk.length (all.drop (posk + 1)) = x := ⟨_, rfl⟩
  have hed := h.ed
  have hg := sv_ok f st (all.drop (posk + 1)) r1 ns fis (stsk, insE ⟨s, all[posk].name, all[posk].sort, fstv⟩ edsk) hka
  obtain ⟨O, hO⟩ : ∃ O, Go.Proofs.YtaaeledleldllaaGreat.sv f ns fis (all.drop (posk + 1)) (stsk, insE ⟨s, all[posk].name, all[posk].sort, fstv⟩ edsk) = O := ⟨_, rfl⟩
  rw [hO] at hg
  refine ⟨hpl, fstv, O, fun W hb => ?_, fun W ev2 hW => ?_, fun W W' ev2 sv4 ev4 nv4 fv4 hk1 hx1 hm4 hk4 hx4 => ?_, by omega⟩
  · have := first_calls all ns fis hlen (by omega) (by omega) _ (posk + 1) xb W.heap.size W rfl hch (far_below h.ma hb).firAt (Nat.le_refl _)
    rw [hcs2, hfst] at this
    rw [show (posk : Int) + 1 = ((posk + 1 : Nat) : Int) by omega]
    exact this
  · have := hf st all r1 (posk + 1) W xb B base v svk ev2 z nvk fvk stsk _ ns fis hka hall hpl2 hlen (by omega) hcs2 (by rw [insE_len]; omega) hW
    rw [hO] at this
    rw [show (posk : Int) + 1 = ((posk + 1 : Nat) : Int) by omega]
    exact this
  · have hl := left_at (ahead_suffix _ _ _ _ _ hka)
    obtain rfl : O.1 = r1 := hg.rest
    have h1 := hg.sts
    have h2 := hg.eds
    have h3 := cntS_drop all (posk + 1)
    have h4 := cntS_drop all (all.length - O.1.length)
    rw [← hl.1] at h4
    rw [List.length_drop, insE_len] at h2
    dsimp only at h1
    refine ⟨hm4, ⟨_, by rw [← hl.1]; exact hkb⟩, by omega, by omega, by omega, ?_, (h.kept.trans hk1).trans hk4, (h.four.trans hx1).trans hx4⟩
    rw [← hl.1, ← h.same, List.drop_eq_getElem_cons hpl]
    have e : svKids (Go.Proofs.YtaaeledleldllaaGreat.sv f ns fis) (fun l k => firstOf ns fis k l) s (m + 1) (all[posk] :: all.drop (posk + 1)) (stsk, edsk) = svKids (Go.Proofs.YtaaeledleldllaaGreat.sv f ns fis) (fun l k => firstOf ns fis k l) s m (Go.Proofs.YtaaeledleldllaaGreat.sv f ns fis (all.drop (posk + 1)) (stsk, insE ⟨s, all[posk].name, all[posk].sort, firstOf ns fis stsk.length (all.drop (posk + 1))⟩ edsk)).1 (Go.Proofs.YtaaeledleldllaaGreat.sv f ns fis (all.drop (posk + 1)) (stsk, insE ⟨s, all[posk].name, all[posk].sort, firstOf ns fis stsk.length (all.drop (posk + 1))⟩ edsk)).2 := rfl
    rw [e, hfst, hO]
end Go.Proofs.YtaaeledleldllaaGreat
