/- What the specification's maker makes: how much, and what is left. -/
import Derived.Test.YthaomohoiginnaaQMachineOf31
import Derived.Test.YthaomohoiginnaaQMachineOf35
namespace Go.Proofs.Ythaomohoiginnaa
open Go.RowKit

def cntL (l : List Nd) : Nat := (l.filter isSt).length
theorem cntL_cons (n : Nd) (l : List Nd) : cntL (n :: l) = cntL l + (if isSt n then 1 else 0) := by
  unfold cntL
  cases h : isSt n <;> simp [h]
theorem cntS_drop (all : List Nd) (pos : Nat) : cntS all pos + cntL (all.drop pos) = cntL all := by
  unfold cntS cntL
  rw [← List.length_append, ← List.filter_append, List.take_append_drop]
structure SvGrows (l r : List Nd) (S : List RState × List REdge) (o : List Nd × List RState × List REdge) : Prop where
  rest : o.1 = r
  sts : o.2.1.length + cntL r = S.1.length + cntL l
  eds : o.2.2.length + r.length ≤ S.2.length + l.length
theorem insE_len (e : REdge) (l : List REdge) : (insE e l).length = l.length + 1 := by
  have := congrArg List.length (List.takeWhile_append_dropWhile (p := fun x => mlessE x e) (l := l))
  simp only [insE, List.length_append, List.length_cons] at *
  omega
def SvOk (f : Nat) : Prop := ∀ (st l r : List Nd) (ns : List ByteArray) (fis : List Int) (S : List RState × List REdge), ahead (talkS true) f st l = some r → SvGrows l r S (sv f ns fis l S)
theorem svKids_ok {f : Nat} (hf : SvOk f) (st : List Nd) (ns : List ByteArray) (fis : List Int) (s : Int) : ∀ (m : Nat) (ls : List ByteArray) (l r : List Nd) (S : List RState × List REdge), kidsBy (ahead (talkS true) f st) m ls l = some r → SvGrows l r S (svKids (sv f ns fis) (fun l k => firstOf ns fis k l) s m l S)
  | 0, ls, l, r, S, h => by
    rw [kidsBy] at h
    injection h with h
    subst h
    exact ⟨rfl, rfl, Nat.le_refl _⟩
  | m + 1, ls, [], r, S, h => by cases h
  | m + 1, ls, c :: l, r, S, h => by
    rw [kidsBy] at h
    split at h
    · rename_i hc
      split at h
      · cases h
      · rename_i r1 hr1
        have g1 := hf st l r1 ns fis (S.1, insE ⟨s, c.name, c.sort, firstOf ns fis S.1.length l⟩ S.2) hr1
        have hc4 : isSt c = false := by
          simp only [caseB, Bool.and_eq_true, beq_iff_eq] at hc
          unfold isSt
          rw [hc.1.1.1.1.1]
          rfl
        have e : svKids (sv f ns fis) (fun l k => firstOf ns fis k l) s (m + 1) (c :: l) S = svKids (sv f ns fis) (fun l k => firstOf ns fis k l) s m (sv f ns fis l (S.1, insE ⟨s, c.name, c.sort, firstOf ns fis S.1.length l⟩ S.2)).1 (sv f ns fis l (S.1, insE ⟨s, c.name, c.sort, firstOf ns fis S.1.length l⟩ S.2)).2 := rfl
        rw [e]
        obtain ⟨X, hX⟩ : ∃ X, sv f ns fis l (S.1, insE ⟨s, c.name, c.sort, firstOf ns fis S.1.length l⟩ S.2) = X := ⟨_, rfl⟩
        rw [hX] at g1 ⊢
        obtain rfl : X.1 = r1 := g1.rest
        have g2 := svKids_ok hf st ns fis s m (ls ++ [c.name]) X.1 r X.2 h
        refine ⟨g2.rest, ?_, ?_⟩
        · have h1 := g1.sts
          have h2 := g2.sts
          rw [cntL_cons, hc4]
          simp only [Bool.false_eq_true, if_false]
          dsimp only at h1
          omega
        · have h1 := g1.eds
          have h2 := g2.eds
          dsimp only at h1
          rw [insE_len] at h1
          simp only [List.length_cons]
          omega
    · cases h
theorem sv_ok : ∀ f : Nat, SvOk f := by
  intro f
  induction f with
  | zero =>
    intro st l r ns fis S h
    cases l with
    | nil => cases h
    | cons n l =>
      rw [sv]
      by_cases h1 : n.op = 1
      · rw [if_pos (by simpa using h1)]
        rw [ahead_1 h1] at h
        split at h
        · injection h with h
          subst h
          exact ⟨rfl, by rw [cntL_cons]; simp [isSt, h1], by simp⟩
        · cases h
      · rw [if_neg (by simpa using h1)]
        by_cases h0 : n.op = 0
        · rw [ahead_0 h0] at h
          split at h
          · injection h with h
            subst h
            exact ⟨rfl, by rw [cntL_cons]; simp [isSt, h0]; omega, by simp⟩
          · cases h
        · rw [ahead_t0 h0 h1] at h; cases h
  | succ f ih =>
    intro st l r ns fis S h
    cases l with
    | nil => cases h
    | cons n l =>
      rw [sv]
      by_cases h1 : n.op = 1
      · rw [if_pos (by simpa using h1)]
        rw [ahead_1 h1] at h
        split at h
        · injection h with h
          subst h
          exact ⟨rfl, by rw [cntL_cons]; simp [isSt, h1], by simp⟩
        · cases h
      · rw [if_neg (by simpa using h1)]
        by_cases h2 : n.op = 2
        · rw [if_pos (by simpa using h2)]
          rw [ahead_2 h2] at h
          split at h
          · have g := ih _ l r (ns ++ [n.name]) (fis ++ [firstOf (ns ++ [n.name]) (fis ++ [0]) S.1.length l]) S h
            exact ⟨g.rest, by have := g.sts; rw [cntL_cons]; simp [isSt, h2]; exact this, by have := g.eds; simp only [List.length_cons]; omega⟩
          · cases h
        · rw [if_neg (by simpa using h2)]
          by_cases h0 : n.op = 0
          · rw [ahead_0 h0] at h
            split at h
            · rename_i he
              injection h with h
              subst h
              have hm : n.many = 0 := by
                simp only [endB, Bool.and_eq_true, beq_iff_eq] at he
                exact he.1.2
              rw [hm]
              exact ⟨rfl, by rw [cntL_cons]; simp [isSt, h0, svKids]; omega, by simp [svKids]⟩
            · cases h
          · rw [ahead_t h0 h1 h2] at h
            split at h
            · rename_i ht
              have g := svKids_ok ih (n :: st) ns fis (S.1.length : Int) n.many.toNat [] l r (S.1 ++ [⟨kindW n.op, n.peer⟩], S.2) h
              have hs : isSt n = true := by
                simp only [talkS, Bool.and_eq_true, Bool.or_eq_true, beq_iff_eq, if_true] at ht
                unfold isSt
                rcases ht.2.2 with e | e <;> rw [e] <;> rfl
              exact ⟨g.rest, by have := g.sts; rw [cntL_cons, hs]; simp only [List.length_append, List.length_cons, List.length_nil, if_true] at *; omega, by have := g.eds; simp only [List.length_cons] at *; omega⟩
            · cases h
/-- what is left of a row, by its place -/
theorem left_at {all r : List Nd} {pos : Nat} (h : r <:+ all.drop pos) : r = all.drop (all.length - r.length) ∧ all.length - r.length ≤ all.length ∧ r.length ≤ all.length - pos := by
  have h1 := h.trans (List.drop_suffix pos all)
  have h2 := h.length_le
  rw [List.length_drop] at h2
  exact ⟨List.suffix_iff_eq_drop.1 h1, by omega, h2⟩
end Go.Proofs.Ythaomohoiginnaa
/- The specification's maker of machines: what its rounds at a talk keep. -/
namespace Go.Proofs.Ythaomohoiginnaa
open Go.RowKit

theorem kids_cutS {go : List Nd → Option (List Nd)} {m : Nat} {ls : List ByteArray} {l r : List Nd} (h : kidsBy go (m + 1) ls l = some r) : ∃ c l' r1, l = c :: l' ∧ isSt c = false ∧ go l' = some r1 ∧ kidsBy go m (ls ++ [c.name]) r1 = some r := by
  cases l with
  | nil => cases h
  | cons c l' =>
    rw [kidsBy] at h
    split at h
    · rename_i hc
      split at h
      · cases h
      · rename_i r1 hr1
        refine ⟨c, l', r1, rfl, ?_, hr1, h⟩
        simp only [caseB, Bool.and_eq_true, beq_iff_eq] at hc
        unfold isSt
        rw [hc.1.1.1.1.1]
        rfl
    · cases h
theorem Mk4.cell {w w' : World} {xb : Nat} {R R' : List Nat} (h : Mk4 w w' xb R R') {b o : Nat} {x : Value} (hc : w.cell? ⟨b, o, none⟩ = some x) (hx : b ≠ xb) (hR : b ∉ R) : w'.cell? ⟨b, o, none⟩ = some x :=
  (World.cell?_of_block (a := ⟨b, o, none⟩) (h.block b (World.block_lt_of_cell? w _ hc) hx hR)).trans hc
theorem mk_edged {w3 w4 : World} {xb B base : Nat} {v sv ev ev' : Value} {z : Int} {nv fv : Value} {all : List Nd} {sts : List RState} {eds eds' : List REdge} {ns : List ByteArray} {fis : List Int} (h : MkAt w3 xb B base v sv ev z nv fv all sts eds ns fis) (ho : REdgeOwn w4 w3.heap.size ev' eds') (hc : w4.cell? ⟨xb, 2, none⟩ = some ev') (he : Ed2 w3 w4 xb) :
    MkAt w4 xb B base v sv ev' z nv fv all sts eds' ns fis ∧ Mkept w3 w4 base xb ∧ Mk4 w3 w4 xb (rows4 sv ev nv fv) (rows4 sv ev' nv fv) := by
  have hl := h.low
  have hA := he.ap
  have hK := hA.mkept h.sz (xb := xb) (fun b hb => by simp at hb; exact .inl hb)
  have off : ∀ {u : Value}, Fresh base w3 u → ∀ b ∈ vblocks u, b ∉ [xb] := fun hd b hb hm => by
    simp at hm
    have := hd.lo b hb
    omega
  have new : ∀ {u : Value}, Fresh base w3 u → ∀ b ∈ vblocks u, b ∉ vblocks ev' := fun hd b hb hm => by
    have := hd.hi b hb
    have := ho.fresh.lo b hm
    omega
  have new' : ∀ {u : Value}, Fresh base w3 u → ∀ b ∈ vblocks ev', b ∉ vblocks u := fun hd b hb hm => new hd b hm hb
  refine ⟨⟨⟨fun i x hx => ?_, fun o => he.fz o (h.box.fz o), Nat.lt_of_lt_of_le h.box.lt hA.size⟩, hK.sl hl.1 hl.2 h.sl, h.st.keep hA (off h.st.fresh), owns_down ho h.sz, owns_keep h.nm hA (off (owns_fresh h.nm)), owns_keep h.fi hA (off (owns_fresh h.fi)), ⟨new h.st.fresh, h.four.sn, h.four.sf, new' (owns_fresh h.nm), new' (owns_fresh h.fi), h.four.nf⟩, hl, Nat.le_trans h.sz hA.size⟩, hK, Mk4.apart hA (fun b hb => by simp at hb; exact .inl hb) (fun b hb => ?_)⟩
  · by_cases hi : i = 2
    · subst hi
      simp at hx
      subst hx
      exact hc
    · refine he.oth i x hi (h.box.cell i x ?_)
      match i, hi with
      | 0, _ => exact hx
      | 1, _ => exact hx
      | 3, _ => exact hx
      | 4, _ => exact hx
      | 5, _ => exact hx
      | j + 6, _ => simp at hx
  · rcases mem4.1 hb with q | q | q | q
    · exact .inl (mem4.2 (.inl q))
    · exact .inr (ho.fresh.lo b q)
    · exact .inl (mem4.2 (.inr (.inr (.inl q))))
    · exact .inl (mem4.2 (.inr (.inr (.inr q))))
theorem rows_old {w : World} {xb B base : Nat} {v sv ev : Value} {z : Int} {nv fv : Value} {all : List Nd} {sts : List RState} {eds : List REdge} {ns : List ByteArray} {fis : List Int} (h : MkAt w xb B base v sv ev z nv fv all sts eds ns fis) : ∀ b ∈ rows4 sv ev nv fv, b < w.heap.size := fun b hb => by
  rcases mem4.1 hb with q | q | q | q
  · exact h.st.fresh.hi b q
  · exact h.ed.fresh.hi b q
  · exact (owns_fresh h.nm).hi b q
  · exact (owns_fresh h.fi).hi b q
/-- where the rounds at a talk stand -/
structure TalkS (w0 wn w : World) (xb B base : Nat) (v : Value) (z : Int) (R : List Nat) (all : List Nd) (ns : List ByteArray) (fis : List Int) (go : List Nd → List RState × List REdge → List Nd × List RState × List REdge) (ka : List Nd → Option (List Nd)) (s : Int) (r : List Nd) (fin : List Nd × List RState × List REdge) (m pos : Nat) (sts : List RState) (eds : List REdge) (sv ev nv fv : Value) : Prop where
  ma : MkAt w xb B base v sv ev z nv fv all sts eds ns fis
  ah : ∃ ls, kidsBy ka m ls (all.drop pos) = some r
  le : pos ≤ all.length
  cnt : cntS all pos = sts.length
  ed : eds.length + (all.length - pos) ≤ 900
  same : svKids go (fun l k => firstOf ns fis k l) s m (all.drop pos) (sts, eds) = fin
  kept : Mkept w0 w base xb
  four : Mk4 wn w xb R (rows4 sv ev nv fv)
theorem sl_row {w : World} {B b o n cap : Nat} {all : List Nd} (h : SlAt w B (.slice (some ⟨b, o, none⟩) n cap) all) (hne : all ≠ []) : RowAt w b o all := by
  obtain ⟨ao', cap', hv', -, -, hr'⟩ := h
  obtain ⟨b', o', hbo, -, hrow'⟩ := hr' hne
  subst hbo
  injection hv' with hv1 _ _
  injection hv1 with hv1
  injection hv1 with hv1 hv2
  subst hv1
  subst hv2
  exact hrow'
theorem far_below {w w' : World} {xb B base : Nat} {v sv ev : Value} {z : Int} {nv fv : Value} {all : List Nd} {sts : List RState} {eds : List REdge} {ns : List ByteArray} {fis : List Int} (h : MkAt w xb B base v sv ev z nv fv all sts eds ns fis) (hb : Below w.heap.size w w') : MkAt w' xb B base v sv ev z nv fv all sts eds ns fis := h.far (Far.ofBelow hb)
/-- a round at a talk: what its calls answer, and where it leads -/
theorem talk_round {f : Nat} {st : List Nd} {w0 wn wr : World} {xb B base : Nat} {v : Value} {z : Int} {R : List Nat} {all : List Nd} {ns : List ByteArray} {fis : List Int} {s : Int} {r : List Nd} {fin : List Nd × List RState × List REdge} {m posk : Nat} {stsk : List RState} {edsk : List REdge} {svk evk nvk fvk : Value}
    (h : TalkS w0 wn wr xb B base v z R all ns fis (Go.Proofs.Ythaomohoiginnaa.sv f ns fis) (ahead (talkS true) f st) s r fin (m + 1) posk stsk edsk svk evk nvk fvk) (hf : MakeCalls f) (hlen : fis.length = ns.length) (hall : all.length ≤ 40) (hns : ns.length + (f + 1) ≤ 100) :
    ∃ (hpl : posk < all.length) (fstv : Int) (O : List Nd × List RState × List REdge),
      (∀ W, Below wr.heap.size wr W → Calls Try.prog 127 #[.pointer (some ⟨xb, 0, none⟩), .int .i64 ((posk : Int) + 1)] W fun e w' => e = .returned (.int .i64 fstv) ∧ Below W.heap.size W w') ∧
      (∀ W ev2, MkAt W xb B base v svk ev2 z nvk fvk all stsk (insE ⟨s, all[posk].name, all[posk].sort, fstv⟩ edsk) ns fis → Calls Try.prog 128 #[.pointer (some ⟨xb, 0, none⟩), .int .i64 ((posk : Int) + 1)] W fun e w' => Made W w' xb B base v z (rows4 svk ev2 nvk fvk) all ns fis e O) ∧
      (∀ W W' ev2 sv4 ev4 nv4 fv4, Mkept wr W base xb → Mk4 wr W xb (rows4 svk evk nvk fvk) (rows4 svk ev2 nvk fvk) → MkAt W' xb B base v sv4 ev4 z nv4 fv4 all O.2.1 O.2.2 ns fis → Mkept W W' base xb → Mk4 W W' xb (rows4 svk ev2 nvk fvk) (rows4 sv4 ev4 nv4 fv4) → TalkS w0 wn W' xb B base v z R all ns fis (Go.Proofs.Ythaomohoiginnaa.sv f ns fis) (ahead (talkS true) f st) s r fin m (all.length - O.1.length) O.2.1 O.2.2 sv4 ev4 nv4 fv4) ∧ edsk.length ≤ 900 := by
  obtain ⟨ls, hls⟩ := h.ah
  obtain ⟨c, l', r1, hdr, hnc, hka, hkb⟩ := kids_cutS hls
  have hpl : posk < all.length := by
    rcases Nat.lt_or_ge posk all.length with h1 | h1
    · exact h1
    · rw [List.drop_eq_nil_of_le h1] at hdr; cases hdr
  rw [List.drop_eq_getElem_cons hpl] at hdr
  injection hdr with e1 e2
  subst e2
  subst e1
  have hcs2 : cntS all (posk + 1) = stsk.length := by rw [cntS_succ hpl, hnc, ← h.cnt]; rfl
  have hch : ¬ (∀ n ∈ all.drop (posk + 1), n.op = 2) := ahead_chain _ _ _ _ hka
  have hpl2 : posk + 1 < all.length := by
    rcases Nat.lt_or_ge (posk + 1) all.length with h1 | h1
    · exact h1
    · rw [List.drop_eq_nil_of_le h1] at hka; cases f <;> cases hka
  obtain ⟨fstv, hfst⟩ : ∃ x, firstOf ns fis stsk.length (all.drop (posk + 1)) = x := ⟨_, rfl⟩
  have hed := h.ed
  have hg := sv_ok f st (all.drop (posk + 1)) r1 ns fis (stsk, insE ⟨s, all[posk].name, all[posk].sort, fstv⟩ edsk) hka
  obtain ⟨O, hO⟩ : ∃ O, Go.Proofs.Ythaomohoiginnaa.sv f ns fis (all.drop (posk + 1)) (stsk, insE ⟨s, all[posk].name, all[posk].sort, fstv⟩ edsk) = O := ⟨_, rfl⟩
  rw [hO] at hg
  refine ⟨hpl, fstv, O, fun W hb => ?_, fun W ev2 hW => ?_, fun W W' ev2 sv4 ev4 nv4 fv4 hk1 hx1 hm4 hk4 hx4 => ?_, by omega⟩
  · have := first_calls all ns fis hlen (by omega) (by omega) _ (posk + 1) xb W.heap.size W rfl hch (far_below h.ma hb).firAt (Nat.le_refl _)
    rw [hcs2, hfst] at this
    rw [show (posk : Int) + 1 = ((posk + 1 : Nat) : Int) by omega]
    exact this
  · have := hf st all r1 (posk + 1) W xb B base v svk ev2 z nvk fvk stsk _ ns fis hka hall hpl2 hlen (by omega) hcs2 (by rw [insE_len]; omega) hW
    rw [hO] at this
    rw [show (posk : Int) + 1 = ((posk + 1 : Nat) : Int) by omega]
    exact this
  · have hl := left_at (ahead_suffix _ _ _ _ _ hka)
    obtain rfl : O.1 = r1 := hg.rest
    have h1 := hg.sts
    have h2 := hg.eds
    have h3 := cntS_drop all (posk + 1)
    have h4 := cntS_drop all (all.length - O.1.length)
    rw [← hl.1] at h4
    rw [List.length_drop, insE_len] at h2
    dsimp only at h1
    refine ⟨hm4, ⟨_, by rw [← hl.1]; exact hkb⟩, by omega, by omega, by omega, ?_, (h.kept.trans hk1).trans hk4, (h.four.trans hx1).trans hx4⟩
    rw [← hl.1, ← h.same, List.drop_eq_getElem_cons hpl]
    have e : svKids (Go.Proofs.Ythaomohoiginnaa.sv f ns fis) (fun l k => firstOf ns fis k l) s (m + 1) (all[posk] :: all.drop (posk + 1)) (stsk, edsk) = svKids (Go.Proofs.Ythaomohoiginnaa.sv f ns fis) (fun l k => firstOf ns fis k l) s m (Go.Proofs.Ythaomohoiginnaa.sv f ns fis (all.drop (posk + 1)) (stsk, insE ⟨s, all[posk].name, all[posk].sort, firstOf ns fis stsk.length (all.drop (posk + 1))⟩ edsk)).1 (Go.Proofs.Ythaomohoiginnaa.sv f ns fis (all.drop (posk + 1)) (stsk, insE ⟨s, all[posk].name, all[posk].sort, firstOf ns fis stsk.length (all.drop (posk + 1))⟩ edsk)).2 := rfl
    rw [e, hfst, hO]
end Go.Proofs.Ythaomohoiginnaa
