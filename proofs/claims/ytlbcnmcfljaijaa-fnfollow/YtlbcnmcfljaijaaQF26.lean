import Derived.Test.YtlbcnmcfljaijaaQF22
import Derived.Test.YtlbcnmcfljaijaaQF06
import Derived.Test.YtlbcnmcfljaijaaQF07
import Derived.Laws.Concat
import Derived.Test.YtlbcnmcfljaijaaQF24
import Derived.Test.YtlbcnmcfljaijaaQF18
import Derived.Lib.SliceRun
import Derived.Laws.AppendOwnNone
import Derived.Test.YtlbcnmcfljaijaaQF21
import Derived.Test.YtlbcnmcfljaijaaQF17
namespace Go.Proofs.Ytlbcnmcfljaijaa
open Go.RowKit

theorem s_sortText (n : Int) (w : World) (h0 : 0 ≤ n) (h2 : n ≤ 2) :
    Calls Try.prog 85 #[.int .i64 n] w fun e w' => e = .returned (.string (sortT n)) ∧ Below w.heap.size w w' := by
  rcases (show n = 0 ∨ n = 1 ∨ n = 2 by omega) with h | h | h
  all_goals
    subst h
    go_enter Try.func85, Try.ntmps85
    go_wp2_with fail
    go_ret
    exact ⟨ret_str rfl, alloc1 _ _⟩

def ArrAt (w : World) (v : Value) (all : List Nd) : Prop :=
  ∃ b o cap, v = .slice (some ⟨b, o, none⟩) all.length cap ∧ all.length ≤ cap ∧ all.length ≤ 4294967296 ∧ RowAt w b o all ∧ b < w.heap.size
theorem ArrAt.carry {w w' : World} {v : Value} {all : List Nd} (h : ArrAt w v all) (hb : Below w.heap.size w w') : ArrAt w' v all := by
  obtain ⟨b, o, cap, e, h1, h2, h3, h4⟩ := h
  exact ⟨b, o, cap, e, h1, h2, h3.carry h4 hb, Nat.lt_of_lt_of_le h4 hb.size⟩

theorem joinC_snoc : ∀ {acc : List ByteArray} {x : ByteArray}, acc ≠ [] → joinC (acc ++ [x]) = joinC acc ++ ba [44] ++ x
  | [], _, h => absurd rfl h
  | [t], x, _ => rfl
  | t :: u :: ts, x, _ => by
    have ih := joinC_snoc (acc := u :: ts) (x := x) (by simp)
    rw [joinC, List.cons_append, List.cons_append, joinC]
    rw [← List.cons_append, ih]
    apply ba_ext
    simp
def STextCalls (part : Bool) (f : Nat) : Prop := ∀ (st all r : List Nd) (pos : Nat) (a : Int) (v : Value) (w : World), st.length + f = 10 → StW st → a = pos → pos ≤ all.length → all.length ≤ 40 → ahead (talkS part) f st (all.drop pos) = some r → ArrAt w v all →
  Calls Try.prog 84 #[v, .int .i64 a] w fun e w' => e = .returned (.tuple #[.string (textF f (all.drop pos)).1, .int .i64 ((all.length - r.length : Nat) : Int)]) ∧ Below w.heap.size w w'

end Go.Proofs.Ytlbcnmcfljaijaa
namespace Go.Proofs.Ytlbcnmcfljaijaa
open Go.RowKit

theorem kids_cutS {go : List Nd → Option (List Nd)} {m : Nat} {ls : List ByteArray} {l r : List Nd} (h : kidsBy go (m + 1) ls l = some r) : ∃ c l' r1, l = c :: l' ∧ isSt c = false ∧ go l' = some r1 ∧ kidsBy go m (ls ++ [c.name]) r1 = some r := by
  cases l with
  | nil => cases h
  | cons c l' =>
    rw [kidsBy] at h
    split at h
    · rename_i hc
      split at h
      · cases h
      · rename_i r1 hr1
        refine ⟨c, l', r1, rfl, ?_, hr1, h⟩
        simp only [caseB, Bool.and_eq_true, beq_iff_eq] at hc
        unfold isSt
        rw [hc.1.1.1.1.1]
        rfl
    · cases h
theorem Mk4.cell {w w' : World} {xb : Nat} {R R' : List Nat} (h : Mk4 w w' xb R R') {b o : Nat} {x : Value} (hc : w.cell? ⟨b, o, none⟩ = some x) (hx : b ≠ xb) (hR : b ∉ R) : w'.cell? ⟨b, o, none⟩ = some x :=
  (World.cell?_of_block (a := ⟨b, o, none⟩) (h.block b (World.block_lt_of_cell? w _ hc) hx hR)).trans hc
theorem mk_edged {w3 w4 : World} {xb B base : Nat} {v sv ev ev' : Value} {z : Int} {nv fv : Value} {all : List Nd} {sts : List RState} {eds eds' : List REdge} {ns : List ByteArray} {fis : List Int} (h : MkAt w3 xb B base v sv ev z nv fv all sts eds ns fis) (ho : REdgeOwn w4 w3.heap.size ev' eds') (hc : w4.cell? ⟨xb, 2, none⟩ = some ev') (he : Ed2 w3 w4 xb) :
    MkAt w4 xb B base v sv ev' z nv fv all sts eds' ns fis ∧ Mkept w3 w4 base xb ∧ Mk4 w3 w4 xb (rows4 sv ev nv fv) (rows4 sv ev' nv fv) := by
  have hl := h.low
  have hA := he.ap
  have hK := hA.mkept h.sz (xb := xb) (fun b hb => by simp at hb; exact .inl hb)
  have off : ∀ {u : Value}, Fresh base w3 u → ∀ b ∈ vblocks u, b ∉ [xb] := fun hd b hb hm => by
    simp at hm
    have := hd.lo b hb
    omega
  have new : ∀ {u : Value}, Fresh base w3 u → ∀ b ∈ vblocks u, b ∉ vblocks ev' := fun hd b hb hm => by
    have := hd.hi b hb
    have := ho.fresh.lo b hm
    omega
  have new' : ∀ {u : Value}, Fresh base w3 u → ∀ b ∈ vblocks ev', b ∉ vblocks u := fun hd b hb hm => new hd b hm hb
  refine ⟨⟨⟨fun i x hx => ?_, fun o => he.fz o (h.box.fz o), Nat.lt_of_lt_of_le h.box.lt hA.size⟩, hK.sl hl.1 hl.2 h.sl, h.st.keep hA (off h.st.fresh), owns_down ho h.sz, owns_keep h.nm hA (off (owns_fresh h.nm)), owns_keep h.fi hA (off (owns_fresh h.fi)), ⟨new h.st.fresh, h.four.sn, h.four.sf, new' (owns_fresh h.nm), new' (owns_fresh h.fi), h.four.nf⟩, hl, Nat.le_trans h.sz hA.size⟩, hK, Mk4.apart hA (fun b hb => by simp at hb; exact .inl hb) (fun b hb => ?_)⟩
  · by_cases hi : i = 2
    · subst hi
      simp at hx
      subst hx
      exact hc
    · refine he.oth i x hi (h.box.cell i x ?_)
      match i, hi with
      | 0, _ => exact hx
      | 1, _ => exact hx
      | 3, _ => exact hx
      | 4, _ => exact hx
      | 5, _ => exact hx
      | j + 6, _ => simp at hx
  · rcases mem4.1 hb with q | q | q | q
    · exact .inl (mem4.2 (.inl q))
    · exact .inr (ho.fresh.lo b q)
    · exact .inl (mem4.2 (.inr (.inr (.inl q))))
    · exact .inl (mem4.2 (.inr (.inr (.inr q))))
theorem rows_old {w : World} {xb B base : Nat} {v sv ev : Value} {z : Int} {nv fv : Value} {all : List Nd} {sts : List RState} {eds : List REdge} {ns : List ByteArray} {fis : List Int} (h : MkAt w xb B base v sv ev z nv fv all sts eds ns fis) : ∀ b ∈ rows4 sv ev nv fv, b < w.heap.size := fun b hb => by
  rcases mem4.1 hb with q | q | q | q
  · exact h.st.fresh.hi b q
  · exact h.ed.fresh.hi b q
  · exact (owns_fresh h.nm).hi b q
  · exact (owns_fresh h.fi).hi b q
structure TalkS (w0 wn w : World) (xb B base : Nat) (v : Value) (z : Int) (R : List Nat) (all : List Nd) (ns : List ByteArray) (fis : List Int) (go : List Nd → List RState × List REdge → List Nd × List RState × List REdge) (ka : List Nd → Option (List Nd)) (s : Int) (r : List Nd) (fin : List Nd × List RState × List REdge) (m pos : Nat) (sts : List RState) (eds : List REdge) (sv ev nv fv : Value) : Prop where
  ma : MkAt w xb B base v sv ev z nv fv all sts eds ns fis
  ah : ∃ ls, kidsBy ka m ls (all.drop pos) = some r
  le : pos ≤ all.length
  cnt : cntS all pos = sts.length
  ed : eds.length + (all.length - pos) ≤ 900
  same : svKids go (fun l k => firstOf ns fis k l) s m (all.drop pos) (sts, eds) = fin
  kept : Mkept w0 w base xb
  four : Mk4 wn w xb R (rows4 sv ev nv fv)
theorem sl_row {w : World} {B b o n cap : Nat} {all : List Nd} (h : SlAt w B (.slice (some ⟨b, o, none⟩) n cap) all) (hne : all ≠ []) : RowAt w b o all := by
  obtain ⟨ao', cap', hv', -, -, hr'⟩ := h
  obtain ⟨b', o', hbo, -, hrow'⟩ := hr' hne
  subst hbo
  injection hv' with hv1 _ _
  injection hv1 with hv1
  injection hv1 with hv1 hv2
  subst hv1
  subst hv2
  exact hrow'
theorem far_below {w w' : World} {xb B base : Nat} {v sv ev : Value} {z : Int} {nv fv : Value} {all : List Nd} {sts : List RState} {eds : List REdge} {ns : List ByteArray} {fis : List Int} (h : MkAt w xb B base v sv ev z nv fv all sts eds ns fis) (hb : Below w.heap.size w w') : MkAt w' xb B base v sv ev z nv fv all sts eds ns fis := h.far (Far.ofBelow hb)
theorem talk_round {f : Nat} {st : List Nd} {w0 wn wr : World} {xb B base : Nat} {v : Value} {z : Int} {R : List Nat} {all : List Nd} {ns : List ByteArray} {fis : List Int} {s : Int} {r : List Nd} {fin : List Nd × List RState × List REdge} {m posk : Nat} {stsk : List RState} {edsk : List REdge} {svk evk nvk fvk : Value}
    (h : TalkS w0 wn wr xb B base v z R all ns fis (Go.Proofs.Ytlbcnmcfljaijaa.sv f ns fis) (ahead (talkS true) f st) s r fin (m + 1) posk stsk edsk svk evk nvk fvk) (hf : MakeCalls f) (hlen : fis.length = ns.length) (hall : all.length ≤ 40) (hns : ns.length + (f + 1) ≤ 100) :
    ∃ (hpl : posk < all.length) (fstv : Int) (O : List Nd × List RState × List REdge),
      (∀ W, Below wr.heap.size wr W → Calls Try.prog 54 #[.pointer (some ⟨xb, 0, none⟩), .int .i64 ((posk : Int) + 1)] W fun e w' => e = .returned (.int .i64 fstv) ∧ Below W.heap.size W w') ∧
      (∀ W ev2, MkAt W xb B base v svk ev2 z nvk fvk all stsk (insE ⟨s, all[posk].name, all[posk].sort, fstv⟩ edsk) ns fis → Calls Try.prog 55 #[.pointer (some ⟨xb, 0, none⟩), .int .i64 ((posk : Int) + 1)] W fun e w' => Made W w' xb B base v z (rows4 svk ev2 nvk fvk) all ns fis e O) ∧
      (∀ W W' ev2 sv4 ev4 nv4 fv4, Mkept wr W base xb → Mk4 wr W xb (rows4 svk evk nvk fvk) (rows4 svk ev2 nvk fvk) → MkAt W' xb B base v sv4 ev4 z nv4 fv4 all O.2.1 O.2.2 ns fis → Mkept W W' base xb → Mk4 W W' xb (rows4 svk ev2 nvk fvk) (rows4 sv4 ev4 nv4 fv4) → TalkS w0 wn W' xb B base v z R all ns fis (Go.Proofs.Ytlbcnmcfljaijaa.sv f ns fis) (ahead (talkS true) f st) s r fin m (all.length - O.1.length) O.2.1 O.2.2 sv4 ev4 nv4 fv4) ∧ edsk.length ≤ 900 := by
  obtain ⟨ls, hls⟩ := h.ah
  obtain ⟨c, l', r1, hdr, hnc, hka, hkb⟩ := kids_cutS hls
  have hpl : posk < all.length := by
    rcases Nat.lt_or_ge posk all.length with h1 | h1
    · exact h1
    · rw [List.drop_eq_nil_of_le h1] at hdr; cases hdr
  rw [List.drop_eq_getElem_cons hpl] at hdr
  injection hdr with e1 e2
  subst e2
  subst e1
  have hcs2 : cntS all (posk + 1) = stsk.length := by rw [cntS_succ hpl, hnc, ← h.cnt]; rfl
  have hch : ¬ (∀ n ∈ all.drop (posk + 1), n.op = 2) := ahead_chain _ _ _ _ hka
  have hpl2 : posk + 1 < all.length := by
    rcases Nat.lt_or_ge (posk + 1) all.length with h1 | h1
    · exact h1
    · rw [List.drop_eq_nil_of_le h1] at hka; cases f <;> cases hka
  obtain ⟨fstv, hfst⟩ : ∃ x, firstOf ns fis stsk.length (all.drop (posk + 1)) = x := ⟨_, rfl⟩
  have hed := h.ed
  have hg := sv_ok f st (all.drop (posk + 1)) r1 ns fis (stsk, insE ⟨s, all[posk].name, all[posk].sort, fstv⟩ edsk) hka
  obtain ⟨O, hO⟩ : ∃ O, Go.Proofs.Ytlbcnmcfljaijaa.sv f ns fis (all.drop (posk + 1)) (stsk, insE ⟨s, all[posk].name, all[posk].sort, fstv⟩ edsk) = O := ⟨_, rfl⟩
  rw [hO] at hg
  refine ⟨hpl, fstv, O, fun W hb => ?_, fun W ev2 hW => ?_, fun W W' ev2 sv4 ev4 nv4 fv4 hk1 hx1 hm4 hk4 hx4 => ?_, by omega⟩
  · have := first_calls all ns fis hlen (by omega) (by omega) _ (posk + 1) xb W.heap.size W rfl hch (far_below h.ma hb).firAt (Nat.le_refl _)
    rw [hcs2, hfst] at this
    rw [show (posk : Int) + 1 = ((posk + 1 : Nat) : Int) by omega]
    exact this
  · have := hf st all r1 (posk + 1) W xb B base v svk ev2 z nvk fvk stsk _ ns fis hka hall hpl2 hlen (by omega) hcs2 (by rw [insE_len]; omega) hW
    rw [hO] at this
    rw [show (posk : Int) + 1 = ((posk + 1 : Nat) : Int) by omega]
    exact this
  · have hl := left_at (ahead_suffix _ _ _ _ _ hka)
    obtain rfl : O.1 = r1 := hg.rest
    have h1 := hg.sts
    have h2 := hg.eds
    have h3 := cntS_drop all (posk + 1)
    have h4 := cntS_drop all (all.length - O.1.length)
    rw [← hl.1] at h4
    rw [List.length_drop, insE_len] at h2
    dsimp only at h1
    refine ⟨hm4, ⟨_, by rw [← hl.1]; exact hkb⟩, by omega, by omega, by omega, ?_, (h.kept.trans hk1).trans hk4, (h.four.trans hx1).trans hx4⟩
    rw [← hl.1, ← h.same, List.drop_eq_getElem_cons hpl]
    have e : svKids (Go.Proofs.Ytlbcnmcfljaijaa.sv f ns fis) (fun l k => firstOf ns fis k l) s (m + 1) (all[posk] :: all.drop (posk + 1)) (stsk, edsk) = svKids (Go.Proofs.Ytlbcnmcfljaijaa.sv f ns fis) (fun l k => firstOf ns fis k l) s m (Go.Proofs.Ytlbcnmcfljaijaa.sv f ns fis (all.drop (posk + 1)) (stsk, insE ⟨s, all[posk].name, all[posk].sort, firstOf ns fis stsk.length (all.drop (posk + 1))⟩ edsk)).1 (Go.Proofs.Ytlbcnmcfljaijaa.sv f ns fis (all.drop (posk + 1)) (stsk, insE ⟨s, all[posk].name, all[posk].sort, firstOf ns fis stsk.length (all.drop (posk + 1))⟩ edsk)).2 := rfl
    rw [e, hfst, hO]
end Go.Proofs.Ytlbcnmcfljaijaa
namespace Go.Proofs.Ytlbcnmcfljaijaa
open Go.RowKit

def tkOk (t : Tk) : Prop := t.op = 3 ∨ ((t.op = 5 ∨ t.op = 6) ∧ t.a = noT)
def shapeN : (n : Nat) → Pn n → Prop
  | 0, _ => True
  | n + 1, p => p.by (fun _ => True) (fun _ q => shapeN n q) (fun t l => tkOk t ∧ l ≠ [] ∧ ∀ b ∈ l, shapeN n b.p)
theorem plan_shape : ∀ (n : Nat) (p : Pn n), planN n p → shapeN n p := by
  intro n
  induction n with
  | zero => intro p _; trivial
  | succ n ih =>
    intro p
    refine Pn.cases (P := fun p => planN (n + 1) p → shapeN (n + 1) p) (fun x _ => trivial) (fun x q hp => ih q hp) (fun t l hp => ?_) p
    have hp' : t.op = 3 ∧ (t.a.toList == t.b.toList) = false ∧ 1 ≤ l.length ∧ l.length ≤ 4 ∧ ∀ b ∈ l, planN n b.p := hp
    exact ⟨.inl hp'.1, (fun h => by have := hp'.2.2.1; rw [h] at this; simp at this), fun b hb => ih b.p (hp'.2.2.2.2 b hb)⟩
theorem up_shape : ∀ (n : Nat) (p : Pn n), shapeN n p → shapeN (n + 1) (upN n p) := by
  intro n
  induction n with
  | zero => intro p _; trivial
  | succ n ih =>
    intro p
    refine Pn.cases (P := fun p => shapeN (n + 1) p → shapeN (n + 2) (upN (n + 1) p)) (fun x _ => trivial) (fun x q hp => ih q hp) (fun t l hp => ?_) p
    have hp' : tkOk t ∧ l ≠ [] ∧ ∀ b ∈ l, shapeN n b.p := hp
    refine ⟨hp'.1, (fun h => hp'.2.1 (List.map_eq_nil_iff.1 h)), fun b hb => ?_⟩
    obtain ⟨c, hc, rfl⟩ := List.mem_map.1 hb
    exact ih c.p (hp'.2.2 c hc)
theorem mem_setP {α : Type} : ∀ {l : List α} {i : Nat} {x y : α}, y ∈ l.set i x → y ∈ l ∨ y = x
  | [], i, x, y, h => by simp at h
  | a :: l, 0, x, y, h => by
    rw [List.set_cons_zero, List.mem_cons] at h
    rcases h with h | h
    · exact .inr h
    · exact .inl (by simp [h])
  | a :: l, i + 1, x, y, h => by
    rw [List.set_cons_succ, List.mem_cons] at h
    rcases h with h | h
    · exact .inl (by simp [h])
    · rcases mem_setP h with q | q
      · exact .inl (by simp [q])
      · exact .inr q
theorem mergeBy_all {α : Type} {Q : α → Prop} {mg : α → α → Option α} (hmg : ∀ x y z, Q x → Q y → mg x y = some z → Q z) : ∀ (ds acc l : List (Br α)), (∀ b ∈ acc, Q b.p) → (∀ b ∈ ds, Q b.p) → mergeBy mg acc ds = some l → ∀ b ∈ l, Q b.p
  | [], acc, l, ha, _, h => by
    rw [mergeBy] at h
    injection h with h
    subst h
    exact ha
  | d :: ds, acc, l, ha, hd, h => by
    rw [mergeBy] at h
    split at h
    · exact mergeBy_all hmg ds _ l (fun b hb => by rw [List.mem_append] at hb; rcases hb with hb | hb; exact ha b hb; simp at hb; subst hb; exact hd b (by simp)) (fun b hb => hd b (by simp [hb])) h
    · rename_i i hi
      split at h
      · cases h
      · rename_i b hb
        split at h
        · cases h
        · rename_i q hq
          split at h
          · refine mergeBy_all hmg ds _ l (fun c hc => ?_) (fun b hb => hd b (by simp [hb])) h
            rcases mem_setP hc with hc | hc
            · exact ha c hc
            · subst hc
              exact hmg b.p d.p q (ha b (List.mem_of_getElem? hb)) (hd d (by simp)) hq
          · cases h
theorem mergeBy_ne {α : Type} {mg : α → α → Option α} : ∀ (ds acc l : List (Br α)), acc ≠ [] → mergeBy mg acc ds = some l → l ≠ []
  | [], acc, l, ha, h => by
    rw [mergeBy] at h
    injection h with h
    subst h
    exact ha
  | d :: ds, acc, l, ha, h => by
    rw [mergeBy] at h
    split at h
    · exact mergeBy_ne ds _ l (by simp) h
    · split at h
      · cases h
      · split at h
        · cases h
        · split at h
          · exact mergeBy_ne ds _ l (fun e => ha (by have := congrArg List.length e; rw [List.length_set] at this; exact List.length_eq_zero_iff.1 this)) h
          · cases h
theorem merge_shape : ∀ (n : Nat) (x y z : Pn n), shapeN n x → shapeN n y → mergeN n x y = some z → shapeN n z := by
  intro n
  induction n with
  | zero => intro x y z _ _ _; trivial
  | succ n ih =>
    intro x y z hx hy h
    rw [mergeN] at h
    split at h
    · injection h with h; subst h; exact hx
    · split at h
      · rename_i a cs b ds ex ey
        split at h
        · split at h
          · rename_i l hl
            split at h
            · injection h with h
              subst h
              obtain ⟨x', rfl⟩ := hear_some ex
              obtain ⟨y', rfl⟩ := hear_some ey
              have hx' : tkOk ⟨6, x', a⟩ ∧ cs ≠ [] ∧ ∀ b ∈ cs, shapeN n b.p := hx
              have hy' : tkOk ⟨6, y', b⟩ ∧ ds ≠ [] ∧ ∀ b ∈ ds, shapeN n b.p := hy
              exact ⟨.inr ⟨.inr rfl, rfl⟩, mergeBy_ne ds cs l hx'.2.1 hl, mergeBy_all (Q := shapeN n) ih ds cs l hx'.2.2 hy'.2.2 hl⟩
            · cases h
          · cases h
        · cases h
      · cases h
theorem mergeAll_all {α : Type} {Q : α → Prop} {mg : α → α → Option α} (hmg : ∀ x y z, Q x → Q y → mg x y = some z → Q z) : ∀ (r : List (Br α)) (x z : α), Q x → (∀ b ∈ r, Q b.p) → mergeAll mg x r = some z → Q z
  | [], x, z, hx, _, h => by rw [mergeAll] at h; injection h with h; subst h; exact hx
  | b :: r, x, z, hx, hr, h => by
    rw [mergeAll] at h
    split at h
    · cases h
    · rename_i q hq
      exact mergeAll_all hmg r q z (hmg x b.p q hx (hr b (by simp)) hq) (fun c hc => hr c (by simp [hc])) h
theorem parts_all {α : Type} {Q R : α → Prop} {g : α → Option α} (hg : ∀ x y, Q x → g x = some y → R y) : ∀ (l r : List (Br α)), (∀ b ∈ l, Q b.p) → partsBy g l = some r → ∀ b ∈ r, R b.p
  | [], r, _, h => by rw [partsBy] at h; injection h with h; subst h; intro b hb; cases hb
  | c :: l, r, hq, h => by
    rw [partsBy] at h
    split at h
    · cases h
    · rename_i q hq'
      split at h
      · cases h
      · rename_i r' hr'
        injection h with h
        subst h
        intro b hb
        rw [List.mem_cons] at hb
        rcases hb with rfl | hb
        · exact hg c.p q (hq c (by simp)) hq'
        · exact parts_all hg l r' (fun c hc => hq c (by simp [hc])) hr' b hb
theorem part_shape (role : ByteArray) : ∀ (n : Nat) (p q : Pn n), planN n p → partN role n p = some q → shapeN n q := by
  intro n
  induction n with
  | zero => intro p q _ _; trivial
  | succ n ih =>
    intro p
    refine Pn.cases (P := fun p => ∀ q, planN (n + 1) p → partN role (n + 1) p = some q → shapeN (n + 1) q) (fun x q _ h => ?_) (fun x p q hp h => ?_) (fun t l q hp h => ?_) p
    · have h' : some (Pn.leaf x) = some q := h
      injection h' with h'; subst h'; trivial
    · have h' : (if idleL role (rowN (n + 1) (.loop x p)) then some (Pn.leaf none) else (partN role n p).map (Pn.loop x)) = some q := h
      have hp' : planN n p := hp
      split at h'
      · injection h' with h'
        subst h'
        trivial
      · cases hq : partN role n p with
        | none => rw [hq] at h'; cases h'
        | some q' =>
          rw [hq] at h'
          simp only [Option.map_some, Option.some.injEq] at h'
          subst h'
          exact ih p q' hp' hq
    · have h' : (match partsBy (partN role n) l with
        | none => none
        | some r => if role.toList == t.a.toList then some (Pn.talk ⟨5, noT, t.b⟩ r) else if role.toList == t.b.toList then some (.talk ⟨6, noT, t.a⟩ r) else
          match r with
          | [] => none
          | c :: r => (mergeAll (mergeN n) c.p r).map (upN n)) = some q := h
      have hp' : t.op = 3 ∧ (t.a.toList == t.b.toList) = false ∧ 1 ≤ l.length ∧ l.length ≤ 4 ∧ ∀ b ∈ l, planN n b.p := hp
      split at h'
      · cases h'
      · rename_i r hr
        have hall := parts_all (Q := planN n) (R := shapeN n) (fun x y hx hy => ih x y hx hy) l r hp'.2.2.2.2 hr
        have hrn : r ≠ [] := fun e => by have := (parts_sz (f := rowN n) (Q := planN n) (fun x y hx hy => part_sz role n x y hx hy) l r hp'.2.2.2.2 hr).2; rw [e] at this; have := hp'.2.2.1; simp at *; omega
        split at h'
        · injection h' with h'
          subst h'
          exact ⟨.inr ⟨.inl rfl, rfl⟩, hrn, hall⟩
        · split at h'
          · injection h' with h'
            subst h'
            exact ⟨.inr ⟨.inr rfl, rfl⟩, hrn, hall⟩
          · split at h'
            · cases h'
            · rename_i c r
              cases hm : mergeAll (mergeN n) c.p r with
              | none => rw [hm] at h'; cases h'
              | some z =>
                rw [hm] at h'
                simp only [Option.map_some, Option.some.injEq] at h'
                subst h'
                exact up_shape n z (mergeAll_all (Q := shapeN n) (merge_shape n) r c.p z (hall c (by simp)) (fun b hb => hall b (by simp [hb])) hm)
end Go.Proofs.Ytlbcnmcfljaijaa
namespace Go.Proofs.Ytlbcnmcfljaijaa
open Go.RowKit
attribute [local go_sem ↓] Go.wp_at_zero Go.wp_at_succ

theorem find_skip {α : Type} {t : ByteArray} : ∀ {l : List (Br α)} {k : Nat} {b : Br α}, (∀ j c, l[j]? = some c → j < k → (c.l.toList == t.toList) = false) → l[k]? = some b → (b.l.toList == t.toList) = true → findB t l = some k
  | [], k, b, _, hk, _ => by simp at hk
  | c :: l, 0, b, _, hk, h => by
    simp at hk
    subst hk
    rw [findB, if_pos h]
  | c :: l, k + 1, b, hn, hk, h => by
    have h0 := hn 0 c rfl (by omega)
    rw [findB, h0]
    rw [List.getElem?_cons_succ] at hk
    rw [find_skip (fun j d hj hjk => hn (j + 1) d (by rw [List.getElem?_cons_succ]; exact hj) (by omega)) hk h]
    rfl
theorem find_none {α : Type} {t : ByteArray} : ∀ {l : List (Br α)}, (∀ (j : Nat) (c : Br α), l[j]? = some c → (c.l.toList == t.toList) = false) → findB t l = none
  | [], _ => rfl
  | c :: l, hn => by
    rw [findB, hn 0 c rfl, find_none (fun j d hj => hn (j + 1) d (by rw [List.getElem?_cons_succ]; exact hj))]
    rfl
end Go.Proofs.Ytlbcnmcfljaijaa
namespace Go.Proofs.Ytlbcnmcfljaijaa
open Go.RowKit
attribute [local go_sem ↓] Go.wp_at_zero Go.wp_at_succ

theorem nd_equal (a b : Nd) (W : World) : (Op.equalIn 10000 87 (.agg #[.int .i64 a.op, .string a.name, .string a.peer, .int .i64 a.many, .int .i64 a.sort]) (.agg #[.int .i64 b.op, .string b.name, .string b.peer, .int .i64 b.many, .int .i64 b.sort])).run Try.prog W = .ok (ndEq a b) W := by
  by_cases h1 : a.op = b.op
  · by_cases h2 : a.name.toList = b.name.toList
    · by_cases h3 : a.peer.toList = b.peer.toList
      · by_cases h4 : a.many = b.many
        · by_cases h5 : a.sort = b.sort
          all_goals
            go_simp
            simp [ndEq, h1, h2, h3, h4, h5]
        · go_simp
          simp [ndEq, h1, h2, h3, h4]
      · go_simp
        simp [ndEq, h1, h2, h3]
    · go_simp
      simp [ndEq, h1, h2]
  · go_simp
    simp [ndEq, h1]
theorem rowEq_len : ∀ {x y : List Nd}, x.length ≠ y.length → rowEq x y = false
  | [], [], h => absurd rfl h
  | [], _ :: _, _ => rfl
  | _ :: _, [], _ => rfl
  | a :: l, b :: r, h => by rw [rowEq, rowEq_len (fun e => h (by simp [e])), Bool.and_false]
theorem rowEq_no : ∀ {x y : List Nd} {k : Nat} (hx : k < x.length) (hy : k < y.length), ndEq x[k] y[k] = false → rowEq x y = false
  | a :: l, b :: r, 0, _, _, h => by simp only [List.getElem_cons_zero] at h; rw [rowEq, h, Bool.false_and]
  | a :: l, b :: r, k + 1, hx, hy, h => by
    simp only [List.getElem_cons_succ] at h
    rw [rowEq, rowEq_no (by simpa using hx) (by simpa using hy) h, Bool.and_false]
theorem rowEq_yes : ∀ {x y : List Nd}, x.length = y.length → (∀ k (hx : k < x.length) (hy : k < y.length), ndEq x[k] y[k] = true) → rowEq x y = true
  | [], [], _, _ => rfl
  | [], _ :: _, h, _ => by simp at h
  | _ :: _, [], h, _ => by simp at h
  | a :: l, b :: r, h, hall => by
    have h0 := hall 0 (by simp) (by simp)
    simp only [List.getElem_cons_zero] at h0
    rw [rowEq, h0, rowEq_yes (by simpa using h) (fun k hx hy => by have := hall (k + 1) (by simpa using hx) (by simpa using hy); simpa using this)]
    rfl
def NdRd (w : World) (v : Value) (l : List Nd) : Prop := ∃ ao cap, v = .slice ao l.length cap ∧ l.length ≤ 1000 ∧ (l ≠ [] → ∃ g o, ao = some ⟨g, o, none⟩ ∧ g < w.heap.size ∧ RowAt w g o l)
theorem row_of (w : World) (g : Nat) : ∀ (l : List Nd) (o : Nat), (∀ j (hj : j < l.length), NodeAt w g (o + j * 5) l[j]) → RowAt w g o l
  | [], _, _ => trivial
  | x :: l, o, hx => by
    refine ⟨by have := hx 0 (by simp); simpa using this, row_of w g l (o + 5) (fun j hj => ?_)⟩
    have := hx (j + 1) (by simpa using hj)
    rw [show o + (j + 1) * 5 = o + 5 + j * 5 by omega] at this
    simpa using this
theorem NdOwn.rd {w : World} {base : Nat} {v : Value} {l : List Nd} (h : NdOwn w base v l) (hl : l.length ≤ 1000) : NdRd w v l := by
  have H := h
  obtain ⟨_, hh⟩ := h
  rcases hh with ⟨rfl, h0⟩ | ⟨gb, cap, cur, rfl, hg, hblk, hc, hm, _⟩
  · have : l = [] := List.length_eq_zero_iff.1 h0
    subst this
    exact ⟨none, 0, rfl, hl, fun h => absurd rfl h⟩
  · refine ⟨_, cap, rfl, hl, fun _ => ⟨gb, 0, rfl, (Array.getElem?_eq_some_iff.1 hblk).1, row_of w gb l 0 (fun j hj => ?_)⟩⟩
    rw [Nat.zero_add]
    have e := fun i (hi : i < 5) (x : Value) (hx : (l[j].cells)[i]? = some x) => owns_cell H rfl (j * 5 + i) x ((flat_get Nd.cells 5 Nd.cells_len l j hj i hi).trans hx)
    exact ⟨e 0 (by omega) _ rfl, e 1 (by omega) _ rfl, e 2 (by omega) _ rfl, e 3 (by omega) _ rfl, e 4 (by omega) _ rfl⟩
theorem NdRd.on {w w' : World} {v : Value} {l : List Nd} (h : NdRd w v l) (hb : Below w.heap.size w w') : NdRd w' v l := by
  obtain ⟨ao, cap, e, h1, h2⟩ := h
  refine ⟨ao, cap, e, h1, fun hne => ?_⟩
  obtain ⟨g, o, e1, e2, e3⟩ := h2 hne
  exact ⟨g, o, e1, Nat.lt_of_lt_of_le e2 hb.size, e3.carry e2 hb⟩
end Go.Proofs.Ytlbcnmcfljaijaa
namespace Go.Proofs.Ytlbcnmcfljaijaa
open Go.RowKit
attribute [local go_sem ↓] Go.wp_at_zero Go.wp_at_succ

def plus (S : Nat → Prop) (a m : Nat) : Nat → Prop := fun b => S b ∨ (a ≤ b ∧ b < m)
def but (S : Nat → Prop) (a m : Nat) (v : Value) : Nat → Prop := fun b => plus S a m b ∧ b ∉ vblocks v
section
variable {n : Nat}
theorem plus_lt {S : Nat → Prop} {a m g : Nat} (hl : ∀ g, S g → g < a) (ha : a ≤ m) (h : plus S a m g) : g < m := by
  rcases h with h | h
  · have := hl g h; omega
  · exact h.2
theorem plus_up {S : Nat → Prop} {a m m' g : Nat} (hm : m ≤ m') (h : plus S a m g) : plus S a m' g := by
  rcases h with h | h
  · exact .inl h
  · exact .inr ⟨h.1, by omega⟩
variable {S : Nat → Prop} {a : Nat}
end
end Go.Proofs.Ytlbcnmcfljaijaa
namespace Go.Proofs.Ytlbcnmcfljaijaa
open Go.RowKit
attribute [local go_sem ↓] Go.wp_at_zero Go.wp_at_succ

end Go.Proofs.Ytlbcnmcfljaijaa
namespace Go.Proofs.Ytlbcnmcfljaijaa
open Go.RowKit
attribute [local go_sem ↓] Go.wp_at_zero Go.wp_at_succ

def hearO (n : Nat) (a : ByteArray) (r : Option (List (Br (Pn n)))) : Option (Pn (n + 1)) := match r with
  | some l => if l.length ≤ 4 then some (.talk ⟨6, noT, a⟩ l) else none
  | none => none
theorem brs_count {α : Type} (f : α → List Nd) : ∀ l : List (Br α), l.length ≤ (brsBy f l).length
  | [] => Nat.le_refl _
  | b :: l => by rw [brs_cons]; have := brs_count f l; simp only [List.length_cons, List.length_append]; omega
theorem ret2_bool {q : Value} {a b : Bool} (h : b = a) : Ending.returned (.tuple #[q, .bool a]) = .returned (.tuple #[q, .bool b]) := by rw [h]
theorem brs_drop {n : Nat} {ds : List (Br (Pn n))} {k : Nat} {d : Br (Pn n)} (hd : ds[k]? = some d) : (brsBy (rowN n) (ds.drop k)).length = 1 + (rowN n d.p).length + (brsBy (rowN n) (ds.drop (k + 1))).length := by
  have hlt := (List.getElem?_eq_some_iff.1 hd).1
  have hde : ds[k] = d := (List.getElem?_eq_some_iff.1 hd).2
  rw [List.drop_eq_getElem_cons hlt, hde, brs_cons]
  simp only [List.length_cons, List.length_append]
  omega
end Go.Proofs.Ytlbcnmcfljaijaa
namespace Go.Proofs.Ytlbcnmcfljaijaa
open Go.RowKit

end Go.Proofs.Ytlbcnmcfljaijaa
namespace Go.Proofs.Ytlbcnmcfljaijaa
open Go.RowKit
attribute [local go_sem ↓] Go.wp_at_zero Go.wp_at_succ

end Go.Proofs.Ytlbcnmcfljaijaa
namespace Go.Proofs.Ytlbcnmcfljaijaa
open Go.RowKit
attribute [local go_sem ↓] Go.wp_at_zero Go.wp_at_succ

def consO {α : Type} (l : List α) : Option (List α) → Option (List α)
  | none => none
  | some r => some (l ++ r)
def talkP (role : ByteArray) (n : Nat) (a b : ByteArray) (r : Option (List (Br (Pn n)))) : Option (Pn (n + 1)) := match r with
  | none => none
  | some r => if role.toList == a.toList then some (.talk ⟨5, noT, b⟩ r) else if role.toList == b.toList then some (.talk ⟨6, noT, a⟩ r) else
    match r with
    | [] => none
    | c :: r => (mergeAll (mergeN n) c.p r).map (upN n)
theorem part_talk (role : ByteArray) (n : Nat) (a b : ByteArray) (l : List (Br (Pn n))) : partN role (n + 1) (.talk ⟨3, a, b⟩ l) = talkP role n a b (partsBy (partN role n) l) := by
  show (match partsBy (partN role n) l with
    | none => none
    | some r => if role.toList == a.toList then some (Pn.talk ⟨5, noT, b⟩ r) else if role.toList == b.toList then some (.talk ⟨6, noT, a⟩ r) else
      match r with
      | [] => none
      | c :: r => (mergeAll (mergeN n) c.p r).map (upN n)) = _
  unfold talkP
  cases partsBy (partN role n) l <;> rfl
end Go.Proofs.Ytlbcnmcfljaijaa
namespace Go.Proofs.Ytlbcnmcfljaijaa
open Go.RowKit
attribute [local go_sem ↓] Go.wp_at_zero Go.wp_at_succ

structure RoundC (w wr : World) (row : List Nd) (nv : Value) (k : Nat) (ns : List ByteArray) : Prop where
  same : closedL ns (row.drop k) = closedL [] row
  own : wr.ownsRow w.heap.size 9 1 nv ns.length (ns.map Value.string)
  len : ns.length ≤ k
  bel : Below w.heap.size w wr
end Go.Proofs.Ytlbcnmcfljaijaa
namespace Go.Proofs.Ytlbcnmcfljaijaa
open Go.RowKit

theorem followK_snoc {m : Mach} {a : RAct} {z : Int} (hz : 0 ≤ z) (hn : 0 ≤ stepF m z a) : ∀ (l : List RAct) (s : Int) (k : Nat), followK m s l k = z → followK m s (l ++ [a]) k = stepF m z a
  | [], s, k, h => by
    rw [followK] at h
    subst h
    rw [List.nil_append, followK, if_neg (by omega), followK]
  | b :: l, s, k, h => by
    rw [followK] at h
    rw [List.cons_append, followK]
    split at h
    · omega
    · rename_i hb
      rw [if_neg hb]
      exact followK_snoc hz hn l _ _ h
structure FlAt (m : Mach) (l : List RAct) (n : Int) (i : Nat) (z : Int) : Prop where
  z0 : 0 ≤ z
  z1 : z < (m.states.length : Int)
  was : followK m m.start (l.take i) 0 = z
  now : followK m z (l.drop i) i = n
theorem fl_start {m : Mach} {l : List RAct} {n : Int} (h : machB m = true) (hl : l.length ≤ 60) (hn : followR m l = n) : FlAt m l n 0 m.start := by
  obtain ⟨h0, h1⟩ := start_range h
  refine ⟨h0, h1, by rw [List.take_zero, followK], ?_⟩
  rw [followR, h, decide_eq_true hl] at hn
  simpa using hn
theorem fl_step {m : Mach} {l : List RAct} {n z : Int} {i : Nat} (hm : machB m = true) (h : FlAt m l n i z) (hi : i < l.length) : stepAc m z l[i] = stepF m z l[i] := by
  have h0 := h.z0
  have h1 := h.z1
  unfold stepAc
  rw [hm, show inB z 0 ((m.states.length : Int) - 1) = true from by simp [inB]; omega]
  rfl
theorem fl_next {m : Mach} {l : List RAct} {n z : Int} {i : Nat} (hm : machB m = true) (h : FlAt m l n i z) (hi : i < l.length) (hp : 0 ≤ stepF m z l[i]) : FlAt m l n (i + 1) (stepF m z l[i]) := by
  have hr : stepF m z l[i] < (m.states.length : Int) := by
    rcases stepF_range hm z l[i] with e | ⟨_, e⟩ <;> omega
  refine ⟨hp, hr, ?_, ?_⟩
  · rw [List.take_succ_eq_append_getElem hi]
    exact followK_snoc h.z0 hp _ _ _ h.was
  · have := h.now
    rw [follow_drop hi, if_neg (by omega)] at this
    exact this
theorem watch_of {m : Mach} {l : List RAct} {n : Int} (hm : machB m = true) (hl : l.length ≤ 60) (hn : followR m l = n) : watchR m l = if 0 ≤ n then -1 else -1 - n := by
  rw [watchR, hm, decide_eq_true hl, hn]
  rfl
theorem fl_stop {m : Mach} {l : List RAct} {n z : Int} {i : Nat} (hm : machB m = true) (hl : l.length ≤ 60) (hn : followR m l = n) (h : FlAt m l n i z) (hi : i < l.length) (hp : stepF m z l[i] < 0) :
    n = -1 - (i : Int) ∧ watchR m l = (i : Int) ∧ 0 ≤ followR m (l.take i) := by
  have h2 := h.now
  rw [follow_drop hi, if_pos hp] at h2
  refine ⟨h2.symm, ?_, ?_⟩
  · rw [watch_of hm hl hn, if_neg (by omega)]
    omega
  · rw [followR, hm, decide_eq_true (by rw [List.length_take]; omega)]
    show 0 ≤ followK m m.start (l.take i) 0
    rw [h.was]
    exact h.z0
theorem fl_end {m : Mach} {l : List RAct} {n z : Int} {i : Nat} (hm : machB m = true) (hl : l.length ≤ 60) (hn : followR m l = n) (h : FlAt m l n i z) (hi : ¬ i < l.length) : n = z ∧ watchR m l = -1 := by
  have h2 := h.now
  rw [List.drop_eq_nil_of_le (by omega), followK] at h2
  refine ⟨h2.symm, ?_⟩
  rw [watch_of hm hl hn, if_pos (by rw [← h2]; exact h.z0)]
end Go.Proofs.Ytlbcnmcfljaijaa
