import Derived.Test.YtlbcnmcfljaijaaQF22
import Derived.Test.YtlbcnmcfljaijaaQF24
import Derived.Test.YtlbcnmcfljaijaaQF04
namespace Go.Proofs.Ytlbcnmcfljaijaa
open Go.RowKit

def inW (c : UInt8) : Bool := (decide (97 ≤ c.toNat) && decide (c.toNat ≤ 122)) || (decide (48 ≤ c.toNat) && decide (c.toNat ≤ 57)) || c.toNat == 95
def addW (all : List ByteArray) (w : List UInt8) : List ByteArray := if w.isEmpty then all else all ++ [ba w]
def mkS (s : List ByteArray × List UInt8) (c : UInt8) : List ByteArray × List UInt8 := if inW c then (s.1, s.2 ++ [c]) else (addW s.1 s.2 ++ [ba [c]], [])
def mkE (s : List ByteArray × List UInt8) : List ByteArray := addW s.1 s.2
def mkF (t : List UInt8) : List ByteArray := mkE (t.foldl mkS ([], []))
def flatT (ts : List ByteArray) : List UInt8 := ts.flatMap ByteArray.toList
theorem toL_app (a b : ByteArray) : (a ++ b).toList = a.toList ++ b.toList := by
  rw [Go.ByteArray.toList_eq, Go.ByteArray.toList_eq, Go.ByteArray.toList_eq, ByteArray.data_append, Array.toList_append]
theorem cat_flat (ts : List ByteArray) : (catT ts).toList = flatT ts := by
  induction ts with
  | nil => rw [cat_nil, Go.ByteArray.toList_eq]; rfl
  | cons a ts ih => rw [cat_cons, toL_app, ih]; rfl
theorem ba_toL (x : ByteArray) : ba x.toList = x := tl_inj (ba_list _)
theorem add_nil (all : List ByteArray) : addW all [] = all := rfl
theorem add_some {all : List ByteArray} {w : List UInt8} (h : w ≠ []) : addW all w = all ++ [ba w] := by
  unfold addW
  cases w with
  | nil => exact absurd rfl h
  | cons a w => rfl
def WordT (x : ByteArray) : Prop := x.toList ≠ [] ∧ ∀ c ∈ x.toList, inW c = true
def SignT (x : ByteArray) : Prop := ∃ c : UInt8, x = ba [c] ∧ inW c = false ∧ c.toNat < 128
def SepB : Bool → List ByteArray → Prop
  | _, [] => True
  | was, x :: r => (SignT x ∧ SepB false r) ∨ (was = false ∧ WordT x ∧ SepB true r)
theorem sep_mono {r : List ByteArray} (h : SepB true r) : SepB false r := by
  cases r with
  | nil => trivial
  | cons x r =>
    rcases h with h | ⟨h, _⟩
    · exact .inl h
    · cases h
theorem word_fold : ∀ (w : List UInt8) (s : List ByteArray × List UInt8), (∀ c ∈ w, inW c = true) → w.foldl mkS s = (s.1, s.2 ++ w) := by
  intro w
  induction w with
  | nil => intro s _; rw [List.foldl_nil, List.append_nil]
  | cons c w ih =>
    intro s h
    rw [List.foldl_cons, mkS, if_pos (h c List.mem_cons_self), ih _ (fun x hx => h x (List.mem_cons_of_mem _ hx))]
    simp
theorem sep_marks : ∀ (ts : List ByteArray) (was : Bool) (all : List ByteArray) (w : List UInt8), SepB was ts → (was = false → w = []) → mkE ((flatT ts).foldl mkS (all, w)) = addW all w ++ ts := by
  intro ts
  induction ts with
  | nil => intro was all w _ _; rw [flatT, List.flatMap_nil, List.foldl_nil, List.append_nil]; rfl
  | cons x ts ih =>
    intro was all w h hw
    rw [flatT, List.flatMap_cons, List.foldl_append]
    rcases h with ⟨⟨c, hx, hc, -⟩, hr⟩ | ⟨hf, hx, hr⟩
    · rw [hx, ba_list, List.foldl_cons, List.foldl_nil, mkS, if_neg (by rw [hc]; simp)]
      rw [show List.flatMap ByteArray.toList ts = flatT ts from rfl, ih false _ _ hr (fun _ => rfl), add_nil]
      simp
    · rw [hw hf, word_fold _ _ hx.2, List.nil_append, show List.flatMap ByteArray.toList ts = flatT ts from rfl, ih true _ _ hr (fun h => by cases h), add_some hx.1, ba_toL, add_nil]
      simp
theorem sep_ascii : ∀ (ts : List ByteArray) (was : Bool), SepB was ts → ∀ x ∈ ts, ∀ c ∈ x.toList, c.toNat < 128 := by
  intro ts
  induction ts with
  | nil => intro _ _ x hx; cases hx
  | cons y ts ih =>
    intro was h x hx c hc
    rcases h with ⟨⟨d, hy, hd, hlt⟩, hr⟩ | ⟨-, hy, hr⟩
    · rcases List.mem_cons.1 hx with rfl | hx
      · rw [hy, ba_list] at hc
        simp at hc
        rw [hc]; exact hlt
      · exact ih _ hr x hx c hc
    · rcases List.mem_cons.1 hx with rfl | hx
      · have := hy.2 c hc
        simp only [inW, Bool.or_eq_true, Bool.and_eq_true, decide_eq_true_eq, beq_iff_eq] at this
        omega
      · exact ih _ hr x hx c hc
theorem word_T {x : ByteArray} (h : wordB x = true) : WordT x := by
  refine ⟨wordT_ne h, fun c hc => ?_⟩
  simp only [wordB, nameB, Bool.and_eq_true, List.all_eq_true, List.mem_range] at h
  obtain ⟨j, hj, e⟩ := List.getElem_of_mem hc
  have hs : j < x.size := by
    have : x.toList.length = x.size := by rw [Go.ByteArray.toList_eq]; rfl
    omega
  have h1 := h.1.2 j hs
  have hb : byteAt x j = (c.toNat : Int) := by
    unfold byteAt
    rw [dif_pos hs]
    have : x[j] = c := by
      rw [← e]
      simp only [Go.ByteArray.toList_eq]
      rfl
    rw [this]
  rw [hb] at h1
  simp only [okC, Bool.or_eq_true, Bool.and_eq_true, decide_eq_true_eq, beq_iff_eq] at h1
  simp only [inW, Bool.or_eq_true, Bool.and_eq_true, decide_eq_true_eq, beq_iff_eq]
  omega
theorem sign_T (c : UInt8) (h : inW c = false) (h2 : c.toNat < 128) : SignT (ba [c]) := ⟨c, rfl, h, h2⟩
theorem lit_T {t : List UInt8} (h : t ≠ []) (h2 : ∀ c ∈ t, inW c = true) : WordT (ba t) := ⟨by rw [ba_list]; exact h, by rw [ba_list]; exact h2⟩
theorem sort_T (s : Int) : WordT (sortT s) := by
  unfold sortT
  split
  · exact lit_T (by simp) (by decide)
  · split <;> exact lit_T (by simp) (by decide)
def SepOf (ts : List ByteArray) : Prop := ∀ ms, SepB true ms → SepB false (ts ++ ms)
def SepsOf (go : List Nd → Option (List Nd)) (tf : List Nd → List ByteArray × List Nd) : Prop := ∀ l r, go l = some r → SepOf (tf l).1 ∧ (tf l).2 = r
theorem kids_sep {go : List Nd → Option (List Nd)} {tf : List Nd → List ByteArray × List Nd} (hg : SepsOf go tf) : ∀ (m : Nat) (ls : List ByteArray) (l r : List Nd), kidsBy go (m + 1) ls l = some r → SepOf (joinT (casesT tf (m + 1) l).1) ∧ (casesT tf (m + 1) l).1 ≠ [] := by
  have one : ∀ (c : Nd) (ts ms : List ByteArray), caseB c = true → SepOf ts → SepB true ms → SepB false ((tokC c ++ ts) ++ ms) := fun c ts ms hc ht hm => by
    simp only [caseB, Bool.and_eq_true, beq_iff_eq] at hc
    rw [List.append_assoc]
    show SepB false (c.name :: ba [40] :: sortT c.sort :: ba [41] :: ba [46] :: (ts ++ ms))
    exact .inr ⟨rfl, word_T hc.1.2, .inl ⟨sign_T _ (by decide) (by decide), .inr ⟨rfl, sort_T _, .inl ⟨sign_T _ (by decide) (by decide), .inl ⟨sign_T _ (by decide) (by decide), ht ms hm⟩⟩⟩⟩⟩
  intro m
  induction m with
  | zero =>
    intro ls l r h
    cases l with
    | nil => cases h
    | cons c l =>
      rw [kidsBy] at h
      split at h
      · rename_i hc
        simp only [Bool.and_eq_true] at hc
        split at h
        · cases h
        · rename_i r' hr'
          rw [casesT, casesT]
          exact ⟨fun ms hm => one c _ ms hc.1 (hg _ _ hr').1 hm, by simp⟩
      · cases h
  | succ m ih =>
    intro ls l r h
    cases l with
    | nil => cases h
    | cons c l =>
      rw [kidsBy] at h
      split at h
      · rename_i hc
        simp only [Bool.and_eq_true] at hc
        split at h
        · cases h
        · rename_i r' hr'
          obtain ⟨e1, e2⟩ := hg _ _ hr'
          obtain ⟨k1, k2⟩ := ih _ _ _ h
          rw [casesT, e2]
          refine ⟨fun ms hm => ?_, by simp⟩
          dsimp only
          cases hcs : (casesT tf (m + 1) r').1 with
          | nil => exact absurd hcs k2
          | cons u us =>
            rw [joinT, ← hcs, List.append_assoc]
            exact one c _ _ hc.1 e1 (.inl ⟨sign_T _ (by decide) (by decide), k1 ms hm⟩)
      · cases h
theorem ahead_sep (part : Bool) : ∀ (f : Nat) (st : List Nd), StWord st → SepsOf (ahead (talkS part) f st) (tokF f) := by
  have hend : SepOf [ba [101, 110, 100]] := fun ms hm => .inr ⟨rfl, lit_T (by simp) (by decide), hm⟩
  intro f
  induction f with
  | zero =>
    intro st hw l r h
    have h2 := (ahead_reads part 0 st hw l r h).1
    refine ⟨?_, h2⟩
    cases l with
    | nil => cases h
    | cons n l =>
      rw [ahead] at h
      split at h
      · rename_i h0
        rw [beq_iff_eq] at h0
        rw [tokF, if_neg (by rw [beq_iff_eq]; omega)]
        exact hend
      · split at h
        · rename_i h1
          split at h
          · rename_i hv
            simp only [Bool.and_eq_true] at hv
            rw [tokF, if_pos h1]
            exact fun ms hm => .inr ⟨rfl, word_T (back_word st false n.name hw hv.2), hm⟩
          · cases h
        · cases h
  | succ f ih =>
    intro st hw l r h
    have h2 := (ahead_reads part (f + 1) st hw l r h).1
    refine ⟨?_, h2⟩
    cases l with
    | nil => cases h
    | cons n l =>
      rw [ahead] at h
      split at h
      · rename_i h0
        rw [tokF, if_pos h0]
        exact hend
      · rename_i h0
        split at h
        · rename_i h1
          split at h
          · rename_i hv
            simp only [Bool.and_eq_true] at hv
            rw [tokF, if_neg h0, if_pos h1]
            exact fun ms hm => .inr ⟨rfl, word_T (back_word st false n.name hw hv.2), hm⟩
          · cases h
        · rename_i h1
          split at h
          · rename_i h2
            split at h
            · rename_i hv
              simp only [Bool.and_eq_true] at hv
              obtain ⟨e, hwd⟩ := rec_is hv.1
              obtain ⟨e1, -⟩ := ih (n :: st) (fun x hx ho => by rcases List.mem_cons.1 hx with rfl | hx; exact hwd; exact hw x hx ho) _ _ h
              rw [tokF, if_neg h0, if_neg h1, if_pos h2]
              rw [beq_iff_eq] at h2
              have et : tokS n = [ba [114, 101, 99], ba [32], n.name, ba [46]] := by unfold tokS; rw [if_neg (by omega), if_neg (by omega), if_pos h2]
              rw [et]
              exact fun ms hm => .inr ⟨rfl, lit_T (by simp) (by decide), .inl ⟨sign_T _ (by decide) (by decide), .inr ⟨rfl, word_T hwd, .inl ⟨sign_T _ (by decide) (by decide), e1 ms hm⟩⟩⟩⟩
            · cases h
          · rename_i h2
            split at h
            · rename_i hT
              obtain ⟨t1, ⟨m, t2⟩, t3, t4⟩ := talk_is hT
              have hm : n.many.toNat = m + 1 := by omega
              rw [hm] at h
              rw [beq_iff_eq] at h2
              obtain ⟨k1, -⟩ := kids_sep (ih (n :: st) (fun x hx ho => by rcases List.mem_cons.1 hx with rfl | hx; exact absurd ho h2; exact hw x hx ho)) m [] l r h
              rw [tokF, if_neg h0, if_neg h1, if_neg (by rw [beq_iff_eq]; exact h2), hm]
              intro ms hms
              dsimp only
              rw [List.append_assoc, List.append_assoc]
              have hin : SepB false (joinT (casesT (tokF f) (m + 1) l).1 ++ ([ba [125]] ++ ms)) := k1 _ (.inl ⟨sign_T _ (by decide) (by decide), sep_mono hms⟩)
              rcases t4 with ⟨a, b⟩ | ⟨a, b, c⟩ | ⟨a, b, c⟩
              · have e : tokS n = [n.name, ba [62], n.peer, ba [123]] := by unfold tokS; rw [if_neg (by omega), if_neg (by omega), if_neg (by omega), if_neg (by omega), if_neg (by omega)]
                rw [e]
                exact .inr ⟨rfl, word_T b, .inl ⟨sign_T _ (by decide) (by decide), .inr ⟨rfl, word_T t3, .inl ⟨sign_T _ (by decide) (by decide), hin⟩⟩⟩⟩
              · have e : tokS n = [n.peer, ba [33], ba [123]] := by unfold tokS; rw [if_neg (by omega), if_neg (by omega), if_neg (by omega), if_pos a]
                rw [e]
                exact .inr ⟨rfl, word_T t3, .inl ⟨sign_T _ (by decide) (by decide), .inl ⟨sign_T _ (by decide) (by decide), hin⟩⟩⟩
              · have e : tokS n = [n.peer, ba [63], ba [123]] := by unfold tokS; rw [if_neg (by omega), if_neg (by omega), if_neg (by omega), if_neg (by omega), if_pos a]
                rw [e]
                exact .inr ⟨rfl, word_T t3, .inl ⟨sign_T _ (by decide) (by decide), .inl ⟨sign_T _ (by decide) (by decide), hin⟩⟩⟩
            · cases h
theorem text_marks {part : Bool} {ns : List Nd} (h : rightB part ns = true) : mkF (textF 10 ns).1.toList = (tokF 10 ns).1 ∧ (textF 10 ns).1 = catT (tokF 10 ns).1 ∧ ∀ x ∈ (tokF 10 ns).1, ∀ c ∈ x.toList, c.toNat < 128 := by
  have h' := h
  simp only [rightB, Bool.and_eq_true, beq_iff_eq] at h
  have h1 := h.2.1
  cases ha : ahead (talkS part) 10 [] ns with
  | none => rw [ha] at h1; cases h1
  | some r =>
    obtain ⟨e1, e2⟩ := ahead_sep part 10 [] (fun n hn => by cases hn) _ _ ha
    have hs := e1 [] trivial
    rw [List.append_nil] at hs
    have et : (textF 10 ns).1 = catT (tokF 10 ns).1 := by rw [tok_text]
    refine ⟨?_, et, sep_ascii _ _ hs⟩
    rw [et, cat_flat, mkF, sep_marks _ false [] [] hs (fun _ => rfl)]
    rfl
end Go.Proofs.Ytlbcnmcfljaijaa
namespace Go.Proofs.Ytlbcnmcfljaijaa
open Go.RowKit
attribute [local go_sem ↓] Go.wp_at_zero Go.wp_at_succ

theorem MkAt.drew {w : World} {xb B base : Nat} {v sv ev : Value} {z : Int} {nv fv : Value} {all : List Nd} {sts : List RState} {eds : List REdge} {ns : List ByteArray} {fis : List Int} (h : MkAt w xb B base v sv ev z nv fv all sts eds ns fis) : MkAt w.drew xb B base v sv ev z nv fv all sts eds ns fis := h.far ⟨(Apart.refl w).drew⟩
theorem strs1_one (x : ByteArray) : ∀ u ∈ ([.string x] : List Value), u.oneCell' = true := by intro u hu; simp at hu; subst hu; rfl
theorem num1_one (x : Int) : ∀ u ∈ ([.int .i64 x] : List Value), u.oneCell' = true := by intro u hu; simp at hu; subst hu; rfl
set_option maxRecDepth 100000 in
set_option maxHeartbeats 4000000 in
theorem make_rec (f : Nat) (hf : MakeCalls f) (st all r : List Nd) (pos : Nat) (w : World) (xb B base : Nat) (v sv ev : Value) (z : Int) (nv fv : Value) (sts : List RState) (eds : List REdge) (ns : List ByteArray) (fis : List Int) (name peer : ByteArray) (many sort : Int) (hpos : pos < all.length) (hx : all[pos] = ⟨2, name, peer, many, sort⟩)
    (ha : ahead (talkS true) f (⟨2, name, peer, many, sort⟩ :: st) (all.drop (pos + 1)) = some r) (hall : all.length ≤ 40) (hlen : fis.length = ns.length) (hns : ns.length + (f + 1) ≤ 100) (hcs : cntS all pos = sts.length) (hed : eds.length + (all.length - pos) ≤ 900) (h : MkAt w xb B base v sv ev z nv fv all sts eds ns fis) :
    Calls Try.prog 55 #[.pointer (some ⟨xb, 0, none⟩), .int .i64 (pos : Int)] w fun e w' => Made w w' xb B base v z (rows4 sv ev nv fv) all ns fis e (Go.Proofs.Ytlbcnmcfljaijaa.sv f (ns ++ [name]) (fis ++ [firstOf (ns ++ [name]) (fis ++ [0]) sts.length (all.drop (pos + 1))]) (all.drop (pos + 1)) (sts, eds)) := by
  have H := hide h
  have c0 := h.box.cell 0 _ rfl
  have c4 := h.box.cell 4 _ rfl
  have cz := h.box.fz
  have hxw := h.box.lt
  obtain ⟨i0, hi, hz0, hz1, hz2⟩ := info_parts Try.infoStrR
  have HI := hide (And.intro hi (And.intro hz0 (And.intro hz1 hz2)))
  obtain ⟨i1, hi1, hy0, hy1, hy2⟩ := info_parts Try.infoI64
  have HJ := hide (And.intro hi1 (And.intro hy0 (And.intro hy1 hy2)))
  obtain ⟨pn, cn, hpn⟩ := owns_shape h.nm
  obtain ⟨ao, cap, rfl, hc1, hc2, hr⟩ := h.sl
  obtain ⟨b, o, rfl, hb, hrow⟩ := hr (by rintro rfl; simp at hpos)
  have hnode := hrow.get pos hpos
  rw [hx] at hnode
  obtain ⟨d0, d1, d2, d3, d4⟩ := hnode
  dsimp only at d0 d1 d2 d3 d4
  subst hpn
  have hcs2 : cntS all (pos + 1) = sts.length := by rw [cntS_succ hpos, hx, ← hcs]; rfl
  have hpl : pos + 1 < all.length := by
    rcases Nat.lt_or_ge (pos + 1) all.length with h1 | h1
    · exact h1
    · rw [List.drop_eq_nil_of_le h1] at ha; cases f <;> cases ha
  have hch : ¬ (∀ n ∈ all.drop (pos + 1), n.op = 2) := ahead_chain _ _ _ _ ha
  obtain ⟨fst, hfst⟩ : ∃ x, firstOf (ns ++ [name]) (fis ++ [0]) sts.length (all.drop (pos + 1)) = x := ⟨_, rfl⟩
  rw [hfst]
  have HFIR : Hid (∀ (W : World) (sv2 ev2 nv2 fv2 : Value), MkAt W xb B base (.slice (some ⟨b, o, none⟩) all.length cap) sv2 ev2 z nv2 fv2 all sts eds (ns ++ [name]) (fis ++ [0]) → Calls Try.prog 54 #[.pointer (some ⟨xb, 0, none⟩), .int .i64 ((pos : Int) + 1)] W fun e w' => e = .returned (.int .i64 fst) ∧ Below W.heap.size W w') := hide (fun W sv2 ev2 nv2 fv2 hW => by
    have := first_calls all (ns ++ [name]) (fis ++ [0]) (by simp; omega) (by simp; omega) (by omega) _ (pos + 1) xb W.heap.size W rfl hch hW.firAt (Nat.le_refl _)
    rw [hcs2, hfst] at this
    rw [show (pos : Int) + 1 = ((pos + 1 : Nat) : Int) by omega]
    exact this)
  have HMK : Hid (∀ (W : World) (sv2 ev2 nv2 fv2 : Value), MkAt W xb B base (.slice (some ⟨b, o, none⟩) all.length cap) sv2 ev2 z nv2 fv2 all sts eds (ns ++ [name]) (fis ++ [fst]) → Calls Try.prog 55 #[.pointer (some ⟨xb, 0, none⟩), .int .i64 ((pos : Int) + 1)] W fun e w' => Made W w' xb B base (.slice (some ⟨b, o, none⟩) all.length cap) z (rows4 sv2 ev2 nv2 fv2) all (ns ++ [name]) (fis ++ [fst]) e (Go.Proofs.Ytlbcnmcfljaijaa.sv f (ns ++ [name]) (fis ++ [fst]) (all.drop (pos + 1)) (sts, eds))) := hide (fun W sv2 ev2 nv2 fv2 hW => by
    have := hf _ all r (pos + 1) W xb B base _ sv2 ev2 z nv2 fv2 sts eds (ns ++ [name]) (fis ++ [fst]) ha hall hpl (by simp; omega) (by simp; omega) hcs2 (by omega) hW
    rw [show (pos : Int) + 1 = ((pos + 1 : Nat) : Int) by omega]
    exact this)
  obtain ⟨O, hO⟩ : ∃ O, Go.Proofs.Ytlbcnmcfljaijaa.sv f (ns ++ [name]) (fis ++ [fst]) (all.drop (pos + 1)) (sts, eds) = O := ⟨_, rfl⟩
  rw [hO] at HMK ⊢
  have HLEN := hide hlen
  have HW1 : Hid (∀ ob : Obj, MkAt (w.alloc ob).drew xb B base (.slice (some ⟨b, o, none⟩) all.length cap) sv ev z (.slice pn ns.length cn) fv all sts eds ns fis) := hide (fun ob => (H.out.far ((Far.ofBelow (Below.refl _ _)).alloc ob)).drew)
  have HS := hide H.out.sz
  clear h hr hi hz0 hz1 hz2 hi1 hy0 hy1 hy2 hf hch ha hcs hcs2 hfst hO hx hrow hlen hed
  go_enter Try.func55, Try.ntmps55
  go_wp2_with fail
  go_region_law (refine stepM_at rfl (.tmp 47) (.tmp 50) 68 rfl base 9 i0 (.string ByteArray.empty) 1 16 Try.underlying68 HI.out.1 HI.out.2.1 HI.out.2.2.1 HI.out.2.2.2 rfl (by decide) (.slice pn ns.length cn) ns.length (strsV ns) (by simp [Act.eval]) (owns_below (HW1.out _).nm (malloc1 _ _)) ⟨w.heap.size + 1, 0, none⟩ 1 1 [.string name] (by simp [Act.eval]) rfl (fun j u hj => new_row1q _ _ _ _ (by simp) j u hj) (strs1_one _) (by unfold maxLen; omega) (by omega) (by have := HS.out; simp; omega) ?_; intro v4 w4 hown4 hgr4 hat4; have HM4 := hide (mk_pushN (HW1.out _) name _ hown4 hgr4 hat4); have HX4 := hide (mk4_N (w3 := (w.alloc (.cells #[.int .i64 2, .string name, .string peer, .int .i64 many, .int .i64 sort] 87)).drew) (xb := xb) (sv := sv) (ev := ev) (fv := fv) hown4 _ hgr4 hat4); have HB4 := hide ((HW1.out (.cells #[.int .i64 2, .string name, .string peer, .int .i64 many, .int .i64 sort] 87)).box.keep ((below_apart (malloc1 _ _)).trans (grownBy_apart hgr4)) (fun hm => by rw [List.nil_append] at hm; have := (owns_fresh H.out.nm).lo _ hm; have := H.out.low; omega)); have l4 := HB4.out.cell 4 _ rfl; have lz := HB4.out.fz; obtain ⟨p4, c4, rfl⟩ := owns_shape hown4; clear hown4 hgr4 hat4)
  all_goals
    obtain ⟨W5, hW5⟩ : ∃ W, W = w4.setCell ⟨xb, 4, none⟩ (.slice p4 (ns.length + 1) c4) := ⟨_, rfl⟩
    rw [← hW5]
    have HM5 := hide (show MkAt W5 xb B base (.slice (some ⟨b, o, none⟩) all.length cap) sv ev z (.slice p4 (ns.length + 1) c4) fv all sts eds (ns ++ [name]) fis by rw [hW5]; exact HM4.out.1)
    have HK5 := hide (show Mkept w W5 base xb by rw [hW5]; exact ((Far.ofBelow (malloc1 w _)).ap.drew.mkept H.out.sz (by simp)).trans HM4.out.2)
    have HX5 := hide (show Mk4 w W5 xb (rows4 sv ev (.slice pn ns.length cn) fv) (rows4 sv ev (.slice p4 (ns.length + 1) c4) fv) by rw [hW5]; exact (Mk4.far ⟨(Far.ofBelow (malloc1 w _)).ap.drew⟩).trans HX4.out)
    clear hW5 HM4 HB4 HX4 l4 lz
    have c5 := HM5.out.box.cell 5 _ rfl
    have z5 := HM5.out.box.fz
    have hx5 := HM5.out.box.lt
    have hl5 : fis.length ≤ ns.length := by have := HLEN.out; omega
    have hl6 : ns.length ≤ fis.length := by have := HLEN.out; omega
    obtain ⟨pf, cf, hpf⟩ := owns_shape HM5.out.fi
    subst hpf
    go_wp2_with (first
      | (go_at_call 55; refine (HMK.out _ _ _ _ _ HM9.out.1).mono ?_; rintro e w10 ⟨sv2, ev2, nv2, fv2, rfl, hm10, hk10, hx10⟩; obtain ⟨g10, c10, rfl, hc10, hd10⟩ := hm10.someN1; obtain ⟨g11, c11, rfl, hc11, hd11, -, -⟩ := hm10.someF1; have HM10 := hide hm10; have HK10 := hide hk10; have HX10 := hide hx10; have m4 := hm10.box.cell 4 _ rfl; have m5 := hm10.box.cell 5 _ rfl; have mz := hm10.box.fz; clear hm10 hk10 hx10)
      | (go_at_call 54; refine (HFIR.out _ _ _ _ _ HM6.out.1).mono ?_; rintro e w8 ⟨rfl, hb8⟩; have HM8 := hide (HM6.out.1.far (Far.ofBelow hb8)); have HK8 := hide (HM6.out.2.trans ((Far.ofBelow hb8).ap.mkept HM6.out.1.sz (by simp))); have e4 := HM8.out.box.cell 4 _ rfl; have e5 := HM8.out.box.cell 5 _ rfl; have ez := HM8.out.box.fz; obtain ⟨g6', c6', hv6', -, -, e6, ey⟩ := HM8.out.someF1; injection hv6' with hv6' _ _; injection hv6' with hv6'; injection hv6' with hv6'; subst hv6'; have HX8 := hide (Mk4.far (xb := xb) (R := rows4 sv ev (.slice p4 (ns.length + 1) c4) (.slice (some ⟨g6, 0, none⟩) (fis.length + 1) c6)) (Far.ofBelow hb8)); have HM9 := hide (mk_setF HM8.out fst); rw [HLEN.out] at e6; rw [show (⟨g6, fis.length, none⟩ : Addr) = ⟨g6, ns.length, none⟩ by rw [HLEN.out]] at HM9; clear hb8)
      | (at_builtin; refine wpList_append_own_at _ rfl (.tmp 58) (.tmp 59) 93 rfl base 2 i1 (.int .i64 0) 1 8 Try.underlying93 HJ.out.1 HJ.out.2.1 HJ.out.2.2.1 HJ.out.2.2.2 rfl (by decide) (.slice pf fis.length cf) fis.length (numsV fis) rfl (owns_below HM5.out.fi (malloc1 _ _)) ⟨W5.heap.size, 0, none⟩ 1 1 [.int .i64 0] rfl rfl (fun j u hj => new_row1q W5 _ _ _ rfl j u hj) (num1_one _) (by unfold maxLen; omega) (by omega) (by have := HM5.out.sz; simp; omega) ?_; intro v6 w6 hown6 hgr6 _ hat6; have HM6 := hide (mk_pushF HM5.out 0 _ hown6 hgr6 hat6); have HX6 := hide (mk4_F (xb := xb) (sv := sv) (ev := ev) (nv := .slice p4 (ns.length + 1) c4) hown6 _ hgr6 hat6); have HB6 := hide (HM5.out.box.keep ((below_apart (malloc1 _ _)).trans (grownBy_apart hgr6)) (fun hm => by rw [List.nil_append] at hm; have := (owns_fresh HM5.out.fi).lo _ hm; have := HM5.out.low; omega)); have l5 := HB6.out.cell 5 _ rfl; have l4 := HB6.out.cell 4 _ rfl; have lz := HB6.out.fz; obtain ⟨g6, c6, rfl, hc6, hm6, -, -⟩ := HM6.out.1.someF1; clear hown6 hgr6 hat6))
    go_ret
    have h1 := mk_popN HM10.out
    have h2 := mk_popF h1.1
    rw [HLEN.out] at h2
    refine ⟨sv2, ev2, _, _, rfl, h2.1, ((((HK5.out.trans HK8.out).trans HM9.out.2).trans HK10.out).trans h1.2).trans h2.2, ?_⟩
    refine (((((HX5.out.trans HX6.out).trans HX8.out).trans (Mk4.apart (setCell_apart w8 g6 ns.length (.int .i64 fst)) (fun b hb => ?_) (fun b hb => .inl hb))).trans HX10.out).trans (Mk4.apart (setCell_apart w10 xb 4 _) (fun b hb => .inl (by simpa using hb)) (fun b hb => .inl hb))).trans (Mk4.apart (setCell_apart _ xb 5 _) (fun b hb => .inl (by simpa using hb)) (fun b hb => .inl ?_))
    · simp at hb; subst hb; exact .inr (mem4.2 (.inr (.inr (.inr (by simp [vblocks, cellBlocks])))))
    · rw [mem4] at hb ⊢; simpa [vblocks, cellBlocks] using hb
end Go.Proofs.Ytlbcnmcfljaijaa
